/- Pieces of the proof: BqL, BqO, QbA. -/
import Derived.Test.YtpgkohimcofjnaaGreatDoorM6
import Derived.Test.YtpgkohimcofjnaaGreatDoorM3
/- lookByte of a Book. -/
namespace Go.Proofs.YtpgkohimcofjnaaGreatDoor
open Go.RowKit

theorem RdV.cellq {W : World} {v : Value} {n y : Nat} (h : RdV W v (List.replicate n y)) : ∃ a c, v = .slice a n c ∧ ∀ q, q < n → ∃ p, a = some ⟨p, 0, none⟩ ∧ W.cell? ⟨p, q, none⟩ = some (.int .u8 (y : Nat)) := by
  obtain ⟨a, c, rfl, hr, hq⟩ := h
  refine ⟨a, c, by rw [List.length_replicate], fun q hqn => ?_⟩
  obtain ⟨p, off, rfl, _, hc⟩ := hr.some (by simp; omega)
  obtain ⟨h1, _⟩ := hq _ rfl
  obtain rfl : off = 0 := h1
  have := hc q (by simpa using hqn)
  rw [Nat.zero_add] at this
  exact ⟨p, rfl, by simpa using this⟩
set_option maxRecDepth 100000 in
set_option maxHeartbeats 2000000 in
theorem lookByte_any {W w : World} {B g n : Nat} {vb : Value} {hs ks : List Hb} (h : Gr W w B g vb n hs ks ks.length) (hn : ks.length ≤ 1000000) :
    Calls Tryz.prog 80 #[.pointer (some ⟨g, 0, none⟩)] w fun e w' => e = .returned (.bool true) ∧ Below w.heap.size w w' := by
  have H0 := hide h
  obtain ⟨av, nv, cv, hv⟩ : ∃ a n' c, vb = .slice a n' c := by
    rcases h.bk.row.2 with ⟨e, _⟩ | ⟨r, cap, cur, e, _⟩ <;> exact ⟨_, _, _, e⟩
  have hnv : nv = ks.length := by
    rcases h.bk.row.2 with ⟨e, e2⟩ | ⟨r, cap, cur, e, _⟩
    · rw [hv] at e; cases e; exact e2.symm
    · rw [hv] at e; cases e; rfl
  subst hv hnv
  clear h
  generalize hN : ks.length = N at *
  have HN := hide hN
  clear hN
  go_enter Tryz.func80, Tryz.ntmps80
  go_wp2
  go_loopg [3] N (fun gk i wr => ∃ k : Nat, k + gk = N ∧ i = .int .i64 k ∧ Below w.heap.size w wr)
  case atStart => exact ⟨0, by omega, rfl, Below.refl _ _⟩
  case round =>
    obtain ⟨k, hk, rfl, hbl⟩ := hrel
    have HKG := hide hk
    have G1 := hide (H0.out.next hbl)
    have B1 := hide hbl
    have c2 := G1.out.bk.c2
    clear hbl H0
    by_cases hlt : k < N
    · have hlt' : k < ks.length := by have := HN.out; omega
      obtain ⟨r, cap, hv, hr, _, hcap, r0, r1, r2, rs⟩ := G1.out.bk.at hlt'
      injection hv with hv1 hv2 hv3
      clear hv2
      subst hv1 hv3
      have hkI : (k : Int) < (N : Int) := by omega
      have dk : decide (k < N) = true := by simp; omega
      obtain ⟨hx1, hx2, _⟩ := G1.out.lim _ (List.getElem_mem hlt')
      have hb1 : Below wr.heap.size wr (wr.alloc (.cells #[ks[k].v, ks[k].vl, .int .i64 ks[k].m] 78)) := (Below.refl _ _).alloc (Nat.le_refl _) _
      have hdn := (G1.out.next hb1).dn k hlt' (by omega)
      have B2 := hide (B1.out.trans (hb1.mono B1.out.size))
      have HM := hide (fun W => is_yes ks[k].m hx2 W)
      obtain ⟨d1, d2, _, _⟩ := hdn
      have R1 := hide d1.rdV
      have R2 := hide d2
      obtain ⟨e0, e1, e2⟩ := box3 wr ks[k].v ks[k].vl (.int .i64 ks[k].m) 78
      clear hb1 d1 d2
      generalize hxk : ks[k] = x at *
      obtain ⟨v, vl, m, xs⟩ := x
      simp only at *
      obtain ⟨a2, c2', hv2, hq2⟩ := R1.out.cellq
      obtain ⟨a1, c1, hv1, hq1⟩ := R2.out.cellq
      subst hv1 hv2
      generalize hL : xs.length = L at *
      have HQ1 := hide hq1
      have HQ2 := hide hq2
      generalize hW1 : wr.alloc (.cells #[.slice a1 L c1, .slice a2 (L + 40) c2', .int .i64 m] 78) = W1 at *
      have HW1 := hide hW1
      have hadd : IntKind.i64.wrap ((L : Int) + 40) = ((L + 40 : Nat) : Int) := by rw [IntKind.wrap_i64]; omega
      clear hW1 hxk hL hq1 hq2 R1 R2
      rw [Nat.mul_comm] at r0 r1 r2
      have hcz : wr.heap.size < W1.heap.size := by rw [← HW1.out]; simp
      obtain ⟨go, hgo⟩ : ∃ go, go = gk := ⟨_, rfl⟩
      subst hgo
      clear hk
      go_wp2
      rw [HW1.out]
      clear HW1 G1 HN
      generalize wr.heap.size = c at *
      go_loopg [5] (L + 40) (fun gk j wi => ∃ q : Nat, q + gk = L + 40 ∧ j = .int .i64 q ∧ Below W1.heap.size W1 wi)
      case atStart => exact ⟨0, by omega, rfl, Below.refl _ _⟩
      case round =>
        obtain ⟨q, hq, rfl, hb3⟩ := hrel
        have HQ := hide hq
        have B3 := hide hb3
        have f0 := (hb3.cell (p := ⟨c, 0, none⟩) hcz).trans e0
        have f1 := (hb3.cell (p := ⟨c, 1, none⟩) hcz).trans e1
        have f2 := (hb3.cell (p := ⟨c, 2, none⟩) hcz).trans e2
        by_cases hqt : q < L + 40
        · obtain ⟨p2, rfl, hc2⟩ := HQ2.out q hqt
          have g2 := (hb3.cell (p := ⟨p2, q, none⟩) (World.block_lt_of_cell? W1 _ hc2)).trans hc2
          have dq : decide (q < L + 40) = true := by simp; omega
          have hqI : (q : Int) < ((L + 40 : Nat) : Int) := by omega
          by_cases hql : q < L
          · obtain ⟨p1, rfl, hc1⟩ := HQ1.out q hql
            have g1 := (hb3.cell (p := ⟨p1, q, none⟩) (World.block_lt_of_cell? W1 _ hc1)).trans hc1
            have dq1 : decide (q < L) = true := by simp; omega
            have hqI1 : (q : Int) < (L : Int) := by omega
            clear hc1 hc2 hb3 e0 e1 e2 r0 r1 r2 c2 rs hq HQ1 HQ2
            go_wp2
            go_quiet ((go_at_call 143; exact Calls.quiet_of_same (HM.out _)))
            go_wp2
            go_roundg (gk - 1)
            case measure => have := HQ.out; omega
            case rel => exact ⟨q + 1, by have := HQ.out; omega, by go_num, below_drewN B3.out _⟩
          · have dq1 : decide (q < L) = false := by simp; omega
            clear hc2 hb3 e0 e1 e2 r0 r1 r2 c2 rs hq HQ1 HQ2
            go_wp2
            go_quiet ((go_at_call 143; exact Calls.quiet_of_same (HM.out _)))
            go_wp2
            go_roundg (gk - 1)
            case measure => have := HQ.out; omega
            case rel => exact ⟨q + 1, by have := HQ.out; omega, by go_num, below_drewN B3.out _⟩
        · have dq : decide (q < L + 40) = false := by simp; omega
          have B4 := hide (B2.out.trans (B3.out.mono B2.out.size))
          clear hb3 e0 e1 e2 r0 r1 r2 c2 rs hq HQ1 HQ2
          go_wp2
          go_roundg (go - 1)
          case measure => have := HKG.out; omega
          case rel => exact ⟨k + 1, by have := HKG.out; omega, by go_num, B4.out⟩
    · have dk : decide (k < N) = false := by simp; omega
      clear G1 HN hk
      go_wp2
      go_ret
      exact ⟨rfl, B1.out⟩
end Go.Proofs.YtpgkohimcofjnaaGreatDoor
/- A Book that was told lists of bytes, and it may be others. -/
namespace Go.Proofs.YtpgkohimcofjnaaGreatDoor
open Go.RowKit

/- A Book in whose lists no memory is shared. -/
structure Bok (W : World) (B g : Nat) (vb : Value) (n : Nat) (hs : List Hb) : Prop where
  bk : Bk W B g vb n hs
  sep : Sep g vb hs
  ow : ∀ x ∈ hs, Own8 W B x.v x.xs
  lim : ∀ x ∈ hs, x.xs.length ≤ 100000000 ∧ x.m < 1000000000 ∧ ∃ a n c, x.vl = .slice a n c
  nn : hs.length ≤ 1000000
theorem Bok.fl {W : World} {B g n : Nat} {vb : Value} {hs : List Hb} (h : Bok W B g vb n hs) : Fl W W B g vb n hs 0 := ⟨h.bk, fun j hj => by rw [if_neg (by omega)]; exact h.ow _ (List.getElem_mem hj), Fr.refl _ _⟩
theorem Fl.gr {W W1 : World} {B g n : Nat} {vb : Value} {hs : List Hb} (f : Fl W W1 B g vb n hs hs.length) (h : Bok W B g vb n hs) : Gr W1 W1 B g vb n hs hs 0 :=
  ⟨f.bk, h.sep, h.lim, fun j _ hj => by omega, fun j hj _ => by have := f.ow j hj; rw [if_pos hj] at this; exact this, Fr.refl _ _, fun b hb => hb⟩
theorem apart_fr {W W1 W2 W3 : World} {hs : List Hb} {vb : Value} (h1 : Fr (LE hs) W W1) (h2 : Fr (GE hs vb) W1 W2) (h3 : Below W2.heap.size W2 W3) : Fr (GE hs vb) W W3 := by
  have h0 : Fr (GE hs vb) W W1 := ⟨h1.os, h1.tape, h1.output, h1.size, fun b hb hn => h1.block b hb (fun e => hn (.inl e))⟩
  exact (h0.trans h2 (fun _ _ e => e)).trans (E' := fun _ => False) (Fr.ofBelow h3) (fun _ _ e => e.elim)
end Go.Proofs.YtpgkohimcofjnaaGreatDoor
/- Apart of a Book that was told lists of bytes, and lists of such lists. -/
namespace Go.Proofs.YtpgkohimcofjnaaGreatDoor
open Go.RowKit

/- A Book in whose lists no memory is shared. -/
structure BokQ (W : World) (B g : Nat) (vb : Value) (n : Nat) (hs : List Hb) (vq : Value) (qs : List Hc) : Prop where
  bo : Bok W B g vb n hs
  bq : GB 80 5 W B g vq qs
  sq : SepC g vq qs
  oq : ∀ x ∈ qs, ∃ xs, W.ownsRow B 22 1 x.v x.n xs
  lq : ∀ x ∈ qs, x.n ≤ 100000000 ∧ x.m < 1000000000 ∧ ∃ a n c, x.vl = .slice a n c
  nq : qs.length ≤ 1000000
/- Blocks of the two kinds are others, by their types. -/
structure Ty2 (W : World) (g : Nat) (vb : Value) (hs : List Hb) (vq : Value) (qs : List Hc) : Prop where
  l : ∀ b, LE hs b → b < W.heap.size ∧ ∃ cur, W.heap[b]? = some (.cells cur 5 (0, 0))
  v : ∀ b, vb.ownBlock = some b → ∃ cur, W.heap[b]? = some (.cells cur 78 (0, 0))
  lq : ∀ b, LEc qs b → ∃ cur, W.heap[b]? = some (.cells cur 22 (0, 0))
  vq : ∀ b, vq.ownBlock = some b → ∃ cur, W.heap[b]? = some (.cells cur 80 (0, 0))
theorem BokQ.ty {W : World} {B g n : Nat} {vb vq : Value} {hs : List Hb} {qs : List Hc} (h : BokQ W B g vb n hs vq qs) : Ty2 W g vb hs vq qs where
  l := fun b ⟨x, hx, e⟩ => ⟨(World.ownsRow.lt (h.bo.ow x hx) b e).2, row_ty (h.bo.ow x hx) e⟩
  v := fun b e => row_ty h.bo.bk.row e
  lq := fun b ⟨x, hx, e⟩ => by obtain ⟨xs, ho⟩ := h.oq x hx; exact row_ty ho e
  vq := fun b e => row_ty h.bq.row e
theorem Ty2.x {W : World} {g : Nat} {vb vq : Value} {hs : List Hb} {qs : List Hc} (h : Ty2 W g vb hs vq qs) : ∀ b, GE hs vb b → ¬ GEc qs vq b := fun b h1 h2 => by
  have k : ∀ {e e' : Nat} {c c' : Array Value}, W.heap[b]? = some (.cells c e (0, 0)) → W.heap[b]? = some (.cells c' e' (0, 0)) → e ≠ e' → False := fun a b n => n (ty_ne a b)
  rcases h1 with h1 | h1
  · obtain ⟨_, c1, e1⟩ := h.l b h1
    rcases h2 with h2 | h2
    · obtain ⟨c2, e2⟩ := h.lq b h2; exact k e1 e2 (by decide)
    · obtain ⟨c2, e2⟩ := h.vq b h2; exact k e1 e2 (by decide)
  · obtain ⟨c1, e1⟩ := h.v b h1
    rcases h2 with h2 | h2
    · obtain ⟨c2, e2⟩ := h.lq b h2; exact k e1 e2 (by decide)
    · obtain ⟨c2, e2⟩ := h.vq b h2; exact k e1 e2 (by decide)
/- What grew of one kind stands while the other one grows. -/
theorem Gr.move {W wr w' : World} {B g n : Nat} {vb : Value} {hs ks : List Hb} {E : Nat → Prop} (h : Gr W wr B g vb n hs ks ks.length) (hf : Fr E wr w') (h1 : ¬ E g) (h2 : ∀ b, LE hs b → ¬ E b) (h3 : ∀ b cur, wr.heap[b]? = some (.cells cur 5 (0, 0)) → ¬ E b) (h4 : ∀ b, vb.ownBlock = some b → ¬ E b) : Gr w' w' B g vb n hs ks ks.length := by
  refine ⟨h.bk.fr hf h1 h4, h.sep, h.lim, fun j hj hk => ?_, fun j hj hk => by omega, Fr.refl _ _, h.le⟩
  obtain ⟨d1, d2, d3⟩ := h.dn j hj hk
  refine ⟨d1.fr hf (fun b hb => ?_), d2.fr hf (fun b hb => h2 b (h.le b ⟨_, List.getElem_mem hj, hb⟩)), d3⟩
  obtain ⟨cur, hc⟩ := row_ty d1 hb
  exact h3 b cur hc
set_option maxRecDepth 100000 in
set_option maxHeartbeats 8000000 in
theorem apartQ_yes {W : World} {B g n : Nat} {vb vq : Value} {hs : List Hb} {qs : List Hc} (h : BokQ W B g vb n hs vq qs) : Calls Tryz.prog 11 #[.pointer (some ⟨g, 0, none⟩)] W fun e W' => e = .returned (.bool true) ∧ Fr (fun b => GE hs vb b ∨ GEc qs vq b) W W' := by
  have HB := hide h
  have HX := hide h.ty.x
  have HT := hide h.ty
  have Z1 := hide h.bo.bk.cz
  have NG : Hid (¬ GE hs vb g) := fun e => by
    rcases e with e | e
    · exact h.bo.sep.nE.1 e
    · exact h.bo.bk.ne e
  have NQ : Hid (¬ GEc qs vq g) := fun e => by
    rcases e with e | e
    · exact h.sq.nE.1 e
    · exact h.bq.ne e
  clear h
  go_enter Tryz.func11, Tryz.ntmps11
  go_wp2_with fail
  refine (fillInt_no g _ (Z1.out 1 (by decide) (by decide) (by decide) (by decide))).mono ?_
  rintro e w1 ⟨rfl, hw⟩
  subst w1
  go_wp2_with fail
  refine (fillByte_any HB.out.bo.fl HB.out.bo.sep HB.out.bo.lim HB.out.bo.nn).mono ?_
  rintro e W1 ⟨rfl, hF⟩
  have F1 := hide hF
  have Z2 := hide hF.bk.cz
  have Q1 : Hid (FlQ W1 W1 B g W1.heap.size vq qs 0) := ⟨HB.out.bq.fr hF.fr (fun e => NG.out (.inl e)) (fun b hb e => HX.out b (.inl e) (.inr hb)), fun j hj hk => by omega, fun j hj _ => by
    obtain ⟨xs, ho⟩ := HB.out.oq _ (List.getElem_mem hj)
    exact ⟨xs, ownR_fr ho hF.fr (fun b hb e => HX.out b (.inl e) (.inl ⟨_, List.getElem_mem hj, hb⟩))⟩, Fr.refl _ _⟩
  have R1 := hide hF.fr
  clear hF Z1
  go_wp2_with fail
  refine (fillKind_no g _ (Z2.out 3 (by decide) (by decide) (by decide) (by decide))).mono ?_
  rintro e w1 ⟨rfl, hw⟩
  subst w1
  go_wp2_with fail
  refine (fillText_no g _ (Z2.out 4 (by decide) (by decide) (by decide) (by decide))).mono ?_
  rintro e w1 ⟨rfl, hw⟩
  subst w1
  go_wp2_with fail
  refine (fillBlob_any (Nat.le_refl _) Q1.out HB.out.sq HB.out.lq HB.out.nq).mono ?_
  rintro e W2 ⟨rfl, hF⟩
  have Q2 := hide hF
  have R2 := hide hF.fr
  have G2 : Hid (Gr W2 W2 B g vb n hs hs 0) := ⟨F1.out.bk.fr hF.fr (fun e => NQ.out (.inl e)) (fun b hb e => HX.out b (.inr hb) (.inl e)), HB.out.bo.sep, HB.out.bo.lim, fun j _ hj => by omega, fun j hj _ => by
    have := F1.out.ow j hj
    rw [if_pos hj] at this
    exact this.fr hF.fr (fun b hb e => HX.out b (.inl ⟨_, List.getElem_mem hj, hb⟩) (.inl e)), Fr.refl _ _, fun b hb => hb⟩
  have Z3 := hide G2.out.bk.cz
  clear hF Q1 F1 Z2
  go_wp2_with fail
  refine (fillNumber_no g _ (Z3.out 6 (by decide) (by decide) (by decide) (by decide))).mono ?_
  rintro e w1 ⟨rfl, hw⟩
  subst w1
  go_wp2_with fail
  refine (fillWord_no g _ (Z3.out 7 (by decide) (by decide) (by decide) (by decide))).mono ?_
  rintro e w1 ⟨rfl, hw⟩
  subst w1
  go_wp2_with fail
  refine (fillField_no g _ (Z3.out 8 (by decide) (by decide) (by decide) (by decide))).mono ?_
  rintro e w1 ⟨rfl, hw⟩
  subst w1
  go_wp2_with fail
  refine (fillMatch_no g _ (Z3.out 9 (by decide) (by decide) (by decide) (by decide))).mono ?_
  rintro e w1 ⟨rfl, hw⟩
  subst w1
  go_wp2_with fail
  refine (fillArr_no g _ (Z3.out 10 (by decide) (by decide) (by decide) (by decide))).mono ?_
  rintro e w1 ⟨rfl, hw⟩
  subst w1
  go_wp2_with fail
  refine (fillCase_no g _ (Z3.out 11 (by decide) (by decide) (by decide) (by decide))).mono ?_
  rintro e w1 ⟨rfl, hw⟩
  subst w1
  go_wp2_with fail
  refine (fillJump_no g _ (Z3.out 12 (by decide) (by decide) (by decide) (by decide))).mono ?_
  rintro e w1 ⟨rfl, hw⟩
  subst w1
  go_wp2_with fail
  refine (fillExpr_no g _ (Z3.out 13 (by decide) (by decide) (by decide) (by decide))).mono ?_
  rintro e w1 ⟨rfl, hw⟩
  subst w1
  go_wp2_with fail
  refine (fillStmt_no g _ (Z3.out 14 (by decide) (by decide) (by decide) (by decide))).mono ?_
  rintro e w1 ⟨rfl, hw⟩
  subst w1
  go_wp2_with fail
  refine (fillState_no g _ (Z3.out 15 (by decide) (by decide) (by decide) (by decide))).mono ?_
  rintro e w1 ⟨rfl, hw⟩
  subst w1
  go_wp2_with fail
  refine (fillKey_no g _ (Z3.out 16 (by decide) (by decide) (by decide) (by decide))).mono ?_
  rintro e w1 ⟨rfl, hw⟩
  subst w1
  go_wp2_with fail
  refine (fillDecl_no g _ (Z3.out 17 (by decide) (by decide) (by decide) (by decide))).mono ?_
  rintro e w1 ⟨rfl, hw⟩
  subst w1
  go_wp2_with fail
  refine (fillEntry_no g _ (Z3.out 18 (by decide) (by decide) (by decide) (by decide))).mono ?_
  rintro e w1 ⟨rfl, hw⟩
  subst w1
  go_wp2_with fail
  refine (fillGroup_no g _ (Z3.out 19 (by decide) (by decide) (by decide) (by decide))).mono ?_
  rintro e w1 ⟨rfl, hw⟩
  subst w1
  go_wp2_with fail
  refine (fillHead_no g _ (Z3.out 20 (by decide) (by decide) (by decide) (by decide))).mono ?_
  rintro e w1 ⟨rfl, hw⟩
  subst w1
  go_wp2_with fail
  refine (fillNode_no g _ (Z3.out 21 (by decide) (by decide) (by decide) (by decide))).mono ?_
  rintro e w1 ⟨rfl, hw⟩
  subst w1
  go_wp2_with fail
  refine (fillAct_no g _ (Z3.out 22 (by decide) (by decide) (by decide) (by decide))).mono ?_
  rintro e w1 ⟨rfl, hw⟩
  subst w1
  go_wp2_with fail
  refine (fillTable_no g _ (Z3.out 23 (by decide) (by decide) (by decide) (by decide))).mono ?_
  rintro e w1 ⟨rfl, hw⟩
  subst w1
  go_wp2_with fail
  refine (fillIns_no g _ (Z3.out 24 (by decide) (by decide) (by decide) (by decide))).mono ?_
  rintro e w1 ⟨rfl, hw⟩
  subst w1
  go_wp2_with fail
  refine (fillEffect_no g _ (Z3.out 25 (by decide) (by decide) (by decide) (by decide))).mono ?_
  rintro e w1 ⟨rfl, hw⟩
  subst w1
  go_wp2_with fail
  refine (fillUpdate_no g _ (Z3.out 26 (by decide) (by decide) (by decide) (by decide))).mono ?_
  rintro e w1 ⟨rfl, hw⟩
  subst w1
  go_wp2_with fail
  refine (fillEvent_no g _ (Z3.out 27 (by decide) (by decide) (by decide) (by decide))).mono ?_
  rintro e w1 ⟨rfl, hw⟩
  subst w1
  go_wp2_with fail
  refine (fillOut_no g _ (Z3.out 28 (by decide) (by decide) (by decide) (by decide))).mono ?_
  rintro e w1 ⟨rfl, hw⟩
  subst w1
  go_wp2_with fail
  refine (fillRow_no g _ (Z3.out 29 (by decide) (by decide) (by decide) (by decide))).mono ?_
  rintro e w1 ⟨rfl, hw⟩
  subst w1
  go_wp2_with fail
  refine (fillArray_no g _ (Z3.out 30 (by decide) (by decide) (by decide) (by decide))).mono ?_
  rintro e w1 ⟨rfl, hw⟩
  subst w1
  go_wp2_with fail
  refine (growInt_no g _ (Z3.out 1 (by decide) (by decide) (by decide) (by decide))).mono ?_
  rintro e w1 ⟨rfl, hw⟩
  subst w1
  go_wp2_with fail
  refine (growByte_any G2.out HB.out.bo.nn).mono ?_
  rintro e W3 ⟨rfl, ks, hkl, hG⟩
  have G3 := hide hG
  have R3 := hide hG.fr
  have Z4 := hide hG.bk.cz
  have NK : Hid (ks.length ≤ 1000000) := by have := HB.out.bo.nn; show _ ≤ _; omega
  have MN : Hid (∀ b cur, W1.heap.size ≤ b → W2.heap[b]? = some (.cells cur 5 (0, 0)) → ¬ GE hs vb b) := fun b cur hb hh e => by
    rcases e with e | e
    · have := (HT.out.l b e).1; have := R1.out.size; omega
    · obtain ⟨c2, e2⟩ := row_ty G2.out.bk.row e; exact absurd (ty_ne hh e2) (by decide)
  have Q3 : Hid (GrQ W3 W3 B g W1.heap.size vq qs qs 0) := ⟨Q2.out.bk.fr hG.fr NG.out (fun b hb e => HX.out b e (.inr hb)), HB.out.sq, HB.out.lq, fun j hj hk => by omega, fun j hj _ => by
    obtain ⟨xs, ho, hb⟩ := Q2.out.dn j hj hj
    exact ⟨xs, ownR_fr ho hG.fr (fun b hb e => HX.out b e (.inl ⟨_, List.getElem_mem hj, hb⟩)), fun u hu => (hb u hu).fr hG.fr MN.out⟩, Fr.refl _ _, fun b hb => hb⟩
  have S3 : Hid (W1.heap.size ≤ W3.heap.size) := Nat.le_trans R2.out.size R3.out.size
  clear hG hkl G2 Q2 Z3 MN
  go_wp2_with fail
  refine (growKind_no g _ (Z4.out 3 (by decide) (by decide) (by decide) (by decide))).mono ?_
  rintro e w1 ⟨rfl, hw⟩
  subst w1
  go_wp2_with fail
  refine (growText_no g _ (Z4.out 4 (by decide) (by decide) (by decide) (by decide))).mono ?_
  rintro e w1 ⟨rfl, hw⟩
  subst w1
  go_wp2_with fail
  refine (growBlob_any S3.out Q3.out HB.out.nq).mono ?_
  rintro e W4 ⟨rfl, kq, hkl, hG⟩
  have Q4 := hide hG
  have R4 := hide hG.fr
  have NQK : Hid (kq.length ≤ 1000000) := by have := HB.out.nq; show _ ≤ _; omega
  have G4 : Hid (Gr W4 W4 B g vb n hs ks ks.length) := G3.out.move hG.fr NQ.out (fun b hb => HX.out b (.inl hb)) (fun b cur hh e => by
    rcases e with ⟨x, hx, e⟩ | e
    · obtain ⟨j, hj, rfl⟩ := List.getElem_of_mem hx
      obtain ⟨xs, ho, _⟩ := Q3.out.td j hj (Nat.zero_le _)
      obtain ⟨c2, e2⟩ := row_ty ho e; exact absurd (ty_ne hh e2) (by decide)
    · obtain ⟨c2, e2⟩ := row_ty Q3.out.bk.row e; exact absurd (ty_ne hh e2) (by decide)) (fun b hb => HX.out b (.inr hb))
  have Z5 := hide G4.out.bk.cz
  clear hG hkl G3 Q3 Z4
  go_wp2_with fail
  refine (growNumber_no g _ (Z5.out 6 (by decide) (by decide) (by decide) (by decide))).mono ?_
  rintro e w1 ⟨rfl, hw⟩
  subst w1
  go_wp2_with fail
  refine (growWord_no g _ (Z5.out 7 (by decide) (by decide) (by decide) (by decide))).mono ?_
  rintro e w1 ⟨rfl, hw⟩
  subst w1
  go_wp2_with fail
  refine (growField_no g _ (Z5.out 8 (by decide) (by decide) (by decide) (by decide))).mono ?_
  rintro e w1 ⟨rfl, hw⟩
  subst w1
  go_wp2_with fail
  refine (growMatch_no g _ (Z5.out 9 (by decide) (by decide) (by decide) (by decide))).mono ?_
  rintro e w1 ⟨rfl, hw⟩
  subst w1
  go_wp2_with fail
  refine (growArr_no g _ (Z5.out 10 (by decide) (by decide) (by decide) (by decide))).mono ?_
  rintro e w1 ⟨rfl, hw⟩
  subst w1
  go_wp2_with fail
  refine (growCase_no g _ (Z5.out 11 (by decide) (by decide) (by decide) (by decide))).mono ?_
  rintro e w1 ⟨rfl, hw⟩
  subst w1
  go_wp2_with fail
  refine (growJump_no g _ (Z5.out 12 (by decide) (by decide) (by decide) (by decide))).mono ?_
  rintro e w1 ⟨rfl, hw⟩
  subst w1
  go_wp2_with fail
  refine (growExpr_no g _ (Z5.out 13 (by decide) (by decide) (by decide) (by decide))).mono ?_
  rintro e w1 ⟨rfl, hw⟩
  subst w1
  go_wp2_with fail
  refine (growStmt_no g _ (Z5.out 14 (by decide) (by decide) (by decide) (by decide))).mono ?_
  rintro e w1 ⟨rfl, hw⟩
  subst w1
  go_wp2_with fail
  refine (growState_no g _ (Z5.out 15 (by decide) (by decide) (by decide) (by decide))).mono ?_
  rintro e w1 ⟨rfl, hw⟩
  subst w1
  go_wp2_with fail
  refine (growKey_no g _ (Z5.out 16 (by decide) (by decide) (by decide) (by decide))).mono ?_
  rintro e w1 ⟨rfl, hw⟩
  subst w1
  go_wp2_with fail
  refine (growDecl_no g _ (Z5.out 17 (by decide) (by decide) (by decide) (by decide))).mono ?_
  rintro e w1 ⟨rfl, hw⟩
  subst w1
  go_wp2_with fail
  refine (growEntry_no g _ (Z5.out 18 (by decide) (by decide) (by decide) (by decide))).mono ?_
  rintro e w1 ⟨rfl, hw⟩
  subst w1
  go_wp2_with fail
  refine (growGroup_no g _ (Z5.out 19 (by decide) (by decide) (by decide) (by decide))).mono ?_
  rintro e w1 ⟨rfl, hw⟩
  subst w1
  go_wp2_with fail
  refine (growHead_no g _ (Z5.out 20 (by decide) (by decide) (by decide) (by decide))).mono ?_
  rintro e w1 ⟨rfl, hw⟩
  subst w1
  go_wp2_with fail
  refine (growNode_no g _ (Z5.out 21 (by decide) (by decide) (by decide) (by decide))).mono ?_
  rintro e w1 ⟨rfl, hw⟩
  subst w1
  go_wp2_with fail
  refine (growAct_no g _ (Z5.out 22 (by decide) (by decide) (by decide) (by decide))).mono ?_
  rintro e w1 ⟨rfl, hw⟩
  subst w1
  go_wp2_with fail
  refine (growTable_no g _ (Z5.out 23 (by decide) (by decide) (by decide) (by decide))).mono ?_
  rintro e w1 ⟨rfl, hw⟩
  subst w1
  go_wp2_with fail
  refine (growIns_no g _ (Z5.out 24 (by decide) (by decide) (by decide) (by decide))).mono ?_
  rintro e w1 ⟨rfl, hw⟩
  subst w1
  go_wp2_with fail
  refine (growEffect_no g _ (Z5.out 25 (by decide) (by decide) (by decide) (by decide))).mono ?_
  rintro e w1 ⟨rfl, hw⟩
  subst w1
  go_wp2_with fail
  refine (growUpdate_no g _ (Z5.out 26 (by decide) (by decide) (by decide) (by decide))).mono ?_
  rintro e w1 ⟨rfl, hw⟩
  subst w1
  go_wp2_with fail
  refine (growEvent_no g _ (Z5.out 27 (by decide) (by decide) (by decide) (by decide))).mono ?_
  rintro e w1 ⟨rfl, hw⟩
  subst w1
  go_wp2_with fail
  refine (growOut_no g _ (Z5.out 28 (by decide) (by decide) (by decide) (by decide))).mono ?_
  rintro e w1 ⟨rfl, hw⟩
  subst w1
  go_wp2_with fail
  refine (growRow_no g _ (Z5.out 29 (by decide) (by decide) (by decide) (by decide))).mono ?_
  rintro e w1 ⟨rfl, hw⟩
  subst w1
  go_wp2_with fail
  refine (growArray_no g _ (Z5.out 30 (by decide) (by decide) (by decide) (by decide))).mono ?_
  rintro e w1 ⟨rfl, hw⟩
  subst w1
  go_wp2_with fail
  refine (lookInt_no g _ (Z5.out 1 (by decide) (by decide) (by decide) (by decide))).mono ?_
  rintro e w1 ⟨rfl, hw⟩
  subst w1
  go_wp2_with fail
  refine (lookByte_any G4.out NK.out).mono ?_
  rintro e W5 ⟨rfl, hb⟩
  have Z6 := hide (G4.out.bk.next hb).cz
  have Q5 := hide (Q4.out.next hb)
  have R5 := hide hb
  have B5 := hide (G4.out.bk.next hb)
  clear hb G4 Q4 Z5
  go_wp2_with fail
  refine (lookKind_no g _ (Z6.out 3 (by decide) (by decide) (by decide) (by decide))).mono ?_
  rintro e w1 ⟨rfl, hw⟩
  subst w1
  go_wp2_with fail
  refine (lookText_no g _ (Z6.out 4 (by decide) (by decide) (by decide) (by decide))).mono ?_
  rintro e w1 ⟨rfl, hw⟩
  subst w1
  go_wp2_with fail
  refine (lookBlob_any Q5.out NQK.out).mono ?_
  rintro e W6 ⟨rfl, hb⟩
  have Z7 := hide (B5.out.next hb).cz
  have R6 : Hid (Fr (fun b => GE hs vb b ∨ GEc qs vq b) W W6) := by
    have a1 : Fr (fun b => GE hs vb b ∨ GEc qs vq b) W W1 := ⟨R1.out.os, R1.out.tape, R1.out.output, R1.out.size, fun b h1 h2 => R1.out.block b h1 (fun e => h2 (.inl (.inl e)))⟩
    have a2 := a1.trans R2.out (fun b _ e => .inr (.inl e))
    have a3 := a2.trans R3.out (fun b _ e => .inl e)
    have a4 := a3.trans R4.out (fun b _ e => .inr e)
    have a5 := a4.trans (E' := fun _ => False) (Fr.ofBelow R5.out) (fun _ _ e => e.elim)
    exact a5.trans (E' := fun _ => False) (Fr.ofBelow hb) (fun _ _ e => e.elim)
  clear hb Q5 Z6 B5 R1 R2 R3 R4 R5
  go_wp2_with fail
  refine (lookNumber_no g _ (Z7.out 6 (by decide) (by decide) (by decide) (by decide))).mono ?_
  rintro e w1 ⟨rfl, hw⟩
  subst w1
  go_wp2_with fail
  refine (lookWord_no g _ (Z7.out 7 (by decide) (by decide) (by decide) (by decide))).mono ?_
  rintro e w1 ⟨rfl, hw⟩
  subst w1
  go_wp2_with fail
  refine (lookField_no g _ (Z7.out 8 (by decide) (by decide) (by decide) (by decide))).mono ?_
  rintro e w1 ⟨rfl, hw⟩
  subst w1
  go_wp2_with fail
  refine (lookMatch_no g _ (Z7.out 9 (by decide) (by decide) (by decide) (by decide))).mono ?_
  rintro e w1 ⟨rfl, hw⟩
  subst w1
  go_wp2_with fail
  refine (lookArr_no g _ (Z7.out 10 (by decide) (by decide) (by decide) (by decide))).mono ?_
  rintro e w1 ⟨rfl, hw⟩
  subst w1
  go_wp2_with fail
  refine (lookCase_no g _ (Z7.out 11 (by decide) (by decide) (by decide) (by decide))).mono ?_
  rintro e w1 ⟨rfl, hw⟩
  subst w1
  go_wp2_with fail
  refine (lookJump_no g _ (Z7.out 12 (by decide) (by decide) (by decide) (by decide))).mono ?_
  rintro e w1 ⟨rfl, hw⟩
  subst w1
  go_wp2_with fail
  refine (lookExpr_no g _ (Z7.out 13 (by decide) (by decide) (by decide) (by decide))).mono ?_
  rintro e w1 ⟨rfl, hw⟩
  subst w1
  go_wp2_with fail
  refine (lookStmt_no g _ (Z7.out 14 (by decide) (by decide) (by decide) (by decide))).mono ?_
  rintro e w1 ⟨rfl, hw⟩
  subst w1
  go_wp2_with fail
  refine (lookState_no g _ (Z7.out 15 (by decide) (by decide) (by decide) (by decide))).mono ?_
  rintro e w1 ⟨rfl, hw⟩
  subst w1
  go_wp2_with fail
  refine (lookKey_no g _ (Z7.out 16 (by decide) (by decide) (by decide) (by decide))).mono ?_
  rintro e w1 ⟨rfl, hw⟩
  subst w1
  go_wp2_with fail
  refine (lookDecl_no g _ (Z7.out 17 (by decide) (by decide) (by decide) (by decide))).mono ?_
  rintro e w1 ⟨rfl, hw⟩
  subst w1
  go_wp2_with fail
  refine (lookEntry_no g _ (Z7.out 18 (by decide) (by decide) (by decide) (by decide))).mono ?_
  rintro e w1 ⟨rfl, hw⟩
  subst w1
  go_wp2_with fail
  refine (lookGroup_no g _ (Z7.out 19 (by decide) (by decide) (by decide) (by decide))).mono ?_
  rintro e w1 ⟨rfl, hw⟩
  subst w1
  go_wp2_with fail
  refine (lookHead_no g _ (Z7.out 20 (by decide) (by decide) (by decide) (by decide))).mono ?_
  rintro e w1 ⟨rfl, hw⟩
  subst w1
  go_wp2_with fail
  refine (lookNode_no g _ (Z7.out 21 (by decide) (by decide) (by decide) (by decide))).mono ?_
  rintro e w1 ⟨rfl, hw⟩
  subst w1
  go_wp2_with fail
  refine (lookAct_no g _ (Z7.out 22 (by decide) (by decide) (by decide) (by decide))).mono ?_
  rintro e w1 ⟨rfl, hw⟩
  subst w1
  go_wp2_with fail
  refine (lookTable_no g _ (Z7.out 23 (by decide) (by decide) (by decide) (by decide))).mono ?_
  rintro e w1 ⟨rfl, hw⟩
  subst w1
  go_wp2_with fail
  refine (lookIns_no g _ (Z7.out 24 (by decide) (by decide) (by decide) (by decide))).mono ?_
  rintro e w1 ⟨rfl, hw⟩
  subst w1
  go_wp2_with fail
  refine (lookEffect_no g _ (Z7.out 25 (by decide) (by decide) (by decide) (by decide))).mono ?_
  rintro e w1 ⟨rfl, hw⟩
  subst w1
  go_wp2_with fail
  refine (lookUpdate_no g _ (Z7.out 26 (by decide) (by decide) (by decide) (by decide))).mono ?_
  rintro e w1 ⟨rfl, hw⟩
  subst w1
  go_wp2_with fail
  refine (lookEvent_no g _ (Z7.out 27 (by decide) (by decide) (by decide) (by decide))).mono ?_
  rintro e w1 ⟨rfl, hw⟩
  subst w1
  go_wp2_with fail
  refine (lookOut_no g _ (Z7.out 28 (by decide) (by decide) (by decide) (by decide))).mono ?_
  rintro e w1 ⟨rfl, hw⟩
  subst w1
  go_wp2_with fail
  refine (lookRow_no g _ (Z7.out 29 (by decide) (by decide) (by decide) (by decide))).mono ?_
  rintro e w1 ⟨rfl, hw⟩
  subst w1
  go_wp2_with fail
  refine (lookArray_no g _ (Z7.out 30 (by decide) (by decide) (by decide) (by decide))).mono ?_
  rintro e w1 ⟨rfl, hw⟩
  subst w1
  go_wp2
  go_ret
  exact ⟨rfl, R6.out⟩
end Go.Proofs.YtpgkohimcofjnaaGreatDoor
