/- Pieces of the proof: BgMf, BgFf. -/
import Derived.Test.YtclhmggnkhnnlaaGreatDoorM13
/- A Book's marks of the kind Effect; 10 cells written into a list that is being filled. -/
namespace Go.Proofs.YtclhmggnkhnnlaaGreatDoor
open Go.RowKit

def mkEffect (m : Nat) : List Value := [.int .u8 0, .string ⟨#[]⟩, .int .i64 (-1000 - (m : Int)), .int .i64 0, .int .u64 0, .int .u64 0, .slice none 0 0, .int .i64 0, .string ⟨#[]⟩, .int .i64 0]
theorem mkEffect_len (m : Nat) : (mkEffect m).length = 10 := rfl
theorem markEffect_any (m : Nat) (hm : m < 1000000000) (W : World) : Calls Tryz.prog 165 #[.int .i64 (m : Int)] W fun e w' => e = .returned (.agg #[.int .u8 0, .string ⟨#[]⟩, .int .i64 (-1000 - (m : Int)), .int .i64 0, .int .u64 0, .int .u64 0, .slice none 0 0, .int .i64 0, .string ⟨#[]⟩, .int .i64 0]) ∧ Below W.heap.size W w' := by
  have hw : IntKind.i64.wrap (-1000 - (m : Int)) = -1000 - (m : Int) := by rw [IntKind.wrap_i64]; omega
  go_enter Tryz.func165, Tryz.ntmps165
  go_wp2
  refine bodyPost_ret (v := .agg #[.int .u8 0, .string ⟨#[]⟩, .int .i64 (-1000 - (m : Int)), .int .i64 0, .int .u64 0, .int .u64 0, .slice none 0 0, .int .i64 0, .string ⟨#[]⟩, .int .i64 0]) (by simp [results, Tryz.results165, go_sem]) rfl ⟨rfl, ?_⟩
  exact (Below.refl _ _).alloc (Nat.le_refl _) _
theorem isEffect_any (m : Nat) (hm : m < 1000000000) (W : World) : Calls Tryz.prog 195 #[.agg #[.int .u8 0, .string ⟨#[]⟩, .int .i64 (-1000 - (m : Int)), .int .i64 0, .int .u64 0, .int .u64 0, .slice none 0 0, .int .i64 0, .string ⟨#[]⟩, .int .i64 0], .int .i64 (m : Int)] W fun e w' => e = .returned (.bool true) ∧ Below W.heap.size W w' := by
  have hw : IntKind.i64.wrap (-1000 - (m : Int)) = -1000 - (m : Int) := by rw [IntKind.wrap_i64]; omega
  go_enter Tryz.func195, Tryz.ntmps195
  go_wp2
  go_ret
  exact ⟨by first | rfl | simp [hw], (Below.refl _ _).alloc (Nat.le_refl _) _⟩
theorem fillEffect {et : Nat} {wi : World} {B g n cap q : Nat} {k : List Value} (hk : k.length = 10) (h : ∃ rest, wi.ownsRow B et 10 (.slice (some ⟨g, 0, none⟩) n cap) n (mks k q ++ rest)) (hq : q < n) :
    (∃ r0 r1 r2 r3 r4 r5 r6 r7 r8 r9, wi.cell? ⟨g, q * 10, none⟩ = some r0 ∧ wi.cell? ⟨g, q * 10 + 1, none⟩ = some r1 ∧ wi.cell? ⟨g, q * 10 + 2, none⟩ = some r2 ∧ wi.cell? ⟨g, q * 10 + 3, none⟩ = some r3 ∧ wi.cell? ⟨g, q * 10 + 4, none⟩ = some r4 ∧ wi.cell? ⟨g, q * 10 + 5, none⟩ = some r5 ∧ wi.cell? ⟨g, q * 10 + 6, none⟩ = some r6 ∧ wi.cell? ⟨g, q * 10 + 7, none⟩ = some r7 ∧ wi.cell? ⟨g, q * 10 + 8, none⟩ = some r8 ∧ wi.cell? ⟨g, q * 10 + 9, none⟩ = some r9) ∧
    (∀ j, wi.frozen? ⟨g, j, none⟩ = false) ∧
    ∀ x0 x1 x2 x3 x4 x5 x6 x7 x8 x9, k = [x0, x1, x2, x3, x4, x5, x6, x7, x8, x9] → ∀ W1, Fr (fun b => (Value.slice (some ⟨g, 0, none⟩) n cap).ownBlock = some b) W1 wi → FlInC et 10 k W1 ((((((((((wi.setCell ⟨g, q * 10, none⟩ x0).setCell ⟨g, q * 10 + 1, none⟩ x1).setCell ⟨g, q * 10 + 2, none⟩ x2).setCell ⟨g, q * 10 + 3, none⟩ x3).setCell ⟨g, q * 10 + 4, none⟩ x4).setCell ⟨g, q * 10 + 5, none⟩ x5).setCell ⟨g, q * 10 + 6, none⟩ x6).setCell ⟨g, q * 10 + 7, none⟩ x7).setCell ⟨g, q * 10 + 8, none⟩ x8).setCell ⟨g, q * 10 + 9, none⟩ x9) B (.slice (some ⟨g, 0, none⟩) n cap) n (q + 1) := by
  obtain ⟨rest, h⟩ := h
  have hl := h.1
  rw [List.length_append, mks_length hk] at hl
  obtain ⟨r0, r1, r2, r3, r4, r5, r6, r7, r8, r9, rest', rfl⟩ : ∃ r0 r1 r2 r3 r4 r5 r6 r7 r8 r9 r, rest = r0 :: r1 :: r2 :: r3 :: r4 :: r5 :: r6 :: r7 :: r8 :: r9 :: r := by
    have h7 : 10 ≤ rest.length := by omega
    match rest, h7 with
    | r0 :: r1 :: r2 :: r3 :: r4 :: r5 :: r6 :: r7 :: r8 :: r9 :: r, _ => exact ⟨_, _, _, _, _, _, _, _, _, _, _, rfl⟩
  have hA : q * 10 = (mks k q).length := (mks_length hk q).symm
  have hc : ∀ j, j < 10 → wi.cell? ⟨g, q * 10 + j, none⟩ = (r0 :: r1 :: r2 :: r3 :: r4 :: r5 :: r6 :: r7 :: r8 :: r9 :: rest')[j]? := fun j hj => by
    rw [World.ownsRow.cellAt h (q * 10 + j) (by omega), List.getElem?_append_right (by omega), ← hA, Nat.add_sub_cancel_left]
  refine ⟨⟨r0, r1, r2, r3, r4, r5, r6, r7, r8, r9, hc 0 (by decide), hc 1 (by decide), hc 2 (by decide), hc 3 (by decide), hc 4 (by decide), hc 5 (by decide), hc 6 (by decide), hc 7 (by decide), hc 8 (by decide), hc 9 (by decide)⟩, fun j => World.ownsRow.frozenAt h j, fun x0 x1 x2 x3 x4 x5 x6 x7 x8 x9 hx W1 hfr => ⟨⟨rest', ?_⟩, (((((((((hfr.set ⟨g, q * 10, none⟩ x0 rfl).set ⟨g, q * 10 + 1, none⟩ x1 rfl).set ⟨g, q * 10 + 2, none⟩ x2 rfl).set ⟨g, q * 10 + 3, none⟩ x3 rfl).set ⟨g, q * 10 + 4, none⟩ x4 rfl).set ⟨g, q * 10 + 5, none⟩ x5 rfl).set ⟨g, q * 10 + 6, none⟩ x6 rfl).set ⟨g, q * 10 + 7, none⟩ x7 rfl).set ⟨g, q * 10 + 8, none⟩ x8 rfl).set ⟨g, q * 10 + 9, none⟩ x9 rfl⟩⟩
  have h1 := (World.ownsRow.stored (World.ownsRow.stored (World.ownsRow.stored (World.ownsRow.stored (World.ownsRow.stored (World.ownsRow.stored (World.ownsRow.stored (World.ownsRow.stored (World.ownsRow.stored (World.ownsRow.stored h (q * 10) x0).1 (q * 10 + 1) x1).1 (q * 10 + 2) x2).1 (q * 10 + 3) x3).1 (q * 10 + 4) x4).1 (q * 10 + 5) x5).1 (q * 10 + 6) x6).1 (q * 10 + 7) x7).1 (q * 10 + 8) x8).1 (q * 10 + 9) x9).1
  have e : (((((((((((mks k q ++ r0 :: r1 :: r2 :: r3 :: r4 :: r5 :: r6 :: r7 :: r8 :: r9 :: rest').set (q * 10) x0).set (q * 10 + 1) x1).set (q * 10 + 2) x2).set (q * 10 + 3) x3).set (q * 10 + 4) x4).set (q * 10 + 5) x5).set (q * 10 + 6) x6).set (q * 10 + 7) x7).set (q * 10 + 8) x8).set (q * 10 + 9) x9) = mks k q ++ [x0, x1, x2, x3, x4, x5, x6, x7, x8, x9] ++ rest' := by
    rw [List.set_append_right _ _ (by omega), List.set_append_right _ _ (by omega), List.set_append_right _ _ (by omega), List.set_append_right _ _ (by omega), List.set_append_right _ _ (by omega), List.set_append_right _ _ (by omega), List.set_append_right _ _ (by omega), List.set_append_right _ _ (by omega), List.set_append_right _ _ (by omega), List.set_append_right _ _ (by omega), hA]
    simp
  rw [e] at h1
  rw [mks_snoc, show mks k q ++ k = mks k q ++ [x0, x1, x2, x3, x4, x5, x6, x7, x8, x9] by rw [← hx]]
  exact h1
theorem RdM.asEffect {m : Nat} {W : World} {v : Value} {n : Nat} (h : RdM 10 W v n (mkEffect m)) : ∃ a cap, v = .slice a n cap ∧ ∀ q, q < n → ∃ p, a = some ⟨p, 0, none⟩ ∧ W.cell? ⟨p, q * 10, none⟩ = some (.int .u8 0) ∧ W.cell? ⟨p, q * 10 + 1, none⟩ = some (.string ⟨#[]⟩) ∧ W.cell? ⟨p, q * 10 + 2, none⟩ = some (.int .i64 (-1000 - (m : Int))) ∧ W.cell? ⟨p, q * 10 + 3, none⟩ = some (.int .i64 0) ∧ W.cell? ⟨p, q * 10 + 4, none⟩ = some (.int .u64 0) ∧ W.cell? ⟨p, q * 10 + 5, none⟩ = some (.int .u64 0) ∧ W.cell? ⟨p, q * 10 + 6, none⟩ = some (.slice none 0 0) ∧ W.cell? ⟨p, q * 10 + 7, none⟩ = some (.int .i64 0) ∧ W.cell? ⟨p, q * 10 + 8, none⟩ = some (.string ⟨#[]⟩) ∧ W.cell? ⟨p, q * 10 + 9, none⟩ = some (.int .i64 0) := by
  obtain ⟨a, cap, rfl, hc⟩ := h
  refine ⟨a, cap, rfl, fun q hq => ?_⟩
  have hj : ∀ j, j < 10 → q * 10 + j < n * 10 := fun j hj => by omega
  obtain ⟨p, rfl, _⟩ := hc (q * 10) (by omega)
  have hg : ∀ j, j < 10 → W.cell? ⟨p, q * 10 + j, none⟩ = (mkEffect m)[j]? := fun j hj3 => by
    obtain ⟨p', e, h'⟩ := hc (q * 10 + j) (hj j hj3)
    injection e with e
    injection e with e
    subst e
    rw [h', mks_get (mkEffect_len m) hq hj3]
  exact ⟨p, rfl, hg 0 (by decide), hg 1 (by decide), hg 2 (by decide), hg 3 (by decide), hg 4 (by decide), hg 5 (by decide), hg 6 (by decide), hg 7 (by decide), hg 8 (by decide), hg 9 (by decide)⟩
end Go.Proofs.YtclhmggnkhnnlaaGreatDoor
/- fillEffect of a Book. -/
namespace Go.Proofs.YtclhmggnkhnnlaaGreatDoor
open Go.RowKit

abbrev FlEffect (W wr : World) (B g : Nat) (vb : Value) (hs : List Hc) (k : Nat) : Prop := FlC 260 25 95 10 mkEffect W wr B g vb hs k
set_option maxRecDepth 100000 in
set_option maxHeartbeats 2000000 in
theorem fillEffect_any {W : World} {B g : Nat} {vb : Value} {hs : List Hc} (h : FlEffect W W B g vb hs 0) (s : SepC g vb hs) (hl : ∀ x ∈ hs, x.n ≤ 100000000 ∧ x.m < 1000000000 ∧ ∃ a n c, x.vl = .slice a n c) (hn : hs.length ≤ 1000000) :
    Calls Tryz.prog 59 #[.pointer (some ⟨g, 0, none⟩)] W fun e W' => e = .returned (.tuple #[]) ∧ FlEffect W W' B g vb hs hs.length := by
  have HS := hide s
  have HL := hide hl
  have H0 := hide h
  obtain ⟨av, nv, cv, hv⟩ : ∃ a n' c, vb = .slice a n' c := by
    rcases h.bk.row.2 with ⟨e, _⟩ | ⟨r, cap, cur, e, _⟩ <;> exact ⟨_, _, _, e⟩
  have hnv : nv = hs.length := by
    rcases h.bk.row.2 with ⟨e, e2⟩ | ⟨r, cap, cur, e, _⟩
    · rw [hv] at e; cases e; exact e2.symm
    · rw [hv] at e; cases e; rfl
  subst hv hnv
  clear s hl h
  go_enter Tryz.func59, Tryz.ntmps59
  go_wp2
  go_loopw [2] (fun i wr => ∃ k : Nat, k ≤ hs.length ∧ i = .int .i64 k ∧ FlEffect W wr B g (.slice av hs.length cv) hs k) (fun i _ => hs.length - (intOf i).toNat)
  case atStart => exact ⟨0, Nat.zero_le _, rfl, H0.out⟩
  case round =>
    obtain ⟨k, hk, rfl, hF⟩ := hrel
    have F1 := hide hF
    have c2 := hF.bk.co
    clear hF H0
    by_cases hlt : k < hs.length
    · obtain ⟨r, cap, hv, hr, _, hcap, r0, r1, r2, rs⟩ := F1.out.bk.at hlt
      injection hv with hv1 _ hv3
      subst hv1 hv3
      have hkI : (k : Int) < (hs.length : Int) := by omega
      have dk : decide (k < hs.length) = true := by simp; omega
      have hb1 : Below wr.heap.size wr (wr.alloc (.cells #[hs[k].v, hs[k].vl, .int .i64 hs[k].m] 260)) := (Below.refl _ _).alloc (Nat.le_refl _) _
      have F2 := hide (F1.out.next hb1)
      have hm := (HL.out _ (List.getElem_mem hlt))
      have HM := hide (fun W => markEffect_any hs[k].m hm.2.1 W)
      have HST := hide (fun (w' : World) => F2.out.step (w' := w') HS.out hlt)
      obtain ⟨xo, hold⟩ := F1.out.td k hlt (Nat.le_refl _)
      obtain ⟨xs2, ho⟩ := F2.out.td k hlt (Nat.le_refl _)
      obtain ⟨e0, e1, e2⟩ := boxC wr hs[k].v hs[k].vl (.int .i64 hs[k].m) 260
      clear c2 hb1 HL HS
      generalize hs[k] = x at *
      obtain ⟨v, vl, m, n⟩ := x
      simp only at *
      obtain ⟨hm1, hm2, al, nl, cl, hvl⟩ := hm
      subst hvl
      obtain ⟨a1, c1, hv1⟩ := owR_shape ho
      subst hv1
      have hnc : ¬ (Value.slice a1 n c1).ownBlock = some wr.heap.size := fun e => by have := (World.ownsRow.lt hold _ e).2; omega
      have HO : Hid (FlInC 95 10 (mkEffect m) _ _ B (.slice a1 n c1) n 0) := ⟨⟨xs2, ho⟩, Fr.refl _ _⟩
      generalize hW1 : wr.alloc (.cells #[.slice a1 n c1, .slice al nl cl, .int .i64 m] 260) = W1 at *
      have HW1 := hide hW1
      have c2 := F1.out.bk.co
      clear ho hold hW1
      rw [Nat.mul_comm] at r0 r1 r2
      go_wp2
      rw [HW1.out]
      clear HW1
      generalize wr.heap.size = c at *
      go_loopg [4] n (fun gk j wi => ∃ q : Nat, q + gk = n ∧ j = .int .i64 q ∧ FlInC 95 10 (mkEffect m) W1 wi B (.slice a1 n c1) n q)
      case atStart => exact ⟨0, by omega, rfl, HO.out⟩
      case round =>
        obtain ⟨q, hq, rfl, hin⟩ := hrel
        have hf := hin.fr
        have f0 := hf.cell e0 hnc
        have f2 := hf.cell e2 hnc
        have O2 := hide hin.ow
        have F3 := hide hf
        by_cases hqt : q < n
        · obtain ⟨rr, hrr⟩ := hin.ow
          obtain ⟨b, cb, hvb⟩ := owR_some hrr (by omega)
          injection hvb with e3 e4 e5
          clear e4 hrr
          subst e3 e5
          have hqI : (q : Int) < (n : Int) := by omega
          have dq : decide (q < n) = true := by simp; omega
          have HNC := hide hnc
          have hnb : ¬ (b = c) := fun e => HNC.out (by rw [← e]; rfl)
          clear hin hf e0 e1 e2 r0 r1 r2 c2 rs HST HO hnc
          go_wp2
          go_region_with (go_at_call 165; refine (HM.out _).mono ?_; rintro e w7 ⟨rfl, hb7⟩; have F7 := hide (F3.out.drew.trans (E' := fun _ => False) (Fr.ofBelow hb7) (fun _ _ e => e.elim)); have f70 := (Fr.ofBelow (E := fun _ => False) hb7).cell f0 (fun e => e); have f72 := (Fr.ofBelow (E := fun _ => False) hb7).cell f2 (fun e => e); obtain ⟨⟨u0, u1, u2, u3, u4, u5, u6, u7, u8, u9, v0, v1, v2, v3, v4, v5, v6, v7, v8, v9⟩, vf, vn⟩ := fillEffect (mkEffect_len m) (O2.out.imp fun _ hx => owR_below (World.ownsRow.drew hx) hb7) hqt; have V0 := vf (q * 10); have V1 := vf (q * 10 + 1); have V2 := vf (q * 10 + 2); have V3 := vf (q * 10 + 3); have V4 := vf (q * 10 + 4); have V5 := vf (q * 10 + 5); have V6 := vf (q * 10 + 6); have V7 := vf (q * 10 + 7); have V8 := vf (q * 10 + 8); have V9 := vf (q * 10 + 9); have VN := hide (vn _ _ _ _ _ _ _ _ _ _ rfl _ F7.out); clear vf vn hb7)
          all_goals
            go_wp2
            go_roundg (gk - 1)
            case measure => omega
            case rel => exact ⟨q + 1, by omega, by go_num, VN.out⟩
        · obtain rfl : q = n := by omega
          have dq : decide (q < q) = false := by simp
          have R5 := hide (HST.out wr F3.out (by obtain ⟨rest, hx⟩ := O2.out; have hl := hx.1; rw [List.length_append, mks_length (mkEffect_len m)] at hl; have hr : rest = [] := List.length_eq_zero_iff.1 (by omega); rw [hr, List.append_nil] at hx; exact hx))
          clear hin hf e0 e1 e2 r0 r1 r2 c2 rs HST HO hnc O2 F3
          go_wp2
          exact ⟨⟨k + 1, by omega, by go_num, R5.out⟩, by simp [intOf]; omega⟩
    · have dk : decide (k < hs.length) = false := by simp; omega
      obtain rfl : k = hs.length := by omega
      go_wp2
      go_end0
      exact ⟨rfl, F1.out⟩
end Go.Proofs.YtclhmggnkhnnlaaGreatDoor
