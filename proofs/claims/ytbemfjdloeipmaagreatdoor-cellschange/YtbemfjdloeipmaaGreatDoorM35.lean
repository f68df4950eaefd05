/- Pieces of the proof: BnM, BnFi. -/
import Derived.Test.YtbemfjdloeipmaaGreatDoorM15
import Derived.RegionTactic
import Derived.Deep.LoopGhost
/- A Book's marks of ints and of numbers; one cell, or three, written into a list that is being filled. -/
namespace Go.Proofs.YtbemfjdloeipmaaGreatDoor
open Go.RowKit

theorem row_ty {B e c n : Nat} {W : World} {v : Value} {xs : List Value} (h : W.ownsRow B e c v n xs) {b : Nat} (hb : v.ownBlock = some b) : ∃ cur, W.heap[b]? = some (.cells cur e (0, 0)) := by
  rcases h.2 with ⟨rfl, _⟩ | ⟨g, cap, cur, rfl, _, hh, _⟩
  · cases hb
  · have e : g = b := by simpa [Value.ownBlock] using hb
    subst e
    exact ⟨cur, hh⟩
theorem ty_ne {W : World} {b e e' : Nat} {cur cur' : Array Value} {f f' : Nat × Nat} (h : W.heap[b]? = some (.cells cur e f)) (h' : W.heap[b]? = some (.cells cur' e' f')) : e = e' := by
  rw [h] at h'
  injection h' with h'
  injection h'
theorem boxC (W : World) (a b c : Value) (t : TypeId) : (W.alloc (.cells #[a, b, c] t)).cell? ⟨W.heap.size, 0, none⟩ = some a ∧ (W.alloc (.cells #[a, b, c] t)).cell? ⟨W.heap.size, 1, none⟩ = some b ∧ (W.alloc (.cells #[a, b, c] t)).cell? ⟨W.heap.size, 2, none⟩ = some c := by
  have h : (W.alloc (.cells #[a, b, c] t)).heap[W.heap.size]? = some (.cells #[a, b, c] t (0, 0)) := heap_alloc_new W _
  unfold World.cell?; simp only [h]; exact ⟨rfl, rfl, rfl⟩
def mkInt (m : Nat) : List Value := [.int .i64 (-1000 - (m : Int))]
theorem mkInt_len (m : Nat) : (mkInt m).length = 1 := rfl
def mkNumber (m : Nat) : List Value := [.int .i64 (-1000 - (m : Int)), .int .u64 0, .int .u64 0]
theorem mkNumber_len (m : Nat) : (mkNumber m).length = 3 := rfl
theorem markInt_any (m : Nat) (hm : m < 1000000000) (W : World) : Calls Tryz.prog 140 #[.int .i64 (m : Int)] W fun e w' => e = .returned (.int .i64 (-1000 - (m : Int))) ∧ Below W.heap.size W w' := by
  have hw : IntKind.i64.wrap (-1000 - (m : Int)) = -1000 - (m : Int) := by rw [IntKind.wrap_i64]; omega
  go_enter Tryz.func140, Tryz.ntmps140
  go_wp2
  go_ret
  exact ⟨by first | rfl | (rw [hw]), Below.refl _ _⟩
theorem isInt_any (m : Nat) (hm : m < 1000000000) (W : World) : Calls Tryz.prog 170 #[.int .i64 (-1000 - (m : Int)), .int .i64 (m : Int)] W fun e w' => e = .returned (.bool true) ∧ Below W.heap.size W w' := by
  have hw : IntKind.i64.wrap (-1000 - (m : Int)) = -1000 - (m : Int) := by rw [IntKind.wrap_i64]; omega
  go_enter Tryz.func170, Tryz.ntmps170
  go_wp2
  go_ret
  exact ⟨by first | rfl | simp [hw], Below.refl _ _⟩
theorem markNumber_any (m : Nat) (hm : m < 1000000000) (W : World) : Calls Tryz.prog 145 #[.int .i64 (m : Int)] W fun e w' => e = .returned (.agg #[.int .i64 (-1000 - (m : Int)), .int .u64 0, .int .u64 0]) ∧ Below W.heap.size W w' := by
  have hw : IntKind.i64.wrap (-1000 - (m : Int)) = -1000 - (m : Int) := by rw [IntKind.wrap_i64]; omega
  go_enter Tryz.func145, Tryz.ntmps145
  go_wp2
  refine bodyPost_ret (v := .agg #[.int .i64 (-1000 - (m : Int)), .int .u64 0, .int .u64 0]) (by simp [results, Tryz.results145, go_sem]) rfl ⟨rfl, ?_⟩
  first
    | exact (Below.refl _ _).alloc (Nat.le_refl _) _
    | exact ((((Below.refl _ _).alloc (Nat.le_refl _) _).setCell (Nat.le_refl _) _).setCell (Nat.le_refl _) _).setCell (Nat.le_refl _) _
theorem isNumber_any (m : Nat) (hm : m < 1000000000) (W : World) : Calls Tryz.prog 175 #[.agg #[.int .i64 (-1000 - (m : Int)), .int .u64 0, .int .u64 0], .int .i64 (m : Int)] W fun e w' => e = .returned (.bool true) ∧ Below W.heap.size W w' := by
  have hw : IntKind.i64.wrap (-1000 - (m : Int)) = -1000 - (m : Int) := by rw [IntKind.wrap_i64]; omega
  go_enter Tryz.func175, Tryz.ntmps175
  go_wp2
  go_ret
  exact ⟨by first | rfl | simp [hw], (Below.refl _ _).alloc (Nat.le_refl _) _⟩
theorem fill1 {et : Nat} {wi : World} {B g n cap q : Nat} {k : List Value} (hk : k.length = 1) (h : ∃ rest, wi.ownsRow B et 1 (.slice (some ⟨g, 0, none⟩) n cap) n (mks k q ++ rest)) (hq : q < n) :
    (∃ r0, wi.cell? ⟨g, q, none⟩ = some r0) ∧
    (∀ j, wi.frozen? ⟨g, j, none⟩ = false) ∧
    ∀ x0, k = [x0] → ∀ W1, Fr (fun b => (Value.slice (some ⟨g, 0, none⟩) n cap).ownBlock = some b) W1 wi → FlInC et 1 k W1 (wi.setCell ⟨g, q, none⟩ x0) B (.slice (some ⟨g, 0, none⟩) n cap) n (q + 1) := by
  obtain ⟨rest, h⟩ := h
  have hl := h.1
  rw [List.length_append, mks_length hk] at hl
  obtain ⟨r0, rest', rfl⟩ : ∃ r0 r, rest = r0 :: r := by
    match rest, hl with
    | [], hl => simp at hl; omega
    | r0 :: r, _ => exact ⟨_, _, rfl⟩
  have hA : q = (mks k q).length := by rw [mks_length hk]; omega
  have hc : wi.cell? ⟨g, q, none⟩ = some r0 := by
    rw [World.ownsRow.cellAt h q (by omega), List.getElem?_append_right (by omega), ← hA, Nat.sub_self]; rfl
  refine ⟨⟨r0, hc⟩, fun j => World.ownsRow.frozenAt h j, fun x0 hx W1 hfr => ⟨⟨rest', ?_⟩, hfr.set ⟨g, q, none⟩ x0 rfl⟩⟩
  have h1 := (World.ownsRow.stored h q x0).1
  have e : (mks k q ++ r0 :: rest').set q x0 = mks k q ++ [x0] ++ rest' := by
    rw [List.set_append_right _ _ (by omega), ← hA, Nat.sub_self]; simp
  rw [e] at h1
  rw [mks_snoc, show mks k q ++ k = mks k q ++ [x0] by rw [← hx]]
  exact h1
theorem fill3 {et : Nat} {wi : World} {B g n cap q : Nat} {k : List Value} (hk : k.length = 3) (h : ∃ rest, wi.ownsRow B et 3 (.slice (some ⟨g, 0, none⟩) n cap) n (mks k q ++ rest)) (hq : q < n) :
    (∃ r0 r1 r2, wi.cell? ⟨g, q * 3, none⟩ = some r0 ∧ wi.cell? ⟨g, q * 3 + 1, none⟩ = some r1 ∧ wi.cell? ⟨g, q * 3 + 2, none⟩ = some r2) ∧
    (∀ j, wi.frozen? ⟨g, j, none⟩ = false) ∧
    ∀ x0 x1 x2, k = [x0, x1, x2] → ∀ W1, Fr (fun b => (Value.slice (some ⟨g, 0, none⟩) n cap).ownBlock = some b) W1 wi → FlInC et 3 k W1 (((wi.setCell ⟨g, q * 3, none⟩ x0).setCell ⟨g, q * 3 + 1, none⟩ x1).setCell ⟨g, q * 3 + 2, none⟩ x2) B (.slice (some ⟨g, 0, none⟩) n cap) n (q + 1) := by
  obtain ⟨rest, h⟩ := h
  have hl := h.1
  rw [List.length_append, mks_length hk] at hl
  obtain ⟨r0, r1, r2, rest', rfl⟩ : ∃ r0 r1 r2 r, rest = r0 :: r1 :: r2 :: r := by
    match rest, hl with
    | [], hl => simp at hl; omega
    | [_], hl => simp at hl; omega
    | [_, _], hl => simp at hl; omega
    | r0 :: r1 :: r2 :: r, _ => exact ⟨_, _, _, _, rfl⟩
  have hA : q * 3 = (mks k q).length := (mks_length hk q).symm
  have hc : ∀ j, j < 3 → wi.cell? ⟨g, q * 3 + j, none⟩ = (r0 :: r1 :: r2 :: rest')[j]? := fun j hj => by
    rw [World.ownsRow.cellAt h (q * 3 + j) (by omega), List.getElem?_append_right (by omega), ← hA, Nat.add_sub_cancel_left]
  refine ⟨⟨r0, r1, r2, hc 0 (by decide), hc 1 (by decide), hc 2 (by decide)⟩, fun j => World.ownsRow.frozenAt h j, fun x0 x1 x2 hx W1 hfr => ⟨⟨rest', ?_⟩, ((hfr.set ⟨g, q * 3, none⟩ x0 rfl).set ⟨g, q * 3 + 1, none⟩ x1 rfl).set ⟨g, q * 3 + 2, none⟩ x2 rfl⟩⟩
  have h1 := (World.ownsRow.stored (World.ownsRow.stored (World.ownsRow.stored h (q * 3) x0).1 (q * 3 + 1) x1).1 (q * 3 + 2) x2).1
  have e : (((mks k q ++ r0 :: r1 :: r2 :: rest').set (q * 3) x0).set (q * 3 + 1) x1).set (q * 3 + 2) x2 = mks k q ++ [x0, x1, x2] ++ rest' := by
    rw [List.set_append_right _ _ (by omega), List.set_append_right _ _ (by omega), List.set_append_right _ _ (by omega), hA]
    simp
  rw [e] at h1
  rw [mks_snoc, show mks k q ++ k = mks k q ++ [x0, x1, x2] by rw [← hx]]
  exact h1
theorem RdM.one {m : Nat} {W : World} {v : Value} {n : Nat} (h : RdM 1 W v n (mkInt m)) : ∃ a cap, v = .slice a n cap ∧ ∀ q, q < n → ∃ p, a = some ⟨p, 0, none⟩ ∧ W.cell? ⟨p, q, none⟩ = some (.int .i64 (-1000 - (m : Int))) := by
  obtain ⟨a, cap, rfl, hc⟩ := h
  refine ⟨a, cap, rfl, fun q hq => ?_⟩
  obtain ⟨p, rfl, h'⟩ := hc q (by omega)
  have e := mks_get (mkInt_len m) (n := n) (q := q) (j := 0) hq (by decide)
  rw [Nat.mul_one, Nat.add_zero] at e
  exact ⟨p, rfl, by rw [h', e]; rfl⟩
theorem RdM.three {m : Nat} {W : World} {v : Value} {n : Nat} (h : RdM 3 W v n (mkNumber m)) : ∃ a cap, v = .slice a n cap ∧ ∀ q, q < n → ∃ p, a = some ⟨p, 0, none⟩ ∧ W.cell? ⟨p, q * 3, none⟩ = some (.int .i64 (-1000 - (m : Int))) ∧ W.cell? ⟨p, q * 3 + 1, none⟩ = some (.int .u64 0) ∧ W.cell? ⟨p, q * 3 + 2, none⟩ = some (.int .u64 0) := by
  obtain ⟨a, cap, rfl, hc⟩ := h
  refine ⟨a, cap, rfl, fun q hq => ?_⟩
  have hj : ∀ j, j < 3 → q * 3 + j < n * 3 := fun j hj => by omega
  obtain ⟨p, rfl, _⟩ := hc (q * 3) (by omega)
  have hg : ∀ j, j < 3 → W.cell? ⟨p, q * 3 + j, none⟩ = (mkNumber m)[j]? := fun j hj3 => by
    obtain ⟨p', e, h'⟩ := hc (q * 3 + j) (hj j hj3)
    injection e with e
    injection e with e
    subst e
    rw [h', mks_get (mkNumber_len m) hq hj3]
  exact ⟨p, rfl, hg 0 (by decide), hg 1 (by decide), hg 2 (by decide)⟩
end Go.Proofs.YtbemfjdloeipmaaGreatDoor
/- fillInt of a Book. -/
namespace Go.Proofs.YtbemfjdloeipmaaGreatDoor
open Go.RowKit

abbrev FlInt (W wr : World) (B g : Nat) (vb : Value) (hs : List Hc) (k : Nat) : Prop := FlC 113 1 3 1 mkInt W wr B g vb hs k
set_option maxRecDepth 100000 in
set_option maxHeartbeats 2000000 in
theorem fillInt_any {W : World} {B g : Nat} {vb : Value} {hs : List Hc} (h : FlInt W W B g vb hs 0) (s : SepC g vb hs) (hl : ∀ x ∈ hs, x.n ≤ 100000000 ∧ x.m < 1000000000 ∧ ∃ a n c, x.vl = .slice a n c) (hn : hs.length ≤ 1000000) :
    Calls Tryz.prog 39 #[.pointer (some ⟨g, 0, none⟩)] W fun e W' => e = .returned (.tuple #[]) ∧ FlInt W W' B g vb hs hs.length := by
  have HS := hide s
  have HL := hide hl
  have H0 := hide h
  obtain ⟨av, nv, cv, hv⟩ : ∃ a n' c, vb = .slice a n' c := by
    rcases h.bk.row.2 with ⟨e, _⟩ | ⟨r, cap, cur, e, _⟩ <;> exact ⟨_, _, _, e⟩
  have hnv : nv = hs.length := by
    rcases h.bk.row.2 with ⟨e, e2⟩ | ⟨r, cap, cur, e, _⟩
    · rw [hv] at e; cases e; exact e2.symm
    · rw [hv] at e; cases e; rfl
  subst hv hnv
  clear s hl h
  go_enter Tryz.func39, Tryz.ntmps39
  go_wp2
  go_loopw [2] (fun i wr => ∃ k : Nat, k ≤ hs.length ∧ i = .int .i64 k ∧ FlInt W wr B g (.slice av hs.length cv) hs k) (fun i _ => hs.length - (intOf i).toNat)
  case atStart => exact ⟨0, Nat.zero_le _, rfl, H0.out⟩
  case round =>
    obtain ⟨k, hk, rfl, hF⟩ := hrel
    have F1 := hide hF
    have c2 := hF.bk.co
    clear hF H0
    by_cases hlt : k < hs.length
    · obtain ⟨r, cap, hv, hr, _, hcap, r0, r1, r2, rs⟩ := F1.out.bk.at hlt
      injection hv with hv1 _ hv3
      subst hv1 hv3
      have hkI : (k : Int) < (hs.length : Int) := by omega
      have dk : decide (k < hs.length) = true := by simp; omega
      have hb1 : Below wr.heap.size wr (wr.alloc (.cells #[hs[k].v, hs[k].vl, .int .i64 hs[k].m] 113)) := (Below.refl _ _).alloc (Nat.le_refl _) _
      have F2 := hide (F1.out.next hb1)
      have hm := (HL.out _ (List.getElem_mem hlt))
      have HM := hide (fun W => markInt_any hs[k].m hm.2.1 W)
      have HST := hide (fun (w' : World) => F2.out.step (w' := w') HS.out hlt)
      obtain ⟨xo, hold⟩ := F1.out.td k hlt (Nat.le_refl _)
      obtain ⟨xs2, ho⟩ := F2.out.td k hlt (Nat.le_refl _)
      obtain ⟨e0, e1, e2⟩ := boxC wr hs[k].v hs[k].vl (.int .i64 hs[k].m) 113
      clear c2 hb1 HL HS
      generalize hs[k] = x at *
      obtain ⟨v, vl, m, n⟩ := x
      simp only at *
      obtain ⟨hm1, hm2, al, nl, cl, hvl⟩ := hm
      subst hvl
      obtain ⟨a1, c1, hv1⟩ := owR_shape ho
      subst hv1
      have hnc : ¬ (Value.slice a1 n c1).ownBlock = some wr.heap.size := fun e => by have := (World.ownsRow.lt hold _ e).2; omega
      have HO : Hid (FlInC 3 1 (mkInt m) _ _ B (.slice a1 n c1) n 0) := ⟨⟨xs2, ho⟩, Fr.refl _ _⟩
      generalize hW1 : wr.alloc (.cells #[.slice a1 n c1, .slice al nl cl, .int .i64 m] 113) = W1 at *
      have HW1 := hide hW1
      have c2 := F1.out.bk.co
      clear ho hold hW1
      rw [Nat.mul_comm] at r0 r1 r2
      go_wp2
      rw [HW1.out]
      clear HW1
      generalize wr.heap.size = c at *
      go_loopg [4] n (fun gk j wi => ∃ q : Nat, q + gk = n ∧ j = .int .i64 q ∧ FlInC 3 1 (mkInt m) W1 wi B (.slice a1 n c1) n q)
      case atStart => exact ⟨0, by omega, rfl, HO.out⟩
      case round =>
        obtain ⟨q, hq, rfl, hin⟩ := hrel
        have hf := hin.fr
        have f0 := hf.cell e0 hnc
        have f2 := hf.cell e2 hnc
        have O2 := hide hin.ow
        have F3 := hide hf
        by_cases hqt : q < n
        · obtain ⟨rr, hrr⟩ := hin.ow
          obtain ⟨b, cb, hvb⟩ := owR_some hrr (by omega)
          injection hvb with e3 e4 e5
          clear e4 hrr
          subst e3 e5
          have hqI : (q : Int) < (n : Int) := by omega
          have dq : decide (q < n) = true := by simp; omega
          have HNC := hide hnc
          have hnb : ¬ (b = c) := fun e => HNC.out (by rw [← e]; rfl)
          clear hin hf e0 e1 e2 r0 r1 r2 c2 rs HST HO hnc
          go_wp2
          go_region_with (go_at_call 140; refine (HM.out _).mono ?_; rintro e w7 ⟨rfl, hb7⟩; have F7 := hide (F3.out.drew.trans (E' := fun _ => False) (Fr.ofBelow hb7) (fun _ _ e => e.elim)); have f70 := (Fr.ofBelow (E := fun _ => False) hb7).cell f0 (fun e => e); have f72 := (Fr.ofBelow (E := fun _ => False) hb7).cell f2 (fun e => e); obtain ⟨⟨u0, v0⟩, vf, vn⟩ := fill1 (mkInt_len m) (O2.out.imp fun _ hx => owR_below (World.ownsRow.drew hx) hb7) hqt; have V0 := vf q; have VN := hide (vn _ rfl _ F7.out); clear vf vn hb7)
          all_goals
            go_wp2
            go_roundg (gk - 1)
            case measure => omega
            case rel => exact ⟨q + 1, by omega, by go_num, VN.out⟩
        · obtain rfl : q = n := by omega
          have dq : decide (q < q) = false := by simp
          have R5 := hide (HST.out wr F3.out (by obtain ⟨rest, hx⟩ := O2.out; have hl := hx.1; rw [List.length_append, mks_length (mkInt_len m)] at hl; have hr : rest = [] := List.length_eq_zero_iff.1 (by omega); rw [hr, List.append_nil] at hx; exact hx))
          clear hin hf e0 e1 e2 r0 r1 r2 c2 rs HST HO hnc O2 F3
          go_wp2
          exact ⟨⟨k + 1, by omega, by go_num, R5.out⟩, by simp [intOf]; omega⟩
    · have dk : decide (k < hs.length) = false := by simp; omega
      obtain rfl : k = hs.length := by omega
      go_wp2
      go_end0
      exact ⟨rfl, F1.out⟩
end Go.Proofs.YtbemfjdloeipmaaGreatDoor
