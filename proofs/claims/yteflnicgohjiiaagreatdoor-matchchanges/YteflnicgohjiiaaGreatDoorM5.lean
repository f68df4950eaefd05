/- Pieces of the proof: MtD, MtE. -/
import Derived.Test.YteflnicgohjiiaaGreatDoorM4
/- package match: prefixes. -/
namespace Go.Proofs.YteflnicgohjiiaaGreatDoor
open Go.RowKit

theorem from_is {a n b : Int} {t : Bool} (h : fromB a n b = t) (w : World) : Calls Tryz.prog 211 #[.int .i64 a, .int .i64 n, .int .i64 b] w fun e w' => e = .returned (.bool t) ∧ w' = w := by
  have := from_any a n b w
  rw [h] at this
  exact this
theorem hold4 {B : Nat} {w0 W w1 : World} {b : Nat} {x y z u : Value} {o1 o2 o3 o4 : Nat} (hb : Below W.heap.size W w1) (hS : W.cell? ⟨b, o1, none⟩ = some x ∧ W.cell? ⟨b, o2, none⟩ = some y ∧ W.cell? ⟨b, o3, none⟩ = some z ∧ W.cell? ⟨b, o4, none⟩ = some u ∧ Below B w0 W) (hB : B ≤ w0.heap.size) :
    w1.cell? ⟨b, o1, none⟩ = some x ∧ w1.cell? ⟨b, o2, none⟩ = some y ∧ w1.cell? ⟨b, o3, none⟩ = some z ∧ w1.cell? ⟨b, o4, none⟩ = some u ∧ Below B w0 w1 := by
  obtain ⟨h1, h2, h3, h4, h⟩ := hS
  have hlt : b < W.heap.size := by have := World.block_lt_of_cell? W _ h1; exact this
  have hz := h.size
  exact ⟨(hb.cell hlt).trans h1, (hb.cell hlt).trans h2, (hb.cell hlt).trans h3, (hb.cell hlt).trans h4, h.trans (hb.mono (by omega))⟩
set_option maxHeartbeats 2000000 in
theorem isPrefix_any (x : Mx) (n : Int) (hn : n < 9223372036854775808) : Pure 236 #[x.val, .int .i64 n] (.bool (fromB 0 x.len n && covB (fstB n x.len) x.v)) := fun w => by
  cases ef : fromB 0 x.len n
  · have HF : Hid (∀ W, _) := fun W => from_is ef W
    clear ef
    obtain ⟨⟨vw, vh, vl⟩, ⟨mw, mh, ml⟩, len⟩ := x
    simp only [Mx.val, Bool.false_and] at *
    go_enter Tryz.func236, Tryz.ntmps236
    go_wp2
    go_quiet ((go_at_call 211; exact Calls.quiet_of_same (HF.out _)))
    go_wp2
    go_ret
    exact ⟨rfl, below_drewN (below1 _ _) _⟩
  · have HF : Hid (∀ W, _) := fun W => from_is ef W
    have hr : 0 ≤ x.len ∧ x.len ≤ n := by simpa [fromB] using ef
    have H1 : Hid (Pure _ _ _) := first_any n x.len hr.1 hr.2 hn
    have H2 : Hid (Pure _ _ _) := covers_any (fstB n x.len) x.v
    clear ef hr hn
    generalize covB (fstB n x.len) x.v = t at *
    generalize fstB n x.len = f at *
    obtain ⟨⟨vw, vh, vl⟩, ⟨mw, mh, ml⟩, len⟩ := x
    obtain ⟨fw, fh, fl⟩ := f
    simp only [Mx.val, Nb.val, Bool.true_and] at *
    go_enter Tryz.func236, Tryz.ntmps236
    go_wp2
    go_region_held3 (fun w' => w'.cell? ⟨w.heap.size, 0, none⟩ = some (.int .i64 vw) ∧ w'.cell? ⟨w.heap.size, 1, none⟩ = some (.int .u64 vh) ∧ w'.cell? ⟨w.heap.size, 2, none⟩ = some (.int .u64 vl) ∧ w'.cell? ⟨w.heap.size, 6, none⟩ = some (.int .i64 len) ∧ Below (w.heap.size + 1) (w.alloc (.cells #[.int .i64 vw, .int .u64 vh, .int .u64 vl, .int .i64 mw, .int .u64 mh, .int .u64 ml, .int .i64 len] 105)) w') (first | exact hold4 (by assumption) (by assumption) (by simp) | (refine ⟨?_, ?_, ?_, ?_, ?_⟩ <;> first | exact (Below.refl _ _).drew | simp [go_sem]))
      (first
        | (go_at_call 211; refine (HF.out _).mono ?_; rintro e w' ⟨rfl, rfl⟩)
        | (go_at_call 251; refine (H1.out _).mono ?_; rintro e w1 ⟨rfl, hb⟩)
        | (go_at_call 239; refine (H2.out _).mono ?_; rintro e w1 ⟨rfl, hb⟩))
    all_goals (rename_i hk; go_wp2; go_ret; exact ⟨rfl, (below1 _ _).trans (hk.2.2.2.2.mono (by simp))⟩)
theorem hold5 {B : Nat} {w0 W w1 : World} {b b2 : Nat} {x y z u p q r : Value} {o1 o2 o3 o4 o5 o6 o7 : Nat} (hb : Below W.heap.size W w1) (hS : W.cell? ⟨b, o1, none⟩ = some x ∧ W.cell? ⟨b, o2, none⟩ = some y ∧ W.cell? ⟨b, o3, none⟩ = some z ∧ W.cell? ⟨b, o4, none⟩ = some u ∧ W.cell? ⟨b2, o5, none⟩ = some p ∧ W.cell? ⟨b2, o6, none⟩ = some q ∧ W.cell? ⟨b2, o7, none⟩ = some r ∧ Below B w0 W) (hB : B ≤ w0.heap.size) :
    w1.cell? ⟨b, o1, none⟩ = some x ∧ w1.cell? ⟨b, o2, none⟩ = some y ∧ w1.cell? ⟨b, o3, none⟩ = some z ∧ w1.cell? ⟨b, o4, none⟩ = some u ∧ w1.cell? ⟨b2, o5, none⟩ = some p ∧ w1.cell? ⟨b2, o6, none⟩ = some q ∧ w1.cell? ⟨b2, o7, none⟩ = some r ∧ Below B w0 w1 := by
  obtain ⟨h1, h2, h3, h4, h5, h6, h7, h⟩ := hS
  have hlt : b < W.heap.size := by have := World.block_lt_of_cell? W _ h1; exact this
  have hlt2 : b2 < W.heap.size := by have := World.block_lt_of_cell? W _ h5; exact this
  have hz := h.size
  exact ⟨(hb.cell hlt).trans h1, (hb.cell hlt).trans h2, (hb.cell hlt).trans h3, (hb.cell hlt).trans h4, (hb.cell hlt2).trans h5, (hb.cell hlt2).trans h6, (hb.cell hlt2).trans h7, h.trans (hb.mono (by omega))⟩
set_option maxHeartbeats 2000000 in
theorem begins_any (x : Mx) (key : Nb) (hn : key.w < 9223372036854775808) : Pure 237 #[x.val, key.val] (.bool (matK 2 x key)) := fun w => by
  simp only [matK]
  cases ef : fromB 0 x.len key.w
  · have HF : Hid (∀ W, _) := fun W => from_is ef W
    clear ef hn
    obtain ⟨⟨vw, vh, vl⟩, ⟨mw, mh, ml⟩, len⟩ := x
    obtain ⟨kw, kh, kl⟩ := key
    simp only [Mx.val, Nb.val, Bool.false_and] at *
    go_enter Tryz.func237, Tryz.ntmps237
    go_wp2
    go_quiet ((go_at_call 211; exact Calls.quiet_of_same (HF.out _)))
    go_wp2
    go_ret
    exact ⟨rfl, below_drewN (below2 _ _ _) _⟩
  · have HF : Hid (∀ W, _) := fun W => from_is ef W
    have hr : 0 ≤ x.len ∧ x.len ≤ key.w := by simpa [fromB] using ef
    have H1 : Hid (Pure _ _ _) := first_any key.w x.len hr.1 hr.2 hn
    have H2 : Hid (Pure _ _ _) := alike_any key x.v (fstB key.w x.len)
    clear ef hr hn
    generalize aliB key x.v (fstB key.w x.len) = t at *
    generalize fstB key.w x.len = f at *
    obtain ⟨⟨vw, vh, vl⟩, ⟨mw, mh, ml⟩, len⟩ := x
    obtain ⟨kw, kh, kl⟩ := key
    obtain ⟨fw, fh, fl⟩ := f
    simp only [Mx.val, Nb.val, Bool.true_and] at *
    go_enter Tryz.func237, Tryz.ntmps237
    go_wp2
    go_region_held3 (fun w' => w'.cell? ⟨w.heap.size, 0, none⟩ = some (.int .i64 vw) ∧ w'.cell? ⟨w.heap.size, 1, none⟩ = some (.int .u64 vh) ∧ w'.cell? ⟨w.heap.size, 2, none⟩ = some (.int .u64 vl) ∧ w'.cell? ⟨w.heap.size, 6, none⟩ = some (.int .i64 len) ∧ w'.cell? ⟨w.heap.size + 1, 0, none⟩ = some (.int .i64 kw) ∧ w'.cell? ⟨w.heap.size + 1, 1, none⟩ = some (.int .u64 kh) ∧ w'.cell? ⟨w.heap.size + 1, 2, none⟩ = some (.int .u64 kl) ∧ Below (w.heap.size + 2) ((w.alloc (.cells #[.int .i64 vw, .int .u64 vh, .int .u64 vl, .int .i64 mw, .int .u64 mh, .int .u64 ml, .int .i64 len] 105)).alloc (.cells #[.int .i64 kw, .int .u64 kh, .int .u64 kl] 86)) w') (first | exact hold5 (by assumption) (by assumption) (by simp) | (refine ⟨?_, ?_, ?_, ?_, ?_, ?_, ?_, ?_⟩ <;> first | exact (Below.refl _ _).drew | simp [go_sem]))
      (first
        | (go_at_call 211; refine (HF.out _).mono ?_; rintro e w' ⟨rfl, rfl⟩)
        | (go_at_call 251; refine (H1.out _).mono ?_; rintro e w1 ⟨rfl, hb⟩)
        | (go_at_call 241; refine (H2.out _).mono ?_; rintro e w1 ⟨rfl, hb⟩))
    all_goals (rename_i hk; go_wp2; go_ret; exact ⟨rfl, (below2 _ _ _).trans (hk.2.2.2.2.2.2.2.mono (by simp))⟩)
theorem prefixMay_any (x : Mx) (n : Int) (hn : n < 9223372036854775808) : Pure 235 #[x.val, .int .i64 n] (.bool (mayK 2 x n)) := fun w => by
  have HP : Hid (Pure _ _ _) := isPrefix_any x n hn
  clear hn
  simp only [mayK, Nb.eq, nb0]
  generalize (fromB 0 x.len n && covB (fstB n x.len) x.v) = t at *
  obtain ⟨⟨vw, vh, vl⟩, ⟨mw, mh, ml⟩, len⟩ := x
  simp only [Mx.val] at *
  cases e1 : (mw == 0) <;> cases e2 : (mh == 0) <;> cases e3 : (ml == 0)
  all_goals
    go_enter Tryz.func235, Tryz.ntmps235
    go_wp2_with (go_at_call 236; refine (HP.out _).mono ?_; rintro e w1 ⟨rfl, hb⟩)
    go_ret
    first | exact ⟨rfl, below1 _ _⟩ | exact ⟨by simp, bstep (below1 _ _) hb⟩
end Go.Proofs.YteflnicgohjiiaaGreatDoor
/- package match: tables that may be. -/
namespace Go.Proofs.YteflnicgohjiiaaGreatDoor
open Go.RowKit

/- Whole numbers that can be read. -/
/- A table as it lies. -/
structure TbL where
  t : Tb
  ka : Option Addr
  kc : Nat
  wa : Option Addr
  wc : Nat
def TbL.val (x : TbL) : Value := .agg #[.slice x.ka x.t.ks.length x.kc, .slice x.wa x.t.ws.length x.wc, .int .i64 x.t.size]
structure TbR (W : World) (x : TbL) : Prop where
  ks : RdA W x.ka x.t.ks
  ws : RdZ W x.wa x.t.ws
  kn : x.t.ks.length ≤ 140737488355328
  wn : x.t.ws.length ≤ 140737488355328
  wr : ∀ n ∈ x.t.ws, i64R n
theorem TbR.below {W W' : World} {x : TbL} (h : TbR W x) (hb : Below W.heap.size W W') : TbR W' x := ⟨h.ks.below hb, h.ws.below hb, h.kn, h.wn, h.wr⟩
def kOk (k : Nat) (w : Int) : Bool := decide (1 ≤ k) && (decide (k ≤ 4) && fromB 1 w 128)
def rowsOk : List Nat → List Int → Bool
  | k :: ks, w :: ws => kOk k w && rowsOk ks ws
  | _, _ => true
def twos : List Nat → Nat
  | [] => 0
  | k :: ks => (if k = 2 then 1 else 0) + twos ks
def tabMay (t : Tb) : Bool := (decide (t.ks.length ≤ 64) && (t.ws.length == t.ks.length && fromB 1 t.size 4096)) && (rowsOk t.ks t.ws && decide (twos t.ks ≤ 1))
theorem twos_le (l : List Nat) : twos l ≤ l.length := by
  induction l with
  | nil => exact Nat.le_refl _
  | cons k l ih => simp only [twos, List.length_cons]; split <;> omega
theorem twos_take (l : List Nat) (k : Nat) (h : k < l.length) : twos (l.take (k + 1)) = twos (l.take k) + (if l[k] = 2 then 1 else 0) := by
  induction l generalizing k with
  | nil => simp at h
  | cons x l ih =>
    cases k with
    | zero => simp [twos]
    | succ k => simp only [List.length_cons] at h; simp only [List.take_succ_cons, twos, List.getElem_cons_succ]; rw [ih k (by omega)]; omega
theorem rowsOk_take (l : List Nat) (m : List Int) (k : Nat) (h : k < l.length) (h' : k < m.length) : rowsOk (l.take (k + 1)) (m.take (k + 1)) = (rowsOk (l.take k) (m.take k) && kOk l[k] m[k]) := by
  induction l generalizing m k with
  | nil => simp at h
  | cons x l ih =>
    cases m with
    | nil => simp at h'
    | cons y m =>
      cases k with
      | zero => simp [rowsOk]
      | succ k =>
        simp only [List.length_cons] at h h'
        simp only [List.take_succ_cons, rowsOk, List.getElem_cons_succ]
        rw [ih m k (by omega) (by omega), Bool.and_assoc]
theorem rowsOk_no (l : List Nat) (m : List Int) (k : Nat) (h : k < l.length) (h' : k < m.length) (hn : kOk l[k] m[k] = false) : rowsOk l m = false := by
  induction l generalizing m k with
  | nil => simp at h
  | cons x l ih =>
    cases m with
    | nil => simp at h'
    | cons y m =>
      cases k with
      | zero => simp only [List.getElem_cons_zero] at hn; simp [rowsOk, hn]
      | succ k =>
        simp only [List.length_cons] at h h'
        simp only [List.getElem_cons_succ] at hn
        simp [rowsOk, ih m k (by omega) (by omega) hn]
theorem kOk_yes {k : Nat} {w : Int} (h : kOk k w = true) : 1 ≤ k ∧ k ≤ 4 ∧ 1 ≤ w ∧ w ≤ 128 := by
  simp [kOk, fromB] at h; omega
set_option maxHeartbeats 4000000 in
theorem tableMayBe_any (x : TbL) (w : World) (hx : TbR w x) : Calls Tryz.prog 133 #[x.val] w fun e w' => e = .returned (.bool (tabMay x.t)) ∧ Below w.heap.size w w' := by
  obtain ⟨⟨ks, ws, size⟩, ka, kc, wa, wc⟩ := x
  obtain ⟨h1, h2, h3, h4, h5⟩ := hx
  simp only [TbL.val] at *
  by_cases l1 : ks.length ≤ 64
  · have d1 : ((ks.length : Int) > 64) = False := by simp; omega
    have d1' : (64 < ks.length) = False := by simp; omega
    by_cases l2 : ws.length = ks.length
    · have HF : Hid (∀ W, _) := fun W => from_any 1 size 4096 W
      have e0 : tabMay ⟨ks, ws, size⟩ = (fromB 1 size 4096 && (rowsOk ks ws && decide (twos ks ≤ 1))) := by simp [tabMay, l1, l2]
      rw [e0]
      clear e0
      cases ef : fromB 1 size 4096
      · rw [ef] at HF
        rw [l2]
        clear l1 l2 h1 h2 h3 h4 h5
        go_enter Tryz.func133, Tryz.ntmps133
        go_wp2_with (go_at_call 211; refine (HF.out _).mono ?_; rintro e w1 ⟨rfl, rfl⟩)
        go_ret
        exact ⟨rfl, below1 _ _⟩
      · rw [ef] at HF
        have HK := hide (h1.below (below1 w (.cells #[.slice ka ks.length kc, .slice wa ws.length wc, .int .i64 size] 25)))
        have HZ := hide (h2.below (below1 w (.cells #[.slice ka ks.length kc, .slice wa ws.length wc, .int .i64 size] 25)))
        have L2 := hide l2
        rw [l2] at HK HZ ⊢
        have HT := hide (twos_le ks)
        have L1 := hide l1
        clear l1 l2 h1 h2 h3 h4 h5
        rw [Bool.true_and]
        go_enter Tryz.func133, Tryz.ntmps133
        go_wp2_with (go_at_call 211; refine (HF.out _).mono ?_; rintro e w1 ⟨rfl, rfl⟩)
        go_loopw [3, 28] (fun n i wr => ∃ k : Nat, k ≤ ks.length ∧ i = .int .i64 k ∧ n = .int .i64 ((twos (ks.take k) : Nat) : Int) ∧ rowsOk (ks.take k) (ws.take k) = true ∧ wr = w.alloc (.cells #[.slice ka ks.length kc, .slice wa ks.length wc, .int .i64 size] 25)) (fun _ i _ => ks.length - (intOf i).toNat)
        case atStart => exact ⟨0, by omega, rfl, rfl, by simp [rowsOk], rfl⟩
        case round =>
          obtain ⟨k, hk, rfl, rfl, hr, hwr⟩ := hrel
          subst wr
          by_cases hlt : k < ks.length
          · have hlt' : k < ws.length := by have := L2.out; omega
            obtain ⟨p, off, rfl, hp, hcl⟩ := HK.out.some (by omega)
            obtain ⟨p', off', rfl, hp', hcl'⟩ := HZ.out.some (by omega)
            have q0 := hcl k hlt
            have q1 := hcl' k hlt'
            have hlI : (k : Int) < (ks.length : Int) := by omega
            have HR := hide hr
            clear hcl hcl' hr
            have HN := hide (rowsOk_no ks ws k hlt hlt')
            have HS := hide (rowsOk_take ks ws k hlt hlt')
            have HW := hide (twos_take ks k hlt)
            have hkb : k < 64 := by have := L1.out; omega
            generalize ks[k] = c at *
            generalize ws[k] = d at *
            have HFD : Hid (∀ W, _) := fun W => from_any 1 d 128 W
            by_cases c1 : c < 1
            · have e1 : ((c : Int) < 1) = True := by simp; omega
              go_wp2
              go_ret
              exact ⟨by rw [HN.out (by simp [kOk]; omega)]; rfl, below1 _ _⟩
            · have e1 : ((c : Int) < 1) = False := by simp; omega
              by_cases c2 : 4 < c
              · have e2 : ((c : Int) > 4) = True := by simp; omega
                go_wp2
                go_ret
                exact ⟨by rw [HN.out (by simp [kOk]; omega)]; rfl, below1 _ _⟩
              · have e2 : ((c : Int) > 4) = False := by simp; omega
                cases ed : fromB 1 d 128
                · rw [ed] at HFD
                  go_wp2_with (go_at_call 211; refine (HFD.out _).mono ?_; rintro e w1 ⟨rfl, rfl⟩)
                  go_ret
                  exact ⟨by rw [HN.out (by simp [kOk, ed])]; rfl, below1 _ _⟩
                · rw [ed] at HFD
                  have HKO : Hid (kOk c d = true) := by show _ = _; simp [kOk, ed]; omega
                  by_cases c3 : c = 2
                  · have e3 : ((c : Int) == 2) = true := by simp; omega
                    have hw1 : IntKind.i64.wrap (((twos (ks.take k) : Nat) : Int) + 1) = ((twos (ks.take k) : Nat) : Int) + 1 := by have := twos_le (ks.take k); rw [List.length_take] at this; rw [IntKind.wrap_i64]; omega
                    go_wp2_with (go_at_call 211; refine (HFD.out _).mono ?_; rintro e w1 ⟨rfl, rfl⟩)
                    go_roundw
                    case rel => exact ⟨k + 1, by omega, by go_num, by rw [HW.out, if_pos c3]; rfl, by rw [HS.out, HR.out, HKO.out]; rfl, by first | rfl | trivial⟩
                    case measure => simp [intOf]; omega
                  · have e3 : ((c : Int) == 2) = false := by simp; omega
                    go_wp2_with (go_at_call 211; refine (HFD.out _).mono ?_; rintro e w1 ⟨rfl, rfl⟩)
                    go_roundw
                    case rel => exact ⟨k + 1, by omega, by go_num, by rw [HW.out, if_neg c3]; rfl, by rw [HS.out, HR.out, HKO.out]; rfl, by first | rfl | trivial⟩
                    case measure => simp [intOf]; omega
          · obtain rfl : k = ks.length := by omega
            have hr' : rowsOk ks ws = true := by rw [← L2.out] at hr; have := hr; rw [List.take_length, L2.out, List.take_length] at this; exact this
            have HR' := hide hr'
            rw [List.take_length]
            clear hr hr' hlt hk
            go_wp2
            go_ret
            exact ⟨by rw [HR'.out]; simp; omega, below1 _ _⟩
    · have e0 : tabMay ⟨ks, ws, size⟩ = false := by simp [tabMay, l2]
      rw [e0]
      have d2 : ((ws.length : Int) == (ks.length : Int)) = false := by simp; omega
      have d3 : ((ws.length : Int) = (ks.length : Int)) = False := by simp; omega
      have d4 : (ws.length = ks.length) = False := by simp; omega
      clear l1 l2 h1 h2 h3 h4 h5 e0
      go_enter Tryz.func133, Tryz.ntmps133
      go_wp2
      go_ret
      exact ⟨rfl, below1 _ _⟩
  · have e0 : tabMay ⟨ks, ws, size⟩ = false := by simp [tabMay, l1]
    rw [e0]
    have d1 : ((ks.length : Int) > 64) = True := by simp; omega
    have d1' : (64 < ks.length) = True := by simp; omega
    clear l1 h1 h2 h3 h4 h5 e0
    go_enter Tryz.func133, Tryz.ntmps133
    go_wp2
    go_ret
    exact ⟨rfl, below1 _ _⟩
end Go.Proofs.YteflnicgohjiiaaGreatDoor
