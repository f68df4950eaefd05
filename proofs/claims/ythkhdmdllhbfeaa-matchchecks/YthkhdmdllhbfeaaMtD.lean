/- package match: prefixes. -/
import Derived.Test.YthkhdmdllhbfeaaMtC
namespace Go.Proofs.Ythkhdmdllhbfeaa
open Go.RowKit

theorem from_is {a n b : Int} {t : Bool} (h : fromB a n b = t) (w : World) : Calls Try.prog 42 #[.int .i64 a, .int .i64 n, .int .i64 b] w fun e w' => e = .returned (.bool t) ∧ w' = w := by
  have := from_any a n b w
  rw [h] at this
  exact this
theorem hold4 {B : Nat} {w0 W w1 : World} {b : Nat} {x y z u : Value} {o1 o2 o3 o4 : Nat} (hb : Below W.heap.size W w1) (hS : W.cell? ⟨b, o1, none⟩ = some x ∧ W.cell? ⟨b, o2, none⟩ = some y ∧ W.cell? ⟨b, o3, none⟩ = some z ∧ W.cell? ⟨b, o4, none⟩ = some u ∧ Below B w0 W) (hB : B ≤ w0.heap.size) :
    w1.cell? ⟨b, o1, none⟩ = some x ∧ w1.cell? ⟨b, o2, none⟩ = some y ∧ w1.cell? ⟨b, o3, none⟩ = some z ∧ w1.cell? ⟨b, o4, none⟩ = some u ∧ Below B w0 w1 := by
  obtain ⟨h1, h2, h3, h4, h⟩ := hS
  have hlt : b < W.heap.size := by have := World.block_lt_of_cell? W _ h1; exact this
  have hz := h.size
  exact ⟨(hb.cell hlt).trans h1, (hb.cell hlt).trans h2, (hb.cell hlt).trans h3, (hb.cell hlt).trans h4, h.trans (hb.mono (by omega))⟩
set_option maxHeartbeats 2000000 in
theorem isPrefix_any (x : Mx) (n : Int) (hn : n < 9223372036854775808) : Pure 75 #[x.val, .int .i64 n] (.bool (fromB 0 x.len n && covB (fstB n x.len) x.v)) := fun w => by
  cases ef : fromB 0 x.len n
  · have HF : Hid (∀ W, _) := fun W => from_is ef W
    clear ef
    obtain ⟨⟨vw, vh, vl⟩, ⟨mw, mh, ml⟩, len⟩ := x
    simp only [Mx.val, Bool.false_and] at *
    go_enter Try.func75, Try.ntmps75
    go_wp2
    go_quiet ((go_at_call 42; exact Calls.quiet_of_same (HF.out _)))
    go_wp2
    go_ret
    exact ⟨rfl, below_drewN (below1 _ _) _⟩
  · have HF : Hid (∀ W, _) := fun W => from_is ef W
    have hr : 0 ≤ x.len ∧ x.len ≤ n := by simpa [fromB] using ef
    have H1 : Hid (Pure _ _ _) := first_any n x.len hr.1 hr.2 hn
    have H2 : Hid (Pure _ _ _) := covers_any (fstB n x.len) x.v
    clear ef hr hn
    generalize covB (fstB n x.len) x.v = t at *
    generalize fstB n x.len = f at *
    obtain ⟨⟨vw, vh, vl⟩, ⟨mw, mh, ml⟩, len⟩ := x
    obtain ⟨fw, fh, fl⟩ := f
    simp only [Mx.val, Nb.val, Bool.true_and] at *
    go_enter Try.func75, Try.ntmps75
    go_wp2
    go_region_held3 (fun w' => w'.cell? ⟨w.heap.size, 0, none⟩ = some (.int .i64 vw) ∧ w'.cell? ⟨w.heap.size, 1, none⟩ = some (.int .u64 vh) ∧ w'.cell? ⟨w.heap.size, 2, none⟩ = some (.int .u64 vl) ∧ w'.cell? ⟨w.heap.size, 6, none⟩ = some (.int .i64 len) ∧ Below (w.heap.size + 1) (w.alloc (.cells #[.int .i64 vw, .int .u64 vh, .int .u64 vl, .int .i64 mw, .int .u64 mh, .int .u64 ml, .int .i64 len] 62)) w') (first | exact hold4 (by assumption) (by assumption) (by simp) | (refine ⟨?_, ?_, ?_, ?_, ?_⟩ <;> first | exact (Below.refl _ _).drew | simp [go_sem]))
      (first
        | (go_at_call 42; refine (HF.out _).mono ?_; rintro e w' ⟨rfl, rfl⟩)
        | (go_at_call 85; refine (H1.out _).mono ?_; rintro e w1 ⟨rfl, hb⟩)
        | (go_at_call 78; refine (H2.out _).mono ?_; rintro e w1 ⟨rfl, hb⟩))
    all_goals (rename_i hk; go_wp2; go_ret; exact ⟨rfl, (below1 _ _).trans (hk.2.2.2.2.mono (by simp))⟩)
theorem hold5 {B : Nat} {w0 W w1 : World} {b b2 : Nat} {x y z u p q r : Value} {o1 o2 o3 o4 o5 o6 o7 : Nat} (hb : Below W.heap.size W w1) (hS : W.cell? ⟨b, o1, none⟩ = some x ∧ W.cell? ⟨b, o2, none⟩ = some y ∧ W.cell? ⟨b, o3, none⟩ = some z ∧ W.cell? ⟨b, o4, none⟩ = some u ∧ W.cell? ⟨b2, o5, none⟩ = some p ∧ W.cell? ⟨b2, o6, none⟩ = some q ∧ W.cell? ⟨b2, o7, none⟩ = some r ∧ Below B w0 W) (hB : B ≤ w0.heap.size) :
    w1.cell? ⟨b, o1, none⟩ = some x ∧ w1.cell? ⟨b, o2, none⟩ = some y ∧ w1.cell? ⟨b, o3, none⟩ = some z ∧ w1.cell? ⟨b, o4, none⟩ = some u ∧ w1.cell? ⟨b2, o5, none⟩ = some p ∧ w1.cell? ⟨b2, o6, none⟩ = some q ∧ w1.cell? ⟨b2, o7, none⟩ = some r ∧ Below B w0 w1 := by
  obtain ⟨h1, h2, h3, h4, h5, h6, h7, h⟩ := hS
  have hlt : b < W.heap.size := by have := World.block_lt_of_cell? W _ h1; exact this
  have hlt2 : b2 < W.heap.size := by have := World.block_lt_of_cell? W _ h5; exact this
  have hz := h.size
  exact ⟨(hb.cell hlt).trans h1, (hb.cell hlt).trans h2, (hb.cell hlt).trans h3, (hb.cell hlt).trans h4, (hb.cell hlt2).trans h5, (hb.cell hlt2).trans h6, (hb.cell hlt2).trans h7, h.trans (hb.mono (by omega))⟩
set_option maxHeartbeats 2000000 in
theorem begins_any (x : Mx) (key : Nb) (hn : key.w < 9223372036854775808) : Pure 76 #[x.val, key.val] (.bool (matK 2 x key)) := fun w => by
  simp only [matK]
  cases ef : fromB 0 x.len key.w
  · have HF : Hid (∀ W, _) := fun W => from_is ef W
    clear ef hn
    obtain ⟨⟨vw, vh, vl⟩, ⟨mw, mh, ml⟩, len⟩ := x
    obtain ⟨kw, kh, kl⟩ := key
    simp only [Mx.val, Nb.val, Bool.false_and] at *
    go_enter Try.func76, Try.ntmps76
    go_wp2
    go_quiet ((go_at_call 42; exact Calls.quiet_of_same (HF.out _)))
    go_wp2
    go_ret
    exact ⟨rfl, below_drewN (below2 _ _ _) _⟩
  · have HF : Hid (∀ W, _) := fun W => from_is ef W
    have hr : 0 ≤ x.len ∧ x.len ≤ key.w := by simpa [fromB] using ef
    have H1 : Hid (Pure _ _ _) := first_any key.w x.len hr.1 hr.2 hn
    have H2 : Hid (Pure _ _ _) := alike_any key x.v (fstB key.w x.len)
    clear ef hr hn
    generalize aliB key x.v (fstB key.w x.len) = t at *
    generalize fstB key.w x.len = f at *
    obtain ⟨⟨vw, vh, vl⟩, ⟨mw, mh, ml⟩, len⟩ := x
    obtain ⟨kw, kh, kl⟩ := key
    obtain ⟨fw, fh, fl⟩ := f
    simp only [Mx.val, Nb.val, Bool.true_and] at *
    go_enter Try.func76, Try.ntmps76
    go_wp2
    go_region_held3 (fun w' => w'.cell? ⟨w.heap.size, 0, none⟩ = some (.int .i64 vw) ∧ w'.cell? ⟨w.heap.size, 1, none⟩ = some (.int .u64 vh) ∧ w'.cell? ⟨w.heap.size, 2, none⟩ = some (.int .u64 vl) ∧ w'.cell? ⟨w.heap.size, 6, none⟩ = some (.int .i64 len) ∧ w'.cell? ⟨w.heap.size + 1, 0, none⟩ = some (.int .i64 kw) ∧ w'.cell? ⟨w.heap.size + 1, 1, none⟩ = some (.int .u64 kh) ∧ w'.cell? ⟨w.heap.size + 1, 2, none⟩ = some (.int .u64 kl) ∧ Below (w.heap.size + 2) ((w.alloc (.cells #[.int .i64 vw, .int .u64 vh, .int .u64 vl, .int .i64 mw, .int .u64 mh, .int .u64 ml, .int .i64 len] 62)).alloc (.cells #[.int .i64 kw, .int .u64 kh, .int .u64 kl] 52)) w') (first | exact hold5 (by assumption) (by assumption) (by simp) | (refine ⟨?_, ?_, ?_, ?_, ?_, ?_, ?_, ?_⟩ <;> first | exact (Below.refl _ _).drew | simp [go_sem]))
      (first
        | (go_at_call 42; refine (HF.out _).mono ?_; rintro e w' ⟨rfl, rfl⟩)
        | (go_at_call 85; refine (H1.out _).mono ?_; rintro e w1 ⟨rfl, hb⟩)
        | (go_at_call 80; refine (H2.out _).mono ?_; rintro e w1 ⟨rfl, hb⟩))
    all_goals (rename_i hk; go_wp2; go_ret; exact ⟨rfl, (below2 _ _ _).trans (hk.2.2.2.2.2.2.2.mono (by simp))⟩)
theorem prefixMay_any (x : Mx) (n : Int) (hn : n < 9223372036854775808) : Pure 74 #[x.val, .int .i64 n] (.bool (mayK 2 x n)) := fun w => by
  have HP : Hid (Pure _ _ _) := isPrefix_any x n hn
  clear hn
  simp only [mayK, Nb.eq, nb0]
  generalize (fromB 0 x.len n && covB (fstB n x.len) x.v) = t at *
  obtain ⟨⟨vw, vh, vl⟩, ⟨mw, mh, ml⟩, len⟩ := x
  simp only [Mx.val] at *
  cases e1 : (mw == 0) <;> cases e2 : (mh == 0) <;> cases e3 : (ml == 0)
  all_goals
    go_enter Try.func74, Try.ntmps74
    go_wp2_with (go_at_call 75; refine (HP.out _).mono ?_; rintro e w1 ⟨rfl, hb⟩)
    go_ret
    first | exact ⟨rfl, below1 _ _⟩ | exact ⟨by simp, bstep (below1 _ _) hb⟩
end Go.Proofs.Ythkhdmdllhbfeaa
