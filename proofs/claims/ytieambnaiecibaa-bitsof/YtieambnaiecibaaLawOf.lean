/- pointsmanlaw01.BitsOf returns true at every width and all bits, and writes nothing that was there: no condition. -/
import Derived.Test.YtieambnaiecibaaRefOf
namespace Go.Proofs.Ytieambnaiecibaa
open Go.RowKit

theorem hold2s {B : Nat} {w0 W w1 : World} {S : World → Prop} (hS : ∀ w', Below B w0 w' → S w') (hb : Below W.heap.size W w1) (h : Below B w0 W) (hB : B ≤ w0.heap.size) : S w1 :=
  hS _ (h.trans (hb.mono (Nat.le_trans hB h.size)))

theorem behind {w W0 w4 : World} (h : Below w.heap.size w W0) (hb : Below W0.heap.size W0 w4) : Below w.heap.size w w4 := h.trans (hb.mono h.size)
theorem cells9 {w1 w2 : World} {A X : Array Value} {a0 a1 a2 b0 b1 b2 x0 x1 x2 : Value} {t : TypeId} (ha : w2.heap[w1.heap.size]? = some (.cells #[a0, a1, a2] t (0, 0))) (hA : A = #[b0, b1, b2]) (hX : X = #[x0, x1, x2]) :
    ∀ w', Below ((w2.alloc (.cells A t)).alloc (.cells X t)).heap.size ((w2.alloc (.cells A t)).alloc (.cells X t)) w' →
      Below ((w2.alloc (.cells A t)).alloc (.cells X t)).heap.size ((w2.alloc (.cells A t)).alloc (.cells X t)) w' ∧
      w'.cell? ⟨w1.heap.size, 0, none⟩ = some a0 ∧ w'.cell? ⟨w1.heap.size, 1, none⟩ = some a1 ∧ w'.cell? ⟨w1.heap.size, 2, none⟩ = some a2 ∧
      w'.cell? ⟨w2.heap.size, 0, none⟩ = some b0 ∧ w'.cell? ⟨w2.heap.size, 1, none⟩ = some b1 ∧ w'.cell? ⟨w2.heap.size, 2, none⟩ = some b2 ∧
      w'.cell? ⟨w2.heap.size + 1, 0, none⟩ = some x0 ∧ w'.cell? ⟨w2.heap.size + 1, 1, none⟩ = some x1 ∧ w'.cell? ⟨w2.heap.size + 1, 2, none⟩ = some x2 := by
  intro w' h
  subst hA hX
  have hlt := lt_of_block ha
  have hs : ((w2.alloc (.cells #[b0, b1, b2] t)).alloc (.cells #[x0, x1, x2] t)).heap.size = w2.heap.size + 2 := by simp
  have k1 : w'.heap[w1.heap.size]? = some (.cells #[a0, a1, a2] t (0, 0)) := by
    rw [h.block _ (by omega), Below.heap_alloc _ _ _ (by simp; omega), Below.heap_alloc _ _ _ hlt]; exact ha
  have k2 : w'.heap[w2.heap.size]? = some (.cells #[b0, b1, b2] t (0, 0)) := by
    rw [h.block _ (by omega), Below.heap_alloc _ _ _ (by simp)]; exact blk_new _ _ _
  have k3 : w'.heap[w2.heap.size + 1]? = some (.cells #[x0, x1, x2] t (0, 0)) := by
    rw [h.block _ (by omega)]
    have := blk_new (w2.alloc (.cells #[b0, b1, b2] t)) #[x0, x1, x2] t
    simpa using this
  obtain ⟨p0, p1, p2, _⟩ := blk3 k1
  obtain ⟨q0, q1, q2, _⟩ := blk3 k2
  obtain ⟨r0, r1, r2, _⟩ := blk3 k3
  exact ⟨h, p0, p1, p2, q0, q1, q2, r0, r1, r2⟩

set_option maxHeartbeats 1000000 in
theorem bitsOf_no (n hi lo : Int) (w : World) (h : ¬ (1 ≤ n ∧ n ≤ 128)) (a0 : 0 ≤ hi) (a1 : hi < 18446744073709551616) (b0 : 0 ≤ lo) (b1 : lo < 18446744073709551616) :
    Calls Try.prog 3 #[.int .i64 n, .int .u64 hi, .int .u64 lo] w fun e w' => e = .returned (.bool true) ∧ Below w.heap.size w w' := by
  go_enter Try.func3, Try.ntmps3
  go_wp2_with fail
  refine (of_no n hi lo _ h).mono ?_
  rintro e w1 ⟨rfl, hb1⟩
  go_wp2_with fail
  refine (refOf_no n hi lo _ h).mono ?_
  rintro e w2 ⟨rfl, hb2⟩
  have hz1 : w.heap.size ≤ w1.heap.size := hb1.size
  have hz2 : w1.heap.size < w2.heap.size := by have := hb2.size; simp at this; omega
  have ha : w2.heap[w1.heap.size]? = some (.cells #[.int .i64 0, .int .u64 0, .int .u64 0] 24 (0, 0)) := (hb2.block _ (by simp)).trans (blk_new _ _ _)
  have HK := cells9 (A := #[.int .i64 0, .int .u64 0, .int .u64 0]) (X := #[.int .i64 n, .int .u64 hi, .int .u64 lo]) ha rfl rfl
  have hw0 : Hid (Below w.heap.size w ((w2.alloc (.cells #[.int .i64 0, .int .u64 0, .int .u64 0] 24)).alloc (.cells #[.int .i64 n, .int .u64 hi, .int .u64 lo] 24))) :=
    ((((hb1.alloc hz1 _).trans (hb2.mono (by simp; omega))).alloc (by omega) _).alloc (by simp; omega) _)
  go_wp2
  generalize ((w2.alloc (.cells #[.int .i64 0, .int .u64 0, .int .u64 0] 24)).alloc (.cells #[.int .i64 n, .int .u64 hi, .int .u64 lo] 24)) = W0 at *
  have HK' := HK
  have HH : Hid (∀ w', Below W0.heap.size W0 w' → _) := HK'
  clear HK HK' ha hb1 hb2
  go_region_held3 (fun w' => Below W0.heap.size W0 w' ∧ w'.cell? ⟨w1.heap.size, 0, none⟩ = some (.int .i64 0) ∧ w'.cell? ⟨w1.heap.size, 1, none⟩ = some (.int .u64 0) ∧ w'.cell? ⟨w1.heap.size, 2, none⟩ = some (.int .u64 0) ∧ w'.cell? ⟨w2.heap.size, 0, none⟩ = some (.int .i64 0) ∧ w'.cell? ⟨w2.heap.size, 1, none⟩ = some (.int .u64 0) ∧ w'.cell? ⟨w2.heap.size, 2, none⟩ = some (.int .u64 0) ∧ w'.cell? ⟨w2.heap.size + 1, 0, none⟩ = some (.int .i64 n) ∧ w'.cell? ⟨w2.heap.size + 1, 1, none⟩ = some (.int .u64 hi) ∧ w'.cell? ⟨w2.heap.size + 1, 2, none⟩ = some (.int .u64 lo)) (first | exact hold2s HH.out (by assumption) (And.left (by assumption)) (Nat.le_refl _) | exact HH.out _ (Below.refl _ _).drew)
    (first
      | (go_at_call 7; refine (check_any n hi lo _ a0 a1 b0 b1).mono ?_; rintro e w3 ⟨rfl, hb3⟩)
      | (go_at_call 8; refine (refCheck_any n hi lo _ a0 a1 b0 b1).mono ?_; rintro e w4 ⟨rfl, hb4⟩))
  all_goals (go_wp2; go_ret; exact ⟨rfl, behind hw0.out (And.left (by assumption))⟩)

set_option maxHeartbeats 1000000 in
theorem bitsOf_yes (n hi lo : Int) (w : World) (h0 : 1 ≤ n) (h1 : n ≤ 128) (a0 : 0 ≤ hi) (a1 : hi < 18446744073709551616) (b0 : 0 ≤ lo) (b1 : lo < 18446744073709551616) :
    Calls Try.prog 3 #[.int .i64 n, .int .u64 hi, .int .u64 lo] w fun e w' => e = .returned (.bool true) ∧ Below w.heap.size w w' := by
  go_enter Try.func3, Try.ntmps3
  go_wp2_with fail
  refine (of_yes n hi lo _ h0 h1 a0 a1 b0 b1).mono ?_
  rintro e w1 ⟨rfl, hb1⟩
  go_wp2_with fail
  refine (refOf_yes n hi lo _ h0 h1 a0 a1 b0 b1).mono ?_
  rintro e w2 ⟨rfl, hb2⟩
  have hz1 : w.heap.size ≤ w1.heap.size := hb1.size
  have hz2 : w1.heap.size < w2.heap.size := by have := hb2.size; simp at this; omega
  have ha : w2.heap[w1.heap.size]? = some (.cells #[.int .i64 n, .int .u64 (cHi n hi), .int .u64 (cLo n lo)] 24 (0, 0)) := (hb2.block _ (by simp)).trans (blk_new _ _ _)
  have HK := cells9 (A := #[.int .i64 n, .int .u64 (cHi n hi), .int .u64 (cLo n lo)]) (X := #[.int .i64 n, .int .u64 hi, .int .u64 lo]) ha rfl rfl
  have hw0 : Hid (Below w.heap.size w ((w2.alloc (.cells #[.int .i64 n, .int .u64 (cHi n hi), .int .u64 (cLo n lo)] 24)).alloc (.cells #[.int .i64 n, .int .u64 hi, .int .u64 lo] 24))) :=
    ((((hb1.alloc hz1 _).trans (hb2.mono (by simp; omega))).alloc (by omega) _).alloc (by simp; omega) _)
  go_wp2
  generalize ((w2.alloc (.cells #[.int .i64 n, .int .u64 (cHi n hi), .int .u64 (cLo n lo)] 24)).alloc (.cells #[.int .i64 n, .int .u64 hi, .int .u64 lo] 24)) = W0 at *
  have HK' := HK
  have HH : Hid (∀ w', Below W0.heap.size W0 w' → _) := HK'
  clear HK HK' ha hb1 hb2
  go_region_held3 (fun w' => Below W0.heap.size W0 w' ∧ w'.cell? ⟨w1.heap.size, 0, none⟩ = some (.int .i64 n) ∧ w'.cell? ⟨w1.heap.size, 1, none⟩ = some (.int .u64 (cHi n hi)) ∧ w'.cell? ⟨w1.heap.size, 2, none⟩ = some (.int .u64 (cLo n lo)) ∧ w'.cell? ⟨w2.heap.size, 0, none⟩ = some (.int .i64 n) ∧ w'.cell? ⟨w2.heap.size, 1, none⟩ = some (.int .u64 (cHi n hi)) ∧ w'.cell? ⟨w2.heap.size, 2, none⟩ = some (.int .u64 (cLo n lo)) ∧ w'.cell? ⟨w2.heap.size + 1, 0, none⟩ = some (.int .i64 n) ∧ w'.cell? ⟨w2.heap.size + 1, 1, none⟩ = some (.int .u64 hi) ∧ w'.cell? ⟨w2.heap.size + 1, 2, none⟩ = some (.int .u64 lo)) (first | exact hold2s HH.out (by assumption) (And.left (by assumption)) (Nat.le_refl _) | exact HH.out _ (Below.refl _ _).drew)
    (first
      | (go_at_call 7; refine (check_any n hi lo _ a0 a1 b0 b1).mono ?_; rintro e w3 ⟨rfl, hb3⟩)
      | (go_at_call 8; refine (refCheck_any n hi lo _ a0 a1 b0 b1).mono ?_; rintro e w4 ⟨rfl, hb4⟩))
  all_goals (go_wp2; go_ret; exact ⟨rfl, behind hw0.out (And.left (by assumption))⟩)

theorem bitsOf_any (n hi lo : Int) (w : World) (a0 : 0 ≤ hi) (a1 : hi < 18446744073709551616) (b0 : 0 ≤ lo) (b1 : lo < 18446744073709551616) :
    Calls Try.prog 3 #[.int .i64 n, .int .u64 hi, .int .u64 lo] w fun e w' => e = .returned (.bool true) ∧ Below w.heap.size w w' := by
  by_cases h : 1 ≤ n ∧ n ≤ 128
  · exact bitsOf_yes n hi lo w h.1 h.2 a0 a1 b0 b1
  · exact bitsOf_no n hi lo w h a0 a1 b0 b1
end Go.Proofs.Ytieambnaiecibaa
