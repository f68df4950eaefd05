/- The walk of the document's own Check. -/
import Derived.Test.YthkhdmdllhbfeaaNRefOm
namespace Go.Proofs.Ythkhdmdllhbfeaa
open Go.RowKit

theorem refCheck_no (n hi lo : Int) (w : World) (h : ¬ (1 ≤ n ∧ n ≤ 128)) :
    Calls Try.prog 28 #[.agg #[.int .i64 n, .int .u64 hi, .int .u64 lo]] w fun e w' => e = .returned (.bool false) ∧ Below w.heap.size w w' := by
  go_enter Try.func28, Try.ntmps28
  go_wp2_with fail
  refine (refOf_no n hi lo _ h).mono ?_
  rintro e w1 ⟨rfl, hb1⟩
  obtain ⟨hc, hf⟩ := bcell hb1
  have hz : w.heap.size < w1.heap.size := by have := hb1.size; simp at this; omega
  go_wp2
  go_ret
  exact ⟨rfl, ((((Below.refl _ _).alloc (Nat.le_refl _) _).trans (hb1.mono (by simp))).alloc (by omega) _)⟩

theorem refCheck_yes (n hi lo : Int) (w : World) (h0 : 1 ≤ n) (h1 : n ≤ 128) (a0 : 0 ≤ hi) (a1 : hi < 18446744073709551616) (b0 : 0 ≤ lo) (b1 : lo < 18446744073709551616) :
    Calls Try.prog 28 #[.agg #[.int .i64 n, .int .u64 hi, .int .u64 lo]] w fun e w' => e = .returned (.bool (cHi n hi == hi && cLo n lo == lo)) ∧ Below w.heap.size w w' := by
  cases e1 : (cHi n hi == hi) <;> cases e2 : (cLo n lo == lo)
  all_goals
    go_enter Try.func28, Try.ntmps28
    go_wp2_with fail
    refine (refOf_yes n hi lo _ h0 h1 a0 a1 b0 b1).mono ?_
    rintro e w1 ⟨rfl, hb1⟩
    obtain ⟨hc, hf⟩ := bcell hb1
    have hz : w.heap.size < w1.heap.size := by have := hb1.size; simp at this; omega
    go_wp2
    go_ret
    exact ⟨rfl, ((((Below.refl _ _).alloc (Nat.le_refl _) _).trans (hb1.mono (by simp))).alloc (by omega) _)⟩

theorem refCheck_any (n hi lo : Int) (w : World) (a0 : 0 ≤ hi) (a1 : hi < 18446744073709551616) (b0 : 0 ≤ lo) (b1 : lo < 18446744073709551616) :
    Calls Try.prog 28 #[.agg #[.int .i64 n, .int .u64 hi, .int .u64 lo]] w fun e w' =>
      e = .returned (.bool (okB n hi lo)) ∧ Below w.heap.size w w' := by
  by_cases h : 1 ≤ n ∧ n ≤ 128
  · have e : okB n hi lo = (cHi n hi == hi && cLo n lo == lo) := by unfold okB; rw [mayBe_yes h.1 h.2]; rfl
    rw [e]
    exact refCheck_yes n hi lo w h.1 h.2 a0 a1 b0 b1
  · have e : okB n hi lo = false := by unfold okB; rw [mayBe_no h]; rfl
    rw [e]
    exact refCheck_no n hi lo w h
end Go.Proofs.Ythkhdmdllhbfeaa
