import Derived.Test.YthkhdmdllhbfeaaWOf
namespace Go.Proofs.Ythkhdmdllhbfeaa
open Go.RowKit
theorem widthMayBe_no (n : Int) (w : World) (h : mayBe n = false) :
    Calls Try.prog 67 #[.int .i64 n] w fun e w' => e = .returned (.bool false) ∧ w' = w := by
  have := widthMayBe_any n w
  rw [h] at this
  exact this

theorem check_not (n hi lo : Int) (w : World) (h : ¬ (1 ≤ n ∧ n ≤ 128)) :
    Calls Try.prog 47 #[.agg #[.int .i64 n, .int .u64 hi, .int .u64 lo]] w fun e w' =>
      e = .returned (.bool false) ∧ Below w.heap.size w w' := by
  have hm := mayBe_no h
  clear h
  go_enter Try.func47, Try.ntmps47
  go_wp2
  go_quiet ((go_at_call 67; exact Calls.quiet_of_same (widthMayBe_no _ _ hm)))
  go_wp2
  go_ret
  exact ⟨rfl, below_drewN ((Below.refl _ _).alloc (Nat.le_refl _) _) _⟩

theorem check_any (n hi lo : Int) (w : World) (a0 : 0 ≤ hi) (a1 : hi < 18446744073709551616) (b0 : 0 ≤ lo) (b1 : lo < 18446744073709551616) :
    Calls Try.prog 47 #[.agg #[.int .i64 n, .int .u64 hi, .int .u64 lo]] w fun e w' =>
      e = .returned (.bool (okB n hi lo)) ∧ Below w.heap.size w w' := by
  by_cases h : 1 ≤ n ∧ n ≤ 128
  · have e : okB n hi lo = (cHi n hi == hi && cLo n lo == lo) := by unfold okB; rw [mayBe_yes h.1 h.2]; rfl
    rw [e]
    exact check_may n hi lo w h.1 h.2 a0 a1 b0 b1
  · have e : okB n hi lo = false := by unfold okB; rw [mayBe_no h]; rfl
    rw [e]
    exact check_not n hi lo w h
end Go.Proofs.Ythkhdmdllhbfeaa
