/- The walks of package bits' small functions: widthMayBe, lowest, cut, Of. -/
import Derived.Test.YthkhdmdllhbfeaaProg
import Derived.Test.YthkhdmdllhbfeaaMath
import Derived.WalkKit
import Derived.WalkSpells
import Derived.WalkLawsBesides
import Derived.Laws.Pointers
import Derived.Laws.ResultCell
namespace Go.Proofs.Ythkhdmdllhbfeaa
open Go.RowKit

theorem ret_int {k : IntKind} {a b : Int} (h : a = b) : Ending.returned (.int k a) = .returned (.int k b) := by rw [h]

def mayBe (n : Int) : Bool := decide (1 ≤ n) && decide (n ≤ 128)
theorem mayBe_yes {n : Int} (h1 : 1 ≤ n) (h2 : n ≤ 128) : mayBe n = true := by simp [mayBe, h1, h2]
theorem mayBe_no {n : Int} (h : ¬ (1 ≤ n ∧ n ≤ 128)) : mayBe n = false := by simp [mayBe]; omega

theorem widthMayBe_any (n : Int) (w : World) :
    Calls Try.prog 67 #[.int .i64 n] w fun e w' => e = .returned (.bool (mayBe n)) ∧ w' = w := by
  by_cases h1 : 1 ≤ n
  · by_cases h2 : n ≤ 128
    · go_enter Try.func67, Try.ntmps67
      go_wp2
      go_ret
      exact ⟨by rw [mayBe_yes h1 h2]; simp, rfl⟩
    · go_enter Try.func67, Try.ntmps67
      go_wp2
      go_ret
      exact ⟨by rw [mayBe_no (by omega)]; simp, rfl⟩
  · go_enter Try.func67, Try.ntmps67
    go_wp2
    go_ret
    exact ⟨by rw [mayBe_no (by omega)]; simp, rfl⟩

theorem lowest_any (n : Int) (w : World) (h0 : 0 ≤ n) (h1 : n ≤ 64) :
    Calls Try.prog 84 #[.int .i64 n] w fun e w' => e = .returned (.int .u64 (low n)) ∧ w' = w := by
  have H : Hid (IntKind.u64.wrap (IntKind.u64.wrap (2 ^ n.toNat) - 1) = low n) := wrap_low n h0 h1
  go_enter Try.func84, Try.ntmps84
  go_wp2
  go_ret
  exact ⟨ret_int H.out, rfl⟩

def bitsV (n hi lo : Int) : Value := .agg #[.int .i64 n, .int .u64 hi, .int .u64 lo]
theorem ret_bits {n a b c d : Int} (h : a = c) (h2 : b = d) : Ending.returned (.agg #[.int .i64 n, .int .u64 a, .int .u64 b]) = .returned (.agg #[.int .i64 n, .int .u64 c, .int .u64 d]) := by rw [h, h2]

theorem cut_any (n hi lo : Int) (w : World) (h0 : 1 ≤ n) (h1 : n ≤ 128) (a0 : 0 ≤ hi) (a1 : hi < 18446744073709551616) (b0 : 0 ≤ lo) (b1 : lo < 18446744073709551616) :
    Calls Try.prog 68 #[.int .i64 n, .int .u64 hi, .int .u64 lo] w fun e w' =>
      e = .returned (.agg #[.int .i64 n, .int .u64 (cHi n hi), .int .u64 (cLo n lo)]) ∧ Below w.heap.size w w' := by
  by_cases h : n ≤ 64
  · go_enter Try.func68, Try.ntmps68
    go_wp2_with (go_at_call 84; refine (lowest_any _ _ (by omega) (by omega)).mono ?_; rintro e w' ⟨rfl, rfl⟩)
    refine bodyPost_ret (v := .agg #[.int .i64 n, .int .u64 0, .int .u64 (bits .and .u64 lo (low n))]) (by simp [results, Try.results68, go_sem]) rfl ⟨ret_bits (cHi_le h).symm (by rw [and_low n lo (by omega) h b0 b1, cLo_le h]), ?_⟩
    exact (Below.refl _ _).alloc (Nat.le_refl _) _
  · go_enter Try.func68, Try.ntmps68
    go_wp2_with (go_at_call 84; refine (lowest_any _ _ (by omega) (by omega)).mono ?_; rintro e w' ⟨rfl, rfl⟩)
    refine bodyPost_ret (v := .agg #[.int .i64 n, .int .u64 (bits .and .u64 hi (low (n - 64))), .int .u64 lo]) (by simp [results, Try.results68, go_sem]) rfl ⟨ret_bits (by rw [and_low (n - 64) hi (by omega) (by omega) a0 a1, cHi_gt (by omega)]) (cLo_gt (by omega)).symm, ?_⟩
    exact (Below.refl _ _).alloc (Nat.le_refl _) _
end Go.Proofs.Ythkhdmdllhbfeaa
