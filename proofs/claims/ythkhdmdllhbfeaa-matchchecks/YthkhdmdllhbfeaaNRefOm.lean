/- The walk of the document's own Of. -/
import Derived.Test.YthkhdmdllhbfeaaNNumb
namespace Go.Proofs.Ythkhdmdllhbfeaa
open Go.RowKit

theorem refOf_no (n hi lo : Int) (w : World) (h : ¬ (1 ≤ n ∧ n ≤ 128)) :
    Calls Try.prog 50 #[.int .i64 n, .int .u64 hi, .int .u64 lo] w fun e w' =>
      e = .returned (.tuple #[.agg #[.int .i64 0, .int .u64 0, .int .u64 0], .int .i64 1]) ∧ Below w.heap.size w w' := by
  by_cases h1 : n < 1
  · clear h
    go_enter Try.func50, Try.ntmps50
    go_wp2
    refine bodyPost_ret (v := .tuple #[.agg #[.int .i64 0, .int .u64 0, .int .u64 0], .int .i64 1]) (by simp [results, Try.results50, go_sem]) rfl ⟨rfl, ?_⟩
    exact (Below.refl _ _).alloc (Nat.le_refl _) _
  · have h2 : 128 < n := by omega
    clear h
    have h1' : decide (n < 1) = false := by simpa using h1
    go_enter Try.func50, Try.ntmps50
    go_wp2
    refine bodyPost_ret (v := .tuple #[.agg #[.int .i64 0, .int .u64 0, .int .u64 0], .int .i64 1]) (by simp [results, Try.results50, go_sem]) rfl ⟨rfl, ?_⟩
    exact (Below.refl _ _).alloc (Nat.le_refl _) _

/- Number of Bits, with the numbers as cut gives them. -/
theorem refNumber_bits (v : Value) (n hi lo : Int) (w : World) (B : Nat) (h0 : 1 ≤ n) (h1 : n ≤ 128) (a0 : 0 ≤ hi) (b0 : 0 ≤ lo) (b1 : lo < 18446744073709551616)
    (hown : w.ownsRow B 4 1 v (min n 128).toNat ((bitsTo hi lo (min n 128).toNat).map Value.bool)) :
    Calls Try.prog 69 #[v] w fun e w' => e = .returned (.agg #[.int .i64 n, .int .u64 (cHi n hi), .int .u64 (cLo n lo)]) ∧ Below w.heap.size w w' := by
  have e0 : min n 128 = n := Int.min_eq_left h1
  rw [e0] at hown
  have h := refNumber_any v (bitsTo hi lo n.toNat) w (by rw [bitsTo_length]; omega) (brow_of_own hown)
  rw [bitsTo_length, numHi_bits hi lo n (by omega) h1 a0, numLo_bits hi lo n (by omega) b0 b1, Int.toNat_of_nonneg (by omega)] at h
  exact h

theorem refOf_yes (n hi lo : Int) (w : World) (h0 : 1 ≤ n) (h1 : n ≤ 128) (a0 : 0 ≤ hi) (a1 : hi < 18446744073709551616) (b0 : 0 ≤ lo) (b1 : lo < 18446744073709551616) :
    Calls Try.prog 50 #[.int .i64 n, .int .u64 hi, .int .u64 lo] w fun e w' =>
      e = .returned (.tuple #[.agg #[.int .i64 n, .int .u64 (cHi n hi), .int .u64 (cLo n lo)], .int .i64 0]) ∧ Below w.heap.size w w' := by
  have h0' : decide (n < 1) = false := by simp; omega
  have h1' : decide (128 < n) = false := by simp; omega
  go_enter Try.func50, Try.ntmps50
  go_wp2_with fail
  refine (refBits_any n hi lo _ a0 a1 b0 b1).mono ?_
  rintro e w1 ⟨v, rfl, hown, hb1⟩
  have HO := hown
  have HB := hb1
  have HOw : Hid (w1.ownsRow _ 4 1 v (min n 128).toNat ((bitsTo hi lo (min n 128).toNat).map Value.bool)) := HO
  clear hown HO
  go_wp2_with fail
  refine (refNumber_bits v n hi lo _ _ h0 h1 a0 b0 b1 HOw.out).mono ?_
  rintro e w2 ⟨rfl, hb2⟩
  obtain ⟨hc, hf⟩ := bcell (hb1.trans (hb2.mono hb1.size))
  have hz : w.heap.size < w2.heap.size := by have := hb2.size; have := hb1.size; simp at this; omega
  go_wp2
  refine bodyPost_ret (v := .tuple #[.agg #[.int .i64 n, .int .u64 (cHi n hi), .int .u64 (cLo n lo)], .int .i64 0]) (by simp [results, Try.results50, go_sem, hc]) rfl ⟨rfl, ?_⟩
  exact (((((Below.refl _ _).alloc (Nat.le_refl _) _).trans ((hb1.trans (hb2.mono hb1.size)).mono (by simp))).setCell (Nat.le_refl _) _).setCell (Nat.le_refl _) _).setCell (Nat.le_refl _) _
end Go.Proofs.Ythkhdmdllhbfeaa
