/- pointsmanlaw03.SumsSums, walked. -/
import Derived.Test.YtaekdnoondpgnaaSuRefC
import Derived.Test.YtaekdnoondpgnaaSuTwin
namespace Go.Proofs.Ytaekdnoondpgnaa
open Go.RowKit

theorem sums_out (n : Int) (a : Option Addr) (m cap : Nat) (w : World) (h : 1048576 < m) (hm : m ≤ 9223372036854775807) : Calls Try.prog 3 #[.int .i64 n, .slice a m cap] w fun e w' => e = .returned (.bool true) ∧ Below w.heap.size w w' := by
  have HB := hide (beyond_any m hm w)
  rw [decide_eq_true h] at HB
  go_enter Try.func3, Try.ntmps3
  go_wp2_with fail
  refine HB.out.mono ?_
  rintro e w1 ⟨rfl, rfl⟩
  go_wp2
  go_ret
  exact ⟨rfl, (Below.refl _ _).alloc (Nat.le_refl _) _⟩
set_option maxRecDepth 100000 in
set_option maxHeartbeats 4000000 in
theorem sums_walk (n : Int) (a : Option Addr) (cap : Nat) (xs : List Nat) (p q r s : Int) (w : World) (hl : xs.length ≤ 1048576) (hr : RdA w a xs)
    (HS : ∀ (b : Option Addr) (c : Nat) (W : World), RdA W b xs → Calls Try.prog 11 #[.int .i64 n, .slice b xs.length c] W fun e w' => e = .returned (.tuple #[.agg #[.int .i64 p, .int .u64 q, .int .u64 r], .int .i64 s]) ∧ Below W.heap.size W w')
    (HT : ∀ (b : Option Addr) (c : Nat) (W : World), RdA W b xs → Calls Try.prog 12 #[.int .i64 n, .slice b xs.length c] W fun e w' => e = .returned (.tuple #[.agg #[.int .i64 p, .int .u64 q, .int .u64 r], .int .i64 s]) ∧ Below W.heap.size W w') :
    Calls Try.prog 3 #[.int .i64 n, .slice a xs.length cap] w fun e w' => e = .returned (.bool true) ∧ Below w.heap.size w w' := by
  have HB := hide (beyond_any xs.length (by omega) w)
  rw [decide_eq_false (by omega : ¬ 1048576 < xs.length)] at HB
  have HS := hide HS; have HT := hide HT; have HR := hide hr
  clear hr
  go_enter Try.func3, Try.ntmps3
  go_wp2_with fail
  refine HB.out.mono ?_
  rintro e w1 ⟨rfl, hw1⟩
  have B1 : Hid (Below w.heap.size w w1) := by rw [hw1]; exact (Below.refl _ _).alloc (Nat.le_refl _) _
  clear hw1
  go_wp2_with fail
  refine (twin_any a cap xs _ (by omega) (HR.out.below B1.out)).mono ?_
  rintro e w2 ⟨g, c, rfl, ho, hc, hg, hb2⟩
  have O2 := hide ho
  have hcm : c ≤ 9223372036854775807 := by obtain ⟨g', c', e, _, _, _, h⟩ := ho.some8 (by simp); injection e with _ _ e; unfold maxLen at h; omega
  have B2 := hide (B1.out.trans (hb2.mono B1.out.size))
  have hz1 := B1.out.size
  clear ho hb2
  go_wp2_with fail
  have OC : Own8 w2 w1.heap.size (.slice (some ⟨g, 0, none⟩) xs.length c) xs := by
    have := O2.out.cut xs.length (by simp)
    rwa [List.take_left] at this
  refine (HS.out _ c w2 OC.rd.2).mono ?_
  rintro e w3 ⟨rfl, hb3⟩
  have O3 := hide ((O2.out.below hb3).below ((Below.refl _ w3).alloc (Nat.le_refl _) (.cells #[.int .i64 p, .int .u64 q, .int .u64 r] 27)))
  have B3 := hide ((B2.out.trans (hb3.mono B2.out.size)).alloc (Nat.le_trans B2.out.size hb3.size) (.cells #[.int .i64 p, .int .u64 q, .int .u64 r] 27))
  have X3 := hide (x3_new w3 (.int .i64 p) (.int .u64 q) (.int .u64 r) 27)
  clear hb3 OC O2 B2
  go_wp2_with fail
  refine (HT.out _ cap _ (HR.out.below B3.out)).mono ?_
  rintro e w4 ⟨rfl, hb4⟩
  have hz4 : w3.heap.size < w4.heap.size := by have := hb4.size; simp at this; omega
  have X4 := hide ((X3.out.below hb4).below ((Below.refl _ w4).alloc (Nat.le_refl _) (.cells #[.int .i64 p, .int .u64 q, .int .u64 r] 27)))
  have O4 := hide ((O3.out.below hb4).below ((Below.refl _ w4).alloc (Nat.le_refl _) (.cells #[.int .i64 p, .int .u64 q, .int .u64 r] 27)))
  have B4 := hide ((B3.out.trans (hb4.mono B3.out.size)).alloc (Nat.le_trans B3.out.size hb4.size) (.cells #[.int .i64 p, .int .u64 q, .int .u64 r] 27))
  obtain ⟨x1, x2, x3⟩ := X4.out
  clear hb4 O3 B3 X3
  go_wp2_with fail
  refine (left_yes g c a cap xs _ _ (by omega) (HR.out.below B4.out) hc hcm O4.out).mono ?_
  rintro e w5 ⟨rfl, hb5⟩
  go_wp2
  go_ret
  exact ⟨rfl, B4.out.trans (hb5.mono B4.out.size)⟩
theorem sums_yes (n : Int) (a : Option Addr) (cap : Nat) (xs : List Nat) (w : World) (hl : xs.length ≤ 1048576) (hr : RdA w a xs) (hx : ∀ y ∈ xs, y < 256) :
    Calls Try.prog 3 #[.int .i64 n, .slice a xs.length cap] w fun e w' => e = .returned (.bool true) ∧ Below w.heap.size w w' := by
  by_cases h : 1 ≤ n ∧ n ≤ 4
  · exact sums_walk n a cap xs _ _ _ _ w hl hr (fun b c W hW => sum_yes n h.1 h.2 b c xs W hx (by omega) hW) (fun b c W hW => rsum_yes n h.1 h.2 b c xs W hx (by omega) hW)
  · exact sums_walk n a cap xs _ _ _ _ w hl hr (fun b c W _ => sum_no n _ W h) (fun b c W _ => rsum_no n _ W h)
end Go.Proofs.Ytaekdnoondpgnaa
