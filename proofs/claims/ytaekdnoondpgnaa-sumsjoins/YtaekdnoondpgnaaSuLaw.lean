/- pointsmanlaw03: of, alive. -/
import Derived.Test.YtaekdnoondpgnaaSuSum
import Derived.Test.YtaekdnoondpgnaaSuFind
import Derived.Lib.SlBytesConst
namespace Go.Proofs.Ytaekdnoondpgnaa
open Go.RowKit

theorem sum_yes (n : Int) (h0 : 1 ≤ n) (h1 : n ≤ 4) (a : Option Addr) (cap : Nat) (xs : List Nat) (w : World) (hx : ∀ y ∈ xs, y < 256) (hl : xs.length < 140737488355328) (hr : RdA w a xs) :
    Calls Try.prog 11 #[.int .i64 n, .slice a xs.length cap] w fun e w' => e = .returned (.tuple #[.agg #[.int .i64 (widW n), .int .u64 0, .int .u64 ((sumF n xs : Nat) : Int)], .int .i64 0]) ∧ Below w.heap.size w w' := by
  rcases (by omega : n = 1 ∨ n = 2 ∨ n = 3 ∨ n = 4) with rfl | rfl | rfl | rfl
  · exact sum_one a cap xs w hx hl hr
  · exact sum_two a cap xs w hx hl hr
  · exact sum_three a cap xs w hx hl hr
  · exact sum_four a cap xs w hx hl hr
theorem of_law (n : Int) (h0 : 1 ≤ n) (h1 : n ≤ 4) (a : Option Addr) (cap : Nat) (xs : List Nat) (w : World) (hx : ∀ y ∈ xs, y < 256) (hl : xs.length < 140737488355328) (hr : RdA w a xs) :
    Calls Try.prog 23 #[.int .i64 n, .slice a xs.length cap] w fun e w' => e = .returned (.int .u64 ((sumF n xs : Nat) : Int)) ∧ Below w.heap.size w w' := by
  have HS := hide (sum_yes n h0 h1 a cap xs w hx hl hr)
  generalize sumF n xs = V at *
  clear hr
  go_enter Try.func23, Try.ntmps23
  go_wp2_with fail
  refine HS.out.mono ?_
  rintro e w1 ⟨rfl, hb⟩
  go_wp2
  go_ret
  exact ⟨rfl, hb.alloc hb.size _⟩
def x9 : List Nat := [49, 50, 51, 52, 53, 54, 55, 56, 57]
theorem x9_small : ∀ y ∈ x9, y < 256 := by decide
theorem x9_1 : sumF 1 x9 = 47933 := by decide +kernel
theorem x9_2 : sumF 2 x9 = 3421780262 := by decide +kernel
theorem x9_3 : sumF 3 x9 = 63018 := by decide +kernel
theorem x9_4 : sumF 4 x9 = 14600 := by decide +kernel
theorem x9_t : turnF 47201 16401 16145 = 47457 := by decide +kernel
theorem x9_row (w : World) (t : TypeId) : RdA (w.alloc (.cells #[.int .u8 49, .int .u8 50, .int .u8 51, .int .u8 52, .int .u8 53, .int .u8 54, .int .u8 55, .int .u8 56, .int .u8 57] t (9, 10))) (some ⟨w.heap.size, 0, none⟩) x9 := by
  refine .inr ⟨w.heap.size, 0, rfl, by simp, fun i hi => ?_⟩
  have h : (w.alloc (.cells #[.int .u8 49, .int .u8 50, .int .u8 51, .int .u8 52, .int .u8 53, .int .u8 54, .int .u8 55, .int .u8 56, .int .u8 57] t (9, 10))).heap[w.heap.size]? = some (.cells #[.int .u8 49, .int .u8 50, .int .u8 51, .int .u8 52, .int .u8 53, .int .u8 54, .int .u8 55, .int .u8 56, .int .u8 57] t (9, 10)) := heap_alloc_new w _
  unfold World.cell?; simp only [h]
  rcases (by simp [x9] at hi; omega : i = 0 ∨ i = 1 ∨ i = 2 ∨ i = 3 ∨ i = 4 ∨ i = 5 ∨ i = 6 ∨ i = 7 ∨ i = 8) with rfl | rfl | rfl | rfl | rfl | rfl | rfl | rfl | rfl <;> rfl
def x3 (W : World) (b : Nat) (x y z : Value) : Prop := W.cell? ⟨b, 0, none⟩ = some x ∧ W.cell? ⟨b, 1, none⟩ = some y ∧ W.cell? ⟨b, 2, none⟩ = some z
theorem x3.below {W W' : World} {b : Nat} {x y z : Value} (h : x3 W b x y z) (hb : Below W.heap.size W W') : x3 W' b x y z := by
  have hl : b < W.heap.size := World.block_lt_of_cell? W _ h.1
  exact ⟨(hb.cell (p := ⟨b, 0, none⟩) hl).trans h.1, (hb.cell (p := ⟨b, 1, none⟩) hl).trans h.2.1, (hb.cell (p := ⟨b, 2, none⟩) hl).trans h.2.2⟩
theorem x3_new (W : World) (x y z : Value) (t : TypeId) : x3 (W.alloc (.cells #[x, y, z] t)) W.heap.size x y z := ⟨(cells_new3 W x y z t).1, (cells_new3 W x y z t).2.1, (cells_new3 W x y z t).2.2.1⟩
set_option maxRecDepth 100000 in
set_option maxHeartbeats 2000000 in
theorem salive_any (w : World) : Calls Try.prog 22 #[] w fun e w' => e = .returned (.bool true) ∧ Below w.heap.size w w' := by
  have HX := hide (x9_row w 5)
  have HC2 := hide (fun W (h : RdA W (some ⟨w.heap.size, 0, none⟩) x9) => (x9_2 ▸ sum_two (some ⟨w.heap.size, 0, none⟩) 9 x9 W x9_small (by decide) h))
  have HO1 := hide (fun W (h : RdA W (some ⟨w.heap.size, 0, none⟩) x9) => (x9_1 ▸ of_law 1 (by decide) (by decide) (some ⟨w.heap.size, 0, none⟩) 9 x9 W x9_small (by decide) h))
  have HO3 := hide (fun W (h : RdA W (some ⟨w.heap.size, 0, none⟩) x9) => (x9_3 ▸ of_law 3 (by decide) (by decide) (some ⟨w.heap.size, 0, none⟩) 9 x9 W x9_small (by decide) h))
  have HO4 := hide (fun W (h : RdA W (some ⟨w.heap.size, 0, none⟩) x9) => (x9_4 ▸ of_law 4 (by decide) (by decide) (some ⟨w.heap.size, 0, none⟩) 9 x9 W x9_small (by decide) h))
  have HTN := hide (fun W => x9_t ▸ turn_any 47201 16401 16145 W (by decide) (by decide) (by decide))
  have hcv := Go.Lib.run_convert_bytes_const (P := Try.prog) w 22 5 #[.int .u8 49, .int .u8 50, .int .u8 51, .int .u8 52, .int .u8 53, .int .u8 54, .int .u8 55, .int .u8 56, .int .u8 57] 9 9 Try.underlying22 Try.underlying5
  go_enter Try.func22, Try.ntmps22
  go_wp2_with fail
  refine (HC2.out _ HX.out).mono ?_
  rintro e w1 ⟨rfl, hb1⟩
  have R1 := hide ((HX.out.below hb1).below ((Below.refl _ w1).alloc (Nat.le_refl _) (.cells #[.int .i64 32, .int .u64 0, .int .u64 3421780262] 27)))
  have hz0 : w.heap.size < w1.heap.size := by have := hb1.size; simp at this; omega
  have B1 := hide ((((Below.refl _ w).alloc (Nat.le_refl _) _).trans (hb1.mono (by simp))).alloc (by omega) (.cells #[.int .i64 32, .int .u64 0, .int .u64 3421780262] 27))
  have C1 := hide (x3_new w1 (.int .i64 32) (.int .u64 0) (.int .u64 3421780262) 27)
  clear hb1
  go_wp2_with fail
  refine (sum_no 0 _ _ (by decide)).mono ?_
  rintro e w2 ⟨rfl, hb2⟩
  have R2 := hide (R1.out.below hb2)
  have C2 := hide (C1.out.below hb2)
  have B2 := hide (B1.out.trans (hb2.mono B1.out.size))
  clear hb2 R1 C1 B1
  have hk2 : Below w2.heap.size w2 (w2.alloc (.cells #[.int .i64 0, .int .u64 0, .int .u64 0] 27)) := (Below.refl _ w2).alloc (Nat.le_refl _) _
  have R2 := hide (R2.out.below hk2)
  have C2 := hide (C2.out.below hk2)
  have B2 := hide (B2.out.trans (hk2.mono B2.out.size))
  clear hk2
  obtain ⟨k1, k2, k3⟩ := C2.out
  go_wp2_with fail
  refine (HO1.out _ R2.out).mono ?_
  rintro e w3 ⟨rfl, hb3⟩
  have R3 := hide (R2.out.below hb3)
  have B3 := hide (B2.out.trans (hb3.mono B2.out.size))
  clear hb3 R2 B2
  go_wp2_with fail
  refine (HO3.out _ R3.out).mono ?_
  rintro e w4 ⟨rfl, hb4⟩
  have R4 := hide (R3.out.below hb4)
  have B4 := hide (B3.out.trans (hb4.mono B3.out.size))
  clear hb4 R3 B3
  go_wp2_with fail
  refine (HO4.out _ R4.out).mono ?_
  rintro e w5 ⟨rfl, hb5⟩
  have B5 := hide (B4.out.trans (hb5.mono B4.out.size))
  clear hb5 R4 B4
  go_wp2_with fail
  refine (find_any _ _).mono ?_
  rw [show findN { data := #[120, 111, 114, 49, 54] } = 4 by decide]
  rintro e w6 ⟨rfl, hb6⟩
  have B6 := hide (B5.out.trans (hb6.mono B5.out.size))
  clear hb6 B5
  go_wp2_with fail
  refine (width_any 2 _).mono ?_
  rw [show widW 2 = 32 by decide]
  rintro e w7 ⟨rfl, hb7⟩
  have B7 := hide (B6.out.trans (hb7.mono B6.out.size))
  clear hb7 B6
  go_wp2_with fail
  refine (HTN.out _).mono ?_
  rintro e w8 ⟨rfl, hb8⟩
  have B8 := hide (B7.out.trans (hb8.mono B7.out.size))
  clear hb8 B7
  go_wp2
  go_ret
  exact ⟨rfl, B8.out⟩
end Go.Proofs.Ytaekdnoondpgnaa
