/- package journal: sumOf, Frame. -/
import Derived.Test.YtannocdcohofbaaJA
import Derived.Test.YtannocdcohofbaaSvSum
import Derived.Test.YtannocdcohofbaaOwnB
import Derived.RegionTactic
namespace Go.Proofs.Ytannocdcohofbaa
open Go.RowKit

theorem Part4.below {p k b B : Nat} {W W' : World} (h : Part4 p k b W) (hb : Below B W W') (hB : b < B) : Part4 p k b W' :=
  ⟨Nat.lt_of_lt_of_le h.lt hb.size, fun i hi => (hb.cell (p := ⟨b, i, none⟩) hB).trans (h.done i hi), fun i hi h2 => (hb.cell (p := ⟨b, i, none⟩) hB).trans (h.left i hi h2), fun i => (hb.frozen (p := ⟨b, i, none⟩) hB).trans (h.soft i)⟩
theorem sumOf_any (a : Option Addr) (cap : Nat) (xs : List Nat) (w : World) (hx : ∀ y ∈ xs, y < 256) (h0 : 1 ≤ xs.length) (hl : xs.length < 140737488355328) (hr : RdA w a xs) :
    Calls Try.prog 42 #[.slice a xs.length cap] w fun e w' => e = .returned (numV (sumF 2 xs)) ∧ Below w.heap.size w w' := by
  have hs := sum32 xs hx
  have HN := hide (fun W => numberOf_any (sumF 2 xs) W (by omega))
  have HS := hide (fun W (h : Below w.heap.size w W) => sum_two a cap xs W hx hl ((hr.below h).s h0))
  clear hr
  generalize sumF 2 xs = V at *
  go_enter Try.func42, Try.ntmps42
  go_wp2_with fail
  refine (HS.out _ ((Below.refl _ _).alloc (Nat.le_refl _) _)).mono ?_
  rintro e w1 ⟨rfl, hb⟩
  have HB := hide (((Below.refl _ w).alloc (Nat.le_refl _) (.cells #[.int .u8 0, .int .u8 0, .int .u8 0, .int .u8 0] 76)).trans (hb.mono (by simp)))
  have hz : w.heap.size < w1.heap.size := by have := hb.size; simp at this; omega
  have P1 := hide ((part4_block (p := 0) (heap_alloc_new w (.cells zero4 76))).below hb (by simp))
  have hb1 : Below w1.heap.size w1 (w1.alloc (.cells #[.int .i64 32, .int .u64 0, .int .u64 (V : Int)] 86)) := (Below.refl _ w1).alloc (Nat.le_refl _) _
  have HB1 := hide hb1
  clear hb hb1
  go_wp2_with fail
  refine (HN.out _).mono ?_
  rintro e w2 ⟨rfl, hb2⟩
  have hb3 := HB1.out.trans (hb2.mono (by simp))
  have P2 := P1.out.below hb3 hz
  have d0 := P2.left 0 (by omega) (by omega); have d1 := P2.left 1 (by omega) (by omega); have d2 := P2.left 2 (by omega) (by omega); have d3 := P2.left 3 (by omega) (by omega)
  have hsf := P2.soft
  have HB2 := hide (HB.out.trans (hb3.mono (by omega)))
  clear hb2 hb3 P2
  unfold numV
  go_wp2
  refine bodyPost_ret (v := numV V) (by simp [results, numV, Try.results42, go_sem, d0, d1, d2, d3]) rfl ⟨rfl, ?_⟩
  exact (((HB2.out.setCell (Nat.le_refl _) _).setCell (Nat.le_refl _) _).setCell (Nat.le_refl _) _).setCell (Nat.le_refl _) _
end Go.Proofs.Ytannocdcohofbaa
