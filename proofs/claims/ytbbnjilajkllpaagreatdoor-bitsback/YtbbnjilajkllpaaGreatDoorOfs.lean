/- The walks of bits.Of and bits.Check. -/
import Derived.Test.YtbbnjilajkllpaaGreatDoorWords
import Derived.Deep.QuietTactic
import Derived.BigQuiet
import Derived.Deep.RegionHeld3
namespace Go.Proofs.YtbbnjilajkllpaaGreatDoor
open Go.RowKit

theorem bcell {W w1 : World} (hb : Below W.heap.size W w1) : (∀ b o, b < W.heap.size → w1.cell? ⟨b, o, none⟩ = W.cell? ⟨b, o, none⟩) ∧ (∀ b o, b < W.heap.size → w1.frozen? ⟨b, o, none⟩ = W.frozen? ⟨b, o, none⟩) :=
  ⟨fun b o h => hb.cell (p := ⟨b, o, none⟩) h, fun b o h => hb.frozen (p := ⟨b, o, none⟩) h⟩

theorem of_no (n hi lo : Int) (w : World) (h : ¬ (1 ≤ n ∧ n ≤ 128)) :
    Calls Tryz.prog 74 #[.int .i64 n, .int .u64 hi, .int .u64 lo] w fun e w' =>
      e = .returned (.tuple #[.agg #[.int .i64 0, .int .u64 0, .int .u64 0], .int .i64 1]) ∧ Below w.heap.size w w' := by
  have hm := mayBe_no h
  clear h
  go_enter Tryz.func74, Tryz.ntmps74
  go_wp2_with (go_at_call 19; refine (widthMayBe_any _ _).mono ?_; rintro e w' ⟨rfl, rfl⟩)
  refine bodyPost_ret (v := .tuple #[.agg #[.int .i64 0, .int .u64 0, .int .u64 0], .int .i64 1]) (by simp [results, Tryz.results74, go_sem]) rfl ⟨rfl, ?_⟩
  exact (Below.refl _ _).alloc (Nat.le_refl _) _

theorem of_yes (n hi lo : Int) (w : World) (h0 : 1 ≤ n) (h1 : n ≤ 128) (a0 : 0 ≤ hi) (a1 : hi < 18446744073709551616) (b0 : 0 ≤ lo) (b1 : lo < 18446744073709551616) :
    Calls Tryz.prog 74 #[.int .i64 n, .int .u64 hi, .int .u64 lo] w fun e w' =>
      e = .returned (.tuple #[.agg #[.int .i64 n, .int .u64 (cHi n hi), .int .u64 (cLo n lo)], .int .i64 0]) ∧ Below w.heap.size w w' := by
  have hm := mayBe_yes h0 h1
  go_enter Tryz.func74, Tryz.ntmps74
  go_wp2_with (first
    | (go_at_call 19; refine (widthMayBe_any _ _).mono ?_; rintro e w' ⟨rfl, rfl⟩)
    | (go_at_call 20; refine (cut_any n hi lo _ h0 h1 a0 a1 b0 b1).mono ?_; rintro e w1 ⟨rfl, hb⟩; obtain ⟨hc, hf⟩ := bcell hb; have hz : w.heap.size < w1.heap.size := by have := hb.size; simp at this; omega))
  refine bodyPost_ret (v := .tuple #[.agg #[.int .i64 n, .int .u64 (cHi n hi), .int .u64 (cLo n lo)], .int .i64 0]) (by simp [results, Tryz.results74, go_sem, hc]) rfl ⟨rfl, ?_⟩
  exact (((((Below.refl _ _).alloc (Nat.le_refl _) _).trans (hb.mono (by simp))).setCell (Nat.le_refl _) _).setCell (Nat.le_refl _) _).setCell (Nat.le_refl _) _

theorem hold3 {B : Nat} {w0 W w1 : World} {b : Nat} {x y z : Value} {o1 o2 o3 : Nat} (hb : Below W.heap.size W w1) (hS : W.cell? ⟨b, o1, none⟩ = some x ∧ W.cell? ⟨b, o2, none⟩ = some y ∧ W.cell? ⟨b, o3, none⟩ = some z ∧ Below B w0 W) (hB : B ≤ w0.heap.size) :
    w1.cell? ⟨b, o1, none⟩ = some x ∧ w1.cell? ⟨b, o2, none⟩ = some y ∧ w1.cell? ⟨b, o3, none⟩ = some z ∧ Below B w0 w1 := by
  obtain ⟨h1, h2, h3, h⟩ := hS
  have hlt : b < W.heap.size := by have := World.block_lt_of_cell? W _ h1; exact this
  have hz := h.size
  exact ⟨(hb.cell hlt).trans h1, (hb.cell hlt).trans h2, (hb.cell hlt).trans h3, h.trans (hb.mono (by omega))⟩

def okB (n hi lo : Int) : Bool := mayBe n && (cHi n hi == hi && cLo n lo == lo)

set_option maxHeartbeats 1000000 in
theorem check_may (n hi lo : Int) (w : World) (h0 : 1 ≤ n) (h1 : n ≤ 128) (a0 : 0 ≤ hi) (a1 : hi < 18446744073709551616) (b0 : 0 ≤ lo) (b1 : lo < 18446744073709551616) :
    Calls Tryz.prog 7 #[.agg #[.int .i64 n, .int .u64 hi, .int .u64 lo]] w fun e w' =>
      e = .returned (.bool (cHi n hi == hi && cLo n lo == lo)) ∧ Below w.heap.size w w' := by
  have hm := mayBe_yes h0 h1
  cases e1 : (cHi n hi == hi) <;> cases e2 : (cLo n lo == lo)
  all_goals
    go_enter Tryz.func7, Tryz.ntmps7
    go_wp2
    go_region_held3 (fun w' => w'.cell? ⟨w.heap.size, 0, none⟩ = some (.int .i64 n) ∧ w'.cell? ⟨w.heap.size, 1, none⟩ = some (.int .u64 hi) ∧ w'.cell? ⟨w.heap.size, 2, none⟩ = some (.int .u64 lo) ∧ Below (w.heap.size + 1) (w.alloc (.cells #[.int .i64 n, .int .u64 hi, .int .u64 lo] 24)) w') (first | exact hold3 (by assumption) (by assumption) (by simp) | (refine ⟨?_, ?_, ?_, ?_⟩ <;> first | exact (Below.refl _ _).drew | simp [go_sem]))
      (first
        | (go_at_call 19; refine (widthMayBe_any _ _).mono ?_; rintro e w' ⟨rfl, rfl⟩)
        | (go_at_call 20; refine (cut_any n hi lo _ h0 h1 a0 a1 b0 b1).mono ?_; rintro e w1 ⟨rfl, hb⟩))
  all_goals (go_wp2; go_ret; exact ⟨rfl, (((Below.refl _ _).alloc (Nat.le_refl _) _).drew).trans (hb.mono (by simp))⟩)

end Go.Proofs.YtbbnjilajkllpaaGreatDoor
