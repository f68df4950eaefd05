/- pointsmanlaw01.Beyond of one length. -/
import Derived.Test.YtannocdcohofbaaGreatDoorSvBase
namespace Go.Proofs.YtannocdcohofbaaGreatDoor
open Go.RowKit

theorem beyond_any (n : Nat) (hn : n ≤ 9223372036854775807) (w : World) : Calls Tryz.prog 5 #[.slice (some ⟨w.heap.size, 0, none⟩) 1 1] (w.alloc (.cells #[.int .i64 n] 3)) fun e w' => e = .returned (.bool (decide (1048576 < n))) ∧ w' = w.alloc (.cells #[.int .i64 n] 3) := by
  have hc : (w.alloc (.cells #[.int .i64 (n : Int)] 3)).cell? ⟨w.heap.size, 0, none⟩ = some (.int .i64 n) := by
    have h : (w.alloc (.cells #[.int .i64 (n : Int)] 3)).heap[w.heap.size]? = some (.cells #[.int .i64 (n : Int)] 3 (0, 0)) := heap_alloc_new w _
    unfold World.cell?; simp only [h]; rfl
  generalize w.alloc (.cells #[.int .i64 (n : Int)] 3) = W at *
  generalize w.heap.size = b at *
  by_cases h : 1048576 < n
  · have hI : (n : Int) > 1048576 := by omega
    rw [decide_eq_true h]
    go_enter Tryz.func5, Tryz.ntmps5
    go_wp2
    refine wp_loop_rounds 1 ?_
    rw [rounds_succ]
    go_wp2
    go_ret
    exact ⟨rfl, rfl⟩
  · have hI : decide ((n : Int) > 1048576) = false := by simp; omega
    have hI2 : ¬ (n : Int) > 1048576 := by omega
    rw [decide_eq_false h]
    go_enter Tryz.func5, Tryz.ntmps5
    go_wp2
    go_loop [3, 4] (fun s i => (s = .int .i64 0 ∧ i = .int .i64 0) ∨ (s = .int .i64 n ∧ i = .int .i64 1)) (fun _ i => 1 - (intOf i).toNat)
    case atStart => exact .inl ⟨rfl, rfl⟩
    case round =>
      rcases hrel with ⟨rfl, rfl⟩ | ⟨rfl, rfl⟩
      · go_wp2
        go_round
        case rel => exact .inr ⟨by simp, rfl⟩
        case measure => simp [intOf]
      · go_wp2
        go_ret
        exact ⟨rfl, rfl⟩
end Go.Proofs.YtannocdcohofbaaGreatDoor
