/- pointsmanlaw01.SameBytes of the same bytes, over QoB. -/
import Derived.Test.YtnihneicoikdhaaGreatDoorQoB
import Derived.RegionTactic
namespace Go.Proofs.YtnihneicoikdhaaGreatDoor
open Go.RowKit

theorem same_rd (l : List Nat) (hl : l.length ≤ 140737488355328) (a b : Option Addr) (c d : Nat) (w : World) (ha : RdA w a l) (hb : RdA w b l) :
    Calls Tryz.prog 31 #[.slice a l.length c, .slice b l.length d] w fun e w' => e = .returned (.bool true) ∧ Below w.heap.size w w' := by
  have HA := hide ha; have HB := hide hb
  clear ha hb
  go_enter Tryz.func31, Tryz.ntmps31
  go_wp2
  go_loopw [5] (fun i wr => ∃ k : Nat, k ≤ l.length ∧ i = .int .i64 k ∧ Below w.heap.size w wr) (fun i _ => l.length - (intOf i).toNat)
  case atStart => exact ⟨0, Nat.zero_le _, rfl, Below.refl _ _⟩
  case round =>
    obtain ⟨k, hk, rfl, hnx⟩ := hrel
    have HN := hide hnx
    by_cases hlt : k < l.length
    · obtain ⟨p, o1, rfl, _, h1⟩ := (HA.out.below hnx).some (by omega)
      obtain ⟨q, o2, rfl, _, h2⟩ := (HB.out.below hnx).some (by omega)
      have hca := h1 k hlt
      have hcb := h2 k hlt
      have hlI : (k : Int) < (l.length : Int) := by omega
      clear h1 h2 hnx HA HB
      generalize l[k] = x at *
      go_wp2
      go_region
      all_goals
        go_wp2
        go_roundw
        case rel => exact ⟨k + 1, by omega, by go_num, HN.out.drew⟩
        case measure => simp [intOf]; omega
    · clear hnx HA HB
      go_wp2
      go_ret
      exact ⟨rfl, HN.out⟩
end Go.Proofs.YtnihneicoikdhaaGreatDoor
