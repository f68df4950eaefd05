/- Two lists of numbers that are the same are told to be so. -/
import Derived.Test.YthkhdmdllhbfeaaGnA
import Derived.RegionTactic
namespace Go.Proofs.Ythkhdmdllhbfeaa
open Go.RowKit

set_option maxRecDepth 100000 in
set_option maxHeartbeats 4000000 in
theorem sameN_any (a b : Option Addr) (ca cb : Nat) (l : List Nb) (w : World) (h1 : RdN w a l) (h2 : RdN w b l) (hl : l.length ≤ 140737488355328) : Calls Try.prog 55 #[.slice a l.length ca, .slice b l.length cb] w fun e w' => e = .returned (.bool true) ∧ Below w.heap.size w w' := by
  have H1 := hide h1
  have H2 := hide h2
  clear h1 h2
  go_enter Try.func55, Try.ntmps55
  go_wp2
  go_loopw [5] (fun i wr => ∃ k : Nat, k ≤ l.length ∧ i = .int .i64 k ∧ Below w.heap.size w wr) (fun i _ => l.length - (intOf i).toNat)
  case atStart => exact ⟨0, by omega, rfl, Below.refl _ _⟩
  case round =>
    obtain ⟨k, hk, rfl, hb⟩ := hrel
    have HB := hide hb
    clear hb
    by_cases hlt : k < l.length
    · obtain ⟨p, off, rfl, _, hcl⟩ := (H1.out.below HB.out).some (by omega)
      obtain ⟨q, off2, rfl, _, hdl⟩ := (H2.out.below HB.out).some (by omega)
      obtain ⟨c0, c1, c2⟩ := hcl k hlt
      obtain ⟨d0, d1, d2⟩ := hdl k hlt
      have hlI : ((k : Int) < (l.length : Int)) := by omega
      clear hcl hdl
      generalize l[k] = y at *
      obtain ⟨yw, yh, yl⟩ := y
      simp only at c0 c1 c2 d0 d1 d2
      go_wp2
      go_region
      go_wp2
      go_roundw
      case rel => exact ⟨k + 1, by omega, by go_num, HB.out.drew⟩
      case measure => simp [intOf]; omega
    · obtain rfl : k = l.length := by omega
      go_wp2
      go_ret
      exact ⟨rfl, HB.out⟩
end Go.Proofs.Ythkhdmdllhbfeaa
