/- begun (PRest's, over Rd). -/
import Derived.Test.YtlddnpgcoekaaaaGreatDoorKNw
import Derived.Deep.RegionHeld3
namespace Go.Proofs.YtlddnpgcoekaaaaGreatDoor
open Go.RowKit

theorem undrew {w w' : World} (h : Below w.drew.heap.size w.drew w') : Below w.heap.size w w' := ⟨h.os, h.tape, h.output, h.size, h.block⟩
theorem begun_any (t : Nat) (w : World) (ht : t < 1099511627776) : Calls Tryz.prog 25 #[.agg #[.int .i64 t]] w fun e w' => e = .returned (.int .i64 (((t + 7) / 8 : Nat) : Int)) ∧ Below w.heap.size w w' := by
  have H := hide (pcount_any t · ht)
  go_enter Tryz.func25, Tryz.ntmps25
  go_wp2_with fail
  refine (H.out _).mono ?_
  rintro e w1 ⟨rfl, hw⟩
  subst hw
  go_wp2
  go_ret
  exact ⟨rfl, (Below.refl _ _).alloc (Nat.le_refl _) _⟩
end Go.Proofs.YtlddnpgcoekaaaaGreatDoor
