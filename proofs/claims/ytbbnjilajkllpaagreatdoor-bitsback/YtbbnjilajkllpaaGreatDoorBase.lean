/- cut, Of and Check, told by value. -/
import Derived.Test.YtbbnjilajkllpaaGreatDoorVals
import Derived.Test.YtbbnjilajkllpaaGreatDoorChk
namespace Go.Proofs.YtbbnjilajkllpaaGreatDoor
open Go.RowKit

def okN (n : Int) (v : Nat) : Bool := mayBe n && decide (v < 2 ^ n.toNat)
theorem cutV (n X Y : Int) (v : Nat) (w : World) (m0 : 1 ≤ n) (m1 : n ≤ 128) (hv : v < top) (hX : X = wHi v) (hY : Y = wLo v) :
    Calls Tryz.prog 20 #[.int .i64 n, .int .u64 X, .int .u64 Y] w fun e w' => e = .returned (.agg #[.int .i64 n, .int .u64 (wHi (v % 2 ^ n.toNat)), .int .u64 (wLo (v % 2 ^ n.toNat))]) ∧ Below w.heap.size w w' := by
  subst hX hY
  have h := cut_any n (wHi v) (wLo v) w m0 m1 (wHi_bd hv).1 (wHi_bd hv).2 (wLo_bd v).1 (wLo_bd v).2
  rw [cut_hi n v m0, cut_lo n v m0] at h
  exact h
theorem cutR (n X Y rh rl : Int) (v : Nat) (w : World) (m0 : 1 ≤ n) (m1 : n ≤ 128) (hv : v < top) (hX : X = wHi v) (hY : Y = wLo v) (hh : wHi (v % 2 ^ n.toNat) = rh) (hl : wLo (v % 2 ^ n.toNat) = rl) :
    Calls Tryz.prog 20 #[.int .i64 n, .int .u64 X, .int .u64 Y] w fun e w' => e = .returned (.agg #[.int .i64 n, .int .u64 rh, .int .u64 rl]) ∧ Below w.heap.size w w' := by
  subst hh hl
  exact cutV n X Y v w m0 m1 hv hX hY
theorem checkV (n : Int) (v : Nat) (w : World) (hv : v < top) :
    Calls Tryz.prog 7 #[.agg #[.int .i64 n, .int .u64 (wHi v), .int .u64 (wLo v)]] w fun e w' => e = .returned (.bool (mayBe n && decide (v < 2 ^ n.toNat))) ∧ Below w.heap.size w w' := by
  have h := check_any n (wHi v) (wLo v) w (wHi_bd hv).1 (wHi_bd hv).2 (wLo_bd v).1 (wLo_bd v).2
  have e : okB n (wHi v) (wLo v) = (mayBe n && decide (v < 2 ^ n.toNat)) := by
    unfold okB
    cases hm : mayBe n
    · rfl
    · have h0 : 1 ≤ n ∧ n ≤ 128 := by simpa [mayBe] using hm
      rw [ok_iff n v h0.1]
  rw [e] at h
  exact h
theorem ofV (n X Y : Int) (v : Nat) (w : World) (m0 : 1 ≤ n) (m1 : n ≤ 128) (hv : v < top) (hX : X = wHi v) (hY : Y = wLo v) :
    Calls Tryz.prog 74 #[.int .i64 n, .int .u64 X, .int .u64 Y] w fun e w' => e = .returned (.tuple #[.agg #[.int .i64 n, .int .u64 (wHi (v % 2 ^ n.toNat)), .int .u64 (wLo (v % 2 ^ n.toNat))], .int .i64 0]) ∧ Below w.heap.size w w' := by
  subst hX hY
  have h := of_yes n (wHi v) (wLo v) w m0 m1 (wHi_bd hv).1 (wHi_bd hv).2 (wLo_bd v).1 (wLo_bd v).2
  rw [cut_hi n v m0, cut_lo n v m0] at h
  exact h
end Go.Proofs.YtbbnjilajkllpaaGreatDoor
