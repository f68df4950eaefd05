/- What strconv.ParseUint reads: the digits' sum. -/
import Derived.Test.YtbbnjilajkllpaaGreatDoorHide
import Derived.Lib.ConvBytes
import Derived.Laws.BitsAllLaws
import Derived.Lib.Strings
import Derived.Laws.Strings3
import Derived.Laws.Closers25
import Derived.Laws.Closers25b
import Derived.BigCall
import Derived.BigGuard
namespace Go.Proofs.YtbbnjilajkllpaaGreatDoor
open Go.RowKit

abbrev PR := Except Bool Nat
def dval (c : Nat) : Nat := if 48 ≤ c ∧ c ≤ 57 then c - 48 else if 97 ≤ c ||| 32 ∧ c ||| 32 ≤ 122 then (c ||| 32) - 87 else 255
def pu (b mx : Nat) : Nat → List UInt8 → PR
  | acc, [] => .ok acc
  | acc, c :: cs => if b ≤ dval c.toNat then .error true else if mx < acc * b + dval c.toNat then .error false else pu b mx (acc * b + dval c.toNat) cs
def puV (mx : Nat) : PR → Value
  | .ok n => .tuple #[.int .u64 (n : Int), .nilIface]
  | .error true => .tuple #[.int .u64 0, .iface 105 (.int .i64 2)]
  | .error false => .tuple #[.int .u64 (mx : Int), .iface 105 (.int .i64 1)]
theorem lower_x (c : Nat) (hc : c < 256) : ∃ x : Int, x = ((c ||| 32 : Nat) : Int) ∧ 0 ≤ x ∧ x < 256 ∧ ∀ W, Calls Tryz.prog 90 #[.int .u8 (c : Int)] W fun e w' => e = .returned (.int .u8 x) ∧ w' = W := by
  refine ⟨((c ||| 32 : Nat) : Int), rfl, by omega, ?_, fun W => ?_⟩
  · have : c ||| 32 < 2 ^ 8 := Nat.or_lt_two_pow (by omega) (by omega)
    omega
  · have e : bits .or .u8 (c : Int) 32 = ((c ||| 32 : Nat) : Int) := by
      exact u8_or_nat c 32 hc (by decide)
    generalize ((c ||| 32 : Nat) : Int) = x at e
    go_enter Tryz.func90, Tryz.ntmps90
    go_wp2
    go_ret
    exact ⟨rfl, rfl⟩
end Go.Proofs.YtbbnjilajkllpaaGreatDoor
