/- The document's Number by value, without Check. -/
import Derived.Test.YtlddnpgcoekaaaaGreatDoorMNumb
import Derived.Test.YtlddnpgcoekaaaaGreatDoorVals
import Derived.Test.YtlddnpgcoekaaaaGreatDoorLists
namespace Go.Proofs.YtlddnpgcoekaaaaGreatDoor
open Go.RowKit

theorem num_lo_val (l : List Bool) : ((numLo l : Nat) : Int) = wLo (valL l) := by
  rw [wLo_nat]
  congr 1
  refine Nat.eq_of_testBit_eq fun j => ?_
  rw [numLo, valL_testBit, Nat.testBit_mod_two_pow, valL_testBit, List.getD_eq_getElem?_getD, List.getD_eq_getElem?_getD, List.getElem?_take]
  by_cases h : j < 64 <;> simp [h]
theorem num_hi_val (l : List Bool) (hl : l.length ≤ 128) : ((numHi l : Nat) : Int) = wHi (valL l) := by
  rw [wHi_nat]
  congr 1
  refine Nat.eq_of_testBit_eq fun j => ?_
  rw [numHi, valL_testBit, Nat.testBit_div_two_pow, valL_testBit, List.getD_eq_getElem?_getD, List.getD_eq_getElem?_getD, List.getElem?_take, List.getElem?_drop]
  by_cases h : j < 64
  · rw [if_pos h]; congr 2; omega
  · rw [if_neg h, List.getElem?_eq_none (by omega)]
theorem refNumberB (v : Value) (l : List Bool) (w : World) (N : Int) (x : Nat) (hl : l.length ≤ 128) (hN : (l.length : Int) = N) (hx : valL l = x) (hv : BRow w v l) :
    Calls Tryz.prog 24 #[v] w fun e w' => e = .returned (.agg #[.int .i64 N, .int .u64 (wHi x), .int .u64 (wLo x)]) ∧ Below w.heap.size w w' := by
  have h := refNumber_any v l w hl hv
  rw [num_lo_val, num_hi_val l hl, hN, hx] at h
  exact h
end Go.Proofs.YtlddnpgcoekaaaaGreatDoor
