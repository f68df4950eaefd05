/- The document's own Check, Bits and Number, by value. -/
import Derived.Test.YtbbnjilajkllpaaDoorNRefOf
import Derived.Test.YtbbnjilajkllpaaDoorWBs
import Derived.Test.YtbbnjilajkllpaaDoorLists
namespace Go.Proofs.YtbbnjilajkllpaaDoor
open Go.RowKit

theorem refCheckV (n : Int) (v : Nat) (w : World) (hv : v < top) (b : Bool) (hb : okN n v = b) :
    Calls Tryd.prog 11 #[.agg #[.int .i64 n, .int .u64 (wHi v), .int .u64 (wLo v)]] w fun e w' => e = .returned (.bool b) ∧ Below w.heap.size w w' := by
  have h := refCheck_any n (wHi v) (wLo v) w (wHi_bd hv).1 (wHi_bd hv).2 (wLo_bd v).1 (wLo_bd v).2
  have e : okB n (wHi v) (wLo v) = b := by
    rw [← hb]
    unfold okB okN
    cases hm : mayBe n
    · rfl
    · have h0 : 1 ≤ n ∧ n ≤ 128 := by simpa [mayBe] using hm
      rw [ok_iff n v h0.1]
  rw [e] at h
  exact h

def lst (n : Int) (u : Nat) : List Bool := bitsTo (wHi u) (wLo u) n.toNat
theorem lst_length (n : Int) (u : Nat) : (lst n u).length = n.toNat := bitsTo_length _ _ _
theorem bitB_val (u i : Nat) (hi : i < 128) : bitB (wHi u) (wLo u) i = u.testBit i := by
  unfold bitB
  rw [wHi_nat, wLo_nat, Int.toNat_natCast, Int.toNat_natCast]
  by_cases h : i < 64
  · rw [if_pos h, Nat.testBit_mod_two_pow]; simp [h]
  · rw [if_neg h, Nat.testBit_div_two_pow]; congr 1; omega
theorem lst_val {n : Int} {u : Nat} (h1 : n ≤ 128) (hu : u < 2 ^ n.toNat) : valL (lst n u) = u := by
  refine Nat.eq_of_testBit_eq fun j => ?_
  rw [valL_testBit, lst, bitsTo_getD]
  by_cases h : j < n.toNat
  · rw [bitB_val u j (by omega)]; simp [h]
  · have : u.testBit j = false := Nat.testBit_lt_two_pow (Nat.lt_of_lt_of_le hu (Nat.pow_le_pow_right (by decide) (by omega)))
    simp [h, this]
theorem refBitsV (n : Int) (u : Nat) (w : World) (hu : u < top) (h1 : n ≤ 128) :
    Calls Tryd.prog 12 #[.agg #[.int .i64 n, .int .u64 (wHi u), .int .u64 (wLo u)]] w fun e w' => ∃ r, e = .returned r ∧ w'.ownsRow (w.heap.size + 1) 4 1 r n.toNat ((lst n u).map Value.bool) ∧ Below w.heap.size w w' := by
  have h := refBits_any n (wHi u) (wLo u) w (wHi_bd hu).1 (wHi_bd hu).2 (wLo_bd u).1 (wLo_bd u).2
  rw [Int.min_eq_left h1] at h
  exact h
theorem num_lo_val (l : List Bool) : ((numLo l : Nat) : Int) = wLo (valL l) := by
  rw [wLo_nat]
  congr 1
  refine Nat.eq_of_testBit_eq fun j => ?_
  rw [numLo, valL_testBit, Nat.testBit_mod_two_pow, valL_testBit, List.getD_eq_getElem?_getD, List.getD_eq_getElem?_getD, List.getElem?_take]
  by_cases h : j < 64 <;> simp [h]
theorem num_hi_val (l : List Bool) (hl : l.length ≤ 128) : ((numHi l : Nat) : Int) = wHi (valL l) := by
  rw [wHi_nat]
  congr 1
  refine Nat.eq_of_testBit_eq fun j => ?_
  rw [numHi, valL_testBit, Nat.testBit_div_two_pow, valL_testBit, List.getD_eq_getElem?_getD, List.getD_eq_getElem?_getD, List.getElem?_take, List.getElem?_drop]
  by_cases h : j < 64
  · rw [if_pos h]; congr 2; omega
  · rw [if_neg h, List.getElem?_eq_none (by omega)]
theorem refNumberB (v : Value) (l : List Bool) (w : World) (N : Int) (x : Nat) (hl : l.length ≤ 128) (hN : (l.length : Int) = N) (hx : valL l = x) (hv : BRow w v l) :
    Calls Tryd.prog 34 #[v] w fun e w' => e = .returned (.agg #[.int .i64 N, .int .u64 (wHi x), .int .u64 (wLo x)]) ∧ Below w.heap.size w w' := by
  have h := refNumber_any v l w hl hv
  rw [num_lo_val, num_hi_val l hl, hN, hx] at h
  exact h
end Go.Proofs.YtbbnjilajkllpaaDoor
