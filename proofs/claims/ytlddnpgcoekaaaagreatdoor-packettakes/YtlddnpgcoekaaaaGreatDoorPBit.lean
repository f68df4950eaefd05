/- Bits of bytes, and the numbers that they make: plain facts. -/
import Derived.Test.YtlddnpgcoekaaaaGreatDoorShfMath
namespace Go.Proofs.YtlddnpgcoekaaaaGreatDoor

def bitOf (xs : List Nat) (i : Nat) : Nat := xs.getD (i / 8) 0 / 2 ^ (7 - i % 8) % 2
theorem bitOf_lt (xs : List Nat) (i : Nat) : bitOf xs i < 2 := Nat.mod_lt _ (by decide)
def bval (xs : List Nat) (t : Nat) : Nat → Nat
  | 0 => 0
  | n + 1 => 2 * bval xs t n + bitOf xs (t + n)
theorem bval_lt (xs : List Nat) (t n : Nat) : bval xs t n < 2 ^ n := by
  induction n with
  | zero => simp [bval]
  | succ n ih => have := bitOf_lt xs (t + n); rw [bval, Nat.pow_succ]; omega
theorem bval_lt_top (xs : List Nat) (t : Nat) {n : Nat} (h : n ≤ 128) : bval xs t n < top := Nat.lt_of_lt_of_le (bval_lt xs t n) (pow_le_top h)
theorem bval_testBit (xs : List Nat) (t n i : Nat) (h : i < n) : (bval xs t n).testBit i = (bitOf xs (t + (n - 1 - i)) == 1) := by
  induction n generalizing i with
  | zero => omega
  | succ n ih =>
    have h2 := bitOf_lt xs (t + n)
    cases i with
    | zero =>
      rw [bval, Nat.testBit_zero, show n + 1 - 1 - 0 = n by omega]
      rw [show (2 * bval xs t n + bitOf xs (t + n)) % 2 = bitOf xs (t + n) by omega]
      rfl
    | succ i =>
      rw [bval, Nat.testBit_succ, show (2 * bval xs t n + bitOf xs (t + n)) / 2 = bval xs t n by omega, ih i (by omega), show n + 1 - 1 - (i + 1) = n - 1 - i by omega]
/- what a number's bits are -/
theorem bval_eq {xs : List Nat} {t n v : Nat} (hv : v < 2 ^ n) (h : ∀ i, i < n → bitOf xs (t + i) = v / 2 ^ (n - 1 - i) % 2) : bval xs t n = v := by
  refine Nat.eq_of_testBit_eq fun i => ?_
  by_cases hi : i < n
  · rw [bval_testBit _ _ _ _ hi, h _ (by omega), show n - 1 - (n - 1 - i) = i by omega, Nat.testBit_eq_decide_div_mod_eq]
    rfl
  · rw [Nat.testBit_lt_two_pow (Nat.lt_of_lt_of_le (bval_lt xs t n) (Nat.pow_le_pow_right (by decide) (by omega))), Nat.testBit_lt_two_pow (Nat.lt_of_lt_of_le hv (Nat.pow_le_pow_right (by decide) (by omega)))]
theorem bval_add (xs : List Nat) (t n m : Nat) : bval xs t (n + m) = bval xs t n * 2 ^ m + bval xs (t + n) m := by
  induction m with
  | zero => simp [bval]
  | succ m ih => rw [← Nat.add_assoc, bval, ih, bval, Nat.pow_succ, ← Nat.mul_assoc, Nat.add_assoc t n m]; omega
theorem bval_zero {xs : List Nat} {t n : Nat} (h : ∀ i, i < n → bitOf xs (t + i) = 0) : bval xs t n = 0 :=
  bval_eq (Nat.pow_pos (by decide)) (fun i hi => by rw [h i hi]; simp)

/- bits as they come -/
abbrev Bit01 := { x : Int // x = 0 ∨ x = 1 }
def valB : List Bit01 → Nat := List.foldl (fun v x => 2 * v + x.1.toNat) 0
theorem valB_snoc (l : List Bit01) (x : Bit01) : valB (l ++ [x]) = 2 * valB l + x.1.toNat := by simp [valB]
theorem valB_go (l : List Bit01) (a : Nat) : l.foldl (fun v x => 2 * v + x.1.toNat) a < (a + 1) * 2 ^ l.length := by
  induction l generalizing a with
  | nil => simp
  | cons x l ih =>
    have h := ih (2 * a + x.1.toNat)
    have hx : x.1.toNat ≤ 1 := by have := x.2; omega
    have h2 : (2 * a + x.1.toNat + 1) * 2 ^ l.length ≤ (2 * (a + 1)) * 2 ^ l.length := Nat.mul_le_mul_right _ (by omega)
    rw [List.foldl_cons, List.length_cons, Nat.pow_succ, Nat.mul_comm (2 ^ l.length) 2, ← Nat.mul_assoc, Nat.mul_comm (a + 1) 2]
    omega
theorem valB_lt (l : List Bit01) : valB l < 2 ^ l.length := by
  have := valB_go l 0
  simpa [valB] using this
def bit01 (xs : List Nat) (i : Nat) : Bit01 := ⟨(bitOf xs i : Nat), by have := bitOf_lt xs i; omega⟩
def bitsB (xs : List Nat) (t n : Nat) : List Bit01 := (List.range n).map (fun k => bit01 xs (t + k))
theorem bitsB_length (xs : List Nat) (t n : Nat) : (bitsB xs t n).length = n := by simp [bitsB]
theorem bitsB_succ (xs : List Nat) (t n : Nat) : bitsB xs t (n + 1) = bitsB xs t n ++ [bit01 xs (t + n)] := by simp [bitsB, List.range_succ]
theorem valB_bits (xs : List Nat) (t n : Nat) : valB (bitsB xs t n) = bval xs t n := by
  induction n with
  | zero => rfl
  | succ n ih => rw [bitsB_succ, valB_snoc, ih, bval]; rfl

/- the step of a number's words -/
theorem step_hi {v : Nat} {x : Int} (hx : x = 0 ∨ x = 1) (h : 2 * v + 1 < top) : bits .or .u64 (IntKind.u64.wrap (wHi v * 2)) (wLo v / 9223372036854775808) = wHi (2 * v + x.toNat) := by
  have h1 := up_near_hi (u := v) (k := 1) (by decide)
  have e : (v * 2 ^ 1) % top = 2 * v := by rw [Nat.mod_eq_of_lt (by omega)]; omega
  rw [e] at h1
  have h2 : wHi (2 * v + x.toNat) = wHi (2 * v) := by unfold wHi; rcases hx with rfl | rfl <;> simp <;> omega
  rw [h2, ← h1]; rfl
theorem or_bit (a : Nat) (x : Int) (hx : x = 0 ∨ x = 1) (ha : a < 18446744073709551616) (he : a % 2 = 0) : bits .or .u64 (a : Int) x = a + x := by
  rcases hx with rfl | rfl
  · have := u64_or_nat a 0 ha (by decide)
    simpa using this
  · have := u64_or_nat a 1 ha (by decide)
    have e : a ||| 1 = a + 1 := by
      have := Nat.two_pow_add_eq_or_of_lt (i := 1) (b := 1) (by decide) (a / 2)
      rw [show 2 ^ 1 * (a / 2) = a by omega] at this
      exact this.symm
    rw [e] at this
    simpa using this
theorem step_lo {v : Nat} {x : Int} (hx : x = 0 ∨ x = 1) (h : 2 * v + 1 < top) : bits .or .u64 (IntKind.u64.wrap (wLo v * 2)) x = wLo (2 * v + x.toNat) := by
  have h1 := up_near_lo v 1
  have e : (v * 2 ^ 1) % top = 2 * v := by rw [Nat.mod_eq_of_lt (by omega)]; omega
  rw [e] at h1
  have h1' : IntKind.u64.wrap (wLo v * 2) = wLo (2 * v) := by rw [← h1]; rfl
  have hw : wLo (2 * v) = (((2 * v) % 18446744073709551616 : Nat) : Int) := rfl
  rw [h1', hw, or_bit _ x hx (Nat.mod_lt _ (by decide)) (by omega)]
  unfold wLo
  rcases hx with rfl | rfl <;> simp <;> omega

/- a byte's bit -/
theorem u8_bit (y s : Nat) (hy : y < 256) : bits .and .u8 ((y : Int) / 2 ^ s) 1 = ((y / 2 ^ s % 2 : Nat) : Int) := by
  have e : ((y : Int) / 2 ^ s) = ((y / 2 ^ s : Nat) : Int) := by simp
  have hle : y / 2 ^ s ≤ y := Nat.div_le_self _ _
  have h := u8_and_nat (y / 2 ^ s) 1 (by omega) (by decide)
  rw [e]
  rw [show ((1 : Nat) : Int) = 1 from rfl] at h
  rw [h, Nat.and_one_is_mod]
theorem u64_bit (y s : Nat) (hy : y < 18446744073709551616) : bits .and .u64 ((y : Int) / 2 ^ s) 1 = ((y / 2 ^ s % 2 : Nat) : Int) := by
  have e : ((y : Int) / 2 ^ s) = ((y / 2 ^ s : Nat) : Int) := by simp
  have hle : y / 2 ^ s ≤ y := Nat.div_le_self _ _
  have h := u64_and_nat (y / 2 ^ s) 1 (by omega) (by decide)
  rw [e]
  rw [show ((1 : Nat) : Int) = 1 from rfl] at h
  rw [h, Nat.and_one_is_mod]
end Go.Proofs.YtlddnpgcoekaaaaGreatDoor
