/- What the document's own operations on lists of bits come to: plain facts. -/
import Derived.Test.YtlddnpgcoekaaaaGreatDoorVals
namespace Go.Proofs.YtlddnpgcoekaaaaGreatDoor

def bitAt (l : List Bool) (i : Nat) : Bool := l.getD i false
def cnt (a b m : Bool) : Nat := a.toNat + b.toNat + m.toNat
def addTo (a b : List Bool) (c : Bool) : Nat → List Bool × Bool
  | 0 => ([], c)
  | k + 1 => ((addTo a b c k).1 ++ [cnt (bitAt a k) (bitAt b k) (addTo a b c k).2 % 2 == 1], decide (1 < cnt (bitAt a k) (bitAt b k) (addTo a b c k).2))
def addL (a b : List Bool) (c : Bool) : List Bool := (addTo a b c a.length).1
def notL (l : List Bool) : List Bool := l.map (fun b => !b)
def upB (a : List Bool) (n : Int) (i : Nat) : Bool := decide (0 ≤ (i : Int) - n) && decide ((i : Int) - n < a.length) && bitAt a ((i : Int) - n).toNat
def upTo (a : List Bool) (n : Int) (k : Nat) : List Bool := (List.range k).map (upB a n)
def upL (a : List Bool) (n : Int) : List Bool := upTo a n a.length
def mulTo (a b : List Bool) : Nat → List Bool
  | 0 => List.replicate a.length false
  | k + 1 => if bitAt b k then addL (mulTo a b k) (upL a k) false else mulTo a b k
def eachTo (f : Bool → Bool → Bool) (a b : List Bool) (k : Nat) : List Bool := (List.range k).map (fun i => f (bitAt a i) (bitAt b i))

theorem addTo_length (a b : List Bool) (c : Bool) (k : Nat) : (addTo a b c k).1.length = k := by
  induction k with
  | zero => rfl
  | succ k ih => simp [addTo, ih]
theorem addL_length (a b : List Bool) (c : Bool) : (addL a b c).length = a.length := addTo_length _ _ _ _
theorem upTo_length (a : List Bool) (n : Int) (k : Nat) : (upTo a n k).length = k := by simp [upTo]
theorem upL_length (a : List Bool) (n : Int) : (upL a n).length = a.length := upTo_length _ _ _
theorem mulTo_length (a b : List Bool) (k : Nat) : (mulTo a b k).length = a.length := by
  induction k with
  | zero => simp [mulTo]
  | succ k ih => unfold mulTo; split
                 · rw [addL_length, ih]
                 · exact ih
theorem eachTo_length (f : Bool → Bool → Bool) (a b : List Bool) (k : Nat) : (eachTo f a b k).length = k := by simp [eachTo]
theorem bitAt_get {l : List Bool} {i : Nat} (h : i < l.length) : bitAt l i = l[i] := by simp [bitAt, List.getD_eq_getElem?_getD, h]

theorem cnt_split (a b m : Bool) : cnt a b m = (cnt a b m % 2 == 1).toNat + 2 * (decide (1 < cnt a b m)).toNat := by
  cases a <;> cases b <;> cases m <;> rfl
theorem valL_take_bit (l : List Bool) (k : Nat) : valL (l.take (k + 1)) = valL (l.take k) + 2 ^ k * (bitAt l k).toNat := by
  by_cases h : k < l.length
  · rw [valL_take_succ l k h, bitAt_get h]
  · rw [List.take_of_length_le (by omega), List.take_of_length_le (by omega)]
    have : bitAt l k = false := by simp [bitAt, List.getD_eq_getElem?_getD, List.getElem?_eq_none (by omega : l.length ≤ k)]
    rw [this]; simp
theorem addTo_val (a b : List Bool) (c : Bool) (k : Nat) : valL (addTo a b c k).1 + 2 ^ k * (addTo a b c k).2.toNat = valL (a.take k) + valL (b.take k) + c.toNat := by
  induction k with
  | zero => simp [addTo, valL]
  | succ k ih =>
    rw [valL_take_bit, valL_take_bit]
    simp only [addTo, valL_snoc, addTo_length]
    have h := cnt_split (bitAt a k) (bitAt b k) (addTo a b c k).2
    generalize (cnt (bitAt a k) (bitAt b k) (addTo a b c k).2 % 2 == 1) = p at *
    generalize decide (1 < cnt (bitAt a k) (bitAt b k) (addTo a b c k).2) = q at *
    unfold cnt at h
    have e : 2 ^ k * p.toNat + 2 ^ (k + 1) * q.toNat = 2 ^ k * (p.toNat + 2 * q.toNat) := by rw [Nat.pow_succ, Nat.mul_add, Nat.mul_assoc]
    rw [← h, Nat.mul_add, Nat.mul_add] at e
    omega
theorem addL_val (a b : List Bool) (c : Bool) (h : b.length = a.length) : valL (addL a b c) = (valL a + valL b + c.toNat) % 2 ^ a.length := by
  have e := addTo_val a b c a.length
  rw [List.take_length, ← h, List.take_length, h] at e
  have hl := valL_lt (addTo a b c a.length).1
  rw [addTo_length] at hl
  unfold addL
  rw [← e, Nat.add_mul_mod_self_left, Nat.mod_eq_of_lt hl]
theorem notL_val (l : List Bool) : valL (notL l) = 2 ^ l.length - 1 - valL l := by
  induction l with
  | nil => rfl
  | cons b r ih =>
    have := valL_lt r
    have h2 : notL (b :: r) = (!b) :: notL r := rfl
    rw [h2]
    simp only [valL, ih, List.length_cons, Nat.pow_succ]
    cases b <;> simp <;> omega
theorem valL_bit (l : List Bool) (i : Nat) : (valL l).testBit i = bitAt l i := valL_testBit l i
theorem bitAt_range (f : Nat → Bool) (k i : Nat) : bitAt ((List.range k).map f) i = (decide (i < k) && f i) := by
  by_cases h : i < k
  · simp [bitAt, List.getD_eq_getElem?_getD, h]
  · simp [bitAt, List.getD_eq_getElem?_getD, h]
theorem bitAt_lt {l : List Bool} {i : Nat} (h : bitAt l i = true) : i < l.length := by
  rcases Nat.lt_or_ge i l.length with h' | h'
  · exact h'
  · simp [bitAt, List.getD_eq_getElem?_getD, List.getElem?_eq_none h'] at h
theorem upL_val_up (a : List Bool) (n : Nat) : valL (upL a n) = (valL a * 2 ^ n) % 2 ^ a.length := by
  refine Nat.eq_of_testBit_eq fun j => ?_
  rw [valL_bit, upL, upTo, bitAt_range, Bool.eq_iff_iff]
  simp only [Nat.testBit_mod_two_pow, Nat.testBit_mul_two_pow, Bool.and_eq_true, decide_eq_true_eq, upB, valL_bit]
  constructor
  · rintro ⟨h1, ⟨h2, h3⟩, h4⟩
    exact ⟨h1, by omega, by rw [show j - n = ((j : Int) - n).toNat by omega]; exact h4⟩
  · rintro ⟨h1, h2, h3⟩
    have := bitAt_lt h3
    exact ⟨h1, ⟨by omega, by omega⟩, by rw [show ((j : Int) - n).toNat = j - n by omega]; exact h3⟩
theorem upL_val_down (a : List Bool) (n : Nat) : valL (upL a (0 - (n : Int))) = valL a / 2 ^ n := by
  refine Nat.eq_of_testBit_eq fun j => ?_
  rw [valL_bit, upL, upTo, bitAt_range, Bool.eq_iff_iff]
  simp only [Nat.testBit_div_two_pow, Bool.and_eq_true, decide_eq_true_eq, upB, valL_bit]
  constructor
  · rintro ⟨h1, ⟨h2, h3⟩, h4⟩
    rw [show ((j : Int) - (0 - (n : Int))).toNat = j + n by omega] at h4; exact h4
  · intro h
    have := bitAt_lt h
    exact ⟨by omega, ⟨by omega, by omega⟩, by rw [show ((j : Int) - (0 - (n : Int))).toNat = j + n by omega]; exact h⟩
theorem mulTo_val (a b : List Bool) (k : Nat) : valL (mulTo a b k) = (valL a * valL (b.take k)) % 2 ^ a.length := by
  induction k with
  | zero =>
    have : valL (List.replicate a.length false) = 0 := by
      induction a.length with
      | zero => rfl
      | succ n ih => simp [List.replicate_succ, valL, ih]
    simp [mulTo, this, valL]
  | succ k ih =>
    rw [valL_take_bit]
    unfold mulTo
    cases h : bitAt b k
    · simp [ih]
    · rw [if_pos rfl, addL_val _ _ _ (by rw [upL_length, mulTo_length]), mulTo_length, ih, upL_val_up]
      simp [Nat.mul_add, Nat.add_mod]
theorem mulTo_all (a b : List Bool) : valL (mulTo a b b.length) = (valL a * valL b) % 2 ^ a.length := by
  rw [mulTo_val, List.take_length]
theorem eachTo_val (f : Bool → Bool → Bool) (g : Nat → Nat → Nat) (hg : ∀ x y j, (g x y).testBit j = f (x.testBit j) (y.testBit j)) (h0 : f false false = false) (a b : List Bool) (h : b.length = a.length) : valL (eachTo f a b a.length) = g (valL a) (valL b) := by
  refine Nat.eq_of_testBit_eq fun j => ?_
  rw [valL_bit, eachTo, bitAt_range, hg, valL_bit, valL_bit]
  by_cases hj : j < a.length
  · simp [hj]
  · have e1 : bitAt a j = false := by cases h' : bitAt a j; rfl; exact absurd (bitAt_lt h') hj
    have e2 : bitAt b j = false := by cases h' : bitAt b j; rfl; exact absurd (bitAt_lt h') (by omega)
    simp [hj, e1, e2, h0]
theorem upTo_succ (a : List Bool) (n : Int) (k : Nat) : upTo a n (k + 1) = upTo a n k ++ [upB a n k] := by simp [upTo, List.range_succ]
theorem eachTo_succ (f : Bool → Bool → Bool) (a b : List Bool) (k : Nat) : eachTo f a b (k + 1) = eachTo f a b k ++ [f (bitAt a k) (bitAt b k)] := by simp [eachTo, List.range_succ]
theorem valL_drop (l : List Bool) (k : Nat) : valL l = valL (l.take k) + 2 ^ k * valL (l.drop k) := by
  induction l generalizing k with
  | nil => simp [valL]
  | cons b r ih =>
    cases k with
    | zero => simp [valL]
    | succ k => simp only [List.take_succ_cons, List.drop_succ_cons, valL]; rw [ih k, Nat.pow_succ]; rw [Nat.mul_add, Nat.mul_comm (2 ^ k) 2, Nat.mul_assoc]; omega
theorem valL_drop_step (l : List Bool) (k : Nat) (h : k < l.length) : valL (l.drop k) = (l[k]).toNat + 2 * valL (l.drop (k + 1)) := by
  rw [List.drop_eq_getElem_cons h]; rfl
theorem valL_append (a b : List Bool) : valL (a ++ b) = valL a + 2 ^ a.length * valL b := by
  have := valL_drop (a ++ b) a.length
  simpa using this
theorem below_tell (a b : List Bool) (hl : b.length = a.length) (k : Nat) (hk : k < a.length) (he : a.drop (k + 1) = b.drop (k + 1)) (hne : a[k] ≠ b[k]'(by omega)) : decide (valL a < valL b) = b[k]'(by omega) := by
  have e1 := valL_drop a k; have e2 := valL_drop b k
  rw [valL_drop_step a k hk] at e1
  rw [valL_drop_step b k (by omega), ← he] at e2
  have l1 := valL_lt (a.take k); have l2 := valL_lt (b.take k)
  rw [List.length_take, Nat.min_eq_left (by omega)] at l1 l2
  generalize valL (a.drop (k + 1)) = z at *
  generalize a[k] = x at *
  generalize b[k]'(by omega) = y at *
  rw [Nat.mul_add] at e1 e2
  cases x <;> cases y <;> simp at hne <;> simp at e1 e2 ⊢ <;> omega
end Go.Proofs.YtlddnpgcoekaaaaGreatDoor
