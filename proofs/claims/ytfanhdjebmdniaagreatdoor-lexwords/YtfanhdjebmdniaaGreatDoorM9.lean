/- Pieces of the proof: Lists, NV, VB, VC. -/
import Derived.Test.YtfanhdjebmdniaaGreatDoorM3
import Derived.Test.YtfanhdjebmdniaaGreatDoorM8
import Derived.Test.YtfanhdjebmdniaaGreatDoorM4
/- What the document's own operations on lists of bits come to: plain facts. -/
namespace Go.Proofs.YtfanhdjebmdniaaGreatDoor

def bitAt (l : List Bool) (i : Nat) : Bool := l.getD i false
def cnt (a b m : Bool) : Nat := a.toNat + b.toNat + m.toNat
def addTo (a b : List Bool) (c : Bool) : Nat → List Bool × Bool
  | 0 => ([], c)
  | k + 1 => ((addTo a b c k).1 ++ [cnt (bitAt a k) (bitAt b k) (addTo a b c k).2 % 2 == 1], decide (1 < cnt (bitAt a k) (bitAt b k) (addTo a b c k).2))
def addL (a b : List Bool) (c : Bool) : List Bool := (addTo a b c a.length).1
def notL (l : List Bool) : List Bool := l.map (fun b => !b)
def upB (a : List Bool) (n : Int) (i : Nat) : Bool := decide (0 ≤ (i : Int) - n) && decide ((i : Int) - n < a.length) && bitAt a ((i : Int) - n).toNat
def upTo (a : List Bool) (n : Int) (k : Nat) : List Bool := (List.range k).map (upB a n)
def upL (a : List Bool) (n : Int) : List Bool := upTo a n a.length
def mulTo (a b : List Bool) : Nat → List Bool
  | 0 => List.replicate a.length false
  | k + 1 => if bitAt b k then addL (mulTo a b k) (upL a k) false else mulTo a b k
def eachTo (f : Bool → Bool → Bool) (a b : List Bool) (k : Nat) : List Bool := (List.range k).map (fun i => f (bitAt a i) (bitAt b i))

theorem addTo_length (a b : List Bool) (c : Bool) (k : Nat) : (addTo a b c k).1.length = k := by
  induction k with
  | zero => rfl
  | succ k ih => simp [addTo, ih]
theorem addL_length (a b : List Bool) (c : Bool) : (addL a b c).length = a.length := addTo_length _ _ _ _
theorem upTo_length (a : List Bool) (n : Int) (k : Nat) : (upTo a n k).length = k := by simp [upTo]
theorem upL_length (a : List Bool) (n : Int) : (upL a n).length = a.length := upTo_length _ _ _
theorem mulTo_length (a b : List Bool) (k : Nat) : (mulTo a b k).length = a.length := by
  induction k with
  | zero => simp [mulTo]
  | succ k ih => unfold mulTo; split
                 · rw [addL_length, ih]
                 · exact ih
theorem eachTo_length (f : Bool → Bool → Bool) (a b : List Bool) (k : Nat) : (eachTo f a b k).length = k := by simp [eachTo]
theorem bitAt_get {l : List Bool} {i : Nat} (h : i < l.length) : bitAt l i = l[i] := by simp [bitAt, List.getD_eq_getElem?_getD, h]

theorem cnt_split (a b m : Bool) : cnt a b m = (cnt a b m % 2 == 1).toNat + 2 * (decide (1 < cnt a b m)).toNat := by
  cases a <;> cases b <;> cases m <;> rfl
theorem valL_take_bit (l : List Bool) (k : Nat) : valL (l.take (k + 1)) = valL (l.take k) + 2 ^ k * (bitAt l k).toNat := by
  by_cases h : k < l.length
  · rw [valL_take_succ l k h, bitAt_get h]
  · rw [List.take_of_length_le (by omega), List.take_of_length_le (by omega)]
    have : bitAt l k = false := by simp [bitAt, List.getD_eq_getElem?_getD, List.getElem?_eq_none (by omega : l.length ≤ k)]
    rw [this]; simp
theorem addTo_val (a b : List Bool) (c : Bool) (k : Nat) : valL (addTo a b c k).1 + 2 ^ k * (addTo a b c k).2.toNat = valL (a.take k) + valL (b.take k) + c.toNat := by
  induction k with
  | zero => simp [addTo, valL]
  | succ k ih =>
    rw [valL_take_bit, valL_take_bit]
    simp only [addTo, valL_snoc, addTo_length]
    have h := cnt_split (bitAt a k) (bitAt b k) (addTo a b c k).2
    generalize (cnt (bitAt a k) (bitAt b k) (addTo a b c k).2 % 2 == 1) = p at *
    generalize decide (1 < cnt (bitAt a k) (bitAt b k) (addTo a b c k).2) = q at *
    unfold cnt at h
    have e : 2 ^ k * p.toNat + 2 ^ (k + 1) * q.toNat = 2 ^ k * (p.toNat + 2 * q.toNat) := by rw [Nat.pow_succ, Nat.mul_add, Nat.mul_assoc]
    rw [← h, Nat.mul_add, Nat.mul_add] at e
    omega
theorem addL_val (a b : List Bool) (c : Bool) (h : b.length = a.length) : valL (addL a b c) = (valL a + valL b + c.toNat) % 2 ^ a.length := by
  have e := addTo_val a b c a.length
  rw [List.take_length, ← h, List.take_length, h] at e
  have hl := valL_lt (addTo a b c a.length).1
  rw [addTo_length] at hl
  unfold addL
  rw [← e, Nat.add_mul_mod_self_left, Nat.mod_eq_of_lt hl]
theorem notL_val (l : List Bool) : valL (notL l) = 2 ^ l.length - 1 - valL l := by
  induction l with
  | nil => rfl
  | cons b r ih =>
    have := valL_lt r
    have h2 : notL (b :: r) = (!b) :: notL r := rfl
    rw [h2]
    simp only [valL, ih, List.length_cons, Nat.pow_succ]
    cases b <;> simp <;> omega
theorem valL_bit (l : List Bool) (i : Nat) : (valL l).testBit i = bitAt l i := valL_testBit l i
theorem bitAt_range (f : Nat → Bool) (k i : Nat) : bitAt ((List.range k).map f) i = (decide (i < k) && f i) := by
  by_cases h : i < k
  · simp [bitAt, List.getD_eq_getElem?_getD, h]
  · simp [bitAt, List.getD_eq_getElem?_getD, h]
theorem bitAt_lt {l : List Bool} {i : Nat} (h : bitAt l i = true) : i < l.length := by
  rcases Nat.lt_or_ge i l.length with h' | h'
  · exact h'
  · simp [bitAt, List.getD_eq_getElem?_getD, List.getElem?_eq_none h'] at h
theorem upL_val_up (a : List Bool) (n : Nat) : valL (upL a n) = (valL a * 2 ^ n) % 2 ^ a.length := by
  refine Nat.eq_of_testBit_eq fun j => ?_
  rw [valL_bit, upL, upTo, bitAt_range, Bool.eq_iff_iff]
  simp only [Nat.testBit_mod_two_pow, Nat.testBit_mul_two_pow, Bool.and_eq_true, decide_eq_true_eq, upB, valL_bit]
  constructor
  · rintro ⟨h1, ⟨h2, h3⟩, h4⟩
    exact ⟨h1, by omega, by rw [show j - n = ((j : Int) - n).toNat by omega]; exact h4⟩
  · rintro ⟨h1, h2, h3⟩
    have := bitAt_lt h3
    exact ⟨h1, ⟨by omega, by omega⟩, by rw [show ((j : Int) - n).toNat = j - n by omega]; exact h3⟩
theorem upL_val_down (a : List Bool) (n : Nat) : valL (upL a (0 - (n : Int))) = valL a / 2 ^ n := by
  refine Nat.eq_of_testBit_eq fun j => ?_
  rw [valL_bit, upL, upTo, bitAt_range, Bool.eq_iff_iff]
  simp only [Nat.testBit_div_two_pow, Bool.and_eq_true, decide_eq_true_eq, upB, valL_bit]
  constructor
  · rintro ⟨h1, ⟨h2, h3⟩, h4⟩
    rw [show ((j : Int) - (0 - (n : Int))).toNat = j + n by omega] at h4; exact h4
  · intro h
    have := bitAt_lt h
    exact ⟨by omega, ⟨by omega, by omega⟩, by rw [show ((j : Int) - (0 - (n : Int))).toNat = j + n by omega]; exact h⟩
theorem mulTo_val (a b : List Bool) (k : Nat) : valL (mulTo a b k) = (valL a * valL (b.take k)) % 2 ^ a.length := by
  induction k with
  | zero =>
    have : valL (List.replicate a.length false) = 0 := by
      induction a.length with
      | zero => rfl
      | succ n ih => simp [List.replicate_succ, valL, ih]
    simp [mulTo, this, valL]
  | succ k ih =>
    rw [valL_take_bit]
    unfold mulTo
    cases h : bitAt b k
    · simp [ih]
    · rw [if_pos rfl, addL_val _ _ _ (by rw [upL_length, mulTo_length]), mulTo_length, ih, upL_val_up]
      simp [Nat.mul_add, Nat.add_mod]
theorem mulTo_all (a b : List Bool) : valL (mulTo a b b.length) = (valL a * valL b) % 2 ^ a.length := by
  rw [mulTo_val, List.take_length]
theorem eachTo_val (f : Bool → Bool → Bool) (g : Nat → Nat → Nat) (hg : ∀ x y j, (g x y).testBit j = f (x.testBit j) (y.testBit j)) (h0 : f false false = false) (a b : List Bool) (h : b.length = a.length) : valL (eachTo f a b a.length) = g (valL a) (valL b) := by
  refine Nat.eq_of_testBit_eq fun j => ?_
  rw [valL_bit, eachTo, bitAt_range, hg, valL_bit, valL_bit]
  by_cases hj : j < a.length
  · simp [hj]
  · have e1 : bitAt a j = false := by cases h' : bitAt a j; rfl; exact absurd (bitAt_lt h') hj
    have e2 : bitAt b j = false := by cases h' : bitAt b j; rfl; exact absurd (bitAt_lt h') (by omega)
    simp [hj, e1, e2, h0]
theorem upTo_succ (a : List Bool) (n : Int) (k : Nat) : upTo a n (k + 1) = upTo a n k ++ [upB a n k] := by simp [upTo, List.range_succ]
theorem eachTo_succ (f : Bool → Bool → Bool) (a b : List Bool) (k : Nat) : eachTo f a b (k + 1) = eachTo f a b k ++ [f (bitAt a k) (bitAt b k)] := by simp [eachTo, List.range_succ]
theorem valL_drop (l : List Bool) (k : Nat) : valL l = valL (l.take k) + 2 ^ k * valL (l.drop k) := by
  induction l generalizing k with
  | nil => simp [valL]
  | cons b r ih =>
    cases k with
    | zero => simp [valL]
    | succ k => simp only [List.take_succ_cons, List.drop_succ_cons, valL]; rw [ih k, Nat.pow_succ]; rw [Nat.mul_add, Nat.mul_comm (2 ^ k) 2, Nat.mul_assoc]; omega
theorem valL_drop_step (l : List Bool) (k : Nat) (h : k < l.length) : valL (l.drop k) = (l[k]).toNat + 2 * valL (l.drop (k + 1)) := by
  rw [List.drop_eq_getElem_cons h]; rfl
theorem valL_append (a b : List Bool) : valL (a ++ b) = valL a + 2 ^ a.length * valL b := by
  have := valL_drop (a ++ b) a.length
  simpa using this
theorem below_tell (a b : List Bool) (hl : b.length = a.length) (k : Nat) (hk : k < a.length) (he : a.drop (k + 1) = b.drop (k + 1)) (hne : a[k] ≠ b[k]'(by omega)) : decide (valL a < valL b) = b[k]'(by omega) := by
  have e1 := valL_drop a k; have e2 := valL_drop b k
  rw [valL_drop_step a k hk] at e1
  rw [valL_drop_step b k (by omega), ← he] at e2
  have l1 := valL_lt (a.take k); have l2 := valL_lt (b.take k)
  rw [List.length_take, Nat.min_eq_left (by omega)] at l1 l2
  generalize valL (a.drop (k + 1)) = z at *
  generalize a[k] = x at *
  generalize b[k]'(by omega) = y at *
  rw [Nat.mul_add] at e1 e2
  cases x <;> cases y <;> simp at hne <;> simp at e1 e2 ⊢ <;> omega
end Go.Proofs.YtfanhdjebmdniaaGreatDoor
/- The document's own Check, Bits and Number, by value. -/
namespace Go.Proofs.YtfanhdjebmdniaaGreatDoor
open Go.RowKit

theorem refCheckV (n : Int) (v : Nat) (w : World) (hv : v < top) (b : Bool) (hb : okN n v = b) :
    Calls Tryz.prog 246 #[.agg #[.int .i64 n, .int .u64 (wHi v), .int .u64 (wLo v)]] w fun e w' => e = .returned (.bool b) ∧ Below w.heap.size w w' := by
  have h := refCheck_any n (wHi v) (wLo v) w (wHi_bd hv).1 (wHi_bd hv).2 (wLo_bd v).1 (wLo_bd v).2
  have e : okB n (wHi v) (wLo v) = b := by
    rw [← hb]
    unfold okB okN
    cases hm : mayBe n
    · rfl
    · have h0 : 1 ≤ n ∧ n ≤ 128 := by simpa [mayBe] using hm
      rw [ok_iff n v h0.1]
  rw [e] at h
  exact h

def lst (n : Int) (u : Nat) : List Bool := bitsTo (wHi u) (wLo u) n.toNat
theorem lst_length (n : Int) (u : Nat) : (lst n u).length = n.toNat := bitsTo_length _ _ _
theorem bitB_val (u i : Nat) (hi : i < 128) : bitB (wHi u) (wLo u) i = u.testBit i := by
  unfold bitB
  rw [wHi_nat, wLo_nat, Int.toNat_natCast, Int.toNat_natCast]
  by_cases h : i < 64
  · rw [if_pos h, Nat.testBit_mod_two_pow]; simp [h]
  · rw [if_neg h, Nat.testBit_div_two_pow]; congr 1; omega
theorem lst_val {n : Int} {u : Nat} (h1 : n ≤ 128) (hu : u < 2 ^ n.toNat) : valL (lst n u) = u := by
  refine Nat.eq_of_testBit_eq fun j => ?_
  rw [valL_testBit, lst, bitsTo_getD]
  by_cases h : j < n.toNat
  · rw [bitB_val u j (by omega)]; simp [h]
  · have : u.testBit j = false := Nat.testBit_lt_two_pow (Nat.lt_of_lt_of_le hu (Nat.pow_le_pow_right (by decide) (by omega)))
    simp [h, this]
theorem refBitsV (n : Int) (u : Nat) (w : World) (hu : u < top) (h1 : n ≤ 128) :
    Calls Tryz.prog 247 #[.agg #[.int .i64 n, .int .u64 (wHi u), .int .u64 (wLo u)]] w fun e w' => ∃ r, e = .returned r ∧ w'.ownsRow (w.heap.size + 1) 4 1 r n.toNat ((lst n u).map Value.bool) ∧ Below w.heap.size w w' := by
  have h := refBits_any n (wHi u) (wLo u) w (wHi_bd hu).1 (wHi_bd hu).2 (wLo_bd u).1 (wLo_bd u).2
  rw [Int.min_eq_left h1] at h
  exact h
theorem num_lo_val (l : List Bool) : ((numLo l : Nat) : Int) = wLo (valL l) := by
  rw [wLo_nat]
  congr 1
  refine Nat.eq_of_testBit_eq fun j => ?_
  rw [numLo, valL_testBit, Nat.testBit_mod_two_pow, valL_testBit, List.getD_eq_getElem?_getD, List.getD_eq_getElem?_getD, List.getElem?_take]
  by_cases h : j < 64 <;> simp [h]
theorem num_hi_val (l : List Bool) (hl : l.length ≤ 128) : ((numHi l : Nat) : Int) = wHi (valL l) := by
  rw [wHi_nat]
  congr 1
  refine Nat.eq_of_testBit_eq fun j => ?_
  rw [numHi, valL_testBit, Nat.testBit_div_two_pow, valL_testBit, List.getD_eq_getElem?_getD, List.getD_eq_getElem?_getD, List.getElem?_take, List.getElem?_drop]
  by_cases h : j < 64
  · rw [if_pos h]; congr 2; omega
  · rw [if_neg h, List.getElem?_eq_none (by omega)]
theorem refNumberB (v : Value) (l : List Bool) (w : World) (N : Int) (x : Nat) (hl : l.length ≤ 128) (hN : (l.length : Int) = N) (hx : valL l = x) (hv : BRow w v l) :
    Calls Tryz.prog 277 #[v] w fun e w' => e = .returned (.agg #[.int .i64 N, .int .u64 (wHi x), .int .u64 (wLo x)]) ∧ Below w.heap.size w w' := by
  have h := refNumber_any v l w hl hv
  rw [num_lo_val, num_hi_val l hl, hN, hx] at h
  exact h
end Go.Proofs.YtfanhdjebmdniaaGreatDoor
/- The document's Text. -/
namespace Go.Proofs.YtfanhdjebmdniaaGreatDoor
open Go.RowKit

theorem mod_step4 (v m : Nat) : v % 2 ^ (m + 1) = 2 * ((v / 2) % 2 ^ m) + v % 2 := by
  rw [Nat.pow_succ, Nat.mul_comm, Nat.mod_mul]; omega
theorem part4_step (u at' i m : Nat) : (u / 2 ^ (at' + i)) % 2 ^ (m + 1) = 2 * ((u / 2 ^ (at' + (i + 1))) % 2 ^ m) + (u.testBit (at' + i)).toNat := by
  rw [mod_step4, Nat.div_div_eq_div_mul, ← Nat.pow_succ, ← Nat.add_assoc, Nat.testBit_eq_decide_div_mod_eq]
  rcases Nat.mod_two_eq_zero_or_one (u / 2 ^ (at' + i)) with h | h <;> simp [h]
set_option maxHeartbeats 2000000 in
theorem part4_row (l : List Bool) (b off cap A : Nat) (w : World) (hc : ∀ i (h : i < l.length), w.cell? ⟨b, off + i, none⟩ = some (.bool l[i])) (hl : l.length ≤ 128) (hA : A ≤ 1000) :
    Calls Tryz.prog 248 #[.slice (some ⟨b, off, none⟩) l.length cap, .int .i64 A, .int .i64 4] w fun e w' => e = .returned (.int .i64 ((valL l / 2 ^ A % 16 : Nat) : Int)) ∧ w' = w := by
  obtain ⟨V, hV⟩ : ∃ V, valL l / 2 ^ A % 16 = V := ⟨_, rfl⟩
  obtain ⟨n, hn⟩ : ∃ n, l.length = n := ⟨_, rfl⟩
  rw [hV, hn]
  have HV := hide hV; have HC := hide hc; have HN := hide hn; have HAA := hide hA; have HLL := hide hl
  clear hV hc hn hl hA
  go_enter Tryz.func248, Tryz.ntmps248
  go_wp2
  go_loop [7, 8] (fun z i => ∃ (k t : Nat) (ik : Int), k ≤ 4 ∧ i = .int .i64 ik ∧ z = .int .i64 (t : Int) ∧ Hid (ik = (k : Int) - 1) ∧ Hid (t = valL l / 2 ^ (A + k) % 2 ^ (4 - k))) (fun _ i => (intOf i + 1).toNat)
  case atStart => exact ⟨4, 0, 3, by omega, rfl, rfl, by exact rfl, by show (0 : Nat) = _; simp [Nat.mod_one]⟩
  case round =>
    obtain ⟨k, t, ik, hk, rfl, rfl, HI, HT⟩ := hrel
    have ht256 : t < 16 := by
      rw [HT.out]
      exact Nat.lt_of_lt_of_le (Nat.mod_lt _ (Nat.pow_pos (by decide))) (show 2 ^ (4 - k) ≤ 2 ^ 4 from Nat.pow_le_pow_right (by decide) (by omega))
    cases k with
    | zero =>
      obtain rfl : ik = -1 := by have := HI.out; omega
      have HE : Hid (t = V) := hide (by rw [HT.out, ← HV.out]; simp)
      clear ht256
      go_wp2
      go_ret
      exact ⟨by rw [← HE.out]; rfl, rfl⟩
    | succ j =>
      obtain rfl : ik = (j : Int) := by have := HI.out; omega
      obtain ⟨I, hI⟩ : ∃ I, A + j = I := ⟨_, rfl⟩
      have hA := HAA.out
      have w1 : wrap64 ((A : Int) + (j : Int)) = (I : Int) := by unfold wrap64; omega
      have w2 : wrap64 (2 * (t : Int)) = ((2 * t : Nat) : Int) := by unfold wrap64; omega
      have w2' : wrap64 ((t : Int) * 2) = ((2 * t : Nat) : Int) := by unfold wrap64; omega
      have d0 : ((j : Int) ≥ 0) = True := eq_true (by omega)
      have d0' : ((0 : Int) ≤ (j : Int)) = True := eq_true (by omega)
      have HS : Hid (valL l / 2 ^ (A + j) % 2 ^ (4 - j) = 2 * t + ((valL l).testBit (A + j)).toNat) := hide (by
        rw [show 4 - j = (4 - (j + 1)) + 1 by omega, part4_step, ← HT.out])
      obtain ⟨T2, hT2⟩ : ∃ T2, 2 * t = T2 := ⟨_, rfl⟩
      rw [hT2] at w2 w2' HS
      have hT2b : T2 < 1000 := by omega
      rw [hI] at HS
      by_cases hlt : I < n
      · have hIl : I < l.length := by rw [HN.out]; exact hlt
        have hcell := HC.out I hIl
        have hbit : (valL l).testBit I = l[I] := by rw [valL_bit, bitAt_get hIl]
        have e1 : ((I : Int) < (n : Int)) = True := eq_true (by omega)
        have e2 : (I < n) = True := eq_true hlt
        rw [hbit] at HS
        cases hb : l[I] with
        | false =>
          rw [hb] at hcell HS
          clear hb hbit ht256 hT2
          go_wp2
          go_round
          case rel => exact ⟨j, T2, (j : Int) - 1, by omega, by go_num, rfl, by exact rfl, by have := HS.out; rw [show A + j = I from hI]; exact hide (by simpa using this.symm)⟩
          case measure => simp [intOf]
        | true =>
          rw [hb] at hcell HS
          clear hb hbit ht256 hT2
          go_wp2
          go_round
          case rel => exact ⟨j, T2 + 1, (j : Int) - 1, by omega, by go_num, by go_num, by exact rfl, by have := HS.out; rw [show A + j = I from hI]; exact hide (by simpa using this.symm)⟩
          case measure => simp [intOf]
      · have hbit : (valL l).testBit I = false := by
          rw [valL_bit]
          cases hb : bitAt l I with
          | false => rfl
          | true => have := bitAt_lt hb; rw [HN.out] at this; omega
        have e1 : ((I : Int) < (n : Int)) = False := eq_false (by omega)
        have e2 : (I < n) = False := eq_false hlt
        have e3 : decide ((I : Int) < (n : Int)) = false := decide_eq_false (by omega)
        rw [hbit] at HS
        clear hbit ht256 hT2
        go_wp2
        go_round
        case rel => exact ⟨j, T2, (j : Int) - 1, by omega, by go_num, rfl, by exact rfl, by have := HS.out; rw [show A + j = I from hI]; exact hide (by simpa using this.symm)⟩
        case measure => simp [intOf]
/- what the digits above a place come to, without noughts ahead. -/
def stx (v k : Nat) : List UInt8 := if v / 16 ^ k = 0 ∧ k ≠ 0 then [] else hx (v / 16 ^ k)
theorem stx_top (v : Nat) (hv : v < 340282366920938463463374607431768211456) : stx v 32 = [] := by
  have e : (16 : Nat) ^ 32 = 340282366920938463463374607431768211456 := by decide
  unfold stx
  rw [e, Nat.div_eq_of_lt hv, if_pos ⟨rfl, by decide⟩]
theorem stx_zero (v : Nat) : stx v 0 = hx v := by unfold stx; rw [if_neg (by omega)]; simp
theorem div16 (v k : Nat) : v / 16 ^ k = v / 16 ^ (k + 1) * 16 + v / 16 ^ k % 16 := by
  rw [Nat.pow_succ, ← Nat.div_div_eq_div_mul]; omega
theorem stx_more {v k : Nat} (h : stx v (k + 1) ≠ [] ∨ 0 < v / 16 ^ k % 16 ∨ k = 0) : stx v k = stx v (k + 1) ++ [(dig (v / 16 ^ k % 16)).toUInt8] := by
  have e := div16 v k
  have hm : v / 16 ^ k % 16 < 16 := Nat.mod_lt _ (by decide)
  by_cases h0 : v / 16 ^ (k + 1) = 0
  · have h1 : stx v (k + 1) = [] := by unfold stx; rw [if_pos ⟨h0, by omega⟩]
    rw [h1, List.nil_append]
    rw [h0, Nat.zero_mul, Nat.zero_add] at e
    unfold stx
    rw [if_neg (by rcases h with h | h | h; · exact absurd h1 h
                   · omega
                   · omega), hx_small (by omega), ← e]
  · have h1 : stx v (k + 1) = hx (v / 16 ^ (k + 1)) := by unfold stx; rw [if_neg (by omega)]
    rw [h1]
    unfold stx
    rw [if_neg (by omega), hx_big (by omega)]
    congr 2; omega
theorem stx_same {v k : Nat} (h1 : stx v (k + 1) = []) (h2 : v / 16 ^ k % 16 = 0) (h3 : k ≠ 0) : stx v k = [] := by
  have e := div16 v k
  have h0 : v / 16 ^ (k + 1) = 0 := by
    unfold stx at h1
    by_cases h : v / 16 ^ (k + 1) = 0
    · exact h
    · rw [if_neg (by omega)] at h1; exact absurd h1 (hx_nil _)
  unfold stx
  rw [if_pos ⟨by omega, h3⟩]
theorem stx_len (v k : Nat) (hv : v < 340282366920938463463374607431768211456) : (stx v k).length ≤ 32 := by
  unfold stx
  split
  · simp
  · exact (tx_le 1 _ (by omega) (Nat.lt_of_le_of_lt (Nat.div_le_self _ _) hv)).2
def hexS : ByteArray := ⟨#[48, 49, 50, 51, 52, 53, 54, 55, 56, 57, 97, 98, 99, 100, 101, 102]⟩
theorem ext16 : ∀ x : Fin 16, hexS.extract x.val (x.val + 1) = txt [(dig x.val).toUInt8] := by decide +kernel
theorem ext16' {x : Nat} (h : x < 16) : hexS.extract x (x + 1) = txt [(dig x).toUInt8] := ext16 ⟨x, h⟩
theorem refText_no (n : Int) (v : Nat) (w : World) (hv : v < top) (ho : okN n v = false) :
    Calls Tryz.prog 227 #[.agg #[.int .i64 n, .int .u64 (wHi v), .int .u64 (wLo v)]] w fun e w' => e = .returned (.tuple #[.string (txt []), .int .i64 1]) ∧ Below w.heap.size w w' := by
  have HC := hide (fun W => refCheckV n v W hv false ho)
  generalize wHi v = h1 at *
  generalize wLo v = l1 at *
  clear ho hv
  go_enter Tryz.func227, Tryz.ntmps227
  go_wp2_with fail
  refine (HC.out _).mono ?_
  rintro e w1 ⟨rfl, hb⟩
  have HW : Hid (Below w.heap.size w w1) := ((Below.refl _ _).alloc (Nat.le_refl _) _).trans (hb.mono (by simp))
  clear hb
  go_wp2
  go_ret2
  exact ⟨rfl, HW.out⟩
set_option maxHeartbeats 2000000 in
set_option maxRecDepth 100000 in
theorem refText_yes (N v : Nat) (w : World) (hv : v < top) (ho : okN N v = true) :
    Calls Tryz.prog 227 #[.agg #[.int .i64 N, .int .u64 (wHi v), .int .u64 (wLo v)]] w fun e w' => e = .returned (.tuple #[.string (txt (tx N v)), .int .i64 0]) ∧ Below w.heap.size w w' := by
  have HC := hide (fun W => refCheckV N v W hv true ho)
  have hn : 1 ≤ N ∧ N ≤ 128 ∧ v < 2 ^ N := by
    unfold okN mayBe at ho
    simp at ho
    exact ⟨by omega, by omega, ho.2⟩
  have HBi := hide (fun W => refBitsV N v W hv (by omega))
  have hlv := lst_val (n := N) (u := v) (by omega) (by simpa using hn.2.2)
  have hll : (lst N v).length = N := by rw [lst_length]; simp
  have HDi := hide (refDigits N (by omega))
  have hle := tx_le N v (by omega) (by unfold top at hv; exact hv)
  have HX : Hid ((txt (Lib.decDigits N) ++ txt [119]) ++ txt (hx v) = txt (tx N v)) := by unfold Hid; rw [cat_txt, cat_txt]; congr 1; simp [tx]
  have hs1 : ¬ 9223372036854775807 < (txt (Lib.decDigits N)).size + 1 := by rw [txt_size]; omega
  have hs2 : ¬ 9223372036854775807 < (txt (Lib.decDigits N)).size + 1 + (txt (hx v)).size := by rw [txt_size, txt_size]; omega
  have HV : Hid (v < 340282366920938463463374607431768211456) := by unfold top at hv; exact hv
  generalize txt (tx N v) = R at *
  generalize txt (Lib.decDigits N) = A at *
  have HHN := hide hn
  rw [Int.toNat_natCast] at HBi
  generalize wHi v = h1 at *
  generalize wLo v = l1 at *
  clear ho hle hn hv
  generalize lst N v = L at *
  have hL0 : 0 < L.length := by have := HHN.out; omega
  have HLL := hide hll; have HLV := hide hlv; have HL0 := hide hL0
  clear hll hlv hL0
  go_enter Tryz.func227, Tryz.ntmps227
  go_wp2_with fail
  refine (HC.out _).mono ?_
  rintro e w1 ⟨rfl, hb⟩
  have hz : w.heap.size < w1.heap.size := by have := hb.size; simp at this; omega
  have hk := cells3T hb
  have HW : Hid (Below w.heap.size w w1) := ((Below.refl _ _).alloc (Nat.le_refl _) _).trans (hb.mono (by simp))
  clear hb
  obtain ⟨hk0, hk1, hk2⟩ := hk
  go_wp2_with fail
  refine (HBi.out _).mono ?_
  rintro e w2 ⟨r, rfl, hrow, hb⟩
  have HW2 : Hid (Below w.heap.size w w2) := HW.out.trans (hb.mono (by omega))
  have hk0' : w2.cell? ⟨w.heap.size, 0, none⟩ = some (.int .i64 N) := (hb.cell hz).trans hk0
  have hbr := brow_of_own hrow
  clear hb hk0 hk1 hk2 hrow
  obtain ⟨rfl, hnil⟩ | ⟨b, off, cap, rfl, hcell⟩ := hbr
  · exfalso; have := HL0.out; rw [hnil] at this; simp at this
  have HP : Hid (∀ i : Nat, i ≤ 31 → Calls Tryz.prog 248 #[.slice (some ⟨b, off, none⟩) L.length cap, .int .i64 ((4 * i : Nat) : Int), .int .i64 4] w2 fun e w' => e = .returned (.int .i64 ((v / 16 ^ i % 16 : Nat) : Int)) ∧ w' = w2) := fun i hi => by
    have := part4_row L b off cap (4 * i) w2 hcell (by have := HLL.out; have := HHN.out; omega) (by omega)
    rw [HLV.out, show 2 ^ (4 * i) = 16 ^ i by rw [Nat.pow_mul]] at this
    exact this
  clear hcell
  generalize L.length = LL at *
  go_wp2
  go_loop [5, 6] (fun vs vi => ∃ (k : Nat) (i : Int) (S : ByteArray), k ≤ 32 ∧ vs = .string S ∧ vi = .int .i64 i ∧ i = (k : Int) - 1 ∧ Hid (S = txt (stx v k))) (fun _ vi => (intOf vi + 1).toNat)
  case atStart => exact ⟨32, 31, ⟨#[]⟩, by omega, rfl, rfl, by omega, by unfold Hid; rw [stx_top v HV.out]; rfl⟩
  case round =>
    obtain ⟨k, i, S, hk, rfl, rfl, hi, HS⟩ := hrel
    cases k with
    | zero =>
      obtain rfl : i = -1 := by omega
      have e0 : S = txt (hx v) := by rw [HS.out, stx_zero]
      rw [← e0] at hs2 HX
      clear hi HS e0
      go_wp2_with fail
      refine (HDi.out _).mono ?_
      rintro e w3 ⟨rfl, rfl⟩
      go_wp2
      go_ret2
      exact ⟨by rw [← HX.out]; rfl, HW2.out⟩
    | succ j =>
      obtain rfl : i = (j : Int) := by omega
      have hPj := hide (HP.out j (by omega))
      have hSs : S.size ≤ 32 := by rw [HS.out, txt_size]; exact stx_len _ _ HV.out
      have hm4 : wrap64 (4 * (j : Int)) = ((4 * j : Nat) : Int) := by unfold wrap64; omega
      have hm4' : IntKind.i64.wrap (4 * (j : Int)) = ((4 * j : Nat) : Int) := by rw [IntKind.wrap_i64]; omega
      generalize ((4 * j : Nat) : Int) = J4 at *
      have hd16 : v / 16 ^ j % 16 < 16 := Nat.mod_lt _ (by decide)
      have HM : Hid ((stx v (j + 1) ≠ [] ∨ 0 < v / 16 ^ j % 16 ∨ j = 0) → stx v j = stx v (j + 1) ++ [(dig (v / 16 ^ j % 16)).toUInt8]) := stx_more
      have HN : Hid (stx v (j + 1) = [] → v / 16 ^ j % 16 = 0 → j ≠ 0 → stx v j = []) := stx_same
      clear hi
      generalize v / 16 ^ j % 16 = d at *
      have hs3 : ¬ 9223372036854775807 < S.size + 1 := by omega
      have hs4 : ¬ 9223372036854775807 < S.size + (min (d + 1) 16 - d) := by omega
      have HEX : Hid (hexS.extract d (d + 1) = txt [(dig d).toUInt8]) := ext16' hd16
      go_wp2_with fail
      refine hPj.out.mono ?_
      rintro e w3 ⟨rfl, rfl⟩
      by_cases hne : stx v (j + 1) = []
      · have hSe : S = ⟨#[]⟩ := by rw [HS.out, hne]; rfl
        by_cases hd0 : d = 0
        · by_cases hj : j = 0
          · have HF : Hid ((⟨#[]⟩ : ByteArray) ++ hexS.extract d (d + 1) = txt (stx v j)) := by
              unfold Hid; rw [HEX.out, ← txt_nil, cat_txt, HM.out (.inr (.inr hj)), hne]
            subst hSe hd0 hj
            clear HS hne HM HN HEX
            go_wp2
            exact ⟨⟨0, -1, _, by omega, rfl, by go_num, by omega, HF⟩, by simp [intOf]⟩
          · have HF : Hid ((⟨#[]⟩ : ByteArray) = txt (stx v j)) := by unfold Hid; rw [HN.out hne hd0 hj]; rfl
            subst hSe hd0
            have hjI : ¬ ((j : Int) = 0) := by omega
            clear HS hne HM HN HEX
            go_wp2
            exact ⟨⟨j, (j : Int) - 1, _, by omega, rfl, by go_num, by omega, HF⟩, by simp [intOf]⟩
        · have HF : Hid ((⟨#[]⟩ : ByteArray) ++ hexS.extract d (d + 1) = txt (stx v j)) := by
            unfold Hid; rw [HEX.out, ← txt_nil, cat_txt, HM.out (.inr (.inl (by omega))), hne]
          subst hSe
          have hdI : (0 : Int) < (d : Int) := by omega
          clear HS hne HM HN HEX
          go_wp2
          exact ⟨⟨j, (j : Int) - 1, _, by omega, rfl, by go_num, by omega, HF⟩, by simp [intOf]⟩
      · have HF : Hid (S ++ hexS.extract d (d + 1) = txt (stx v j)) := by
          unfold Hid; rw [HEX.out, HS.out, cat_txt, HM.out (.inl hne)]
        have hemp : S.toList.isEmpty = false := by
          rw [Lib.toList_data, HS.out, txt_data]
          cases h : stx v (j + 1) with
          | nil => exact absurd h hne
          | cons _ _ => rfl
        clear HS hne HM HN HEX
        go_wp2
        exact ⟨⟨j, (j : Int) - 1, _, by omega, rfl, by go_num, by omega, HF⟩, by simp [intOf]⟩
end Go.Proofs.YtfanhdjebmdniaaGreatDoor
/- The document's digit and Parse. -/
namespace Go.Proofs.YtfanhdjebmdniaaGreatDoor
open Go.RowKit

/- a digit of 16, as the document reads it. -/
def dgt (c : Nat) : Option Nat := if 48 ≤ c ∧ c ≤ 57 then some (c - 48) else if 97 ≤ c ∧ c ≤ 102 then some (c - 87) else none
def dgtI (c : Nat) : Int := match dgt c with | some d => (d : Int) | none => -1
theorem refDigit (c : Nat) (hc : c < 256) (w : World) :
    Calls Tryz.prog 226 #[.int .u8 (c : Int)] w fun e w' => e = .returned (.int .i64 (dgtI c)) ∧ w' = w := by
  by_cases h1 : 48 ≤ c ∧ c ≤ 57
  · obtain ⟨a0, a1⟩ := h1
    have e : dgtI c = (c : Int) - 48 := by unfold dgtI dgt; rw [if_pos ⟨a0, a1⟩]; simp; omega
    rw [e]
    clear e
    go_enter Tryz.func226, Tryz.ntmps226
    go_wp2
    go_ret
    exact ⟨by first | rfl | (congr 2; omega), rfl⟩
  · by_cases h2 : 97 ≤ c ∧ c ≤ 102
    · obtain ⟨b0, b1⟩ := h2
      have e : dgtI c = (c : Int) - 97 + 10 := by unfold dgtI dgt; rw [if_neg h1, if_pos ⟨b0, b1⟩]; simp; omega
      rw [e]
      clear e
      have n1 : ¬ (c : Int) ≤ 57 := by omega
      clear h1
      go_enter Tryz.func226, Tryz.ntmps226
      go_wp2
      all_goals go_ret
      all_goals exact ⟨by first | rfl | (congr 2; omega), rfl⟩
    · have e : dgtI c = -1 := by unfold dgtI dgt; rw [if_neg h1, if_neg h2]
      rw [e]
      clear e
      rcases Nat.lt_or_ge c 48 with hA | hA
      · have n0 : ¬ (48 : Int) ≤ (c : Int) := by omega
        have n1 : ¬ (97 : Int) ≤ (c : Int) := by omega
        clear h1 h2
        go_enter Tryz.func226, Tryz.ntmps226
        go_wp2
        all_goals go_ret
        all_goals exact ⟨rfl, rfl⟩
      · have n0 : ¬ (c : Int) ≤ 57 := by omega
        rcases Nat.lt_or_ge c 97 with hB | hB
        · have n1 : ¬ (97 : Int) ≤ (c : Int) := by omega
          clear h1 h2
          go_enter Tryz.func226, Tryz.ntmps226
          go_wp2
          all_goals go_ret
          all_goals exact ⟨rfl, rfl⟩
        · have n1 : ¬ (c : Int) ≤ 102 := by omega
          clear h1 h2
          go_enter Tryz.func226, Tryz.ntmps226
          go_wp2
          all_goals go_ret
          all_goals exact ⟨rfl, rfl⟩
/- the digits ahead, at most so many; what they come to. -/
def isDc (c : UInt8) : Bool := decide (48 ≤ c.toNat ∧ c.toNat ≤ 57)
def lead : Nat → List UInt8 → List UInt8
  | 0, _ => []
  | _ + 1, [] => []
  | k + 1, c :: l => if isDc c then c :: lead k l else []
def dcv (a : Nat) : List UInt8 → Nat
  | [] => a
  | c :: l => dcv (10 * a + (c.toNat - 48)) l
theorem lead_len : ∀ (k : Nat) (l : List UInt8), (lead k l).length ≤ k ∧ (lead k l).length ≤ l.length
  | 0, _ => by simp [lead]
  | _ + 1, [] => by simp [lead]
  | k + 1, c :: l => by
    have := lead_len k l
    unfold lead
    split <;> simp <;> omega
def hfold (a : Nat) : List UInt8 → Option Nat
  | [] => some a
  | c :: l => match dgt c.toNat with | some d => hfold ((a * 16 + d) % top) l | none => none
theorem dcv_snoc (c : UInt8) : ∀ (l : List UInt8) (a : Nat), dcv a (l ++ [c]) = 10 * dcv a l + (c.toNat - 48)
  | [], _ => rfl
  | _ :: l, _ => dcv_snoc c l _
theorem hfold_snoc (c : UInt8) : ∀ (l : List UInt8) (a : Nat), hfold a (l ++ [c]) = (hfold a l).bind fun n => match dgt c.toNat with | some d => some ((n * 16 + d) % top) | none => none
  | [], a => by
    show hfold a [c] = _
    unfold hfold
    cases dgt c.toNat <;> rfl
  | x :: l, a => by
    show hfold a (x :: (l ++ [c])) = (hfold a (x :: l)).bind _
    unfold hfold
    cases dgt x.toNat with
    | none => rfl
    | some d => exact hfold_snoc c l _
theorem dgt_dig : ∀ d : Fin 16, dgt (dig d.val).toUInt8.toNat = some d.val := by decide +kernel
theorem dc_val : ∀ d : Fin 10, (UInt8.ofNat (48 + d.val)).toNat - 48 = d.val := by decide +kernel
theorem dc_is : ∀ d : Fin 10, isDc (UInt8.ofNat (48 + d.val)) = true := by decide +kernel
theorem dcv_one (c : UInt8) : dcv 0 [c] = c.toNat - 48 := by show 10 * 0 + (c.toNat - 48) = _; omega
theorem dcv_dc (v : Nat) : dcv 0 (Lib.decDigits v) = v := by
  induction v using Nat.strongRecOn with
  | _ v ih =>
    by_cases hs : v < 10
    · rw [dc_small hs, dcv_one]
      exact dc_val ⟨v, hs⟩
    · have e : (UInt8.ofNat (48 + v % 10)).toNat - 48 = v % 10 := dc_val ⟨v % 10, Nat.mod_lt _ (by decide)⟩
      rw [dc_big hs, dcv_snoc, ih (v / 10) (by omega), e]
      omega
theorem hfold_hx (v : Nat) (h : v < 340282366920938463463374607431768211456) : hfold 0 (hx v) = some v := by
  induction v using Nat.strongRecOn with
  | _ v ih =>
    by_cases hs : v < 16
    · rw [hx_small hs]
      have e := dgt_dig ⟨v, hs⟩
      simp only at e
      simp only [hfold, e]
      congr 1; unfold top; omega
    · have e := dgt_dig ⟨v % 16, Nat.mod_lt _ (by decide)⟩
      simp only at e
      rw [hx_big hs, hfold_snoc, ih (v / 16) (by omega) (by omega)]
      simp only [Option.bind, e]
      congr 1; unfold top; omega
theorem dc_all (v : Nat) : ∀ c ∈ Lib.decDigits v, isDc c = true := by
  induction v using Nat.strongRecOn with
  | _ v ih =>
    by_cases hs : v < 10
    · rw [dc_small hs]; intro c hc; rw [List.mem_singleton] at hc; subst hc; exact dc_is ⟨v, hs⟩
    · rw [dc_big hs]
      intro c hc
      rw [List.mem_append, List.mem_singleton] at hc
      rcases hc with hc | rfl
      · exact ih _ (by omega) c hc
      · exact dc_is ⟨v % 10, Nat.mod_lt _ (by decide)⟩
theorem lead_app : ∀ (k : Nat) (l r : List UInt8), (∀ c ∈ l, isDc c = true) → l.length ≤ k → (∀ c r', r = c :: r' → isDc c = false) → lead k (l ++ r) = l
  | 0, [], r, _, _, _ => by cases r <;> rfl
  | 0, _ :: _, _, _, h, _ => by simp at h
  | k + 1, [], [], _, _, _ => rfl
  | k + 1, [], c :: r, _, _, h => by
    have := h c r rfl
    simp [lead, this]
  | k + 1, c :: l, r, h1, h2, h3 => by
    have := h1 c (by simp)
    simp only [List.cons_append, lead, this, if_true]
    rw [lead_app k l r (fun x hx => h1 x (by simp [hx])) (by simpa using h2) h3]
/- what the document reads a text as. -/
def rW (l : List UInt8) : Nat := dcv 0 (lead 3 l)
def rT (l : List UInt8) : List UInt8 := (l.drop ((lead 3 l).length + 1)).take 33
def rprs (l : List UInt8) : Option (Nat × Nat) := match hfold 0 (rT l) with
  | some v => if okN (rW l) v = true ∧ tx (rW l) v = l then some (rW l, v) else none
  | none => none
theorem rprs_eq (l : List UInt8) : rprs l = prs l := by
  cases hp : prs l with
  | none =>
    unfold rprs
    split
    · split
      · rename_i h
        have := prs_tx h.1
        rw [h.2, hp] at this; cases this
      · rfl
    · rfl
  | some p =>
    obtain ⟨n, v⟩ := p
    obtain ⟨h1, h2⟩ := prs_some hp
    have hb := okN_bd h1
    have ht := okN_ltop h1
    have hn : n ≤ 128 := by omega
    have hv : v < 340282366920938463463374607431768211456 := by unfold top at ht; exact ht
    have hlen := tx_le n v hn hv
    have e1 : lead 3 l = Lib.decDigits n := by
      rw [← h2]
      unfold tx
      exact lead_app 3 _ _ (dc_all n) (by omega) (fun c r' hr => by cases hr; decide)
    have e2 : rW l = n := by unfold rW; rw [e1, dcv_dc]
    have e3 : rT l = hx v := by
      unfold rT
      rw [e1, ← h2]
      unfold tx
      rw [List.drop_append, List.drop_of_length_le (by omega), List.nil_append, show (Lib.decDigits n).length + 1 - (Lib.decDigits n).length = 1 by omega, List.drop_one, List.tail_cons, List.take_of_length_le (by omega)]
    unfold rprs
    rw [e3, hfold_hx v hv, e2]
    simp only
    rw [if_pos ⟨h1, h2⟩]
end Go.Proofs.YtfanhdjebmdniaaGreatDoor
