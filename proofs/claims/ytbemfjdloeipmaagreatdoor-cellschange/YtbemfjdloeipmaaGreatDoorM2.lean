/- Pieces of the proof: Math, Words. -/
import Derived.Laws.BitsAllLaws
import Derived.Laws.ShiftsVarLaws
import Derived.Test.YtbemfjdloeipmaaGreatDoorProg
import Derived.WalkKit
import Derived.WalkSpells
import Derived.WalkLawsBesides
import Derived.Laws.Pointers
import Derived.Laws.ResultCell
/- Plain facts on words and lists of bits: no Go in sight. -/
namespace Go.Proofs.YtbemfjdloeipmaaGreatDoor

def low (n : Int) : Int := 2 ^ n.toNat - 1
def cLo (n lo : Int) : Int := if n ≤ 64 then lo % 2 ^ n.toNat else lo
def cHi (n hi : Int) : Int := if n ≤ 64 then 0 else hi % 2 ^ (n - 64).toNat
theorem cLo_le {n lo : Int} (h : n ≤ 64) : cLo n lo = lo % 2 ^ n.toNat := by unfold cLo; rw [if_pos h]
theorem cLo_gt {n lo : Int} (h : 64 < n) : cLo n lo = lo := by unfold cLo; rw [if_neg (by omega)]
theorem cHi_le {n hi : Int} (h : n ≤ 64) : cHi n hi = 0 := by unfold cHi; rw [if_pos h]
theorem cHi_gt {n hi : Int} (h : 64 < n) : cHi n hi = hi % 2 ^ (n - 64).toNat := by unfold cHi; rw [if_neg (by omega)]
def bitB (hi lo : Int) (i : Nat) : Bool := if i < 64 then lo.toNat.testBit i else hi.toNat.testBit (i - 64)
def bitsTo (hi lo : Int) (k : Nat) : List Bool := (List.range k).map (bitB hi lo)
def valL : List Bool → Nat
  | [] => 0
  | b :: r => b.toNat + 2 * valL r
def numLo (l : List Bool) : Nat := valL (l.take 64)
def numHi (l : List Bool) : Nat := valL ((l.drop 64).take 64)

theorem valL_lt (l : List Bool) : valL l < 2 ^ l.length := by
  induction l with
  | nil => simp [valL]
  | cons b r ih => simp only [valL, List.length_cons, Nat.pow_succ]; cases b <;> simp <;> omega

theorem valL_testBit (l : List Bool) (i : Nat) : (valL l).testBit i = l.getD i false := by
  induction l generalizing i with
  | nil => simp [valL]
  | cons b r ih =>
    cases i with
    | zero => cases b <;> simp [valL, Nat.testBit_zero]
    | succ j =>
      have h := ih j
      simp only [valL, Nat.testBit_succ, List.getD_cons_succ]
      rw [← h]
      congr 1
      cases b <;> simp <;> omega

theorem valL_snoc (l : List Bool) (b : Bool) : valL (l ++ [b]) = valL l + 2 ^ l.length * b.toNat := by
  induction l with
  | nil => simp [valL]
  | cons c r ih => simp only [List.cons_append, valL, ih, List.length_cons, Nat.pow_succ]; rw [Nat.mul_add, Nat.add_assoc, ← Nat.mul_assoc, Nat.mul_comm (2 ^ r.length) 2]

theorem valL_take_succ (l : List Bool) (k : Nat) (h : k < l.length) : valL (l.take (k + 1)) = valL (l.take k) + 2 ^ k * (l[k]).toNat := by
  rw [List.take_succ_eq_append_getElem h, valL_snoc]
  simp [List.length_take, Nat.min_eq_left (Nat.le_of_lt h)]

theorem numLo_lt (l : List Bool) : numLo l < 18446744073709551616 := by
  have h := valL_lt (l.take 64)
  have h2 : (2 : Nat) ^ (l.take 64).length ≤ 2 ^ 64 := Nat.pow_le_pow_right (by decide) (List.length_take_le _ _)
  exact Nat.lt_of_lt_of_le h h2
theorem numHi_lt (l : List Bool) : numHi l < 18446744073709551616 := by
  have h := valL_lt ((l.drop 64).take 64)
  have h2 : (2 : Nat) ^ ((l.drop 64).take 64).length ≤ 2 ^ 64 := Nat.pow_le_pow_right (by decide) (List.length_take_le _ _)
  exact Nat.lt_of_lt_of_le h h2

theorem numLo_nil : numLo [] = 0 := rfl
theorem numHi_nil : numHi [] = 0 := rfl

/- one round of Number -/
theorem numLo_take_set (l : List Bool) (k : Nat) (h : k < l.length) (h64 : k < 64) : numLo (l.take (k + 1)) = numLo (l.take k) + 2 ^ k * (l[k]).toNat := by
  unfold numLo
  rw [List.take_take, List.take_take, Nat.min_eq_right (by omega), Nat.min_eq_right (by omega)]
  exact valL_take_succ l k h
theorem numLo_take_same (l : List Bool) (k : Nat) (h64 : 64 ≤ k) : numLo (l.take (k + 1)) = numLo (l.take k) := by
  unfold numLo
  rw [List.take_take, List.take_take, Nat.min_eq_left (by omega), Nat.min_eq_left (by omega)]
theorem numHi_take_low (l : List Bool) (k : Nat) (h64 : k ≤ 64) : numHi (l.take k) = 0 := by
  unfold numHi
  rw [List.drop_eq_nil_of_le (by simp; omega)]; rfl
theorem numHi_take_set (l : List Bool) (k : Nat) (h : k < l.length) (h64 : 64 ≤ k) (h128 : k < 128) : numHi (l.take (k + 1)) = numHi (l.take k) + 2 ^ (k - 64) * (l[k]).toNat := by
  unfold numHi
  rw [List.drop_take, List.drop_take, List.take_take, List.take_take, Nat.min_eq_right (by omega), Nat.min_eq_right (by omega)]
  have h1 : k - 64 < (l.drop 64).length := by simp; omega
  have h2 := valL_take_succ (l.drop 64) (k - 64) h1
  have h3 : (l.drop 64)[k - 64] = l[k] := by simp [List.getElem_drop]; congr 1; omega
  rw [h3] at h2
  rw [← h2]
  congr 2
  omega
theorem numHi_take_same (l : List Bool) (k : Nat) (h128 : 128 ≤ k) : numHi (l.take (k + 1)) = numHi (l.take k) := by
  unfold numHi
  rw [List.drop_take, List.drop_take, List.take_take, List.take_take, Nat.min_eq_left (by omega), Nat.min_eq_left (by omega)]

/- what Number makes of Bits -/
theorem bitsTo_length (hi lo : Int) (k : Nat) : (bitsTo hi lo k).length = k := by simp [bitsTo]
theorem bitsTo_succ (hi lo : Int) (k : Nat) : bitsTo hi lo (k + 1) = bitsTo hi lo k ++ [bitB hi lo k] := by simp [bitsTo, List.range_succ]
theorem bitsTo_getD (hi lo : Int) (k i : Nat) : (bitsTo hi lo k).getD i false = (decide (i < k) && bitB hi lo i) := by
  by_cases h : i < k
  · simp [bitsTo, List.getD_eq_getElem?_getD, h]
  · simp [bitsTo, List.getD_eq_getElem?_getD, h]

theorem numLo_bits (hi lo : Int) (n : Int) (h0 : 0 ≤ n) (l0 : 0 ≤ lo) (l1 : lo < 18446744073709551616) : ((numLo (bitsTo hi lo n.toNat) : Nat) : Int) = cLo n lo := by
  obtain ⟨n, rfl⟩ := Int.eq_ofNat_of_zero_le h0
  obtain ⟨lo, rfl⟩ := Int.eq_ofNat_of_zero_le l0
  have hlo : lo < 2 ^ 64 := by omega
  have key : numLo (bitsTo hi lo n) = lo % 2 ^ (min n 64) := by
    refine Nat.eq_of_testBit_eq fun j => ?_
    rw [numLo, valL_testBit, Nat.testBit_mod_two_pow]
    have h := bitsTo_getD hi lo n j
    rw [List.getD_eq_getElem?_getD] at h ⊢
    rw [List.getElem?_take]
    by_cases hj : j < 64
    · rw [if_pos hj, h]
      simp only [bitB, if_pos hj, Int.toNat_natCast]
      congr 1
      simp; omega
    · rw [if_neg hj]
      simp; omega
  unfold cLo
  rw [show ((n : Int).toNat) = n from rfl, key]
  by_cases h : (n : Int) ≤ 64
  · rw [if_pos h, Nat.min_eq_left (by omega)]; simp
  · rw [if_neg h, Nat.min_eq_right (by omega), Nat.mod_eq_of_lt hlo]

theorem numHi_bits (hi lo : Int) (n : Int) (h0 : 0 ≤ n) (h128 : n ≤ 128) (l0 : 0 ≤ hi) : ((numHi (bitsTo hi lo n.toNat) : Nat) : Int) = cHi n hi := by
  obtain ⟨n, rfl⟩ := Int.eq_ofNat_of_zero_le h0
  obtain ⟨hi, rfl⟩ := Int.eq_ofNat_of_zero_le l0
  have key : numHi (bitsTo hi lo n) = hi % 2 ^ (n - 64) := by
    refine Nat.eq_of_testBit_eq fun j => ?_
    rw [numHi, valL_testBit, Nat.testBit_mod_two_pow]
    have h := bitsTo_getD hi lo n (64 + j)
    rw [List.getD_eq_getElem?_getD] at h ⊢
    rw [List.getElem?_take, List.getElem?_drop]
    by_cases hj : j < 64
    · rw [if_pos hj, h]
      simp only [bitB, if_neg (show ¬ 64 + j < 64 by omega), Int.toNat_natCast, Nat.add_sub_cancel_left]
      congr 1
      simp; omega
    · rw [if_neg hj]
      simp; omega
  unfold cHi
  rw [show ((n : Int).toNat) = n from rfl, key]
  by_cases h : (n : Int) ≤ 64
  · rw [if_pos h, show n - 64 = 0 by omega]; simp [Nat.mod_one]
  · rw [if_neg h, show ((n : Int) - 64).toNat = n - 64 by omega]; simp

theorem low_bd (n : Int) (h0 : 0 ≤ n) (h1 : n ≤ 64) : 0 ≤ low n ∧ low n < 18446744073709551616 := by
  unfold low
  have h : (2 : Nat) ^ n.toNat ≤ 2 ^ 64 := Nat.pow_le_pow_right (by decide) (by omega)
  have h2 : (0 : Nat) < 2 ^ n.toNat := Nat.pow_pos (by decide)
  have h3 : (2 : Int) ^ n.toNat = ((2 ^ n.toNat : Nat) : Int) := by simp
  rw [h3]
  omega
theorem and_low (n lo : Int) (h0 : 0 ≤ n) (h1 : n ≤ 64) (l0 : 0 ≤ lo) (l1 : lo < 18446744073709551616) : bits .and .u64 lo (low n) = lo % 2 ^ n.toNat := by
  have hb := low_bd n h0 h1
  rw [u64_and lo (low n) l0 l1 hb.1 hb.2]
  obtain ⟨n, rfl⟩ := Int.eq_ofNat_of_zero_le h0
  obtain ⟨lo, rfl⟩ := Int.eq_ofNat_of_zero_le l0
  have e : (low (n : Int)).toNat = 2 ^ n - 1 := by
    unfold low
    have : ((2 : Int) ^ ((n : Int)).toNat - 1) = ((2 ^ n - 1 : Nat) : Int) := by
      rw [Int.ofNat_sub (Nat.one_le_two_pow)]; simp
    rw [this]; rfl
  rw [e, Int.toNat_natCast, Nat.and_two_pow_sub_one_eq_mod]
  simp
theorem wrap_low (n : Int) (h0 : 0 ≤ n) (h1 : n ≤ 64) : IntKind.u64.wrap (IntKind.u64.wrap (2 ^ n.toNat) - 1) = low n := by
  have hb := low_bd n h0 h1
  rw [IntKind.wrap_u64, IntKind.wrap_u64]
  unfold low at hb ⊢
  omega
theorem or_set (x k : Nat) (hx : x < 2 ^ k) (hk : k < 64) : bits .or .u64 (x : Int) (IntKind.u64.wrap (2 ^ k)) = ((x + 2 ^ k : Nat) : Int) := by
  have h1 : (2 : Nat) ^ k < 2 ^ 64 := Nat.pow_lt_pow_right (by decide) hk
  have e : IntKind.u64.wrap (2 ^ k) = ((2 ^ k : Nat) : Int) := by
    rw [IntKind.wrap_u64, show ((2 : Int) ^ k) = ((2 ^ k : Nat) : Int) by simp]
    omega
  rw [e, u64_or_nat x (2 ^ k) (by omega) (by omega)]
  have := nat_join k (2 ^ k) x (Nat.mod_self _) hx
  rw [Nat.or_comm, this, Nat.add_comm]
theorem numLo_take_lt (l : List Bool) (k : Nat) (h : k ≤ 64) : numLo (l.take k) < 2 ^ k := by
  unfold numLo
  rw [List.take_take, Nat.min_eq_right h]
  exact Nat.lt_of_lt_of_le (valL_lt _) (Nat.pow_le_pow_right (by decide) (List.length_take_le _ _))
theorem numHi_take_lt (l : List Bool) (k : Nat) (h : k ≤ 128) : numHi (l.take k) < 2 ^ (k - 64) := by
  unfold numHi
  rw [List.drop_take, List.take_take, Nat.min_eq_right (by omega)]
  exact Nat.lt_of_lt_of_le (valL_lt _) (Nat.pow_le_pow_right (by decide) (List.length_take_le _ _))
theorem lo_set (l : List Bool) (k : Nat) (h : k < l.length) (hb : l[k] = true) (h64 : k < 64) : bits .or .u64 ((numLo (l.take k) : Nat) : Int) (IntKind.u64.wrap (2 ^ k)) = ((numLo (l.take (k + 1)) : Nat) : Int) := by
  rw [or_set _ k (numLo_take_lt l k (by omega)) h64, numLo_take_set l k h h64, hb]; simp
theorem hi_set (l : List Bool) (k : Nat) (h : k < l.length) (hb : l[k] = true) (h64 : 64 ≤ k) (h128 : k < 128) : bits .or .u64 ((numHi (l.take k) : Nat) : Int) (IntKind.u64.wrap (2 ^ (k - 64))) = ((numHi (l.take (k + 1)) : Nat) : Int) := by
  rw [or_set _ (k - 64) (numHi_take_lt l k (by omega)) (by omega), numHi_take_set l k h h64 h128, hb]; simp
theorem and_one (x : Int) (h0 : 0 ≤ x) (h1 : x < 18446744073709551616) : bits .and .u64 x 1 = x % 2 := by
  rw [u64_and x 1 h0 h1 (by decide) (by decide)]
  obtain ⟨x, rfl⟩ := Int.eq_ofNat_of_zero_le h0
  have : (x : Int).toNat &&& (1 : Int).toNat = x % 2 := by simp [Nat.and_one_is_mod]
  rw [this]; simp
theorem bit_at (x : Int) (k : Nat) (h0 : 0 ≤ x) (h1 : x < 18446744073709551616) : (bits .and .u64 (x / 2 ^ k) 1 == 1) = x.toNat.testBit k := by
  obtain ⟨x, rfl⟩ := Int.eq_ofNat_of_zero_le h0
  have e : ((x : Int) / 2 ^ k) = ((x / 2 ^ k : Nat) : Int) := by simp
  have hle : x / 2 ^ k ≤ x := Nat.div_le_self _ _
  rw [e, and_one _ (Int.natCast_nonneg _) (Int.lt_of_le_of_lt (Int.ofNat_le.2 hle) h1)]
  have t : (x / 2 ^ k) % 2 = (x.testBit k).toNat := by rw [Nat.toNat_testBit]
  rw [Int.toNat_natCast]
  cases h : x.testBit k <;> rw [h] at t <;> simp at t <;> simp <;> omega
theorem bit_lo (hi lo : Int) (k : Nat) (hk : (k : Int) < 64) (h0 : 0 ≤ lo) (h1 : lo < 18446744073709551616) : (bits .and .u64 (lo / 2 ^ k) 1 == 1) = bitB hi lo k := by
  rw [bit_at lo k h0 h1, bitB, if_pos (by omega)]
theorem bit_hi (hi lo : Int) (k : Nat) (hk : 64 ≤ (k : Int)) (h0 : 0 ≤ hi) (h1 : hi < 18446744073709551616) : (bits .and .u64 (hi / 2 ^ (k - 64)) 1 == 1) = bitB hi lo k := by
  rw [bit_at hi _ h0 h1, bitB, if_neg (by omega)]
end Go.Proofs.YtbemfjdloeipmaaGreatDoor
/- The walks of package bits' small functions: widthMayBe, lowest, cut, Of. -/
namespace Go.Proofs.YtbemfjdloeipmaaGreatDoor
open Go.RowKit

theorem ret_int {k : IntKind} {a b : Int} (h : a = b) : Ending.returned (.int k a) = .returned (.int k b) := by rw [h]

def mayBe (n : Int) : Bool := decide (1 ≤ n) && decide (n ≤ 128)
theorem mayBe_yes {n : Int} (h1 : 1 ≤ n) (h2 : n ≤ 128) : mayBe n = true := by simp [mayBe, h1, h2]
theorem mayBe_no {n : Int} (h : ¬ (1 ≤ n ∧ n ≤ 128)) : mayBe n = false := by simp [mayBe]; omega

theorem widthMayBe_any (n : Int) (w : World) :
    Calls Tryz.prog 206 #[.int .i64 n] w fun e w' => e = .returned (.bool (mayBe n)) ∧ w' = w := by
  by_cases h1 : 1 ≤ n
  · by_cases h2 : n ≤ 128
    · go_enter Tryz.func206, Tryz.ntmps206
      go_wp2
      go_ret
      exact ⟨by rw [mayBe_yes h1 h2]; simp, rfl⟩
    · go_enter Tryz.func206, Tryz.ntmps206
      go_wp2
      go_ret
      exact ⟨by rw [mayBe_no (by omega)]; simp, rfl⟩
  · go_enter Tryz.func206, Tryz.ntmps206
    go_wp2
    go_ret
    exact ⟨by rw [mayBe_no (by omega)]; simp, rfl⟩

theorem lowest_any (n : Int) (w : World) (h0 : 0 ≤ n) (h1 : n ≤ 64) :
    Calls Tryz.prog 215 #[.int .i64 n] w fun e w' => e = .returned (.int .u64 (low n)) ∧ w' = w := by
  have H : Hid (IntKind.u64.wrap (IntKind.u64.wrap (2 ^ n.toNat) - 1) = low n) := wrap_low n h0 h1
  go_enter Tryz.func215, Tryz.ntmps215
  go_wp2
  go_ret
  exact ⟨ret_int H.out, rfl⟩

def bitsV (n hi lo : Int) : Value := .agg #[.int .i64 n, .int .u64 hi, .int .u64 lo]
theorem ret_bits {n a b c d : Int} (h : a = c) (h2 : b = d) : Ending.returned (.agg #[.int .i64 n, .int .u64 a, .int .u64 b]) = .returned (.agg #[.int .i64 n, .int .u64 c, .int .u64 d]) := by rw [h, h2]

theorem cut_any (n hi lo : Int) (w : World) (h0 : 1 ≤ n) (h1 : n ≤ 128) (a0 : 0 ≤ hi) (a1 : hi < 18446744073709551616) (b0 : 0 ≤ lo) (b1 : lo < 18446744073709551616) :
    Calls Tryz.prog 207 #[.int .i64 n, .int .u64 hi, .int .u64 lo] w fun e w' =>
      e = .returned (.agg #[.int .i64 n, .int .u64 (cHi n hi), .int .u64 (cLo n lo)]) ∧ Below w.heap.size w w' := by
  by_cases h : n ≤ 64
  · go_enter Tryz.func207, Tryz.ntmps207
    go_wp2_with (go_at_call 215; refine (lowest_any _ _ (by omega) (by omega)).mono ?_; rintro e w' ⟨rfl, rfl⟩)
    refine bodyPost_ret (v := .agg #[.int .i64 n, .int .u64 0, .int .u64 (bits .and .u64 lo (low n))]) (by simp [results, Tryz.results207, go_sem]) rfl ⟨ret_bits (cHi_le h).symm (by rw [and_low n lo (by omega) h b0 b1, cLo_le h]), ?_⟩
    exact (Below.refl _ _).alloc (Nat.le_refl _) _
  · go_enter Tryz.func207, Tryz.ntmps207
    go_wp2_with (go_at_call 215; refine (lowest_any _ _ (by omega) (by omega)).mono ?_; rintro e w' ⟨rfl, rfl⟩)
    refine bodyPost_ret (v := .agg #[.int .i64 n, .int .u64 (bits .and .u64 hi (low (n - 64))), .int .u64 lo]) (by simp [results, Tryz.results207, go_sem]) rfl ⟨ret_bits (by rw [and_low (n - 64) hi (by omega) (by omega) a0 a1, cHi_gt (by omega)]) (cLo_gt (by omega)).symm, ?_⟩
    exact (Below.refl _ _).alloc (Nat.le_refl _) _
end Go.Proofs.YtbemfjdloeipmaaGreatDoor
