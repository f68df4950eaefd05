/- Pieces of the proof: Math, Vals, VR, UFx, UC, Words, Rd, WOf, WCk. -/
import Derived.Laws.BitsAllLaws
import Derived.Laws.ShiftsVarLaws
import Derived.Lib.Mul64
import Derived.Test.YtcfopkaomknmjaaGreatDoorRows
import Derived.Test.YtcfopkaomknmjaaGreatDoorM2
import Derived.ProofKit
import Derived.LaidMore
import Derived.LaidLaws
import Derived.SizedLaws
import Derived.OpenShut
import Derived.ChangeOld
import Derived.ChangeSlices
import Derived.ChangeMaps5
import Derived.Stop.Joined
import Derived.Test.YtcfopkaomknmjaaGreatDoorM1
import Derived.Deep.RegionHeld3
import Derived.Test.YtcfopkaomknmjaaGreatDoorProg
import Derived.WalkKit
import Derived.WalkSpells
import Derived.WalkLawsBesides
import Derived.Laws.Pointers
import Derived.Laws.ResultCell
import Derived.Deep.QuietTactic
import Derived.BigQuiet
/- Plain facts on words and lists of bits: no Go in sight. -/
namespace Go.Proofs.YtcfopkaomknmjaaGreatDoor

def low (n : Int) : Int := 2 ^ n.toNat - 1
def cLo (n lo : Int) : Int := if n ≤ 64 then lo % 2 ^ n.toNat else lo
def cHi (n hi : Int) : Int := if n ≤ 64 then 0 else hi % 2 ^ (n - 64).toNat
theorem cLo_le {n lo : Int} (h : n ≤ 64) : cLo n lo = lo % 2 ^ n.toNat := by unfold cLo; rw [if_pos h]
theorem cLo_gt {n lo : Int} (h : 64 < n) : cLo n lo = lo := by unfold cLo; rw [if_neg (by omega)]
theorem cHi_le {n hi : Int} (h : n ≤ 64) : cHi n hi = 0 := by unfold cHi; rw [if_pos h]
theorem cHi_gt {n hi : Int} (h : 64 < n) : cHi n hi = hi % 2 ^ (n - 64).toNat := by unfold cHi; rw [if_neg (by omega)]
def bitB (hi lo : Int) (i : Nat) : Bool := if i < 64 then lo.toNat.testBit i else hi.toNat.testBit (i - 64)
def bitsTo (hi lo : Int) (k : Nat) : List Bool := (List.range k).map (bitB hi lo)
def valL : List Bool → Nat
  | [] => 0
  | b :: r => b.toNat + 2 * valL r
def numLo (l : List Bool) : Nat := valL (l.take 64)
def numHi (l : List Bool) : Nat := valL ((l.drop 64).take 64)

theorem valL_lt (l : List Bool) : valL l < 2 ^ l.length := by
  induction l with
  | nil => simp [valL]
  | cons b r ih => simp only [valL, List.length_cons, Nat.pow_succ]; cases b <;> simp <;> omega

theorem valL_testBit (l : List Bool) (i : Nat) : (valL l).testBit i = l.getD i false := by
  induction l generalizing i with
  | nil => simp [valL]
  | cons b r ih =>
    cases i with
    | zero => cases b <;> simp [valL, Nat.testBit_zero]
    | succ j =>
      have h := ih j
      simp only [valL, Nat.testBit_succ, List.getD_cons_succ]
      rw [← h]
      congr 1
      cases b <;> simp <;> omega

theorem valL_snoc (l : List Bool) (b : Bool) : valL (l ++ [b]) = valL l + 2 ^ l.length * b.toNat := by
  induction l with
  | nil => simp [valL]
  | cons c r ih => simp only [List.cons_append, valL, ih, List.length_cons, Nat.pow_succ]; rw [Nat.mul_add, Nat.add_assoc, ← Nat.mul_assoc, Nat.mul_comm (2 ^ r.length) 2]

theorem valL_take_succ (l : List Bool) (k : Nat) (h : k < l.length) : valL (l.take (k + 1)) = valL (l.take k) + 2 ^ k * (l[k]).toNat := by
  rw [List.take_succ_eq_append_getElem h, valL_snoc]
  simp [List.length_take, Nat.min_eq_left (Nat.le_of_lt h)]

theorem numLo_lt (l : List Bool) : numLo l < 18446744073709551616 := by
  have h := valL_lt (l.take 64)
  have h2 : (2 : Nat) ^ (l.take 64).length ≤ 2 ^ 64 := Nat.pow_le_pow_right (by decide) (List.length_take_le _ _)
  exact Nat.lt_of_lt_of_le h h2
theorem numHi_lt (l : List Bool) : numHi l < 18446744073709551616 := by
  have h := valL_lt ((l.drop 64).take 64)
  have h2 : (2 : Nat) ^ ((l.drop 64).take 64).length ≤ 2 ^ 64 := Nat.pow_le_pow_right (by decide) (List.length_take_le _ _)
  exact Nat.lt_of_lt_of_le h h2

theorem numLo_nil : numLo [] = 0 := rfl
theorem numHi_nil : numHi [] = 0 := rfl

/- one round of Number -/
theorem numLo_take_set (l : List Bool) (k : Nat) (h : k < l.length) (h64 : k < 64) : numLo (l.take (k + 1)) = numLo (l.take k) + 2 ^ k * (l[k]).toNat := by
  unfold numLo
  rw [List.take_take, List.take_take, Nat.min_eq_right (by omega), Nat.min_eq_right (by omega)]
  exact valL_take_succ l k h
theorem numLo_take_same (l : List Bool) (k : Nat) (h64 : 64 ≤ k) : numLo (l.take (k + 1)) = numLo (l.take k) := by
  unfold numLo
  rw [List.take_take, List.take_take, Nat.min_eq_left (by omega), Nat.min_eq_left (by omega)]
theorem numHi_take_low (l : List Bool) (k : Nat) (h64 : k ≤ 64) : numHi (l.take k) = 0 := by
  unfold numHi
  rw [List.drop_eq_nil_of_le (by simp; omega)]; rfl
theorem numHi_take_set (l : List Bool) (k : Nat) (h : k < l.length) (h64 : 64 ≤ k) (h128 : k < 128) : numHi (l.take (k + 1)) = numHi (l.take k) + 2 ^ (k - 64) * (l[k]).toNat := by
  unfold numHi
  rw [List.drop_take, List.drop_take, List.take_take, List.take_take, Nat.min_eq_right (by omega), Nat.min_eq_right (by omega)]
  have h1 : k - 64 < (l.drop 64).length := by simp; omega
  have h2 := valL_take_succ (l.drop 64) (k - 64) h1
  have h3 : (l.drop 64)[k - 64] = l[k] := by simp [List.getElem_drop]; congr 1; omega
  rw [h3] at h2
  rw [← h2]
  congr 2
  omega
theorem numHi_take_same (l : List Bool) (k : Nat) (h128 : 128 ≤ k) : numHi (l.take (k + 1)) = numHi (l.take k) := by
  unfold numHi
  rw [List.drop_take, List.drop_take, List.take_take, List.take_take, Nat.min_eq_left (by omega), Nat.min_eq_left (by omega)]

/- what Number makes of Bits -/
theorem bitsTo_length (hi lo : Int) (k : Nat) : (bitsTo hi lo k).length = k := by simp [bitsTo]
theorem bitsTo_succ (hi lo : Int) (k : Nat) : bitsTo hi lo (k + 1) = bitsTo hi lo k ++ [bitB hi lo k] := by simp [bitsTo, List.range_succ]
theorem bitsTo_getD (hi lo : Int) (k i : Nat) : (bitsTo hi lo k).getD i false = (decide (i < k) && bitB hi lo i) := by
  by_cases h : i < k
  · simp [bitsTo, List.getD_eq_getElem?_getD, h]
  · simp [bitsTo, List.getD_eq_getElem?_getD, h]

theorem numLo_bits (hi lo : Int) (n : Int) (h0 : 0 ≤ n) (l0 : 0 ≤ lo) (l1 : lo < 18446744073709551616) : ((numLo (bitsTo hi lo n.toNat) : Nat) : Int) = cLo n lo := by
  obtain ⟨n, rfl⟩ := Int.eq_ofNat_of_zero_le h0
  obtain ⟨lo, rfl⟩ := Int.eq_ofNat_of_zero_le l0
  have hlo : lo < 2 ^ 64 := by omega
  have key : numLo (bitsTo hi lo n) = lo % 2 ^ (min n 64) := by
    refine Nat.eq_of_testBit_eq fun j => ?_
    rw [numLo, valL_testBit, Nat.testBit_mod_two_pow]
    have h := bitsTo_getD hi lo n j
    rw [List.getD_eq_getElem?_getD] at h ⊢
    rw [List.getElem?_take]
    by_cases hj : j < 64
    · rw [if_pos hj, h]
      simp only [bitB, if_pos hj, Int.toNat_natCast]
      congr 1
      simp; omega
    · rw [if_neg hj]
      simp; omega
  unfold cLo
  rw [show ((n : Int).toNat) = n from rfl, key]
  by_cases h : (n : Int) ≤ 64
  · rw [if_pos h, Nat.min_eq_left (by omega)]; simp
  · rw [if_neg h, Nat.min_eq_right (by omega), Nat.mod_eq_of_lt hlo]

theorem numHi_bits (hi lo : Int) (n : Int) (h0 : 0 ≤ n) (h128 : n ≤ 128) (l0 : 0 ≤ hi) : ((numHi (bitsTo hi lo n.toNat) : Nat) : Int) = cHi n hi := by
  obtain ⟨n, rfl⟩ := Int.eq_ofNat_of_zero_le h0
  obtain ⟨hi, rfl⟩ := Int.eq_ofNat_of_zero_le l0
  have key : numHi (bitsTo hi lo n) = hi % 2 ^ (n - 64) := by
    refine Nat.eq_of_testBit_eq fun j => ?_
    rw [numHi, valL_testBit, Nat.testBit_mod_two_pow]
    have h := bitsTo_getD hi lo n (64 + j)
    rw [List.getD_eq_getElem?_getD] at h ⊢
    rw [List.getElem?_take, List.getElem?_drop]
    by_cases hj : j < 64
    · rw [if_pos hj, h]
      simp only [bitB, if_neg (show ¬ 64 + j < 64 by omega), Int.toNat_natCast, Nat.add_sub_cancel_left]
      congr 1
      simp; omega
    · rw [if_neg hj]
      simp; omega
  unfold cHi
  rw [show ((n : Int).toNat) = n from rfl, key]
  by_cases h : (n : Int) ≤ 64
  · rw [if_pos h, show n - 64 = 0 by omega]; simp [Nat.mod_one]
  · rw [if_neg h, show ((n : Int) - 64).toNat = n - 64 by omega]; simp

theorem low_bd (n : Int) (h0 : 0 ≤ n) (h1 : n ≤ 64) : 0 ≤ low n ∧ low n < 18446744073709551616 := by
  unfold low
  have h : (2 : Nat) ^ n.toNat ≤ 2 ^ 64 := Nat.pow_le_pow_right (by decide) (by omega)
  have h2 : (0 : Nat) < 2 ^ n.toNat := Nat.pow_pos (by decide)
  have h3 : (2 : Int) ^ n.toNat = ((2 ^ n.toNat : Nat) : Int) := by simp
  rw [h3]
  omega
theorem and_low (n lo : Int) (h0 : 0 ≤ n) (h1 : n ≤ 64) (l0 : 0 ≤ lo) (l1 : lo < 18446744073709551616) : bits .and .u64 lo (low n) = lo % 2 ^ n.toNat := by
  have hb := low_bd n h0 h1
  rw [u64_and lo (low n) l0 l1 hb.1 hb.2]
  obtain ⟨n, rfl⟩ := Int.eq_ofNat_of_zero_le h0
  obtain ⟨lo, rfl⟩ := Int.eq_ofNat_of_zero_le l0
  have e : (low (n : Int)).toNat = 2 ^ n - 1 := by
    unfold low
    have : ((2 : Int) ^ ((n : Int)).toNat - 1) = ((2 ^ n - 1 : Nat) : Int) := by
      rw [Int.ofNat_sub (Nat.one_le_two_pow)]; simp
    rw [this]; rfl
  rw [e, Int.toNat_natCast, Nat.and_two_pow_sub_one_eq_mod]
  simp
theorem wrap_low (n : Int) (h0 : 0 ≤ n) (h1 : n ≤ 64) : IntKind.u64.wrap (IntKind.u64.wrap (2 ^ n.toNat) - 1) = low n := by
  have hb := low_bd n h0 h1
  rw [IntKind.wrap_u64, IntKind.wrap_u64]
  unfold low at hb ⊢
  omega
theorem or_set (x k : Nat) (hx : x < 2 ^ k) (hk : k < 64) : bits .or .u64 (x : Int) (IntKind.u64.wrap (2 ^ k)) = ((x + 2 ^ k : Nat) : Int) := by
  have h1 : (2 : Nat) ^ k < 2 ^ 64 := Nat.pow_lt_pow_right (by decide) hk
  have e : IntKind.u64.wrap (2 ^ k) = ((2 ^ k : Nat) : Int) := by
    rw [IntKind.wrap_u64, show ((2 : Int) ^ k) = ((2 ^ k : Nat) : Int) by simp]
    omega
  rw [e, u64_or_nat x (2 ^ k) (by omega) (by omega)]
  have := nat_join k (2 ^ k) x (Nat.mod_self _) hx
  rw [Nat.or_comm, this, Nat.add_comm]
theorem numLo_take_lt (l : List Bool) (k : Nat) (h : k ≤ 64) : numLo (l.take k) < 2 ^ k := by
  unfold numLo
  rw [List.take_take, Nat.min_eq_right h]
  exact Nat.lt_of_lt_of_le (valL_lt _) (Nat.pow_le_pow_right (by decide) (List.length_take_le _ _))
theorem numHi_take_lt (l : List Bool) (k : Nat) (h : k ≤ 128) : numHi (l.take k) < 2 ^ (k - 64) := by
  unfold numHi
  rw [List.drop_take, List.take_take, Nat.min_eq_right (by omega)]
  exact Nat.lt_of_lt_of_le (valL_lt _) (Nat.pow_le_pow_right (by decide) (List.length_take_le _ _))
theorem lo_set (l : List Bool) (k : Nat) (h : k < l.length) (hb : l[k] = true) (h64 : k < 64) : bits .or .u64 ((numLo (l.take k) : Nat) : Int) (IntKind.u64.wrap (2 ^ k)) = ((numLo (l.take (k + 1)) : Nat) : Int) := by
  rw [or_set _ k (numLo_take_lt l k (by omega)) h64, numLo_take_set l k h h64, hb]; simp
theorem hi_set (l : List Bool) (k : Nat) (h : k < l.length) (hb : l[k] = true) (h64 : 64 ≤ k) (h128 : k < 128) : bits .or .u64 ((numHi (l.take k) : Nat) : Int) (IntKind.u64.wrap (2 ^ (k - 64))) = ((numHi (l.take (k + 1)) : Nat) : Int) := by
  rw [or_set _ (k - 64) (numHi_take_lt l k (by omega)) (by omega), numHi_take_set l k h h64 h128, hb]; simp
theorem and_one (x : Int) (h0 : 0 ≤ x) (h1 : x < 18446744073709551616) : bits .and .u64 x 1 = x % 2 := by
  rw [u64_and x 1 h0 h1 (by decide) (by decide)]
  obtain ⟨x, rfl⟩ := Int.eq_ofNat_of_zero_le h0
  have : (x : Int).toNat &&& (1 : Int).toNat = x % 2 := by simp [Nat.and_one_is_mod]
  rw [this]; simp
theorem bit_at (x : Int) (k : Nat) (h0 : 0 ≤ x) (h1 : x < 18446744073709551616) : (bits .and .u64 (x / 2 ^ k) 1 == 1) = x.toNat.testBit k := by
  obtain ⟨x, rfl⟩ := Int.eq_ofNat_of_zero_le h0
  have e : ((x : Int) / 2 ^ k) = ((x / 2 ^ k : Nat) : Int) := by simp
  have hle : x / 2 ^ k ≤ x := Nat.div_le_self _ _
  rw [e, and_one _ (Int.natCast_nonneg _) (Int.lt_of_le_of_lt (Int.ofNat_le.2 hle) h1)]
  have t : (x / 2 ^ k) % 2 = (x.testBit k).toNat := by rw [Nat.toNat_testBit]
  rw [Int.toNat_natCast]
  cases h : x.testBit k <;> rw [h] at t <;> simp at t <;> simp <;> omega
theorem bit_lo (hi lo : Int) (k : Nat) (hk : (k : Int) < 64) (h0 : 0 ≤ lo) (h1 : lo < 18446744073709551616) : (bits .and .u64 (lo / 2 ^ k) 1 == 1) = bitB hi lo k := by
  rw [bit_at lo k h0 h1, bitB, if_pos (by omega)]
theorem bit_hi (hi lo : Int) (k : Nat) (hk : 64 ≤ (k : Int)) (h0 : 0 ≤ hi) (h1 : hi < 18446744073709551616) : (bits .and .u64 (hi / 2 ^ (k - 64)) 1 == 1) = bitB hi lo k := by
  rw [bit_at hi _ h0 h1, bitB, if_neg (by omega)]
end Go.Proofs.YtcfopkaomknmjaaGreatDoor
/- Numbers by their value: plain facts. -/
namespace Go.Proofs.YtcfopkaomknmjaaGreatDoor

def wHi (v : Nat) : Int := ((v / 18446744073709551616 : Nat) : Int)
def wLo (v : Nat) : Int := ((v % 18446744073709551616 : Nat) : Int)
def top : Nat := 340282366920938463463374607431768211456
theorem top_eq : top = 2 ^ 128 := by decide
theorem wHi_bd {v : Nat} (h : v < top) : 0 ≤ wHi v ∧ wHi v < 18446744073709551616 := by
  unfold wHi top at *; omega
theorem wLo_bd (v : Nat) : 0 ≤ wLo v ∧ wLo v < 18446744073709551616 := by
  unfold wLo; omega
theorem w_join (v : Nat) : wHi v * 18446744073709551616 + wLo v = v := by
  unfold wHi wLo; omega
theorem words_of {hi lo : Int} (a0 : 0 ≤ hi) (a1 : hi < 18446744073709551616) (b0 : 0 ≤ lo) (b1 : lo < 18446744073709551616) : ∃ v, v < top ∧ hi = wHi v ∧ lo = wLo v := by
  refine ⟨(hi * 18446744073709551616 + lo).toNat, ?_, ?_, ?_⟩
  · unfold top; omega
  · unfold wHi; omega
  · unfold wLo; omega
theorem w_inj {u v : Nat} (h : wHi u = wHi v) (k : wLo u = wLo v) : u = v := by
  have h1 := w_join u; have h2 := w_join v; rw [h, k] at h1; omega
theorem w_eq (u v : Nat) : (wHi u == wHi v && wLo u == wLo v) = decide (u = v) := by
  by_cases h : u = v
  · subst h; simp
  · simp only [h, decide_false]
    cases e1 : (wHi u == wHi v)
    · rfl
    · cases e2 : (wLo u == wLo v)
      · rfl
      · exact absurd (w_inj (by simpa using e1) (by simpa using e2)) h
theorem w_lt (u v : Nat) : u < v ↔ wHi u < wHi v ∨ wHi u = wHi v ∧ wLo u < wLo v := by
  have h1 := w_join u; have h2 := w_join v; have h3 := wLo_bd u; have h4 := wLo_bd v
  constructor
  · intro h
    by_cases e : wHi u < wHi v
    · exact .inl e
    · refine .inr ⟨?_, ?_⟩ <;> omega
  · intro h; omega
theorem w_zero : wHi 0 = 0 ∧ wLo 0 = 0 := ⟨rfl, rfl⟩
theorem w_of_lo {v : Nat} (h : v < 18446744073709551616) : wHi v = 0 ∧ wLo v = v := by
  unfold wHi wLo; omega

theorem pow_split {n : Nat} (h : 64 ≤ n) : (2 : Nat) ^ n = 18446744073709551616 * 2 ^ (n - 64) := by
  have : (2 : Nat) ^ n = 2 ^ 64 * 2 ^ (n - 64) := by rw [← Nat.pow_add]; congr 1; omega
  rw [this]
theorem pow_le_top {n : Nat} (h : n ≤ 128) : (2 : Nat) ^ n ≤ top := by rw [top_eq]; exact Nat.pow_le_pow_right (by decide) h
theorem mod_lt_top {v n : Nat} (h : n ≤ 128) : v % 2 ^ n < top := Nat.lt_of_lt_of_le (Nat.mod_lt _ (Nat.pow_pos (by decide))) (pow_le_top h)

theorem cut_lo (n : Int) (v : Nat) (h0 : 1 ≤ n) : cLo n (wLo v) = wLo (v % 2 ^ n.toNat) := by
  obtain ⟨n, rfl⟩ := Int.eq_ofNat_of_zero_le (by omega : 0 ≤ n)
  rw [Int.toNat_natCast]
  unfold cLo wLo
  by_cases h : (n : Int) ≤ 64
  · rw [if_pos h, Int.toNat_natCast]
    have hd : (2 : Nat) ^ n ∣ 18446744073709551616 := by
      have : (18446744073709551616 : Nat) = 2 ^ 64 := by decide
      rw [this]; exact Nat.pow_dvd_pow 2 (by omega)
    have hlt : v % 2 ^ n < 18446744073709551616 := by
      have h1 := Nat.mod_lt v (Nat.pow_pos (n := n) (by decide : 0 < 2))
      have h2 := Nat.le_of_dvd (by decide) hd
      omega
    rw [Nat.mod_eq_of_lt hlt]
    have e : ((2 : Int) ^ n) = ((2 ^ n : Nat) : Int) := by simp
    rw [e, ← Int.natCast_emod, Nat.mod_mod_of_dvd _ hd]
  · rw [if_neg h]
    have hd : (18446744073709551616 : Nat) ∣ 2 ^ n := ⟨_, pow_split (by omega)⟩
    rw [Nat.mod_mod_of_dvd _ hd]
theorem cut_hi (n : Int) (v : Nat) (h0 : 1 ≤ n) : cHi n (wHi v) = wHi (v % 2 ^ n.toNat) := by
  obtain ⟨n, rfl⟩ := Int.eq_ofNat_of_zero_le (by omega : 0 ≤ n)
  rw [Int.toNat_natCast]
  unfold cHi wHi
  by_cases h : (n : Int) ≤ 64
  · rw [if_pos h]
    have h1 := Nat.mod_lt v (Nat.pow_pos (n := n) (by decide : 0 < 2))
    have h2 : (2 : Nat) ^ n ≤ 2 ^ 64 := Nat.pow_le_pow_right (by decide) (by omega)
    rw [Nat.div_eq_of_lt (by omega)]; rfl
  · rw [if_neg h, show ((n : Int) - 64).toNat = n - 64 by omega]
    have e : ((2 : Int) ^ (n - 64)) = ((2 ^ (n - 64) : Nat) : Int) := by simp
    rw [e, ← Int.natCast_emod, pow_split (n := n) (by omega), Nat.mod_mul_right_div_self]
theorem ok_iff (n : Int) (v : Nat) (h0 : 1 ≤ n) : (cHi n (wHi v) == wHi v && cLo n (wLo v) == wLo v) = decide (v < 2 ^ n.toNat) := by
  rw [cut_hi n v h0, cut_lo n v h0, w_eq]
  by_cases h : v < 2 ^ n.toNat
  · simp [h, Nat.mod_eq_of_lt h]
  · have := Nat.mod_lt v (Nat.pow_pos (n := n.toNat) (by decide : 0 < 2))
    simp only [h, decide_false, decide_eq_false_iff_not]
    omega

theorem mod_top (v : Nat) {n : Nat} (h : n ≤ 128) : v % top % 2 ^ n = v % 2 ^ n := by
  rw [top_eq]; exact Nat.mod_mod_of_dvd _ (Nat.pow_dvd_pow 2 h)
theorem mod_top_lt (v : Nat) : v % top < top := Nat.mod_lt _ (by decide)
theorem wHi_nat (v : Nat) : wHi v = ((v / 2 ^ 64 : Nat) : Int) := rfl
theorem wLo_nat (v : Nat) : wLo v = ((v % 2 ^ 64 : Nat) : Int) := rfl
theorem part_lt {v : Nat} (h : v < top) : v / 2 ^ 64 < 18446744073709551616 ∧ v % 2 ^ 64 < 18446744073709551616 := by unfold top at h; omega

/- and, or, xor -/
theorem and_hi {u v : Nat} (hu : u < top) (hv : v < top) : bits .and .u64 (wHi u) (wHi v) = wHi (u &&& v) := by
  rw [wHi_nat, wHi_nat, wHi_nat, u64_and_nat _ _ (part_lt hu).1 (part_lt hv).1]
  congr 1
  refine Nat.eq_of_testBit_eq fun j => ?_
  simp only [Nat.testBit_and, Nat.testBit_div_two_pow]
theorem and_lo {u v : Nat} (hu : u < top) (hv : v < top) : bits .and .u64 (wLo u) (wLo v) = wLo (u &&& v) := by
  rw [wLo_nat, wLo_nat, wLo_nat, u64_and_nat _ _ (part_lt hu).2 (part_lt hv).2]
  congr 1
  refine Nat.eq_of_testBit_eq fun j => ?_
  simp only [Nat.testBit_and, Nat.testBit_mod_two_pow]
  by_cases h : j < 64 <;> simp [h]
theorem or_hi {u v : Nat} (hu : u < top) (hv : v < top) : bits .or .u64 (wHi u) (wHi v) = wHi (u ||| v) := by
  rw [wHi_nat, wHi_nat, wHi_nat, u64_or_nat _ _ (part_lt hu).1 (part_lt hv).1]
  congr 1
  refine Nat.eq_of_testBit_eq fun j => ?_
  simp only [Nat.testBit_or, Nat.testBit_div_two_pow]
theorem or_lo {u v : Nat} (hu : u < top) (hv : v < top) : bits .or .u64 (wLo u) (wLo v) = wLo (u ||| v) := by
  rw [wLo_nat, wLo_nat, wLo_nat, u64_or_nat _ _ (part_lt hu).2 (part_lt hv).2]
  congr 1
  refine Nat.eq_of_testBit_eq fun j => ?_
  simp only [Nat.testBit_or, Nat.testBit_mod_two_pow]
  by_cases h : j < 64 <;> simp [h]
theorem xor_hi {u v : Nat} (hu : u < top) (hv : v < top) : bits .xor .u64 (wHi u) (wHi v) = wHi (u ^^^ v) := by
  rw [wHi_nat, wHi_nat, wHi_nat, u64_xor_nat _ _ (part_lt hu).1 (part_lt hv).1]
  congr 1
  refine Nat.eq_of_testBit_eq fun j => ?_
  simp only [Nat.testBit_xor, Nat.testBit_div_two_pow]
theorem xor_lo {u v : Nat} (hu : u < top) (hv : v < top) : bits .xor .u64 (wLo u) (wLo v) = wLo (u ^^^ v) := by
  rw [wLo_nat, wLo_nat, wLo_nat, u64_xor_nat _ _ (part_lt hu).2 (part_lt hv).2]
  congr 1
  refine Nat.eq_of_testBit_eq fun j => ?_
  simp only [Nat.testBit_xor, Nat.testBit_mod_two_pow]
  by_cases h : j < 64 <;> simp [h]

/- add, sub, mul -/
theorem add_hi (u v : Nat) : IntKind.u64.wrap (IntKind.u64.wrap (wHi u + wHi v) + (wLo u + wLo v) / 18446744073709551616) = wHi ((u + v) % top) := by
  rw [IntKind.wrap_u64, IntKind.wrap_u64]; unfold wHi wLo top; omega
theorem add_lo (u v : Nat) : (wLo u + wLo v) % 18446744073709551616 = wLo ((u + v) % top) := by
  unfold wLo top; omega
def bor (x y : Int) : Int := if x < y then 1 else 0
theorem sub_hi {u v : Nat} (hv : v < top) : IntKind.u64.wrap (IntKind.u64.wrap (wHi u - wHi v) - bor (wLo u) (wLo v)) = wHi ((u + top - v) % top) := by
  rw [IntKind.wrap_u64, IntKind.wrap_u64]; unfold bor wHi wLo top at *; split <;> omega
theorem sub_lo {u v : Nat} (hv : v < top) : (wLo u - wLo v) % 18446744073709551616 = wLo ((u + top - v) % top) := by
  unfold wLo top at *; omega
theorem mul_split (u v : Nat) : (u * v) % top = ((u % 2 ^ 64) * (v % 2 ^ 64) + ((u / 2 ^ 64) * (v % 2 ^ 64) + (u % 2 ^ 64) * (v / 2 ^ 64)) * 2 ^ 64) % top := by
  have e : u * v = (u % 2 ^ 64) * (v % 2 ^ 64) + ((u / 2 ^ 64) * (v % 2 ^ 64) + (u % 2 ^ 64) * (v / 2 ^ 64)) * 2 ^ 64 + top * ((u / 2 ^ 64) * (v / 2 ^ 64)) := by
    have h := Lib.split_mul (u / 2 ^ 64) (u % 2 ^ 64) (v / 2 ^ 64) (v % 2 ^ 64) (2 ^ 64)
    rw [Nat.div_add_mod' u (2 ^ 64), Nat.div_add_mod' v (2 ^ 64)] at h
    rw [h]
    have t : (2 : Nat) ^ 64 * 2 ^ 64 = top := by decide
    rw [t, Nat.mul_comm (u / 2 ^ 64 * (v / 2 ^ 64)) top]
    omega
  rw [e, Nat.add_mul_mod_self_left]
theorem mul_hi (u v : Nat) : IntKind.u64.wrap (IntKind.u64.wrap (((u % 18446744073709551616) * (v % 18446744073709551616) / 18446744073709551616 : Nat) + IntKind.u64.wrap (wHi u * wLo v)) + IntKind.u64.wrap (wLo u * wHi v)) = wHi ((u * v) % top) := by
  rw [mul_split, IntKind.wrap_u64, IntKind.wrap_u64, IntKind.wrap_u64, IntKind.wrap_u64]
  have e1 : wHi u * wLo v = (((u / 2 ^ 64) * (v % 2 ^ 64) : Nat) : Int) := by rw [wHi_nat, wLo_nat, Int.natCast_mul]
  have e2 : wLo u * wHi v = (((u % 2 ^ 64) * (v / 2 ^ 64) : Nat) : Int) := by rw [wHi_nat, wLo_nat, Int.natCast_mul]
  rw [e1, e2, wHi_nat]
  have e3 : (u % 18446744073709551616) * (v % 18446744073709551616) = (u % 2 ^ 64) * (v % 2 ^ 64) := rfl
  rw [e3]
  generalize (u % 2 ^ 64) * (v % 2 ^ 64) = p
  generalize (u / 2 ^ 64) * (v % 2 ^ 64) = q
  generalize (u % 2 ^ 64) * (v / 2 ^ 64) = r
  unfold top; omega
theorem mul_lo (u v : Nat) : (((u % 18446744073709551616) * (v % 18446744073709551616) % 18446744073709551616 : Nat) : Int) = wLo ((u * v) % top) := by
  rw [mul_split, wLo_nat]
  have e3 : (u % 18446744073709551616) * (v % 18446744073709551616) = (u % 2 ^ 64) * (v % 2 ^ 64) := rfl
  rw [e3]
  generalize (u % 2 ^ 64) * (v % 2 ^ 64) = p
  generalize ((u / 2 ^ 64) * (v % 2 ^ 64) + (u % 2 ^ 64) * (v / 2 ^ 64)) = q
  unfold top; omega
end Go.Proofs.YtcfopkaomknmjaaGreatDoor
/- Rows: a number opened; what is laid, read. -/
namespace Go.Proofs.YtcfopkaomknmjaaGreatDoor
open Go.ChangeShapes Go.WideShapes Go.ChangeAt Go.RowKit

theorem ownV : ownKnob Tryz.prog.godebug = none := by kernel_rfl
theorem laidOutV : laidOutB Tryz.prog = true := by kernel_rfl
theorem cellsYV : Tryz.prog.cellsOf 5 = 1 := by kernel_rfl
theorem words_ofV {hi lo : Int} (a0 : 0 ≤ hi) (a1 : hi < 18446744073709551616) (b0 : 0 ≤ lo) (b1 : lo < 18446744073709551616) : ∃ v, v < top ∧ hi = wHi v ∧ lo = wLo v := by
  refine ⟨(hi * 18446744073709551616 + lo).toNat, by unfold top; omega, by unfold wHi; omega, by unfold wLo; omega⟩
/- a variable that holds an error. -/
theorem iface_cell {P : Program} {W : World} {g fuel : Nat} {nm name : String} {cs : Array Value} {d : DataW Unit} {p : List MemPlace} {ti : TypeId} {ms : Array (String × TypeId)} (hi : P.underlying ti = some (.interface ms))
    (hg : P.globalNamed nm = some g) (hv : W.var? P nm = some cs) (hd : DataW.trod (fun _ => ()) P W 0 (fun _ => true) false fuel ti cs.toList = some (.iface name d, p)) : ∃ te pe, W.cell? ⟨g, 0, none⟩ = some (.iface te pe) := by
  obtain ⟨_, u, v, hcs, _, _⟩ := iface_of_trod hi hd
  refine ⟨u, v, ?_⟩
  rw [World.var?_cell hg hv 0, ← Array.getElem?_toList, hcs]
  rfl
theorem gTabV : Tryz.prog.globalNamed "math/bits.deBruijn64tab" = some 9 := by kernel_rfl
theorem tTabV : (Tryz.prog.globals[9]?).map (·.type) = some 267 := by kernel_rfl
theorem tPowV : (Tryz.prog.globals[2]?).map (·.type) = some 242 := by kernel_rfl
theorem cPowV : Tryz.prog.cellsOf 242 = 20 := by kernel_rfl
theorem cU64V : Tryz.prog.cellsOf 33 = 1 := by kernel_rfl
theorem gErV : Tryz.prog.globalNamed "strconv.ErrRange" = some 7 := by kernel_rfl
theorem gEsV : Tryz.prog.globalNamed "strconv.ErrSyntax" = some 6 := by kernel_rfl
theorem tErV : (Tryz.prog.globals[7]?).map (·.type) = some 163 := by kernel_rfl
theorem tEsV : (Tryz.prog.globals[6]?).map (·.type) = some 163 := by kernel_rfl
theorem wordN {x : Int} (h : (Lit.int .u64 x).wf = true) : 0 ≤ x ∧ x < 18446744073709551616 := by
  simp [Lit.wf, IntKind.min, IntKind.max, IntKind.signed, IntKind.bits] at h
  exact ⟨by omega, by omega⟩
theorem cellsN3 : Tryz.prog.cellsOf 35 = 3 := by kernel_rfl
theorem cellsNI : Tryz.prog.cellsOf 3 = 1 := by kernel_rfl
theorem cellsNU : Tryz.prog.cellsOf 33 = 1 := by kernel_rfl
theorem threeN {cs : Array Value} (h : cs.size = 3) : ∃ a b c, cs = #[a, b, c] := by
  obtain ⟨l⟩ := cs
  match l, h with
  | [a, b, c], _ => exact ⟨a, b, c, rfl⟩
theorem some_atN {α : Type} {l : List α} {i : Nat} (h : i < l.length) : ∃ x, l[i]? = some x := ⟨_, List.getElem?_eq_getElem h⟩
theorem bits_cells {H : Type} {enc : TypeId × Value → H} {W : World} {base fuel : Nat} {spare : Nat → Bool} {held : Bool} {a b c : Value} {x : DataW H × List MemPlace} (h : DataW.trod enc Tryz.prog W base spare held fuel 35 [a, b, c] = some x) :
    ∃ n hi lo, a = .int .i64 n ∧ b = .int .u64 hi ∧ c = .int .u64 lo ∧ (0 ≤ hi ∧ hi < 18446744073709551616) ∧ (0 ≤ lo ∧ lo < 18446744073709551616) := by
  obtain ⟨xs, n, _, _, _, hl, hf⟩ := DataW.trod_struct Tryz.underlying35 h
  have hl' : xs.length = 3 := hl
  have h0 : DataW.trod enc Tryz.prog W base spare held n 3 (([a, b, c].drop 0).take (Tryz.prog.cellsOf 3)) = xs[0]? := hf 0 _ rfl
  rw [cellsNI] at h0
  replace h0 : DataW.trod enc Tryz.prog W base spare held n 3 [a] = xs[0]? := h0
  have h1 : DataW.trod enc Tryz.prog W base spare held n 33 (([a, b, c].drop 1).take (Tryz.prog.cellsOf 33)) = xs[1]? := hf 1 _ rfl
  rw [cellsNU] at h1
  replace h1 : DataW.trod enc Tryz.prog W base spare held n 33 [b] = xs[1]? := h1
  have h2 : DataW.trod enc Tryz.prog W base spare held n 33 (([a, b, c].drop 2).take (Tryz.prog.cellsOf 33)) = xs[2]? := hf 2 _ rfl
  rw [cellsNU] at h2
  replace h2 : DataW.trod enc Tryz.prog W base spare held n 33 [c] = xs[2]? := h2
  obtain ⟨x0, e0⟩ := some_atN (l := xs) (i := 0) (by omega)
  obtain ⟨x1, e1⟩ := some_atN (l := xs) (i := 1) (by omega)
  obtain ⟨x2, e2⟩ := some_atN (l := xs) (i := 2) (by omega)
  rw [e0] at h0
  rw [e1] at h1
  rw [e2] at h2
  obtain ⟨p, q0, _, w0⟩ := DataW.trod_int Tryz.underlying3 h0
  obtain ⟨q, q1, _, w1⟩ := DataW.trod_int Tryz.underlying33 h1
  obtain ⟨r, q2, _, w2⟩ := DataW.trod_int Tryz.underlying33 h2
  simp at q0 q1 q2
  exact ⟨p, q, r, q0, q1, q2, wordN w1, wordN w2⟩
/- One entry of a table of bytes that reads as a list of numbers. -/
theorem table_atN {P : Program} {t e : TypeId} {n i : Nat} {v : Int} (ht : P.underlying t = some (.array n e)) (he : P.underlying e = some (.int .u8)) (hc : P.cellsOf e = 1) {W : World} {g fuel : Nat} {nm : String} {cs : Array Value} {l : List (DataW Unit)} {p : List MemPlace}
    (hg : P.globalNamed nm = some g) (hv : W.var? P nm = some cs) (hd : DataW.trod (fun _ => ()) P W 0 (fun _ => true) false fuel t cs.toList = some (.agg l, p)) (hi : i < n) (hl : l[i]? = some (.lit (.int .u8 v))) : W.cell? ⟨g, i, none⟩ = some (.int .u8 v) := by
  obtain ⟨xs, m, rfl, hx, hlen, hn, hel⟩ := DataW.trod_array ht hd
  have h15 := hel i hi
  rw [hc] at h15
  obtain ⟨y, ey⟩ := some_atN (l := xs) (i := i) (by omega)
  rw [ey] at h15
  obtain ⟨k, e1, e2, _⟩ := DataW.trod_int he h15
  have hx' := congrArg Prod.fst hx
  simp only [DataW.agg.injEq] at hx'
  have h2 : (xs.map (·.1))[i]? = some y.1 := by rw [List.getElem?_map, ey]; rfl
  rw [← hx', hl, e2] at h2
  simp at h2
  subst h2
  rw [World.var?_cell hg hv i, ← Array.getElem?_toList]
  have := congrArg (fun l => l[0]?) e1
  simpa [List.getElem?_take, List.getElem?_drop] using this

end Go.Proofs.YtcfopkaomknmjaaGreatDoor
/- strconv.FormatUint at base 16. -/
namespace Go.Proofs.YtcfopkaomknmjaaGreatDoor
open Go.RowKit

def hexAt (v k : Nat) : Prop := (k = 0 ∨ 16 ^ k ≤ v) ∧ v < 16 ^ (k + 1) ∧ k ≤ 15
theorem formatUint_16i (v : Nat) (hv : v < 18446744073709551616) (w : World) (ht : w.cell? ⟨9, 15, none⟩ = some (.int .u8 4)) :
    Calls Tryz.prog 137 #[.int .u64 v, .int .i64 16] w fun e w' => ∃ k, hexAt v k ∧ e = .returned (.string ⟨(lowB v (k + 1)).toArray⟩) ∧ Below w.heap.size w w' := by
  have HF := hide (formatBits_16 v hv w ht)
  clear ht
  go_enter Tryz.func137, Tryz.ntmps137
  go_wp2_with fail
  refine HF.out.mono ?_
  rintro e w1 ⟨k, h1, h2, h3, rfl, hb⟩
  have H1 : Hid (hexAt v k) := ⟨h1, h2, h3⟩
  clear h1 h2 h3
  generalize hL : lowB v (k + 1) = L
  have HL := hide hL
  clear hL
  go_wp2
  go_ret
  exact ⟨k, H1.out, by rw [HL.out]; rfl, hb⟩
theorem formatUint_16 (v : Nat) (hv : v < 18446744073709551616) (w : World) (ht : w.cell? ⟨9, 15, none⟩ = some (.int .u8 4)) :
    Calls Tryz.prog 88 #[.int .u64 v, .int .i64 16] w fun e w' => ∃ k, hexAt v k ∧ e = .returned (.string ⟨(lowB v (k + 1)).toArray⟩) ∧ Below w.heap.size w w' := by
  have HF := hide (formatUint_16i v hv w ht)
  clear ht
  go_enter Tryz.func88, Tryz.ntmps88
  go_wp2_with fail
  refine HF.out.mono ?_
  rintro e w1 ⟨k, h1, rfl, hb⟩
  have H1 := hide h1
  clear h1
  generalize hL : lowB v (k + 1) = L
  have HL := hide hL
  clear hL
  go_wp2
  go_ret
  exact ⟨k, H1.out, by rw [HL.out]; rfl, hb⟩
theorem cells3T {w w1 : World} {a b c : Value} {t : TypeId} (hb : Below (w.alloc (.cells #[a, b, c] t)).heap.size (w.alloc (.cells #[a, b, c] t)) w1) : w1.cell? ⟨w.heap.size, 0, none⟩ = some a ∧ w1.cell? ⟨w.heap.size, 1, none⟩ = some b ∧ w1.cell? ⟨w.heap.size, 2, none⟩ = some c := by
  have h : w1.heap[w.heap.size]? = some (.cells #[a, b, c] t (0, 0)) := (hb.block _ (by simp)).trans (heap_alloc_new w _)
  simp [World.cell?, h]
theorem keepS {B : Nat} {w0 W w1 : World} {S : World → Prop} (hS : ∀ w', Below B w0 w' → S w') (hb : Below W.heap.size W w1) (h : Below B w0 W) (hB : B ≤ w0.heap.size) : S w1 :=
  hS _ (h.trans (hb.mono (Nat.le_trans hB h.size)))
end Go.Proofs.YtcfopkaomknmjaaGreatDoor
/- strconv.FormatUint at base 16, bits.digits, strings.Cut at one byte. -/
namespace Go.Proofs.YtcfopkaomknmjaaGreatDoor
open Go.RowKit

theorem fmt16 (v : Nat) (hv : v < 18446744073709551616) (w : World) (hL : Ld w) :
    Calls Tryz.prog 88 #[.int .u64 v, .int .i64 16] w fun e w' => ∃ k, hexAt v k ∧ e = .returned (.string (txt (lowB v (k + 1)))) ∧ Below w.heap.size w w' := formatUint_16 v hv w hL.db
theorem cat_txt (a b : List UInt8) : txt a ++ txt b = txt (a ++ b) := by
  apply ByteArray.ext
  simp [txt]
theorem rep48 : ∀ c : Nat, Lib.repeatL (⟨#[48]⟩ : ByteArray).data.toList c = List.replicate c 48
  | 0 => rfl
  | c + 1 => by
    have := rep48 c
    simp only [Lib.repeatL, this, List.replicate_succ]
    rfl
theorem repeat_zero (c : Nat) (hc : c ≤ 16) (w : World) : Calls Tryz.prog 89 #[.string ⟨#[48]⟩, .int .i64 c] w fun e w' => e = .returned (.string (txt (List.replicate c 48))) ∧ Below w.heap.size w w' := by
  refine (Tryz.strings_Repeat ⟨#[48]⟩ c w (by omega) (by simp [ByteArray.size]; omega)).mono fun e w' ⟨h1, h2⟩ => ⟨?_, h2⟩
  rw [h1, rep48]
  rfl
theorem digits_any (hi lo : Nat) (hhi : hi < 18446744073709551616) (hlo : lo < 18446744073709551616) (w : World) (hL : Ld w) :
    Calls Tryz.prog 40 #[.int .u64 hi, .int .u64 lo] w fun e w' => e = .returned (.string (txt (hx (hi * 18446744073709551616 + lo)))) ∧ Below w.heap.size w w' := by
  have HF := hide (fmt16 lo hlo)
  have HG := hide (fmt16 hi hhi)
  have HL := hide hL
  clear hL
  by_cases h0 : hi = 0
  · subst h0
    have HE : Hid (∀ k, hexAt lo k → lowB lo (k + 1) = hx (0 * 18446744073709551616 + lo)) := fun k h => by rw [Nat.zero_mul, Nat.zero_add]; exact hx_low k lo h.1 h.2.1
    generalize hx (0 * 18446744073709551616 + lo) = R at *
    go_enter Tryz.func40, Tryz.ntmps40
    go_wp2_with fail
    refine (HF.out _ HL.out).mono ?_
    rintro e w1 ⟨k, h1, rfl, hb⟩
    have HB := hide hb
    rw [HE.out k h1]
    clear hb h1
    generalize hT : txt R = T
    have HT := hide hT
    clear hT
    go_wp2
    go_ret
    exact ⟨by rw [HT.out]; rfl, HB.out⟩
  · have HE : Hid (∀ k m, hexAt hi k → hexAt lo m → lowB hi (k + 1) ++ List.replicate (16 - (m + 1)) 48 ++ lowB lo (m + 1) = hx (hi * 18446744073709551616 + lo)) := fun k m h1 h2 => hx_two (by omega) ⟨h1.1, h1.2.1⟩ h2.2.1 h2.2.2 hlo
    generalize hx (hi * 18446744073709551616 + lo) = R at *
    have hi0 : ¬ ((hi : Int) = 0) := by omega
    generalize (hi : Int) = hiI at *
    generalize (lo : Int) = loI at *
    clear h0 hhi hlo
    go_enter Tryz.func40, Tryz.ntmps40
    go_wp2_with fail
    refine (HF.out _ HL.out).mono ?_
    rintro e w1 ⟨m, h2, rfl, hb⟩
    have HB := hide hb
    have HL1 := hide (HL.out.below hb)
    have hm15 : m ≤ 15 := h2.2.2
    have H2 := hide h2
    clear hb h2
    have hTs : (txt (lowB lo (m + 1))).size = m + 1 := by rw [txt_size, lowB_length]
    generalize hT : txt (lowB lo (m + 1)) = T at *
    have HT := hide hT
    clear hT
    go_wp2_with fail
    refine (HG.out _ HL1.out).mono ?_
    rintro e w2 ⟨k, h1, rfl, hb⟩
    have HB2 := hide hb
    have H1 := hide h1
    clear hb h1
    generalize hU : txt (lowB hi (k + 1)) = U
    have HU := hide hU
    clear hU
    have hc : IntKind.i64.wrap (16 - ((m : Int) + 1)) = ((16 - (m + 1) : Nat) : Int) := by rw [IntKind.wrap_i64]; omega
    have HR := hide (repeat_zero (16 - (m + 1)) (by omega))
    generalize hV : txt (List.replicate (16 - (m + 1)) 48) = V at HR
    have HV := hide hV
    clear hV
    generalize ((16 - (m + 1) : Nat) : Int) = C at *
    go_wp2_with fail
    refine (HR.out _).mono ?_
    rintro e w3 ⟨rfl, hb⟩
    have HB3 := hide hb
    clear hb
    have hs1 : ¬ 9223372036854775807 < U.size + V.size := by rw [← HU.out, ← HV.out, txt_size, txt_size, lowB_length, List.length_replicate]; have := H1.out.2.2; omega
    have hs2 : ¬ 9223372036854775807 < U.size + V.size + (m + 1) := by rw [← HU.out, ← HV.out, txt_size, txt_size, lowB_length, List.length_replicate]; have := H1.out.2.2; omega
    go_wp2
    go_ret
    refine ⟨?_, HB.out.trans ((HB2.out.mono HB.out.size).trans (HB3.out.mono (Nat.le_trans HB.out.size HB2.out.size)))⟩
    show Ending.returned (.string (U ++ V ++ T)) = _
    rw [← HT.out, ← HU.out, ← HV.out, cat_txt, cat_txt, HE.out k m H1.out H2.out]
theorem itoa_any (n : Nat) (hn : n ≤ 9223372036854775807) (w : World) (hL : Ld w) :
    Calls Tryz.prog 39 #[.int .i64 n] w fun e w' => e = .returned (.string (txt (Lib.decDigits n))) ∧ Below w.heap.size w w' := by
  refine (Tryz.strconv_Itoa n (by omega) (by omega) w hL.pw).mono fun e w' ⟨h1, k, os, h2⟩ => ⟨?_, ?_⟩
  · rw [h1, Lib.itoa, if_neg (by omega), Int.toNat_natCast]; rfl
  · subst h2
    exact ⟨rfl, rfl, rfl, by show w.heap.size ≤ (w.heap ++ os).size; rw [Array.size_append]; omega, fun j hj => by show (w.heap ++ os)[j]? = w.heap[j]?; exact Array.getElem?_append_left hj⟩
end Go.Proofs.YtcfopkaomknmjaaGreatDoor
/- The walks of package bits' small functions: widthMayBe, lowest, cut, Of. -/
namespace Go.Proofs.YtcfopkaomknmjaaGreatDoor
open Go.RowKit

theorem ret_int {k : IntKind} {a b : Int} (h : a = b) : Ending.returned (.int k a) = .returned (.int k b) := by rw [h]

def mayBe (n : Int) : Bool := decide (1 ≤ n) && decide (n ≤ 128)
theorem mayBe_yes {n : Int} (h1 : 1 ≤ n) (h2 : n ≤ 128) : mayBe n = true := by simp [mayBe, h1, h2]
theorem mayBe_no {n : Int} (h : ¬ (1 ≤ n ∧ n ≤ 128)) : mayBe n = false := by simp [mayBe]; omega

theorem widthMayBe_any (n : Int) (w : World) :
    Calls Tryz.prog 85 #[.int .i64 n] w fun e w' => e = .returned (.bool (mayBe n)) ∧ w' = w := by
  by_cases h1 : 1 ≤ n
  · by_cases h2 : n ≤ 128
    · go_enter Tryz.func85, Tryz.ntmps85
      go_wp2
      go_ret
      exact ⟨by rw [mayBe_yes h1 h2]; simp, rfl⟩
    · go_enter Tryz.func85, Tryz.ntmps85
      go_wp2
      go_ret
      exact ⟨by rw [mayBe_no (by omega)]; simp, rfl⟩
  · go_enter Tryz.func85, Tryz.ntmps85
    go_wp2
    go_ret
    exact ⟨by rw [mayBe_no (by omega)]; simp, rfl⟩

theorem lowest_any (n : Int) (w : World) (h0 : 0 ≤ n) (h1 : n ≤ 64) :
    Calls Tryz.prog 135 #[.int .i64 n] w fun e w' => e = .returned (.int .u64 (low n)) ∧ w' = w := by
  have H : Hid (IntKind.u64.wrap (IntKind.u64.wrap (2 ^ n.toNat) - 1) = low n) := wrap_low n h0 h1
  go_enter Tryz.func135, Tryz.ntmps135
  go_wp2
  go_ret
  exact ⟨ret_int H.out, rfl⟩

def bitsV (n hi lo : Int) : Value := .agg #[.int .i64 n, .int .u64 hi, .int .u64 lo]
theorem ret_bits {n a b c d : Int} (h : a = c) (h2 : b = d) : Ending.returned (.agg #[.int .i64 n, .int .u64 a, .int .u64 b]) = .returned (.agg #[.int .i64 n, .int .u64 c, .int .u64 d]) := by rw [h, h2]

theorem cut_any (n hi lo : Int) (w : World) (h0 : 1 ≤ n) (h1 : n ≤ 128) (a0 : 0 ≤ hi) (a1 : hi < 18446744073709551616) (b0 : 0 ≤ lo) (b1 : lo < 18446744073709551616) :
    Calls Tryz.prog 86 #[.int .i64 n, .int .u64 hi, .int .u64 lo] w fun e w' =>
      e = .returned (.agg #[.int .i64 n, .int .u64 (cHi n hi), .int .u64 (cLo n lo)]) ∧ Below w.heap.size w w' := by
  by_cases h : n ≤ 64
  · go_enter Tryz.func86, Tryz.ntmps86
    go_wp2_with (go_at_call 135; refine (lowest_any _ _ (by omega) (by omega)).mono ?_; rintro e w' ⟨rfl, rfl⟩)
    refine bodyPost_ret (v := .agg #[.int .i64 n, .int .u64 0, .int .u64 (bits .and .u64 lo (low n))]) (by simp [results, Tryz.results86, go_sem]) rfl ⟨ret_bits (cHi_le h).symm (by rw [and_low n lo (by omega) h b0 b1, cLo_le h]), ?_⟩
    exact (Below.refl _ _).alloc (Nat.le_refl _) _
  · go_enter Tryz.func86, Tryz.ntmps86
    go_wp2_with (go_at_call 135; refine (lowest_any _ _ (by omega) (by omega)).mono ?_; rintro e w' ⟨rfl, rfl⟩)
    refine bodyPost_ret (v := .agg #[.int .i64 n, .int .u64 (bits .and .u64 hi (low (n - 64))), .int .u64 lo]) (by simp [results, Tryz.results86, go_sem]) rfl ⟨ret_bits (by rw [and_low (n - 64) hi (by omega) (by omega) a0 a1, cHi_gt (by omega)]) (cLo_gt (by omega)).symm, ?_⟩
    exact (Below.refl _ _).alloc (Nat.le_refl _) _
end Go.Proofs.YtcfopkaomknmjaaGreatDoor
/- Bytes that can be read; no package of the program is named. -/
namespace Go.Proofs.YtcfopkaomknmjaaGreatDoor
open Go.RowKit

theorem bcell {W w1 : World} (hb : Below W.heap.size W w1) : (∀ b o, b < W.heap.size → w1.cell? ⟨b, o, none⟩ = W.cell? ⟨b, o, none⟩) ∧ (∀ b o, b < W.heap.size → w1.frozen? ⟨b, o, none⟩ = W.frozen? ⟨b, o, none⟩) :=
  ⟨fun b o h => hb.cell (p := ⟨b, o, none⟩) h, fun b o h => hb.frozen (p := ⟨b, o, none⟩) h⟩

/- Bytes that can be read. -/
def RdA (W : World) (a : Option Addr) (xs : List Nat) : Prop :=
  xs = [] ∨ ∃ p off, a = some ⟨p, off, none⟩ ∧ p < W.heap.size ∧ ∀ i (h : i < xs.length), W.cell? ⟨p, off + i, none⟩ = some (.int .u8 (xs[i] : Nat))
theorem RdA.below {W W' : World} {a : Option Addr} {xs : List Nat} (h : RdA W a xs) (hb : Below W.heap.size W W') : RdA W' a xs := by
  rcases h with h | ⟨p, off, rfl, hp, hc⟩
  · exact .inl h
  · exact .inr ⟨p, off, rfl, Nat.lt_of_lt_of_le hp hb.size, fun i hi => (hb.cell (p := ⟨p, off + i, none⟩) hp).trans (hc i hi)⟩
theorem RdA.some {W : World} {a : Option Addr} {xs : List Nat} (h : RdA W a xs) (hx : 0 < xs.length) : ∃ p off, a = some ⟨p, off, none⟩ ∧ p < W.heap.size ∧ ∀ i (h : i < xs.length), W.cell? ⟨p, off + i, none⟩ = some (.int .u8 (xs[i] : Nat)) := by
  rcases h with rfl | h
  · simp at hx
  · exact h
theorem below_drewN {B : Nat} {w w' : World} (h : Below B w w') (n : Nat) : Below B w (w'.drewN n) := ⟨h.os, h.tape, h.output, h.size, h.block⟩
end Go.Proofs.YtcfopkaomknmjaaGreatDoor
/- The walk of bits.Check. -/
namespace Go.Proofs.YtcfopkaomknmjaaGreatDoor
open Go.RowKit

theorem hold3 {B : Nat} {w0 W w1 : World} {b : Nat} {x y z : Value} {o1 o2 o3 : Nat} (hb : Below W.heap.size W w1) (hS : W.cell? ⟨b, o1, none⟩ = some x ∧ W.cell? ⟨b, o2, none⟩ = some y ∧ W.cell? ⟨b, o3, none⟩ = some z ∧ Below B w0 W) (hB : B ≤ w0.heap.size) :
    w1.cell? ⟨b, o1, none⟩ = some x ∧ w1.cell? ⟨b, o2, none⟩ = some y ∧ w1.cell? ⟨b, o3, none⟩ = some z ∧ Below B w0 w1 := by
  obtain ⟨h1, h2, h3, h⟩ := hS
  have hlt : b < W.heap.size := by have := World.block_lt_of_cell? W _ h1; exact this
  have hz := h.size
  exact ⟨(hb.cell hlt).trans h1, (hb.cell hlt).trans h2, (hb.cell hlt).trans h3, h.trans (hb.mono (by omega))⟩

def okB (n hi lo : Int) : Bool := mayBe n && (cHi n hi == hi && cLo n lo == lo)

set_option maxHeartbeats 1000000 in
theorem check_may (n hi lo : Int) (w : World) (h0 : 1 ≤ n) (h1 : n ≤ 128) (a0 : 0 ≤ hi) (a1 : hi < 18446744073709551616) (b0 : 0 ≤ lo) (b1 : lo < 18446744073709551616) :
    Calls Tryz.prog 38 #[.agg #[.int .i64 n, .int .u64 hi, .int .u64 lo]] w fun e w' =>
      e = .returned (.bool (cHi n hi == hi && cLo n lo == lo)) ∧ Below w.heap.size w w' := by
  have hm := mayBe_yes h0 h1
  cases e1 : (cHi n hi == hi) <;> cases e2 : (cLo n lo == lo)
  all_goals
    go_enter Tryz.func38, Tryz.ntmps38
    go_wp2
    go_region_held3 (fun w' => w'.cell? ⟨w.heap.size, 0, none⟩ = some (.int .i64 n) ∧ w'.cell? ⟨w.heap.size, 1, none⟩ = some (.int .u64 hi) ∧ w'.cell? ⟨w.heap.size, 2, none⟩ = some (.int .u64 lo) ∧ Below (w.heap.size + 1) (w.alloc (.cells #[.int .i64 n, .int .u64 hi, .int .u64 lo] 35)) w') (first | exact hold3 (by assumption) (by assumption) (by simp) | (refine ⟨?_, ?_, ?_, ?_⟩ <;> first | exact (Below.refl _ _).drew | simp [go_sem]))
      (first
        | (go_at_call 85; refine (widthMayBe_any _ _).mono ?_; rintro e w' ⟨rfl, rfl⟩)
        | (go_at_call 86; refine (cut_any n hi lo _ h0 h1 a0 a1 b0 b1).mono ?_; rintro e w1 ⟨rfl, hb⟩))
  all_goals (go_wp2; go_ret; exact ⟨rfl, (((Below.refl _ _).alloc (Nat.le_refl _) _).drew).trans (hb.mono (by simp))⟩)

end Go.Proofs.YtcfopkaomknmjaaGreatDoor
namespace Go.Proofs.YtcfopkaomknmjaaGreatDoor
open Go.RowKit
theorem widthMayBe_no (n : Int) (w : World) (h : mayBe n = false) :
    Calls Tryz.prog 85 #[.int .i64 n] w fun e w' => e = .returned (.bool false) ∧ w' = w := by
  have := widthMayBe_any n w
  rw [h] at this
  exact this

theorem check_not (n hi lo : Int) (w : World) (h : ¬ (1 ≤ n ∧ n ≤ 128)) :
    Calls Tryz.prog 38 #[.agg #[.int .i64 n, .int .u64 hi, .int .u64 lo]] w fun e w' =>
      e = .returned (.bool false) ∧ Below w.heap.size w w' := by
  have hm := mayBe_no h
  clear h
  go_enter Tryz.func38, Tryz.ntmps38
  go_wp2
  go_quiet ((go_at_call 85; exact Calls.quiet_of_same (widthMayBe_no _ _ hm)))
  go_wp2
  go_ret
  exact ⟨rfl, below_drewN ((Below.refl _ _).alloc (Nat.le_refl _) _) _⟩

theorem check_any (n hi lo : Int) (w : World) (a0 : 0 ≤ hi) (a1 : hi < 18446744073709551616) (b0 : 0 ≤ lo) (b1 : lo < 18446744073709551616) :
    Calls Tryz.prog 38 #[.agg #[.int .i64 n, .int .u64 hi, .int .u64 lo]] w fun e w' =>
      e = .returned (.bool (okB n hi lo)) ∧ Below w.heap.size w w' := by
  by_cases h : 1 ≤ n ∧ n ≤ 128
  · have e : okB n hi lo = (cHi n hi == hi && cLo n lo == lo) := by unfold okB; rw [mayBe_yes h.1 h.2]; rfl
    rw [e]
    exact check_may n hi lo w h.1 h.2 a0 a1 b0 b1
  · have e : okB n hi lo = false := by unfold okB; rw [mayBe_no h]; rfl
    rw [e]
    exact check_not n hi lo w h
end Go.Proofs.YtcfopkaomknmjaaGreatDoor
