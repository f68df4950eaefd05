/- Pieces of the proof: Vals, Words, SuMath. -/
import Derived.Test.YtpgkohimcofjnaaGreatDoorM9
import Derived.Lib.Mul64
import Derived.Test.YtpgkohimcofjnaaGreatDoorProg
import Derived.WalkKit
import Derived.WalkSpells
import Derived.WalkLawsBesides
import Derived.Laws.Pointers
import Derived.Laws.ResultCell
import Derived.Laws.BitsAllLaws
/- Numbers by their value: plain facts. -/
namespace Go.Proofs.YtpgkohimcofjnaaGreatDoor

def wHi (v : Nat) : Int := ((v / 18446744073709551616 : Nat) : Int)
def wLo (v : Nat) : Int := ((v % 18446744073709551616 : Nat) : Int)
def top : Nat := 340282366920938463463374607431768211456
theorem top_eq : top = 2 ^ 128 := by decide
theorem wHi_bd {v : Nat} (h : v < top) : 0 ≤ wHi v ∧ wHi v < 18446744073709551616 := by
  unfold wHi top at *; omega
theorem wLo_bd (v : Nat) : 0 ≤ wLo v ∧ wLo v < 18446744073709551616 := by
  unfold wLo; omega
theorem w_join (v : Nat) : wHi v * 18446744073709551616 + wLo v = v := by
  unfold wHi wLo; omega
theorem words_of {hi lo : Int} (a0 : 0 ≤ hi) (a1 : hi < 18446744073709551616) (b0 : 0 ≤ lo) (b1 : lo < 18446744073709551616) : ∃ v, v < top ∧ hi = wHi v ∧ lo = wLo v := by
  refine ⟨(hi * 18446744073709551616 + lo).toNat, ?_, ?_, ?_⟩
  · unfold top; omega
  · unfold wHi; omega
  · unfold wLo; omega
theorem w_inj {u v : Nat} (h : wHi u = wHi v) (k : wLo u = wLo v) : u = v := by
  have h1 := w_join u; have h2 := w_join v; rw [h, k] at h1; omega
theorem w_eq (u v : Nat) : (wHi u == wHi v && wLo u == wLo v) = decide (u = v) := by
  by_cases h : u = v
  · subst h; simp
  · simp only [h, decide_false]
    cases e1 : (wHi u == wHi v)
    · rfl
    · cases e2 : (wLo u == wLo v)
      · rfl
      · exact absurd (w_inj (by simpa using e1) (by simpa using e2)) h
theorem w_lt (u v : Nat) : u < v ↔ wHi u < wHi v ∨ wHi u = wHi v ∧ wLo u < wLo v := by
  have h1 := w_join u; have h2 := w_join v; have h3 := wLo_bd u; have h4 := wLo_bd v
  constructor
  · intro h
    by_cases e : wHi u < wHi v
    · exact .inl e
    · refine .inr ⟨?_, ?_⟩ <;> omega
  · intro h; omega
theorem w_zero : wHi 0 = 0 ∧ wLo 0 = 0 := ⟨rfl, rfl⟩
theorem w_of_lo {v : Nat} (h : v < 18446744073709551616) : wHi v = 0 ∧ wLo v = v := by
  unfold wHi wLo; omega

theorem pow_split {n : Nat} (h : 64 ≤ n) : (2 : Nat) ^ n = 18446744073709551616 * 2 ^ (n - 64) := by
  have : (2 : Nat) ^ n = 2 ^ 64 * 2 ^ (n - 64) := by rw [← Nat.pow_add]; congr 1; omega
  rw [this]
theorem pow_le_top {n : Nat} (h : n ≤ 128) : (2 : Nat) ^ n ≤ top := by rw [top_eq]; exact Nat.pow_le_pow_right (by decide) h
theorem mod_lt_top {v n : Nat} (h : n ≤ 128) : v % 2 ^ n < top := Nat.lt_of_lt_of_le (Nat.mod_lt _ (Nat.pow_pos (by decide))) (pow_le_top h)

theorem cut_lo (n : Int) (v : Nat) (h0 : 1 ≤ n) : cLo n (wLo v) = wLo (v % 2 ^ n.toNat) := by
  obtain ⟨n, rfl⟩ := Int.eq_ofNat_of_zero_le (by omega : 0 ≤ n)
  rw [Int.toNat_natCast]
  unfold cLo wLo
  by_cases h : (n : Int) ≤ 64
  · rw [if_pos h, Int.toNat_natCast]
    have hd : (2 : Nat) ^ n ∣ 18446744073709551616 := by
      have : (18446744073709551616 : Nat) = 2 ^ 64 := by decide
      rw [this]; exact Nat.pow_dvd_pow 2 (by omega)
    have hlt : v % 2 ^ n < 18446744073709551616 := by
      have h1 := Nat.mod_lt v (Nat.pow_pos (n := n) (by decide : 0 < 2))
      have h2 := Nat.le_of_dvd (by decide) hd
      omega
    rw [Nat.mod_eq_of_lt hlt]
    have e : ((2 : Int) ^ n) = ((2 ^ n : Nat) : Int) := by simp
    rw [e, ← Int.natCast_emod, Nat.mod_mod_of_dvd _ hd]
  · rw [if_neg h]
    have hd : (18446744073709551616 : Nat) ∣ 2 ^ n := ⟨_, pow_split (by omega)⟩
    rw [Nat.mod_mod_of_dvd _ hd]
theorem cut_hi (n : Int) (v : Nat) (h0 : 1 ≤ n) : cHi n (wHi v) = wHi (v % 2 ^ n.toNat) := by
  obtain ⟨n, rfl⟩ := Int.eq_ofNat_of_zero_le (by omega : 0 ≤ n)
  rw [Int.toNat_natCast]
  unfold cHi wHi
  by_cases h : (n : Int) ≤ 64
  · rw [if_pos h]
    have h1 := Nat.mod_lt v (Nat.pow_pos (n := n) (by decide : 0 < 2))
    have h2 : (2 : Nat) ^ n ≤ 2 ^ 64 := Nat.pow_le_pow_right (by decide) (by omega)
    rw [Nat.div_eq_of_lt (by omega)]; rfl
  · rw [if_neg h, show ((n : Int) - 64).toNat = n - 64 by omega]
    have e : ((2 : Int) ^ (n - 64)) = ((2 ^ (n - 64) : Nat) : Int) := by simp
    rw [e, ← Int.natCast_emod, pow_split (n := n) (by omega), Nat.mod_mul_right_div_self]
theorem ok_iff (n : Int) (v : Nat) (h0 : 1 ≤ n) : (cHi n (wHi v) == wHi v && cLo n (wLo v) == wLo v) = decide (v < 2 ^ n.toNat) := by
  rw [cut_hi n v h0, cut_lo n v h0, w_eq]
  by_cases h : v < 2 ^ n.toNat
  · simp [h, Nat.mod_eq_of_lt h]
  · have := Nat.mod_lt v (Nat.pow_pos (n := n.toNat) (by decide : 0 < 2))
    simp only [h, decide_false, decide_eq_false_iff_not]
    omega

theorem mod_top (v : Nat) {n : Nat} (h : n ≤ 128) : v % top % 2 ^ n = v % 2 ^ n := by
  rw [top_eq]; exact Nat.mod_mod_of_dvd _ (Nat.pow_dvd_pow 2 h)
theorem mod_top_lt (v : Nat) : v % top < top := Nat.mod_lt _ (by decide)
theorem wHi_nat (v : Nat) : wHi v = ((v / 2 ^ 64 : Nat) : Int) := rfl
theorem wLo_nat (v : Nat) : wLo v = ((v % 2 ^ 64 : Nat) : Int) := rfl
theorem part_lt {v : Nat} (h : v < top) : v / 2 ^ 64 < 18446744073709551616 ∧ v % 2 ^ 64 < 18446744073709551616 := by unfold top at h; omega

/- and, or, xor -/
theorem and_hi {u v : Nat} (hu : u < top) (hv : v < top) : bits .and .u64 (wHi u) (wHi v) = wHi (u &&& v) := by
  rw [wHi_nat, wHi_nat, wHi_nat, u64_and_nat _ _ (part_lt hu).1 (part_lt hv).1]
  congr 1
  refine Nat.eq_of_testBit_eq fun j => ?_
  simp only [Nat.testBit_and, Nat.testBit_div_two_pow]
theorem and_lo {u v : Nat} (hu : u < top) (hv : v < top) : bits .and .u64 (wLo u) (wLo v) = wLo (u &&& v) := by
  rw [wLo_nat, wLo_nat, wLo_nat, u64_and_nat _ _ (part_lt hu).2 (part_lt hv).2]
  congr 1
  refine Nat.eq_of_testBit_eq fun j => ?_
  simp only [Nat.testBit_and, Nat.testBit_mod_two_pow]
  by_cases h : j < 64 <;> simp [h]
theorem or_hi {u v : Nat} (hu : u < top) (hv : v < top) : bits .or .u64 (wHi u) (wHi v) = wHi (u ||| v) := by
  rw [wHi_nat, wHi_nat, wHi_nat, u64_or_nat _ _ (part_lt hu).1 (part_lt hv).1]
  congr 1
  refine Nat.eq_of_testBit_eq fun j => ?_
  simp only [Nat.testBit_or, Nat.testBit_div_two_pow]
theorem or_lo {u v : Nat} (hu : u < top) (hv : v < top) : bits .or .u64 (wLo u) (wLo v) = wLo (u ||| v) := by
  rw [wLo_nat, wLo_nat, wLo_nat, u64_or_nat _ _ (part_lt hu).2 (part_lt hv).2]
  congr 1
  refine Nat.eq_of_testBit_eq fun j => ?_
  simp only [Nat.testBit_or, Nat.testBit_mod_two_pow]
  by_cases h : j < 64 <;> simp [h]
theorem xor_hi {u v : Nat} (hu : u < top) (hv : v < top) : bits .xor .u64 (wHi u) (wHi v) = wHi (u ^^^ v) := by
  rw [wHi_nat, wHi_nat, wHi_nat, u64_xor_nat _ _ (part_lt hu).1 (part_lt hv).1]
  congr 1
  refine Nat.eq_of_testBit_eq fun j => ?_
  simp only [Nat.testBit_xor, Nat.testBit_div_two_pow]
theorem xor_lo {u v : Nat} (hu : u < top) (hv : v < top) : bits .xor .u64 (wLo u) (wLo v) = wLo (u ^^^ v) := by
  rw [wLo_nat, wLo_nat, wLo_nat, u64_xor_nat _ _ (part_lt hu).2 (part_lt hv).2]
  congr 1
  refine Nat.eq_of_testBit_eq fun j => ?_
  simp only [Nat.testBit_xor, Nat.testBit_mod_two_pow]
  by_cases h : j < 64 <;> simp [h]

/- add, sub, mul -/
theorem add_hi (u v : Nat) : IntKind.u64.wrap (IntKind.u64.wrap (wHi u + wHi v) + (wLo u + wLo v) / 18446744073709551616) = wHi ((u + v) % top) := by
  rw [IntKind.wrap_u64, IntKind.wrap_u64]; unfold wHi wLo top; omega
theorem add_lo (u v : Nat) : (wLo u + wLo v) % 18446744073709551616 = wLo ((u + v) % top) := by
  unfold wLo top; omega
def bor (x y : Int) : Int := if x < y then 1 else 0
theorem sub_hi {u v : Nat} (hv : v < top) : IntKind.u64.wrap (IntKind.u64.wrap (wHi u - wHi v) - bor (wLo u) (wLo v)) = wHi ((u + top - v) % top) := by
  rw [IntKind.wrap_u64, IntKind.wrap_u64]; unfold bor wHi wLo top at *; split <;> omega
theorem sub_lo {u v : Nat} (hv : v < top) : (wLo u - wLo v) % 18446744073709551616 = wLo ((u + top - v) % top) := by
  unfold wLo top at *; omega
theorem mul_split (u v : Nat) : (u * v) % top = ((u % 2 ^ 64) * (v % 2 ^ 64) + ((u / 2 ^ 64) * (v % 2 ^ 64) + (u % 2 ^ 64) * (v / 2 ^ 64)) * 2 ^ 64) % top := by
  have e : u * v = (u % 2 ^ 64) * (v % 2 ^ 64) + ((u / 2 ^ 64) * (v % 2 ^ 64) + (u % 2 ^ 64) * (v / 2 ^ 64)) * 2 ^ 64 + top * ((u / 2 ^ 64) * (v / 2 ^ 64)) := by
    have h := Lib.split_mul (u / 2 ^ 64) (u % 2 ^ 64) (v / 2 ^ 64) (v % 2 ^ 64) (2 ^ 64)
    rw [Nat.div_add_mod' u (2 ^ 64), Nat.div_add_mod' v (2 ^ 64)] at h
    rw [h]
    have t : (2 : Nat) ^ 64 * 2 ^ 64 = top := by decide
    rw [t, Nat.mul_comm (u / 2 ^ 64 * (v / 2 ^ 64)) top]
    omega
  rw [e, Nat.add_mul_mod_self_left]
theorem mul_hi (u v : Nat) : IntKind.u64.wrap (IntKind.u64.wrap (((u % 18446744073709551616) * (v % 18446744073709551616) / 18446744073709551616 : Nat) + IntKind.u64.wrap (wHi u * wLo v)) + IntKind.u64.wrap (wLo u * wHi v)) = wHi ((u * v) % top) := by
  rw [mul_split, IntKind.wrap_u64, IntKind.wrap_u64, IntKind.wrap_u64, IntKind.wrap_u64]
  have e1 : wHi u * wLo v = (((u / 2 ^ 64) * (v % 2 ^ 64) : Nat) : Int) := by rw [wHi_nat, wLo_nat, Int.natCast_mul]
  have e2 : wLo u * wHi v = (((u % 2 ^ 64) * (v / 2 ^ 64) : Nat) : Int) := by rw [wHi_nat, wLo_nat, Int.natCast_mul]
  rw [e1, e2, wHi_nat]
  have e3 : (u % 18446744073709551616) * (v % 18446744073709551616) = (u % 2 ^ 64) * (v % 2 ^ 64) := rfl
  rw [e3]
  generalize (u % 2 ^ 64) * (v % 2 ^ 64) = p
  generalize (u / 2 ^ 64) * (v % 2 ^ 64) = q
  generalize (u % 2 ^ 64) * (v / 2 ^ 64) = r
  unfold top; omega
theorem mul_lo (u v : Nat) : (((u % 18446744073709551616) * (v % 18446744073709551616) % 18446744073709551616 : Nat) : Int) = wLo ((u * v) % top) := by
  rw [mul_split, wLo_nat]
  have e3 : (u % 18446744073709551616) * (v % 18446744073709551616) = (u % 2 ^ 64) * (v % 2 ^ 64) := rfl
  rw [e3]
  generalize (u % 2 ^ 64) * (v % 2 ^ 64) = p
  generalize ((u / 2 ^ 64) * (v % 2 ^ 64) + (u % 2 ^ 64) * (v / 2 ^ 64)) = q
  unfold top; omega
end Go.Proofs.YtpgkohimcofjnaaGreatDoor
/- The walks of package bits' small functions: widthMayBe, lowest, cut, Of. -/
namespace Go.Proofs.YtpgkohimcofjnaaGreatDoor
open Go.RowKit

theorem ret_int {k : IntKind} {a b : Int} (h : a = b) : Ending.returned (.int k a) = .returned (.int k b) := by rw [h]

def mayBe (n : Int) : Bool := decide (1 ≤ n) && decide (n ≤ 128)
theorem mayBe_yes {n : Int} (h1 : 1 ≤ n) (h2 : n ≤ 128) : mayBe n = true := by simp [mayBe, h1, h2]
theorem mayBe_no {n : Int} (h : ¬ (1 ≤ n ∧ n ≤ 128)) : mayBe n = false := by simp [mayBe]; omega

theorem widthMayBe_any (n : Int) (w : World) :
    Calls Tryz.prog 189 #[.int .i64 n] w fun e w' => e = .returned (.bool (mayBe n)) ∧ w' = w := by
  by_cases h1 : 1 ≤ n
  · by_cases h2 : n ≤ 128
    · go_enter Tryz.func189, Tryz.ntmps189
      go_wp2
      go_ret
      exact ⟨by rw [mayBe_yes h1 h2]; simp, rfl⟩
    · go_enter Tryz.func189, Tryz.ntmps189
      go_wp2
      go_ret
      exact ⟨by rw [mayBe_no (by omega)]; simp, rfl⟩
  · go_enter Tryz.func189, Tryz.ntmps189
    go_wp2
    go_ret
    exact ⟨by rw [mayBe_no (by omega)]; simp, rfl⟩

theorem lowest_any (n : Int) (w : World) (h0 : 0 ≤ n) (h1 : n ≤ 64) :
    Calls Tryz.prog 198 #[.int .i64 n] w fun e w' => e = .returned (.int .u64 (low n)) ∧ w' = w := by
  have H : Hid (IntKind.u64.wrap (IntKind.u64.wrap (2 ^ n.toNat) - 1) = low n) := wrap_low n h0 h1
  go_enter Tryz.func198, Tryz.ntmps198
  go_wp2
  go_ret
  exact ⟨ret_int H.out, rfl⟩

def bitsV (n hi lo : Int) : Value := .agg #[.int .i64 n, .int .u64 hi, .int .u64 lo]
theorem ret_bits {n a b c d : Int} (h : a = c) (h2 : b = d) : Ending.returned (.agg #[.int .i64 n, .int .u64 a, .int .u64 b]) = .returned (.agg #[.int .i64 n, .int .u64 c, .int .u64 d]) := by rw [h, h2]

theorem cut_any (n hi lo : Int) (w : World) (h0 : 1 ≤ n) (h1 : n ≤ 128) (a0 : 0 ≤ hi) (a1 : hi < 18446744073709551616) (b0 : 0 ≤ lo) (b1 : lo < 18446744073709551616) :
    Calls Tryz.prog 190 #[.int .i64 n, .int .u64 hi, .int .u64 lo] w fun e w' =>
      e = .returned (.agg #[.int .i64 n, .int .u64 (cHi n hi), .int .u64 (cLo n lo)]) ∧ Below w.heap.size w w' := by
  by_cases h : n ≤ 64
  · go_enter Tryz.func190, Tryz.ntmps190
    go_wp2_with (go_at_call 198; refine (lowest_any _ _ (by omega) (by omega)).mono ?_; rintro e w' ⟨rfl, rfl⟩)
    refine bodyPost_ret (v := .agg #[.int .i64 n, .int .u64 0, .int .u64 (bits .and .u64 lo (low n))]) (by simp [results, Tryz.results190, go_sem]) rfl ⟨ret_bits (cHi_le h).symm (by rw [and_low n lo (by omega) h b0 b1, cLo_le h]), ?_⟩
    exact (Below.refl _ _).alloc (Nat.le_refl _) _
  · go_enter Tryz.func190, Tryz.ntmps190
    go_wp2_with (go_at_call 198; refine (lowest_any _ _ (by omega) (by omega)).mono ?_; rintro e w' ⟨rfl, rfl⟩)
    refine bodyPost_ret (v := .agg #[.int .i64 n, .int .u64 (bits .and .u64 hi (low (n - 64))), .int .u64 lo]) (by simp [results, Tryz.results190, go_sem]) rfl ⟨ret_bits (by rw [and_low (n - 64) hi (by omega) (by omega) a0 a1, cHi_gt (by omega)]) (cLo_gt (by omega)).symm, ?_⟩
    exact (Below.refl _ _).alloc (Nat.le_refl _) _
end Go.Proofs.YtpgkohimcofjnaaGreatDoor
/- Plain facts on sums: no Go in sight. -/
namespace Go.Proofs.YtpgkohimcofjnaaGreatDoor

theorem xor_lc (a b c : Nat) : a ^^^ (b ^^^ c) = b ^^^ (a ^^^ c) := by rw [← Nat.xor_assoc, Nat.xor_comm a b, Nat.xor_assoc]
theorem xor_none {a b : Nat} (h : a ^^^ b = 0) : a = b := by
  have := congrArg (fun z => z ^^^ b) h
  simpa [Nat.xor_assoc] using this
/- One step of a CRC whose lowest bit comes first. -/
def stp (p c : Nat) : Nat := (c / 2) ^^^ (c % 2 * p)
def stn (p : Nat) : Nat → Nat → Nat
  | 0, c => c
  | n + 1, c => stn p n (stp p c)
theorem stp_zero (p : Nat) : stp p 0 = 0 := by simp [stp]
theorem stp_xor (p a b : Nat) : stp p (a ^^^ b) = stp p a ^^^ stp p b := by
  unfold stp
  rw [Nat.xor_div_two]
  have hm : (a ^^^ b) % 2 * p = (a % 2 * p) ^^^ (b % 2 * p) := by
    have h := Nat.xor_mod_two_pow (n := 1) (a := a) (b := b)
    rw [Nat.pow_one] at h
    rw [h]
    rcases Nat.mod_two_eq_zero_or_one a with e | e <;> rcases Nat.mod_two_eq_zero_or_one b with f | f <;> simp [e, f]
  rw [hm]
  simp only [Nat.xor_assoc, xor_lc]
theorem stp_two (p y : Nat) : stp p (2 * y) = y := by
  unfold stp
  have h1 : 2 * y / 2 = y := by omega
  have h2 : 2 * y % 2 = 0 := by omega
  rw [h1, h2]; simp
theorem stn_zero (p n : Nat) : stn p n 0 = 0 := by
  induction n with
  | zero => rfl
  | succ n ih => rw [stn, stp_zero, ih]
theorem stn_xor (p n a b : Nat) : stn p n (a ^^^ b) = stn p n a ^^^ stn p n b := by
  induction n generalizing a b with
  | zero => rfl
  | succ n ih => rw [stn, stn, stn, stp_xor, ih]
theorem stn_add (p m n c : Nat) : stn p (m + n) c = stn p n (stn p m c) := by
  induction m generalizing c with
  | zero => rw [Nat.zero_add]; rfl
  | succ m ih => rw [show m + 1 + n = (m + n) + 1 by omega, stn, stn, ih]
theorem stn_succ (p n c : Nat) : stn p (n + 1) c = stp p (stn p n c) := by rw [stn_add]; rfl
theorem stn_pow (p n y : Nat) : stn p n (2 ^ n * y) = y := by
  induction n generalizing y with
  | zero => simp [stn]
  | succ n ih => rw [stn, show 2 ^ (n + 1) * y = 2 * (2 ^ n * y) by rw [Nat.pow_succ, Nat.mul_comm (2 ^ n) 2, Nat.mul_assoc], stp_two, ih]
theorem xor_split (n c : Nat) : c = (2 ^ n * (c / 2 ^ n)) ^^^ (c % 2 ^ n) := by
  apply Nat.eq_of_testBit_eq
  intro i
  rw [Nat.testBit_xor, Nat.testBit_mod_two_pow, Nat.testBit_two_pow_mul, Nat.testBit_div_two_pow]
  by_cases h : i < n
  · simp [h, Nat.not_le.2 h]
  · have : n ≤ i := by omega
    simp [h, this]
theorem stn_split (p n c : Nat) : stn p n c = (c / 2 ^ n) ^^^ stn p n (c % 2 ^ n) := by
  have h := congrArg (stn p n) (xor_split n c)
  rw [stn_xor, stn_pow] at h
  exact h
theorem stp_lt {p c w : Nat} (hp : p < 2 ^ w) (hc : c < 2 ^ w) : stp p c < 2 ^ w := by
  unfold stp
  apply Nat.xor_lt_two_pow
  · omega
  · rcases Nat.mod_two_eq_zero_or_one c with e | e <;> simp [e]
    · exact Nat.lt_of_le_of_lt (Nat.zero_le _) hc
    · exact hp
theorem stn_lt {p w : Nat} (hp : p < 2 ^ w) (n : Nat) {c : Nat} (hc : c < 2 ^ w) : stn p n c < 2 ^ w := by
  induction n generalizing c with
  | zero => exact hc
  | succ n ih => rw [stn]; exact ih (stp_lt hp hc)
theorem stp_ne {p c w : Nat} (hp : 2 ^ w ≤ p) (hc : c < 2 ^ (w + 1)) (h : stp p c = 0) : c = 0 := by
  unfold stp at h
  have h := xor_none h
  rw [Nat.pow_succ] at hc
  rcases Nat.mod_two_eq_zero_or_one c with e | e <;> rw [e] at h
  · omega
  · omega
theorem stn_ne {p w : Nat} (hp : 2 ^ w ≤ p) (hq : p < 2 ^ (w + 1)) (n : Nat) {c : Nat} (hc : c < 2 ^ (w + 1)) (h : stn p n c = 0) : c = 0 := by
  induction n generalizing c with
  | zero => exact h
  | succ n ih => rw [stn] at h; exact stp_ne hp hc (ih (stp_lt hq hc) h)
/- Half a byte by a table. -/
theorem half_step (p c : Nat) : (c / 16) ^^^ stn p 4 (c % 16) = stn p 4 c := (stn_split p 4 c).symm
/- A CRC of bytes, from a word on. -/
def crcF (p : Nat) : Nat → List Nat → Nat
  | c, [] => c
  | c, x :: l => crcF p (stn p 8 (c ^^^ x)) l
theorem crcF_snoc (p c : Nat) (l : List Nat) (x : Nat) : crcF p c (l ++ [x]) = stn p 8 (crcF p c l ^^^ x) := by
  induction l generalizing c with
  | nil => rfl
  | cons y l ih => rw [List.cons_append, crcF, ih, crcF]
theorem crcF_append (p c : Nat) (l m : List Nat) : crcF p c (l ++ m) = crcF p (crcF p c l) m := by
  induction l generalizing c with
  | nil => rfl
  | cons y l ih => rw [List.cons_append, crcF, ih, crcF]
theorem crcF_lt {p w : Nat} (hp : p < 2 ^ w) (hw : 8 ≤ w) (l : List Nat) (hl : ∀ x ∈ l, x < 256) {c : Nat} (hc : c < 2 ^ w) : crcF p c l < 2 ^ w := by
  induction l generalizing c with
  | nil => exact hc
  | cons x l ih =>
    rw [crcF]
    refine ih (fun y hy => hl y (List.mem_cons_of_mem _ hy)) (stn_lt hp 8 (Nat.xor_lt_two_pow hc ?_))
    have h1 := hl x (List.mem_cons_self ..)
    have h2 : 2 ^ 8 ≤ 2 ^ w := Nat.pow_le_pow_right (by decide) hw
    omega
/- One bit of the document's own way. -/
theorem bit_step (p x k : Nat) (c : Nat) : stp p (c ^^^ (x / 2 ^ k)) = ((c / 2) ^^^ ((c ^^^ (x / 2 ^ k)) % 2 * p)) ^^^ (x / 2 ^ (k + 1)) := by
  rw [stp, Nat.xor_div_two, Nat.div_div_eq_div_mul, ← Nat.pow_succ]
  simp only [Nat.xor_assoc, Nat.xor_comm (x / 2 ^ (k + 1))]
/- The lowest byte first: one number. -/
def numL : List Nat → Nat
  | [] => 0
  | x :: l => x + 256 * numL l
theorem add_xor {x y : Nat} (hx : x < 256) : x + 256 * y = (256 * y) ^^^ x := by
  have h := xor_split 8 (x + 256 * y)
  rw [show (2 : Nat) ^ 8 = 256 by decide, show (x + 256 * y) / 256 = y by omega, show (x + 256 * y) % 256 = x by omega] at h
  exact h
theorem crcF_num (p c : Nat) (l : List Nat) (hl : ∀ x ∈ l, x < 256) : crcF p c l = stn p (8 * l.length) (c ^^^ numL l) := by
  induction l generalizing c with
  | nil => simp [crcF, numL, stn]
  | cons x l ih =>
    have hx := hl x (List.mem_cons_self ..)
    rw [crcF, ih _ (fun y hy => hl y (List.mem_cons_of_mem _ hy)), numL, List.length_cons, show 8 * (l.length + 1) = 8 + 8 * l.length by omega, stn_add, add_xor hx]
    congr 1
    rw [show c ^^^ (256 * numL l ^^^ x) = (c ^^^ x) ^^^ (2 ^ 8 * numL l) by simp only [Nat.xor_assoc, Nat.xor_comm x], stn_xor p 8 (c ^^^ x), stn_pow]
theorem numL_lt (l : List Nat) (hl : ∀ x ∈ l, x < 256) : numL l < 2 ^ (8 * l.length) := by
  induction l with
  | nil => simp [numL]
  | cons x l ih =>
    have hx := hl x (List.mem_cons_self ..)
    have h := ih (fun y hy => hl y (List.mem_cons_of_mem _ hy))
    rw [numL, List.length_cons, show 8 * (l.length + 1) = 8 * l.length + 8 by omega, Nat.pow_add]
    have : (2 : Nat) ^ 8 = 256 := by decide
    omega
theorem xor_byte {x y : Nat} (hx : x < 256) (hy : y < 256) : x ^^^ y < 256 := Nat.xor_lt_two_pow (n := 8) hx hy
theorem numL_zip (l m : List Nat) (h : l.length = m.length) (hl : ∀ x ∈ l, x < 256) (hm : ∀ x ∈ m, x < 256) : numL (l.zipWith (· ^^^ ·) m) = numL l ^^^ numL m := by
  induction l generalizing m with
  | nil => cases m with
    | nil => rfl
    | cons y m => simp at h
  | cons x l ih => cases m with
    | nil => simp at h
    | cons y m =>
      have hx := hl x (List.mem_cons_self ..)
      have hy := hm y (List.mem_cons_self ..)
      rw [List.zipWith_cons_cons, numL, numL, numL, ih m (by simpa using h) (fun z hz => hl z (List.mem_cons_of_mem _ hz)) (fun z hz => hm z (List.mem_cons_of_mem _ hz)), add_xor (xor_byte hx hy), add_xor hx, add_xor hy]
      have e : 256 * (numL l ^^^ numL m) = 256 * numL l ^^^ 256 * numL m := by
        have := Nat.shiftLeft_xor_distrib (a := numL l) (b := numL m) (i := 8)
        simp only [Nat.shiftLeft_eq] at this
        rw [show (2 : Nat) ^ 8 = 256 by decide] at this
        rw [Nat.mul_comm 256, Nat.mul_comm 256, Nat.mul_comm 256, this]
      rw [e]
      simp only [Nat.xor_assoc, xor_lc]
theorem numL_set (l : List Nat) (j r : Nat) (hj : j < l.length) (hr : r < 8) (hl : ∀ x ∈ l, x < 256) : numL (l.set j (l[j] ^^^ 2 ^ r)) = numL l ^^^ 2 ^ (8 * j + r) := by
  have h2r : (2 : Nat) ^ r < 256 := Nat.pow_lt_pow_right (n := 8) (by decide) hr
  induction l generalizing j with
  | nil => simp at hj
  | cons x l ih =>
    have hx := hl x (List.mem_cons_self ..)
    have h1 : ∀ z ∈ l, z < 256 := fun z hz => hl z (List.mem_cons_of_mem _ hz)
    cases j with
    | zero =>
      simp only [List.set_cons_zero, List.getElem_cons_zero, numL]
      rw [add_xor (xor_byte hx h2r), add_xor hx, Nat.xor_assoc]; simp
    | succ j =>
      have hj' : j < l.length := by simpa using hj
      simp only [List.set_cons_succ, List.getElem_cons_succ, numL]
      rw [ih j hj' h1, add_xor hx, add_xor hx]
      have e : 256 * (numL l ^^^ 2 ^ (8 * j + r)) = 256 * numL l ^^^ 2 ^ (8 * (j + 1) + r) := by
        have := Nat.shiftLeft_xor_distrib (a := numL l) (b := 2 ^ (8 * j + r)) (i := 8)
        simp only [Nat.shiftLeft_eq] at this
        rw [show (2 : Nat) ^ (8 * (j + 1) + r) = 2 ^ (8 * j + r) * 2 ^ 8 by rw [← Nat.pow_add]; congr 1; omega]
        rw [Nat.mul_comm 256, Nat.mul_comm 256, ← this]
      rw [e]
      simp only [Nat.xor_assoc, Nat.xor_comm x]
theorem crc_spoil {p w n : Nat} (hp : 2 ^ w ≤ p) (hq : p < 2 ^ (w + 1)) (c u f : Nat) (l m : List Nat) (hl : ∀ x ∈ l, x < 256) (hm : ∀ x ∈ m, x < 256) (hn : l.length = n) (hn' : m.length = n) (hu : u < 2 ^ (w + 1)) (hf : f ≤ 8 * n)
    (h : numL m = numL l ^^^ (2 ^ f * u)) (e : crcF p c m = crcF p c l) : u = 0 := by
  rw [crcF_num _ _ _ hl, crcF_num _ _ _ hm, hn, hn', h, ← Nat.xor_assoc, stn_xor] at e
  have e2 : stn p (8 * n) (2 ^ f * u) = 0 := by
    have := congrArg (fun z => stn p (8 * n) (c ^^^ numL l) ^^^ z) e
    simp only [← Nat.xor_assoc, Nat.xor_self, Nat.zero_xor] at this
    exact this
  rw [show 8 * n = f + (8 * n - f) by omega, stn_add, stn_pow] at e2
  exact stn_ne hp hq _ hu e2
/- The CRC of a list and of its sum behind it. -/
theorem crc_ends (p c : Nat) (l : List Nat) (h : crcF p c l < 65536) : crcF p c (l ++ [crcF p c l % 256, crcF p c l / 256 % 256]) = 0 := by
  rw [crcF_append]
  generalize crcF p c l = y at *
  simp only [crcF]
  have e1 : y ^^^ (y % 256) = 2 ^ 8 * (y / 256) := by
    have := xor_split 8 y
    rw [show (2 : Nat) ^ 8 = 256 by decide] at this
    conv => lhs; lhs; rw [this]
    rw [Nat.xor_assoc, Nat.xor_self, Nat.xor_zero]
  rw [e1, stn_pow, show y / 256 % 256 = y / 256 by omega, Nat.xor_self, stn_zero]
theorem xor3 (a b c : Nat) : a ^^^ b ^^^ c = a ^^^ (b ^^^ c) := Nat.xor_assoc a b c
/- Three lists. -/
theorem crc_joins (p c : Nat) (k l m : List Nat) (n : Nat) (h1 : k.length = n) (h2 : l.length = n) (h3 : m.length = n) (hk : ∀ x ∈ k, x < 256) (hl : ∀ x ∈ l, x < 256) (hm : ∀ x ∈ m, x < 256) (j : List Nat) (hj : ∀ x ∈ j, x < 256) (h4 : j.length = n) (hn : numL j = numL k ^^^ numL l ^^^ numL m) :
    crcF p c j = crcF p c k ^^^ crcF p c l ^^^ crcF p c m := by
  rw [crcF_num _ _ _ hk, crcF_num _ _ _ hl, crcF_num _ _ _ hm, crcF_num _ _ _ hj, h1, h2, h3, h4, ← stn_xor, ← stn_xor, hn]
  congr 1
  have : ∀ a b d e : Nat, a ^^^ (b ^^^ d ^^^ e) = (a ^^^ b) ^^^ (a ^^^ d) ^^^ (a ^^^ e) := fun a b d e => by
    apply Nat.eq_of_testBit_eq; intro i
    simp only [Nat.testBit_xor]
    cases a.testBit i <;> cases b.testBit i <;> cases d.testBit i <;> cases e.testBit i <;> rfl
  exact this _ _ _ _

/- Words. -/
def wordsOf : List Nat → List Nat
  | [] => []
  | [x] => [256 * x]
  | x :: y :: l => (256 * x + y) :: wordsOf l
def wordAt (l : List Nat) (i : Nat) : Nat := 256 * l.getD i 0 + l.getD (i + 1) 0
theorem wordsOf_length : ∀ l : List Nat, (wordsOf l).length = (l.length + 1) / 2
  | [] => rfl
  | [x] => by simp [wordsOf]
  | x :: y :: l => by rw [wordsOf, List.length_cons, wordsOf_length l]; simp; omega
theorem wordsOf_get : ∀ (l : List Nat) (i : Nat) (h : i < (wordsOf l).length), (wordsOf l)[i] = wordAt l (2 * i)
  | [], i, h => by simp [wordsOf] at h
  | [x], i, h => by
    simp [wordsOf] at h; subst h; rfl
  | x :: y :: l, i, h => by
    cases i with
    | zero => rfl
    | succ i =>
      have h' : i < (wordsOf l).length := by simpa [wordsOf] using h
      have := wordsOf_get l i h'
      simp only [wordsOf, List.getElem_cons_succ, this]
      unfold wordAt
      rw [show 2 * (i + 1) = 2 * i + 1 + 1 by omega]
      rfl
theorem wordsOf_take (l : List Nat) (i : Nat) (h : i < (wordsOf l).length) : (wordsOf l).take (i + 1) = (wordsOf l).take i ++ [wordAt l (2 * i)] := by
  rw [List.take_succ_eq_append_getElem h, wordsOf_get]
theorem wordAt_lt (l : List Nat) (i : Nat) (hl : ∀ x ∈ l, x < 256) : wordAt l i < 65536 := by
  have g : ∀ j, l.getD j 0 < 256 := fun j => by
    rw [List.getD_eq_getElem?_getD]
    cases h : l[j]? with
    | none => simp
    | some x => simpa using hl x (List.mem_of_getElem? h)
  have := g i; have := g (i + 1)
  unfold wordAt; omega
theorem wordsOf_lt (l : List Nat) (hl : ∀ x ∈ l, x < 256) : ∀ x ∈ wordsOf l, x < 65536 := by
  intro x hx
  obtain ⟨i, hi, rfl⟩ := List.getElem_of_mem hx
  rw [wordsOf_get]; exact wordAt_lt l _ hl
/- Adding up, folded. -/
def fol (t : Nat) : Nat := if t = 0 then 0 else (t - 1) % 65535 + 1
theorem fol_le (t : Nat) : fol t ≤ 65535 := by unfold fol; split <;> omega
theorem fol_small {t : Nat} (h : t ≤ 65535) : fol t = t := by unfold fol; split <;> omega
theorem fol_step {t : Nat} (h : 65535 < t) : fol (t % 65536 + t / 65536) = fol t := by unfold fol; split <;> split <;> omega
theorem fol_add (a b : Nat) : fol (fol a + b) = fol (a + b) := by unfold fol; split <;> split <;> split <;> omega
theorem fol_ends (t : Nat) : fol (t + (65535 - fol t)) = 65535 := by unfold fol; split <;> split <;> omega
theorem fold_less {t : Nat} (h : 65535 < t) : t % 65536 + t / 65536 < t := by omega
def addW (l : List Nat) : Nat := l.foldl (· + ·) 0
def xorW (l : List Nat) : Nat := l.foldl (· ^^^ ·) 0
theorem addW_snoc (l : List Nat) (x : Nat) : addW (l ++ [x]) = addW l + x := by simp [addW]
theorem xorW_snoc (l : List Nat) (x : Nat) : xorW (l ++ [x]) = xorW l ^^^ x := by simp [xorW]
theorem foldl_add (l : List Nat) (a : Nat) : l.foldl (· + ·) a = a + addW l := by
  induction l generalizing a with
  | nil => simp [addW]
  | cons x l ih => rw [List.foldl_cons, ih (a + x)]; have e : addW (x :: l) = List.foldl (· + ·) (0 + x) l := rfl
                   rw [e, ih (0 + x)]; omega
theorem foldl_xor (l : List Nat) (a : Nat) : l.foldl (· ^^^ ·) a = a ^^^ xorW l := by
  induction l generalizing a with
  | nil => simp [xorW]
  | cons x l ih => rw [List.foldl_cons, ih (a ^^^ x)]; have e : xorW (x :: l) = List.foldl (· ^^^ ·) (0 ^^^ x) l := rfl
                   rw [e, ih (0 ^^^ x)]; simp [Nat.xor_assoc]
theorem addW_cons (x : Nat) (l : List Nat) : addW (x :: l) = x + addW l := by unfold addW; rw [List.foldl_cons, foldl_add]; simp [addW]
theorem xorW_cons (x : Nat) (l : List Nat) : xorW (x :: l) = x ^^^ xorW l := by unfold xorW; rw [List.foldl_cons, foldl_xor]; simp [xorW]
theorem addW_append (l m : List Nat) : addW (l ++ m) = addW l + addW m := by
  induction l with
  | nil => simp [addW]
  | cons x l ih => rw [List.cons_append, addW_cons, ih, addW_cons]; omega
theorem xorW_append (l m : List Nat) : xorW (l ++ m) = xorW l ^^^ xorW m := by
  induction l with
  | nil => simp [xorW]
  | cons x l ih => rw [List.cons_append, xorW_cons, ih, xorW_cons]; simp [Nat.xor_assoc]
theorem xorW_lt (l : List Nat) (h : ∀ x ∈ l, x < 65536) : xorW l < 65536 := by
  induction l with
  | nil => simp [xorW]
  | cons x l ih =>
    rw [xorW_cons]
    exact Nat.xor_lt_two_pow (n := 16) (h x (List.mem_cons_self ..)) (ih (fun y hy => h y (List.mem_cons_of_mem _ hy)))
theorem addW_le (l : List Nat) (h : ∀ x ∈ l, x < 65536) : addW l ≤ 65535 * l.length := by
  induction l with
  | nil => simp [addW]
  | cons x l ih =>
    rw [addW_cons, List.length_cons]
    have := ih (fun y hy => h y (List.mem_cons_of_mem _ hy))
    have := h x (List.mem_cons_self ..)
    omega
/- The four sums. -/
def sumF (n : Int) (l : List Nat) : Nat :=
  if n = 1 then crcF 0xa001 0 l else if n = 2 then crcF 0xedb88320 0xffffffff l ^^^ 0xffffffff else if n = 3 then 65535 - fol (addW (wordsOf l)) else xorW (wordsOf l)
def widF (n : Int) : Nat := if n = 2 then 32 else 16
theorem sumF_lt (n : Int) (l : List Nat) (hl : ∀ x ∈ l, x < 256) : sumF n l < 2 ^ widF n := by
  unfold sumF widF
  by_cases h1 : n = 1
  · subst h1; simp only [if_true]; exact crcF_lt (w := 16) (by decide) (by decide) l hl (by decide)
  · by_cases h2 : n = 2
    · subst h2; simp only [if_true]
      rw [if_neg h1]
      exact Nat.xor_lt_two_pow (n := 32) (crcF_lt (w := 32) (by decide) (by decide) l hl (by decide)) (by decide)
    · rw [if_neg h1, if_neg h2, if_neg h2]
      split
      · have : (2 : Nat) ^ 16 = 65536 := by decide
        omega
      · exact xorW_lt _ (wordsOf_lt l hl)
end Go.Proofs.YtpgkohimcofjnaaGreatDoor
