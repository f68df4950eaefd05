/- Numbers by their value: plain facts. -/
import Derived.Test.YtlddnpgcoekaaaaGreatDoorMath
import Derived.Lib.Mul64
namespace Go.Proofs.YtlddnpgcoekaaaaGreatDoor

def wHi (v : Nat) : Int := ((v / 18446744073709551616 : Nat) : Int)
def wLo (v : Nat) : Int := ((v % 18446744073709551616 : Nat) : Int)
def top : Nat := 340282366920938463463374607431768211456
theorem top_eq : top = 2 ^ 128 := by decide
theorem wHi_bd {v : Nat} (h : v < top) : 0 ≤ wHi v ∧ wHi v < 18446744073709551616 := by
  unfold wHi top at *; omega
theorem wLo_bd (v : Nat) : 0 ≤ wLo v ∧ wLo v < 18446744073709551616 := by
  unfold wLo; omega
theorem w_join (v : Nat) : wHi v * 18446744073709551616 + wLo v = v := by
  unfold wHi wLo; omega
theorem words_of {hi lo : Int} (a0 : 0 ≤ hi) (a1 : hi < 18446744073709551616) (b0 : 0 ≤ lo) (b1 : lo < 18446744073709551616) : ∃ v, v < top ∧ hi = wHi v ∧ lo = wLo v := by
  refine ⟨(hi * 18446744073709551616 + lo).toNat, ?_, ?_, ?_⟩
  · unfold top; omega
  · unfold wHi; omega
  · unfold wLo; omega
theorem w_inj {u v : Nat} (h : wHi u = wHi v) (k : wLo u = wLo v) : u = v := by
  have h1 := w_join u; have h2 := w_join v; rw [h, k] at h1; omega
theorem w_eq (u v : Nat) : (wHi u == wHi v && wLo u == wLo v) = decide (u = v) := by
  by_cases h : u = v
  · subst h; simp
  · simp only [h, decide_false]
    cases e1 : (wHi u == wHi v)
    · rfl
    · cases e2 : (wLo u == wLo v)
      · rfl
      · exact absurd (w_inj (by simpa using e1) (by simpa using e2)) h
theorem w_lt (u v : Nat) : u < v ↔ wHi u < wHi v ∨ wHi u = wHi v ∧ wLo u < wLo v := by
  have h1 := w_join u; have h2 := w_join v; have h3 := wLo_bd u; have h4 := wLo_bd v
  constructor
  · intro h
    by_cases e : wHi u < wHi v
    · exact .inl e
    · refine .inr ⟨?_, ?_⟩ <;> omega
  · intro h; omega
theorem w_zero : wHi 0 = 0 ∧ wLo 0 = 0 := ⟨rfl, rfl⟩
theorem w_of_lo {v : Nat} (h : v < 18446744073709551616) : wHi v = 0 ∧ wLo v = v := by
  unfold wHi wLo; omega

theorem pow_split {n : Nat} (h : 64 ≤ n) : (2 : Nat) ^ n = 18446744073709551616 * 2 ^ (n - 64) := by
  have : (2 : Nat) ^ n = 2 ^ 64 * 2 ^ (n - 64) := by rw [← Nat.pow_add]; congr 1; omega
  rw [this]
theorem pow_le_top {n : Nat} (h : n ≤ 128) : (2 : Nat) ^ n ≤ top := by rw [top_eq]; exact Nat.pow_le_pow_right (by decide) h
theorem mod_lt_top {v n : Nat} (h : n ≤ 128) : v % 2 ^ n < top := Nat.lt_of_lt_of_le (Nat.mod_lt _ (Nat.pow_pos (by decide))) (pow_le_top h)

theorem cut_lo (n : Int) (v : Nat) (h0 : 1 ≤ n) : cLo n (wLo v) = wLo (v % 2 ^ n.toNat) := by
  obtain ⟨n, rfl⟩ := Int.eq_ofNat_of_zero_le (by omega : 0 ≤ n)
  rw [Int.toNat_natCast]
  unfold cLo wLo
  by_cases h : (n : Int) ≤ 64
  · rw [if_pos h, Int.toNat_natCast]
    have hd : (2 : Nat) ^ n ∣ 18446744073709551616 := by
      have : (18446744073709551616 : Nat) = 2 ^ 64 := by decide
      rw [this]; exact Nat.pow_dvd_pow 2 (by omega)
    have hlt : v % 2 ^ n < 18446744073709551616 := by
      have h1 := Nat.mod_lt v (Nat.pow_pos (n := n) (by decide : 0 < 2))
      have h2 := Nat.le_of_dvd (by decide) hd
      omega
    rw [Nat.mod_eq_of_lt hlt]
    have e : ((2 : Int) ^ n) = ((2 ^ n : Nat) : Int) := by simp
    rw [e, ← Int.natCast_emod, Nat.mod_mod_of_dvd _ hd]
  · rw [if_neg h]
    have hd : (18446744073709551616 : Nat) ∣ 2 ^ n := ⟨_, pow_split (by omega)⟩
    rw [Nat.mod_mod_of_dvd _ hd]
theorem cut_hi (n : Int) (v : Nat) (h0 : 1 ≤ n) : cHi n (wHi v) = wHi (v % 2 ^ n.toNat) := by
  obtain ⟨n, rfl⟩ := Int.eq_ofNat_of_zero_le (by omega : 0 ≤ n)
  rw [Int.toNat_natCast]
  unfold cHi wHi
  by_cases h : (n : Int) ≤ 64
  · rw [if_pos h]
    have h1 := Nat.mod_lt v (Nat.pow_pos (n := n) (by decide : 0 < 2))
    have h2 : (2 : Nat) ^ n ≤ 2 ^ 64 := Nat.pow_le_pow_right (by decide) (by omega)
    rw [Nat.div_eq_of_lt (by omega)]; rfl
  · rw [if_neg h, show ((n : Int) - 64).toNat = n - 64 by omega]
    have e : ((2 : Int) ^ (n - 64)) = ((2 ^ (n - 64) : Nat) : Int) := by simp
    rw [e, ← Int.natCast_emod, pow_split (n := n) (by omega), Nat.mod_mul_right_div_self]
theorem ok_iff (n : Int) (v : Nat) (h0 : 1 ≤ n) : (cHi n (wHi v) == wHi v && cLo n (wLo v) == wLo v) = decide (v < 2 ^ n.toNat) := by
  rw [cut_hi n v h0, cut_lo n v h0, w_eq]
  by_cases h : v < 2 ^ n.toNat
  · simp [h, Nat.mod_eq_of_lt h]
  · have := Nat.mod_lt v (Nat.pow_pos (n := n.toNat) (by decide : 0 < 2))
    simp only [h, decide_false, decide_eq_false_iff_not]
    omega

theorem mod_top (v : Nat) {n : Nat} (h : n ≤ 128) : v % top % 2 ^ n = v % 2 ^ n := by
  rw [top_eq]; exact Nat.mod_mod_of_dvd _ (Nat.pow_dvd_pow 2 h)
theorem mod_top_lt (v : Nat) : v % top < top := Nat.mod_lt _ (by decide)
theorem wHi_nat (v : Nat) : wHi v = ((v / 2 ^ 64 : Nat) : Int) := rfl
theorem wLo_nat (v : Nat) : wLo v = ((v % 2 ^ 64 : Nat) : Int) := rfl
theorem part_lt {v : Nat} (h : v < top) : v / 2 ^ 64 < 18446744073709551616 ∧ v % 2 ^ 64 < 18446744073709551616 := by unfold top at h; omega

/- and, or, xor -/
theorem and_hi {u v : Nat} (hu : u < top) (hv : v < top) : bits .and .u64 (wHi u) (wHi v) = wHi (u &&& v) := by
  rw [wHi_nat, wHi_nat, wHi_nat, u64_and_nat _ _ (part_lt hu).1 (part_lt hv).1]
  congr 1
  refine Nat.eq_of_testBit_eq fun j => ?_
  simp only [Nat.testBit_and, Nat.testBit_div_two_pow]
theorem and_lo {u v : Nat} (hu : u < top) (hv : v < top) : bits .and .u64 (wLo u) (wLo v) = wLo (u &&& v) := by
  rw [wLo_nat, wLo_nat, wLo_nat, u64_and_nat _ _ (part_lt hu).2 (part_lt hv).2]
  congr 1
  refine Nat.eq_of_testBit_eq fun j => ?_
  simp only [Nat.testBit_and, Nat.testBit_mod_two_pow]
  by_cases h : j < 64 <;> simp [h]
theorem or_hi {u v : Nat} (hu : u < top) (hv : v < top) : bits .or .u64 (wHi u) (wHi v) = wHi (u ||| v) := by
  rw [wHi_nat, wHi_nat, wHi_nat, u64_or_nat _ _ (part_lt hu).1 (part_lt hv).1]
  congr 1
  refine Nat.eq_of_testBit_eq fun j => ?_
  simp only [Nat.testBit_or, Nat.testBit_div_two_pow]
theorem or_lo {u v : Nat} (hu : u < top) (hv : v < top) : bits .or .u64 (wLo u) (wLo v) = wLo (u ||| v) := by
  rw [wLo_nat, wLo_nat, wLo_nat, u64_or_nat _ _ (part_lt hu).2 (part_lt hv).2]
  congr 1
  refine Nat.eq_of_testBit_eq fun j => ?_
  simp only [Nat.testBit_or, Nat.testBit_mod_two_pow]
  by_cases h : j < 64 <;> simp [h]
theorem xor_hi {u v : Nat} (hu : u < top) (hv : v < top) : bits .xor .u64 (wHi u) (wHi v) = wHi (u ^^^ v) := by
  rw [wHi_nat, wHi_nat, wHi_nat, u64_xor_nat _ _ (part_lt hu).1 (part_lt hv).1]
  congr 1
  refine Nat.eq_of_testBit_eq fun j => ?_
  simp only [Nat.testBit_xor, Nat.testBit_div_two_pow]
theorem xor_lo {u v : Nat} (hu : u < top) (hv : v < top) : bits .xor .u64 (wLo u) (wLo v) = wLo (u ^^^ v) := by
  rw [wLo_nat, wLo_nat, wLo_nat, u64_xor_nat _ _ (part_lt hu).2 (part_lt hv).2]
  congr 1
  refine Nat.eq_of_testBit_eq fun j => ?_
  simp only [Nat.testBit_xor, Nat.testBit_mod_two_pow]
  by_cases h : j < 64 <;> simp [h]

/- add, sub, mul -/
theorem add_hi (u v : Nat) : IntKind.u64.wrap (IntKind.u64.wrap (wHi u + wHi v) + (wLo u + wLo v) / 18446744073709551616) = wHi ((u + v) % top) := by
  rw [IntKind.wrap_u64, IntKind.wrap_u64]; unfold wHi wLo top; omega
theorem add_lo (u v : Nat) : (wLo u + wLo v) % 18446744073709551616 = wLo ((u + v) % top) := by
  unfold wLo top; omega
def bor (x y : Int) : Int := if x < y then 1 else 0
theorem sub_hi {u v : Nat} (hv : v < top) : IntKind.u64.wrap (IntKind.u64.wrap (wHi u - wHi v) - bor (wLo u) (wLo v)) = wHi ((u + top - v) % top) := by
  rw [IntKind.wrap_u64, IntKind.wrap_u64]; unfold bor wHi wLo top at *; split <;> omega
theorem sub_lo {u v : Nat} (hv : v < top) : (wLo u - wLo v) % 18446744073709551616 = wLo ((u + top - v) % top) := by
  unfold wLo top at *; omega
theorem mul_split (u v : Nat) : (u * v) % top = ((u % 2 ^ 64) * (v % 2 ^ 64) + ((u / 2 ^ 64) * (v % 2 ^ 64) + (u % 2 ^ 64) * (v / 2 ^ 64)) * 2 ^ 64) % top := by
  have e : u * v = (u % 2 ^ 64) * (v % 2 ^ 64) + ((u / 2 ^ 64) * (v % 2 ^ 64) + (u % 2 ^ 64) * (v / 2 ^ 64)) * 2 ^ 64 + top * ((u / 2 ^ 64) * (v / 2 ^ 64)) := by
    have h := Lib.split_mul (u / 2 ^ 64) (u % 2 ^ 64) (v / 2 ^ 64) (v % 2 ^ 64) (2 ^ 64)
    rw [Nat.div_add_mod' u (2 ^ 64), Nat.div_add_mod' v (2 ^ 64)] at h
    rw [h]
    have t : (2 : Nat) ^ 64 * 2 ^ 64 = top := by decide
    rw [t, Nat.mul_comm (u / 2 ^ 64 * (v / 2 ^ 64)) top]
    omega
  rw [e, Nat.add_mul_mod_self_left]
theorem mul_hi (u v : Nat) : IntKind.u64.wrap (IntKind.u64.wrap (((u % 18446744073709551616) * (v % 18446744073709551616) / 18446744073709551616 : Nat) + IntKind.u64.wrap (wHi u * wLo v)) + IntKind.u64.wrap (wLo u * wHi v)) = wHi ((u * v) % top) := by
  rw [mul_split, IntKind.wrap_u64, IntKind.wrap_u64, IntKind.wrap_u64, IntKind.wrap_u64]
  have e1 : wHi u * wLo v = (((u / 2 ^ 64) * (v % 2 ^ 64) : Nat) : Int) := by rw [wHi_nat, wLo_nat, Int.natCast_mul]
  have e2 : wLo u * wHi v = (((u % 2 ^ 64) * (v / 2 ^ 64) : Nat) : Int) := by rw [wHi_nat, wLo_nat, Int.natCast_mul]
  rw [e1, e2, wHi_nat]
  have e3 : (u % 18446744073709551616) * (v % 18446744073709551616) = (u % 2 ^ 64) * (v % 2 ^ 64) := rfl
  rw [e3]
  generalize (u % 2 ^ 64) * (v % 2 ^ 64) = p
  generalize (u / 2 ^ 64) * (v % 2 ^ 64) = q
  generalize (u % 2 ^ 64) * (v / 2 ^ 64) = r
  unfold top; omega
theorem mul_lo (u v : Nat) : (((u % 18446744073709551616) * (v % 18446744073709551616) % 18446744073709551616 : Nat) : Int) = wLo ((u * v) % top) := by
  rw [mul_split, wLo_nat]
  have e3 : (u % 18446744073709551616) * (v % 18446744073709551616) = (u % 2 ^ 64) * (v % 2 ^ 64) := rfl
  rw [e3]
  generalize (u % 2 ^ 64) * (v % 2 ^ 64) = p
  generalize ((u / 2 ^ 64) * (v % 2 ^ 64) + (u % 2 ^ 64) * (v / 2 ^ 64)) = q
  unfold top; omega
end Go.Proofs.YtlddnpgcoekaaaaGreatDoor
