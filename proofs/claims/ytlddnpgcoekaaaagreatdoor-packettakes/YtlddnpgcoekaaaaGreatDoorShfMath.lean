/- Moving a number of two words up and down: plain facts. -/
import Derived.Test.YtlddnpgcoekaaaaGreatDoorVals
namespace Go.Proofs.YtlddnpgcoekaaaaGreatDoor

theorem wrap_nat (a k : Nat) : IntKind.u64.wrap ((a : Int) * 2 ^ k) = ((a * 2 ^ k % 2 ^ 64 : Nat) : Int) := by
  rw [IntKind.wrap_u64, show ((2 : Int) ^ k) = ((2 ^ k : Nat) : Int) by simp, ← Int.natCast_mul]; rfl
theorem div_nat (a k : Nat) : (a : Int) / 2 ^ k = ((a / 2 ^ k : Nat) : Int) := by
  rw [show ((2 : Int) ^ k) = ((2 ^ k : Nat) : Int) by simp]; rfl
theorem bit_top {u i : Nat} (h : u < top) (hi : u.testBit i = true) : i < 128 := by
  rcases Nat.lt_or_ge i 128 with h' | h'
  · exact h'
  · have : u < 2 ^ i := Nat.lt_of_lt_of_le (by rw [top_eq] at h; exact h) (Nat.pow_le_pow_right (by decide) h')
    rw [Nat.testBit_lt_two_pow this] at hi; cases hi

theorem m64 (x : Nat) : x % 2 ^ 64 < 18446744073709551616 := Nat.mod_lt _ (by decide)
theorem d64 (x k : Nat) : x % 2 ^ 64 / 2 ^ k < 18446744073709551616 := Nat.lt_of_le_of_lt (Nat.div_le_self _ _) (m64 x)
theorem tb {u a b : Nat} (h : u.testBit a = true) (e : a = b) : u.testBit b = true := by rw [← e]; exact h

theorem up_far_hi (u k : Nat) (hk : 64 ≤ k) : IntKind.u64.wrap (wLo u * 2 ^ min (k - 64) 64) = wHi ((u * 2 ^ k) % top) := by
  rw [wLo_nat, wrap_nat, wHi_nat, top_eq]
  congr 1
  refine Nat.eq_of_testBit_eq fun j => ?_
  rw [Bool.eq_iff_iff]
  simp only [Nat.testBit_mod_two_pow, Nat.testBit_mul_two_pow, Nat.testBit_div_two_pow, Bool.and_eq_true, decide_eq_true_eq]
  constructor
  · rintro ⟨h1, h2, h3, h4⟩
    exact ⟨by omega, by omega, tb h4 (by omega)⟩
  · rintro ⟨h1, h2, h3⟩
    exact ⟨by omega, by omega, by omega, tb h3 (by omega)⟩
theorem up_far_lo (u k : Nat) (hk : 64 ≤ k) : (0 : Int) = wLo ((u * 2 ^ k) % top) := by
  have : (u * 2 ^ k) % top % 2 ^ 64 = 0 := by
    rw [mod_top _ (by decide : 64 ≤ 128)]
    exact Nat.mod_eq_zero_of_dvd (Nat.dvd_trans (Nat.pow_dvd_pow 2 hk) (Nat.dvd_mul_left _ _))
  rw [wLo_nat, this]; rfl
theorem up_near_hi {u k : Nat} (hk : k < 64) : bits .or .u64 (IntKind.u64.wrap (wHi u * 2 ^ k)) (wLo u / 2 ^ (64 - k)) = wHi ((u * 2 ^ k) % top) := by
  rw [wLo_nat, wHi_nat, wrap_nat, div_nat, wHi_nat, top_eq]
  rw [u64_or_nat _ _ (m64 _) (d64 _ _)]
  congr 1
  refine Nat.eq_of_testBit_eq fun j => ?_
  rw [Bool.eq_iff_iff]
  simp only [Nat.testBit_or, Nat.testBit_mod_two_pow, Nat.testBit_mul_two_pow, Nat.testBit_div_two_pow, Bool.and_eq_true, Bool.or_eq_true, decide_eq_true_eq]
  constructor
  · rintro (⟨h1, h2, h3⟩ | ⟨h1, h2⟩)
    · exact ⟨by omega, by omega, tb h3 (by omega)⟩
    · exact ⟨by omega, by omega, tb h2 (by omega)⟩
  · rintro ⟨h1, h2, h3⟩
    by_cases h : k ≤ j
    · exact .inl ⟨by omega, h, tb h3 (by omega)⟩
    · exact .inr ⟨by omega, tb h3 (by omega)⟩
theorem up_near_lo (u k : Nat) : IntKind.u64.wrap (wLo u * 2 ^ k) = wLo ((u * 2 ^ k) % top) := by
  rw [wLo_nat, wrap_nat, wLo_nat, mod_top _ (by decide : 64 ≤ 128)]
  congr 1
  exact Nat.mod_mul_mod u (2 ^ k) (2 ^ 64)
theorem down_far_hi {u k : Nat} (hu : u < top) (hk : 64 ≤ k) : (0 : Int) = wHi (u / 2 ^ k) := by
  have : u / 2 ^ k / 2 ^ 64 = 0 := by
    rw [Nat.div_div_eq_div_mul, ← Nat.pow_add]
    refine Nat.div_eq_of_lt (Nat.lt_of_lt_of_le (by rw [top_eq] at hu; exact hu) (Nat.pow_le_pow_right (by decide) (by omega)))
  rw [wHi_nat, this]; rfl
theorem down_far_lo {u k : Nat} (hu : u < top) (hk : 64 ≤ k) : wHi u / 2 ^ min (k - 64) 64 = wLo (u / 2 ^ k) := by
  rw [wHi_nat, div_nat, wLo_nat]
  congr 1
  refine Nat.eq_of_testBit_eq fun j => ?_
  rw [Bool.eq_iff_iff]
  simp only [Nat.testBit_mod_two_pow, Nat.testBit_div_two_pow, Bool.and_eq_true, decide_eq_true_eq]
  constructor
  · intro h
    have := bit_top hu h
    exact ⟨by omega, tb h (by omega)⟩
  · rintro ⟨_, h⟩
    have := bit_top hu h
    exact tb h (by omega)
theorem down_near_hi (u k : Nat) : wHi u / 2 ^ k = wHi (u / 2 ^ k) := by
  rw [wHi_nat, div_nat, wHi_nat, Nat.div_div_eq_div_mul, Nat.div_div_eq_div_mul, Nat.mul_comm]
theorem down_near_lo {u k : Nat} (hk : k < 64) : bits .or .u64 (wLo u / 2 ^ k) (IntKind.u64.wrap (wHi u * 2 ^ (64 - k))) = wLo (u / 2 ^ k) := by
  rw [wLo_nat, wHi_nat, wrap_nat, div_nat, wLo_nat]
  rw [u64_or_nat _ _ (d64 _ _) (m64 _)]
  congr 1
  refine Nat.eq_of_testBit_eq fun j => ?_
  rw [Bool.eq_iff_iff]
  simp only [Nat.testBit_or, Nat.testBit_mod_two_pow, Nat.testBit_mul_two_pow, Nat.testBit_div_two_pow, Bool.and_eq_true, Bool.or_eq_true, decide_eq_true_eq]
  constructor
  · rintro (⟨h1, h2⟩ | ⟨h1, h2, h3⟩)
    · exact ⟨by omega, h2⟩
    · exact ⟨h1, tb h3 (by omega)⟩
  · rintro ⟨h1, h2⟩
    by_cases h : 64 - k ≤ j
    · exact .inr ⟨h1, h, tb h2 (by omega)⟩
    · exact .inl ⟨by omega, h2⟩
end Go.Proofs.YtlddnpgcoekaaaaGreatDoor
