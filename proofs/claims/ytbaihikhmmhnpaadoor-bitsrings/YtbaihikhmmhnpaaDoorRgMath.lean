/- The laws of whole numbers, but for what is above the width: as the operations' values give them. -/
import Derived.Test.YtbaihikhmmhnpaaDoorVals
namespace Go.Proofs.YtbaihikhmmhnpaaDoor

theorem xor_and_add : ∀ (k u v : Nat), u < 2 ^ k → v < 2 ^ k → (u ^^^ v) + 2 * (u &&& v) = u + v := by
  intro k
  induction k with
  | zero =>
    intro u v hu hv
    obtain rfl : u = 0 := by omega
    obtain rfl : v = 0 := by omega
    rfl
  | succ k ih =>
    intro u v hu hv
    rw [Nat.pow_succ] at hu hv
    have h := ih (u / 2) (v / 2) (by omega) (by omega)
    have x1 : (u ^^^ v) / 2 = u / 2 ^^^ v / 2 := by simpa using Nat.xor_div_two_pow (a := u) (b := v) (n := 1)
    have y1 : (u &&& v) / 2 = u / 2 &&& v / 2 := by simpa using Nat.and_div_two_pow (a := u) (b := v) (n := 1)
    have x0 : (u ^^^ v) % 2 = (u % 2) ^^^ (v % 2) := by simpa using Nat.xor_mod_two_pow (a := u) (b := v) (n := 1)
    have y0 : (u &&& v) % 2 = (u % 2) &&& (v % 2) := by simpa using Nat.and_mod_two_pow (a := u) (b := v) (n := 1)
    have e : ((u % 2) ^^^ (v % 2)) + 2 * ((u % 2) &&& (v % 2)) = u % 2 + v % 2 := by
      have hu2 : u % 2 = 0 ∨ u % 2 = 1 := by omega
      have hv2 : v % 2 = 0 ∨ v % 2 = 1 := by omega
      rcases hu2 with a | a <;> rcases hv2 with b | b <;> rw [a, b] <;> decide
    omega
theorem top_mul {N : Nat} (h : N ≤ 128) : ∃ K, 1 ≤ K ∧ top = 2 ^ N * K := by
  refine ⟨2 ^ (128 - N), Nat.pow_pos (by decide), ?_⟩
  rw [top_eq, ← Nat.pow_add]; congr 1; omega
theorem rg_sub0 {N u : Nat} (h : N ≤ 128) : (u + top - u) % 2 ^ N = 0 := by
  obtain ⟨K, _, e⟩ := top_mul h
  rw [Nat.add_sub_cancel_left, e]
  exact Nat.mul_mod_right _ _
theorem rg_sub {N u v : Nat} (h : N ≤ 128) (hu : u < 2 ^ N) (hv : v < 2 ^ N) : ((u + v) % 2 ^ N + top - v) % 2 ^ N = u := by
  obtain ⟨K, hK, e⟩ := top_mul h
  rw [e]
  generalize 2 ^ N = M at *
  obtain ⟨J, rfl⟩ : ∃ J, K = J + 1 := ⟨K - 1, by omega⟩
  rw [Nat.mul_add]
  generalize hMJ : M * J = Q
  by_cases hs : u + v < M
  · rw [Nat.mod_eq_of_lt hs, show u + v + (Q + M * 1) - v = u + M * (J + 1) by rw [Nat.mul_add]; omega, Nat.add_mul_mod_self_left]
    exact Nat.mod_eq_of_lt hu
  · have hs2 : (u + v) % M = u + v - M := by
      rw [Nat.mod_eq_sub_mod (by omega)]
      exact Nat.mod_eq_of_lt (by omega)
    rw [hs2, show u + v - M + (Q + M * 1) - v = u + M * J by omega, Nat.add_mul_mod_self_left]
    exact Nat.mod_eq_of_lt hu
theorem rg_neg {N u : Nat} (h : N ≤ 128) (hu : u < 2 ^ N) : (0 + top - u) % 2 ^ N = (2 ^ N - 1 - u + 1) % 2 ^ N := by
  obtain ⟨K, hK, e⟩ := top_mul h
  rw [e]
  generalize 2 ^ N = M at *
  obtain ⟨J, rfl⟩ : ∃ J, K = J + 1 := ⟨K - 1, by omega⟩
  rw [show 0 + M * (J + 1) - u = (M - 1 - u + 1) + M * J by rw [Nat.mul_add]; generalize M * J = Q; omega, Nat.add_mul_mod_self_left]
theorem rg_add3 (M u v z : Nat) : (u + (v + z) % M) % M = ((u + v) % M + z) % M := by
  rw [Nat.add_mod_mod, Nat.mod_add_mod, Nat.add_assoc]
theorem rg_mul3 (M u v z : Nat) : u * (v * z % M) % M = u * v % M * z % M := by
  rw [Nat.mul_mod_mod, Nat.mod_mul_mod, Nat.mul_assoc]
theorem rg_dist (M u v z : Nat) : (u * z % M + v * z % M) % M = (u + v) % M * z % M := by
  rw [Nat.add_mod_mod, Nat.mod_add_mod, Nat.mod_mul_mod, Nat.add_mul]
theorem rg_carry {N u v : Nat} (hu : u < 2 ^ N) (hv : v < 2 ^ N) : ((u ^^^ v) + (u &&& v) * 2 ^ 1 % 2 ^ N) % 2 ^ N = (u + v) % 2 ^ N := by
  rw [Nat.add_mod_mod, Nat.pow_one, Nat.mul_comm, xor_and_add N u v hu hv]
end Go.Proofs.YtbaihikhmmhnpaaDoor
