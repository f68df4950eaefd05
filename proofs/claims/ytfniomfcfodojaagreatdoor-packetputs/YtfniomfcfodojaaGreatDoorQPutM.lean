/- Bits that are put into bytes: plain facts. -/
import Derived.Test.YtfniomfcfodojaaGreatDoorQSmall
namespace Go.Proofs.YtfniomfcfodojaaGreatDoor

def pbit (pre : List Bit01) (i : Nat) : Nat := (pre[i]?.map (fun x => x.1.toNat)).getD 0
theorem pbit_snoc_lt (pre : List Bit01) (x : Bit01) {i : Nat} (h : i < pre.length) : pbit (pre ++ [x]) i = pbit pre i := by
  simp [pbit, List.getElem?_append_left h]
theorem pbit_snoc_eq (pre : List Bit01) (x : Bit01) : pbit (pre ++ [x]) pre.length = x.1.toNat := by
  simp [pbit]
theorem pbit_ge (pre : List Bit01) {i : Nat} (h : pre.length ≤ i) : pbit pre i = 0 := by
  simp [pbit, List.getElem?_eq_none h]
theorem bitOf_test (xs : List Nat) (i : Nat) : bitOf xs i = ((xs.getD (i / 8) 0).testBit (7 - i % 8)).toNat := by
  rw [bitOf, Nat.toNat_testBit]
structure Packed (ys : List Nat) (pre : List Bit01) (N : Nat) : Prop where
  len : ys.length = N
  small : ∀ y ∈ ys, y < 256
  bits : ∀ i, i < 8 * N → bitOf ys i = pbit pre i
theorem Packed.zero (N : Nat) : Packed (List.replicate N 0) [] N := by
  refine ⟨by simp, fun y hy => by rw [List.eq_of_mem_replicate hy]; decide, fun i hi => ?_⟩
  have : (List.replicate N 0).getD (i / 8) 0 = 0 := by
    rw [List.getD_eq_getElem?_getD, List.getElem?_replicate]; split <;> rfl
  rw [bitOf, this]; simp [pbit]
def orBit (y : Nat) (x : Int) (s : Nat) : Nat := y ||| (x.toNat * 2 ^ s)
theorem orBit_lt {y s : Nat} {x : Int} (hy : y < 256) (hx : x = 0 ∨ x = 1) (hs : s < 8) : orBit y x s < 256 := by
  have h2 : x.toNat * 2 ^ s < 2 ^ 8 := by
    have h3 : (2 : Nat) ^ s < 2 ^ 8 := Nat.pow_lt_pow_right (by decide) hs
    rcases hx with rfl | rfl <;> simp <;> omega
  exact Nat.or_lt_two_pow (n := 8) hy h2
theorem orBit_test {y s : Nat} {x : Int} (hx : x = 0 ∨ x = 1) (k : Nat) : (orBit y x s).testBit k = (y.testBit k || (decide (x = 1) && decide (s = k))) := by
  rw [orBit, Nat.testBit_or]
  rcases hx with rfl | rfl
  · simp
  · simp [Nat.testBit_two_pow]
theorem Packed.step {ys : List Nat} {pre : List Bit01} {N : Nat} (h : Packed ys pre N) (x : Bit01) (ht : pre.length < 8 * N) : Packed (ys.set (pre.length / 8) (orBit (ys.getD (pre.length / 8) 0) x.1 (7 - pre.length % 8))) (pre ++ [x]) N := by
  have hq : pre.length / 8 < ys.length := by rw [h.len]; omega
  refine ⟨by rw [List.length_set]; exact h.len, fun y hy => ?_, fun i hi => ?_⟩
  · rcases List.mem_or_eq_of_mem_set hy with hy | rfl
    · exact h.small y hy
    · refine orBit_lt ?_ x.2 (by omega)
      rw [List.getD_eq_getElem?_getD, List.getElem?_eq_getElem hq]
      exact h.small _ (List.getElem_mem hq)
  · by_cases e : i / 8 = pre.length / 8
    · have hg : (ys.set (pre.length / 8) (orBit (ys.getD (pre.length / 8) 0) x.1 (7 - pre.length % 8))).getD (i / 8) 0 = orBit (ys.getD (i / 8) 0) x.1 (7 - pre.length % 8) := by
        rw [e, List.getD_eq_getElem?_getD, List.getElem?_set_self hq]; rfl
      rw [bitOf_test, hg, orBit_test x.2]
      have h1 := h.bits i hi
      rw [bitOf_test] at h1
      by_cases ei : i = pre.length
      · subst ei
        rw [pbit_ge pre (Nat.le_refl _)] at h1
        have h2 : (ys.getD (pre.length / 8) 0).testBit (7 - pre.length % 8) = false := by
          cases hh : (ys.getD (pre.length / 8) 0).testBit (7 - pre.length % 8) with
          | false => rfl
          | true => rw [hh] at h1; cases h1
        rw [h2, pbit_snoc_eq]
        rcases x.2 with hx | hx <;> rw [hx] <;> simp
      · have hne : ¬ (7 - pre.length % 8 = 7 - i % 8) := by omega
        rw [decide_eq_false hne, Bool.and_false, Bool.or_false, h1]
        rcases Nat.lt_or_ge i pre.length with hlt | hge
        · rw [pbit_snoc_lt pre x hlt]
        · rw [pbit_ge pre hge, pbit_ge (pre ++ [x]) (by rw [List.length_append, List.length_singleton]; omega)]
    · have hg : (ys.set (pre.length / 8) (orBit (ys.getD (pre.length / 8) 0) x.1 (7 - pre.length % 8))).getD (i / 8) 0 = ys.getD (i / 8) 0 := by
        rw [List.getD_eq_getElem?_getD, List.getElem?_set_ne (fun e' => e e'.symm), ← List.getD_eq_getElem?_getD]
      rw [bitOf, hg, ← bitOf, h.bits i hi]
      rcases Nat.lt_or_ge i pre.length with hlt | hge
      · rw [pbit_snoc_lt pre x hlt]
      · have : i ≠ pre.length := fun e' => e (by rw [e'])
        rw [pbit_ge pre hge, pbit_ge (pre ++ [x]) (by rw [List.length_append, List.length_singleton]; omega)]
theorem u8_orBit (y s : Nat) (x : Int) (hy : y < 256) (hx : x = 0 ∨ x = 1) (hs : s < 8) : bits .or .u8 (y : Int) (IntKind.u8.wrap (x * 2 ^ s)) = ((orBit y x s : Nat) : Int) := by
  have h3 : (2 : Nat) ^ s < 2 ^ 8 := Nat.pow_lt_pow_right (by decide) hs
  obtain ⟨z, rfl⟩ : ∃ z : Nat, x = (z : Int) := ⟨x.toNat, by omega⟩
  have hz : z * 2 ^ s < 256 := by
    have : z = 0 ∨ z = 1 := by omega
    rcases this with rfl | rfl <;> omega
  have e : IntKind.u8.wrap ((z : Int) * 2 ^ s) = ((z * 2 ^ s : Nat) : Int) := by
    rw [IntKind.wrap_u8]
    have e1 : ((z : Int) * 2 ^ s) = ((z * 2 ^ s : Nat) : Int) := by simp
    rw [e1]; omega
  rw [e, u8_or_nat _ _ hy hz, orBit, Int.toNat_natCast]
end Go.Proofs.YtfniomfcfodojaaGreatDoor
