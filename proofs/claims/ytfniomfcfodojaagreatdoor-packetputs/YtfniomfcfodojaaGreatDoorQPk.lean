/- Bits that are put: one list alone holds them. -/
import Derived.Test.YtfniomfcfodojaaGreatDoorQPut
import Derived.Test.YtfniomfcfodojaaGreatDoorNV
namespace Go.Proofs.YtfniomfcfodojaaGreatDoor

theorem byte_eq {x y : Nat} (hx : x < 256) (hy : y < 256) (h : ∀ k, k < 8 → x.testBit k = y.testBit k) : x = y := by
  refine Nat.eq_of_testBit_eq fun k => ?_
  by_cases hk : k < 8
  · exact h k hk
  · have h8 : (256 : Nat) ≤ 2 ^ k := Nat.le_trans (by decide : 256 ≤ 2 ^ 8) (Nat.pow_le_pow_right (by decide) (by omega))
    rw [Nat.testBit_lt_two_pow (by omega), Nat.testBit_lt_two_pow (by omega)]
theorem bool_toNat {a b : Bool} (h : a.toNat = b.toNat) : a = b := by cases a <;> cases b <;> simp_all
theorem Packed.eq {ys zs : List Nat} {pre : List Bit01} {N : Nat} (h : Packed ys pre N) (k : Packed zs pre N) : ys = zs := by
  refine List.ext_getElem (by rw [h.len, k.len]) fun j hj hj' => ?_
  have hjN : j < N := by rw [← h.len]; exact hj
  refine byte_eq (h.small _ (List.getElem_mem hj)) (k.small _ (List.getElem_mem hj')) fun b hb => ?_
  have e := (h.bits (8 * j + (7 - b)) (by omega)).trans (k.bits (8 * j + (7 - b)) (by omega)).symm
  rw [bitOf_test, bitOf_test] at e
  have e1 : (8 * j + (7 - b)) / 8 = j := by omega
  have e2 : 7 - (8 * j + (7 - b)) % 8 = b := by omega
  rw [e1, e2, List.getD_eq_getElem?_getD, List.getD_eq_getElem?_getD, List.getElem?_eq_getElem hj, List.getElem?_eq_getElem hj'] at e
  exact bool_toNat e
theorem Packed.none {ys : List Nat} {pre : List Bit01} {N : Nat} (h : Packed ys pre N) (x : Bit01) (hx : x.1 = 0) (ht : pre.length < 8 * N) : Packed ys (pre ++ [x]) N := by
  have := h.step x ht
  have hq : pre.length / 8 < ys.length := by rw [h.len]; omega
  have e : orBit (ys.getD (pre.length / 8) 0) x.1 (7 - pre.length % 8) = ys[pre.length / 8] := by
    rw [orBit, hx, List.getD_eq_getElem?_getD, List.getElem?_eq_getElem hq]; simp
  rw [e, List.set_getElem_self] at this
  exact this
theorem Packed.one {ys : List Nat} {pre : List Bit01} {N t Q : Nat} (h : Packed ys pre N) (x : Bit01) (hx : x.1 = 1) (et : pre.length = t) (ht : t < 8 * N) (hQ : t / 8 = Q) (hq : Q < ys.length) : Packed (ys.set Q (orBit ys[Q] 1 (7 - t % 8))) (pre ++ [x]) N := by
  subst et hQ
  have := h.step x ht
  rw [hx, List.getD_eq_getElem?_getD, List.getElem?_eq_getElem hq] at this
  exact this
theorem nbit_one {n v j : Nat} (h : v.testBit (n - 1 - j) = true) : (nbit n v j).1 = 1 := by
  have := Nat.toNat_testBit v (n - 1 - j)
  rw [h] at this
  show ((v / 2 ^ (n - 1 - j) % 2 : Nat) : Int) = 1
  rw [← this]; rfl
theorem nbit_zero {n v j : Nat} (h : v.testBit (n - 1 - j) = false) : (nbit n v j).1 = 0 := by
  have := Nat.toNat_testBit v (n - 1 - j)
  rw [h] at this
  show ((v / 2 ^ (n - 1 - j) % 2 : Nat) : Int) = 0
  rw [← this]; rfl
theorem lst_get {n : Int} {u k : Nat} (h1 : n ≤ 128) (hk : k < n.toNat) : (lst n u)[k]'(by rw [lst_length]; exact hk) = u.testBit k := by
  simp only [lst, bitsTo, List.getElem_map, List.getElem_range]
  exact bitB_val u k (by omega)
end Go.Proofs.YtfniomfcfodojaaGreatDoor
