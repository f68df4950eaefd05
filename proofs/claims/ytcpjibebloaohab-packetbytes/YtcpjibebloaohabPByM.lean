/- Bytes that are taken, and put together again: plain facts. -/
import Derived.Test.YtcpjibebloaohabPBackM
namespace Go.Proofs.Ytcpjibebloaohab

theorem sumTo_app (L : List (Int × Nat)) (x : Int × Nat) (i : Nat) (h : i ≤ L.length) : sumTo (L ++ [x]) i = sumTo L i := by
  induction i with
  | zero => rfl
  | succ i ih => rw [sumTo_succ _ i (by simp; omega), sumTo_succ L i (by omega), ih (by omega), List.getElem_append_left (by omega)]
theorem sumTo_snoc (L : List (Int × Nat)) (x : Int × Nat) : sumTo (L ++ [x]) (L ++ [x]).length = sumTo L L.length + x.1.toNat := by
  rw [List.length_append, List.length_singleton, sumTo_succ _ _ (by simp), sumTo_app L x _ (Nat.le_refl _)]
  simp
theorem stream_app (L : List (Int × Nat)) (x : Int × Nat) (i : Nat) (h : i ≤ L.length) : stream (L ++ [x]) i = stream L i := by
  induction i with
  | zero => rfl
  | succ i ih => rw [stream_succ _ i (by simp; omega), stream_succ L i (by omega), ih (by omega), List.getElem_append_left (by omega)]
theorem stream_snoc (L : List (Int × Nat)) (x : Int × Nat) : stream (L ++ [x]) (L ++ [x]).length = stream L L.length ++ nbits x.1.toNat x.2 x.1.toNat := by
  rw [List.length_append, List.length_singleton, stream_succ _ _ (by simp), stream_app L x _ (Nat.le_refl _)]
  simp
/- L holds the first bits of xs, one number behind the other. -/
structure Held (xs : List Nat) (L : List (Int × Nat)) (t : Nat) : Prop where
  sum : sumTo L L.length = t
  len : L.length ≤ t
  ok : ∀ j (h : j < L.length), okN L[j].1 L[j].2 = true
  top : ∀ j (h : j < L.length), L[j].2 < top
  bits : ∀ i, i < t → pbit (stream L L.length) i = bitOf xs i
theorem Held.nil (xs : List Nat) : Held xs [] 0 := ⟨rfl, Nat.le_refl _, fun j h => by simp at h, fun j h => by simp at h, fun i h => by omega⟩
theorem bval_bit (xs : List Nat) (t n k : Nat) (h : k < n) : bval xs t n / 2 ^ (n - 1 - k) % 2 = bitOf xs (t + k) := by
  have h1 := bval_testBit xs t n (n - 1 - k) (by omega)
  rw [Nat.testBit_eq_decide_div_mod_eq, show n - 1 - (n - 1 - k) = k by omega] at h1
  have h2 := Nat.mod_lt (bval xs t n / 2 ^ (n - 1 - k)) (by decide : 2 > 0)
  have h3 := bitOf_lt xs (t + k)
  have h4 : (bval xs t n / 2 ^ (n - 1 - k) % 2 = 1) ↔ (bitOf xs (t + k) = 1) := decide_eq_decide.1 h1
  omega
theorem Held.step {xs : List Nat} {L : List (Int × Nat)} {t n : Nat} (h : Held xs L t) (n1 : 1 ≤ n) (n2 : n ≤ 128) : Held xs (L ++ [((n : Int), bval xs t n)]) (t + n) := by
  have hb := bval_lt xs t n
  refine ⟨?_, ?_, fun j hj => ?_, fun j hj => ?_, fun i hi => ?_⟩
  · rw [sumTo_snoc, h.sum]; simp
  · have := h.len; simp; omega
  · rcases Nat.lt_or_ge j L.length with hl | hl
    · rw [List.getElem_append_left hl]; exact h.ok j hl
    · have : j = L.length := by simp at hj; omega
      subst this
      simp only [List.getElem_concat_length, okN, mayBe, Int.toNat_natCast]
      simp only [Bool.and_eq_true, decide_eq_true_eq]
      exact ⟨⟨by omega, by omega⟩, hb⟩
  · rcases Nat.lt_or_ge j L.length with hl | hl
    · rw [List.getElem_append_left hl]; exact h.top j hl
    · have : j = L.length := by simp at hj; omega
      subst this
      simp only [List.getElem_concat_length]
      exact bval_lt_top xs t n2
  · rw [stream_snoc]
    have hsl : (stream L L.length).length = t := by rw [stream_length, h.sum]
    rcases Nat.lt_or_ge i t with hl | hl
    · rw [pbit_left (by omega)]; exact h.bits i hl
    · obtain ⟨k, rfl⟩ : ∃ k, i = t + k := ⟨i - t, by omega⟩
      have e := pbit_right (A := stream L L.length) (B := nbits (Int.toNat (n : Int)) (bval xs t n) (Int.toNat (n : Int))) (i := k)
      rw [hsl] at e
      simp only at e ⊢
      rw [e, Int.toNat_natCast, pbit_nbits (by omega), bval_bit xs t n k (by omega)]
/- Bytes with the same bits are the same. -/
theorem byte_eq {y z : Nat} (hy : y < 256) (hz : z < 256) (h : ∀ k, k < 8 → y / 2 ^ (7 - k) % 2 = z / 2 ^ (7 - k) % 2) : y = z := by
  refine Nat.eq_of_testBit_eq fun k => ?_
  by_cases hk : k < 8
  · have h1 := h (7 - k) (by omega)
    rw [show 7 - (7 - k) = k by omega] at h1
    rw [Nat.testBit_eq_decide_div_mod_eq, Nat.testBit_eq_decide_div_mod_eq, h1]
  · rw [Nat.testBit_lt_two_pow (Nat.lt_of_lt_of_le hy (show 256 ≤ 2 ^ k from Nat.pow_le_pow_right (n := 2) (i := 8) (by decide) (by omega))), Nat.testBit_lt_two_pow (Nat.lt_of_lt_of_le hz (show 256 ≤ 2 ^ k from Nat.pow_le_pow_right (n := 2) (i := 8) (by decide) (by omega)))]
theorem bytes_same {ys xs : List Nat} {N : Nat} {L : List (Int × Nat)} (hP : Packed ys (stream L L.length) N) (hH : Held xs L (8 * xs.length)) (hN : N = xs.length) (hx : ∀ y ∈ xs, y < 256) : ys = xs := by
  refine List.ext_getElem (by rw [hP.len, hN]) fun j h1 h2 => ?_
  refine byte_eq (hP.small _ (List.getElem_mem h1)) (hx _ (List.getElem_mem h2)) fun k hk => ?_
  have e := hP.bits (8 * j + k) (by omega)
  rw [hH.bits (8 * j + k) (by omega)] at e
  have q1 : (8 * j + k) / 8 = j := by omega
  have q2 : (8 * j + k) % 8 = k := by omega
  simp only [bitOf, q1, q2, List.getD_eq_getElem?_getD, List.getElem?_eq_getElem h1, List.getElem?_eq_getElem h2, Option.getD_some] at e
  exact e
end Go.Proofs.Ytcpjibebloaohab
