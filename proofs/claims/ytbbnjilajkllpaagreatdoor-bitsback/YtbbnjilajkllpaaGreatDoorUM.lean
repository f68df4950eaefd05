/- A number's text, and that it is read back: digits of base 16 and 10. -/
import Derived.Test.YtbbnjilajkllpaaGreatDoorUA
import Derived.Test.YtbbnjilajkllpaaGreatDoorFmt
import Derived.Lib.ItoaNum
namespace Go.Proofs.YtbbnjilajkllpaaGreatDoor
open Go.RowKit

def hxF : Nat → Nat → List UInt8
  | 0, _ => []
  | f + 1, v => if v < 16 then [(dig v).toUInt8] else hxF f (v / 16) ++ [(dig (v % 16)).toUInt8]
theorem hxF_any : ∀ (f g v : Nat), v < f → v < g → hxF f v = hxF g v
  | 0, _, _, h, _ => by omega
  | _, 0, _, _, h => by omega
  | f + 1, g + 1, v, h1, h2 => by
    rw [hxF, hxF]
    split
    · rfl
    · rw [hxF_any f g (v / 16) (by omega) (by omega)]
def hx (v : Nat) : List UInt8 := hxF (v + 1) v
theorem hx_small {v : Nat} (h : v < 16) : hx v = [(dig v).toUInt8] := by rw [hx, hxF, if_pos h]
theorem hx_big {v : Nat} (h : ¬ v < 16) : hx v = hx (v / 16) ++ [(dig (v % 16)).toUInt8] := by
  rw [hx, hxF, if_neg h, hx, hxF_any v (v / 16 + 1) (v / 16) (by omega) (by omega)]
theorem dc_small {v : Nat} (h : v < 10) : Lib.decDigits v = [UInt8.ofNat (48 + v)] := by rw [Lib.decDigits, dif_pos h]
theorem dc_big {v : Nat} (h : ¬ v < 10) : Lib.decDigits v = Lib.decDigits (v / 10) ++ [UInt8.ofNat (48 + v % 10)] := by rw [Lib.decDigits, dif_neg h]
theorem lowB_cons (v k : Nat) : lowB v (k + 1) = (dig (v / 16 ^ k % 16)).toUInt8 :: lowB v k := by simp [lowB, List.range_succ]
theorem lowB_snoc : ∀ (k v : Nat), lowB v (k + 1) = lowB (v / 16) k ++ [(dig (v % 16)).toUInt8]
  | 0, v => by simp [lowB]
  | k + 1, v => by
    rw [lowB_cons, lowB_snoc k v, lowB_cons (v / 16) k, Nat.div_div_eq_div_mul, Nat.pow_succ, Nat.mul_comm (16 ^ k)]
    rfl
theorem hx_low : ∀ (k v : Nat), (k = 0 ∨ 16 ^ k ≤ v) → v < 16 ^ (k + 1) → lowB v (k + 1) = hx v
  | 0, v, _, h => by
    rw [hx_small (by simpa using h)]
    simp [lowB, Nat.mod_eq_of_lt (show v < 16 by simpa using h)]
  | k + 1, v, h1, h2 => by
    have h1' : 16 ^ (k + 1) ≤ v := by rcases h1 with h | h; · omega
                                      · exact h
    have hp : 0 < 16 ^ k := Nat.pow_pos (by decide)
    rw [Nat.pow_succ] at h1'
    rw [Nat.pow_succ] at h2
    rw [hx_big (by omega), lowB_snoc, hx_low k (v / 16) (by rcases Nat.eq_zero_or_pos k with h | h; · exact .inl h
                                                            · exact .inr (by omega)) (by omega)]
theorem lowB_add : ∀ (b v a : Nat), lowB v (a + b) = lowB (v / 16 ^ b) a ++ lowB v b
  | 0, v, a => by simp [lowB]
  | b + 1, v, a => by
    rw [← Nat.add_assoc, lowB_snoc, lowB_add b, lowB_snoc b v, List.append_assoc, Nat.div_div_eq_div_mul, Nat.pow_succ, Nat.mul_comm 16]
theorem lowB_zero (z : Nat) : lowB 0 z = List.replicate z 48 := by
  induction z with
  | zero => rfl
  | succ z ih => rw [lowB_cons, ih, Nat.zero_div]; rfl
theorem lowB_mod : ∀ (b v : Nat), lowB (v % 16 ^ b) b = lowB v b
  | 0, v => by simp [lowB]
  | b + 1, v => by
    have hp : 0 < 16 ^ b := Nat.pow_pos (by decide)
    have e1 : v % 16 ^ (b + 1) / 16 = v / 16 % 16 ^ b := by
      rw [Nat.pow_succ, Nat.mul_comm, Nat.mod_mul_right_div_self]
    have e2 : v % 16 ^ (b + 1) % 16 = v % 16 := Nat.mod_mod_of_dvd _ ⟨16 ^ b, by rw [Nat.pow_succ, Nat.mul_comm]⟩
    rw [lowB_snoc, lowB_snoc b v, e1, e2, lowB_mod b]
theorem lowB_pad {v m : Nat} (z : Nat) (h : v < 16 ^ m) : lowB v (z + m) = List.replicate z 48 ++ lowB v m := by
  rw [lowB_add, Nat.div_eq_of_lt h, lowB_zero]
/- digits, both words. -/
theorem hx_two {hi lo k m : Nat} (h0 : 0 < hi) (h1 : (k = 0 ∨ 16 ^ k ≤ hi) ∧ hi < 16 ^ (k + 1)) (h2 : lo < 16 ^ (m + 1)) (hm : m ≤ 15) (hlo : lo < 18446744073709551616) :
    lowB hi (k + 1) ++ List.replicate (16 - (m + 1)) 48 ++ lowB lo (m + 1) = hx (hi * 18446744073709551616 + lo) := by
  have e16 : (16 : Nat) ^ 16 = 18446744073709551616 := by decide
  have ep : ∀ j, (16 : Nat) ^ (j + 16) = 16 ^ j * 18446744073709551616 := fun j => by rw [Nat.pow_add, e16]
  have hk : 16 ^ k ≤ hi := by rcases h1.1 with rfl | h; · simp; omega
                              · exact h
  have e : lowB (hi * 18446744073709551616 + lo) (k + 16 + 1) = hx (hi * 18446744073709551616 + lo) :=
    hx_low (k + 16) _ (.inr (by rw [ep]; omega)) (by rw [show k + 16 + 1 = k + 1 + 16 by omega, ep]; omega)
  rw [← e, show k + 16 + 1 = (k + 1) + 16 by omega, lowB_add 16 _ (k + 1), List.append_assoc]
  congr 1
  · rw [e16]; congr 1; omega
  · rw [← lowB_pad _ h2, show 16 - (m + 1) + (m + 1) = 16 by omega, ← lowB_mod 16 (hi * _ + lo), e16]; congr 1; omega
theorem hx_nil (v : Nat) : hx v ≠ [] := by
  by_cases h : v < 16
  · rw [hx_small h]; simp
  · rw [hx_big h]; simp
theorem dc_nil (v : Nat) : Lib.decDigits v ≠ [] := by
  by_cases h : v < 10
  · rw [dc_small h]; simp
  · rw [dc_big h]; simp
theorem pu_snoc (b mx : Nat) (c : UInt8) : ∀ (l : List UInt8) (acc : Nat), pu b mx acc (l ++ [c]) = match pu b mx acc l with | .ok n => if b ≤ dval c.toNat then .error true else if mx < n * b + dval c.toNat then .error false else .ok (n * b + dval c.toNat) | .error b => .error b
  | [], acc => by simp only [List.nil_append, pu]
  | x :: l, acc => by
    simp only [List.cons_append, pu]
    split
    · rfl
    · split
      · rfl
      · exact pu_snoc b mx c l _
theorem dval_dig : ∀ d : Fin 16, dval (dig d.val).toUInt8.toNat = d.val := by decide +kernel
theorem dval_dec : ∀ d : Fin 10, dval (UInt8.ofNat (48 + d.val)).toNat = d.val := by decide +kernel
theorem pu_hx (mx : Nat) (v : Nat) (h : v ≤ mx) : pu 16 mx 0 (hx v) = .ok v := by
  induction v using Nat.strongRecOn with
  | _ v ih =>
    by_cases hs : v < 16
    · rw [hx_small hs]
      have e := dval_dig ⟨v, hs⟩
      simp only at e
      simp only [pu, e]
      rw [if_neg (by omega), if_neg (by omega)]; simp
    · have e := dval_dig ⟨v % 16, Nat.mod_lt _ (by decide)⟩
      simp only at e
      rw [hx_big hs, pu_snoc, ih (v / 16) (by omega) (by omega)]
      simp only [e]
      rw [if_neg (by omega), if_neg (by omega)]; congr 1; omega
theorem pu_dc (mx : Nat) (v : Nat) (h : v ≤ mx) : pu 10 mx 0 (Lib.decDigits v) = .ok v := by
  induction v using Nat.strongRecOn with
  | _ v ih =>
    by_cases hs : v < 10
    · rw [dc_small hs]
      have e := dval_dec ⟨v, hs⟩
      simp only at e
      simp only [pu, e]
      rw [if_neg (by omega), if_neg (by omega)]; simp
    · have e := dval_dec ⟨v % 10, Nat.mod_lt _ (by decide)⟩
      simp only at e
      rw [dc_big hs, pu_snoc, ih (v / 10) (by omega) (by omega)]
      simp only [e]
      rw [if_neg (by omega), if_neg (by omega)]; congr 1; omega
theorem pu_low (mx : Nat) : ∀ (k v : Nat), v ≤ mx → pu 16 mx 0 (lowB v k) = .ok (v % 16 ^ k)
  | 0, v, _ => by simp [lowB, pu, Nat.mod_one]
  | k + 1, v, h => by
    have e := dval_dig ⟨v % 16, Nat.mod_lt _ (by decide)⟩
    simp only at e
    have hle : v / 16 % 16 ^ k ≤ v / 16 := Nat.mod_le _ _
    rw [lowB_snoc, pu_snoc, pu_low mx k (v / 16) (by omega)]
    simp only [e]
    rw [if_neg (by omega), if_neg (by omega), Nat.pow_succ, Nat.mul_comm (16 ^ k), Nat.mod_mul]; congr 1; omega
/- what stands behind a number's letter is parted at 16 digits. -/
theorem hx_part (v : Nat) : (hx v).length ≤ 16 ∧ v < 18446744073709551616 ∨ 16 < (hx v).length ∧ 18446744073709551616 ≤ v ∧ (hx v).take ((hx v).length - 16) = hx (v / 18446744073709551616) ∧ (hx v).drop ((hx v).length - 16) = lowB v 16 := by
  have e16 : (16 : Nat) ^ 16 = 18446744073709551616 := by decide
  obtain ⟨k, hk0, hk1⟩ : ∃ k, (k = 0 ∨ 16 ^ k ≤ v) ∧ v < 16 ^ (k + 1) := by
    induction v using Nat.strongRecOn with
    | _ v ih =>
      by_cases hs : v < 16
      · exact ⟨0, .inl rfl, by simpa using hs⟩
      · obtain ⟨k, h0, h1⟩ := ih (v / 16) (by omega)
        refine ⟨k + 1, .inr ?_, ?_⟩
        · rw [Nat.pow_succ]; rcases h0 with rfl | h0
          · simp; omega
          · omega
        · rw [Nat.pow_succ]; omega
  have e := hx_low k v hk0 hk1
  have hl : (hx v).length = k + 1 := by rw [← e, lowB_length]
  by_cases hk : k + 1 ≤ 16
  · exact .inl ⟨by omega, Nat.lt_of_lt_of_le hk1 (by rw [← e16]; exact Nat.pow_le_pow_right (by decide) hk)⟩
  · obtain ⟨j, rfl⟩ : ∃ j, k = j + 16 := ⟨k - 16, by omega⟩
    have hv : 16 ^ (j + 16) ≤ v := by rcases hk0 with h | h; · omega
                                      · exact h
    rw [Nat.pow_add, e16] at hv
    have hp : 0 < 16 ^ j := Nat.pow_pos (by decide)
    have hv1 : v < 16 ^ (j + 1) * 18446744073709551616 := by rw [← e16, ← Nat.pow_add, show j + 1 + 16 = j + 16 + 1 by omega]; exact hk1
    have e2 : hx v = hx (v / 18446744073709551616) ++ lowB v 16 := by
      rw [← e, show j + 16 + 1 = (j + 1) + 16 by omega, lowB_add, e16]
      rw [hx_low j (v / 18446744073709551616) (.inr (by omega)) (by omega)]
    have hl2 : (hx (v / 18446744073709551616)).length = (hx v).length - 16 := by rw [e2, List.length_append, lowB_length]; omega
    refine .inr ⟨by omega, ?_, ?_, ?_⟩
    · have : 1 * 18446744073709551616 ≤ 16 ^ j * 18446744073709551616 := Nat.mul_le_mul_right _ hp
      omega
    · rw [← hl2]; conv => lhs; rw [e2]
      exact List.take_left
    · rw [← hl2]; conv => lhs; rw [e2]
      exact List.drop_left
/- a number's text. -/
def tx (n v : Nat) : List UInt8 := Lib.decDigits n ++ 119 :: hx v
def notW (c : UInt8) : Bool := c != 119
theorem dc_w (n : Nat) : ∀ c ∈ Lib.decDigits n, notW c = true := by
  have h : ∀ d : Fin 10, notW (UInt8.ofNat (48 + d.val)) = true := by decide +kernel
  induction n using Nat.strongRecOn with
  | _ n ih =>
    by_cases hs : n < 10
    · rw [dc_small hs]
      intro c hc
      rw [List.mem_singleton] at hc
      subst hc
      exact h ⟨n, hs⟩
    · rw [dc_big hs]
      intro c hc
      rw [List.mem_append, List.mem_singleton] at hc
      rcases hc with hc | rfl
      · exact ih _ (by omega) c hc
      · exact h ⟨n % 10, Nat.mod_lt _ (by decide)⟩
def cutL (s : List UInt8) : List UInt8 := s.takeWhile notW
def cutR' (s : List UInt8) : List UInt8 := (s.dropWhile notW).drop 1
theorem cut_tx (n v : Nat) : cutL (tx n v) = Lib.decDigits n ∧ cutR' (tx n v) = hx v := by
  have h := dc_w n
  unfold cutL cutR' tx
  generalize Lib.decDigits n = l at h
  have h119 : notW 119 = false := rfl
  constructor
  · rw [List.takeWhile_append_of_pos h, List.takeWhile_cons, h119]; simp
  · rw [List.dropWhile_append_of_pos h, List.dropWhile_cons, h119]; simp
/- what is read: 0 where it is no number. -/
def wh (b : Nat) (l : List UInt8) : Nat := match l with | [] => 0 | _ => match pu b 18446744073709551615 0 l with | .ok n => n | _ => 0
theorem wh_ok {b : Nat} {l : List UInt8} {n : Nat} (hl : l ≠ []) (h : pu b 18446744073709551615 0 l = .ok n) : wh b l = n := by
  match l, hl with
  | c :: l, _ => simp only [wh, h]
def gsW (s : List UInt8) : Nat := wh 10 (cutL s)
def gsH (s : List UInt8) : Nat := wh 16 ((cutR' s).take ((cutR' s).length - 16))
def gsL (s : List UInt8) : Nat := wh 16 ((cutR' s).drop ((cutR' s).length - 16))
theorem gs_tx (n v : Nat) (hn : n ≤ 128) (hv : v < 340282366920938463463374607431768211456) : gsW (tx n v) = n ∧ gsH (tx n v) = v / 18446744073709551616 ∧ gsL (tx n v) = v % 18446744073709551616 := by
  unfold gsW gsH gsL
  rw [(cut_tx n v).1, (cut_tx n v).2]
  refine ⟨wh_ok (dc_nil n) (pu_dc _ _ (by omega)), ?_⟩
  rcases hx_part v with ⟨h1, h2⟩ | ⟨h1, h2, h3, h4⟩
  · rw [show (hx v).length - 16 = 0 by omega, List.take_zero, List.drop_zero]
    exact ⟨by rw [Nat.div_eq_of_lt h2]; rfl, by rw [Nat.mod_eq_of_lt h2]; exact wh_ok (hx_nil v) (pu_hx _ _ (by omega))⟩
  · rw [h3, h4]
    refine ⟨wh_ok (hx_nil _) (pu_hx _ _ (by omega)), ?_⟩
    have e16 : (16 : Nat) ^ 16 = 18446744073709551616 := by decide
    have := pu_low 18446744073709551615 16 (v % 18446744073709551616) (by omega)
    rw [← e16, lowB_mod] at this
    refine wh_ok (by intro h; have := congrArg List.length h; simp [lowB_length] at this) ?_
    rw [e16] at this
    rw [this, Nat.mod_mod]
end Go.Proofs.YtbbnjilajkllpaaGreatDoor
