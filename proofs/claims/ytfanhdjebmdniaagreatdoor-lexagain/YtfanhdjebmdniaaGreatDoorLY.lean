/- LexOne: the words of its one text. -/
import Derived.Test.YtfanhdjebmdniaaGreatDoorLV
namespace Go.Proofs.YtfanhdjebmdniaaGreatDoor
open Go.RowKit

def ahC : List UInt8 := [47, 47, 32, 115, 111, 32, 40, 105, 116, 41, 32, 105, 115]
def ahd : Nat → List UInt8
  | 0 => ahC ++ [10]
  | k + 1 => ahd k ++ [9, 32, 10]
def lns (R : List UInt8) : Nat → List UInt8
  | 0 => R
  | k + 1 => [9, 32] ++ 10 :: lns R k
theorem lns_snoc (R : List UInt8) : ∀ k, lns R (k + 1) = lns ([9, 32, 10] ++ R) k
  | 0 => rfl
  | k + 1 => by rw [lns, lns_snoc R k]; rfl
theorem ahd_lns : ∀ (k : Nat) (R : List UInt8), ahd k ++ R = ahC ++ 10 :: lns R k
  | 0, R => by simp [ahd, lns]
  | k + 1, R => by rw [ahd, List.append_assoc, ahd_lns k, lns_snoc]
theorem ahd_len : ∀ k, (ahd k).length = 14 + 3 * k
  | 0 => rfl
  | k + 1 => by rw [ahd, List.length_append, ahd_len k]; simp; omega
theorem toks_C : toks ahC = .ok [] := by
  have s : skip ahC = [] := by
    unfold skip
    rw [show ahC.dropWhile isBl = ahC by decide +kernel, skR_yes (by decide +kernel), show (ahC.dropWhile n10).dropWhile isBl = [] by decide +kernel, skR_nil]
  unfold toks
  rw [s, tk_nil]
theorem toks_B : toks [9, 32] = .ok [] := by
  have s : skip [9, 32] = [] := skip_of (by decide +kernel) rfl
  unfold toks
  rw [s, tk_nil]
theorem shift_shift (a b : Nat) (x : LR) : LR.shift a (LR.shift b x) = LR.shift (b + a) x := by
  cases x with
  | error k => simp [LR.shift]; omega
  | ok ws => simp [LR.shift]; intros; omega
theorem shift_zero (x : LR) : LR.shift 0 x = x := by
  cases x <;> simp [LR.shift]
theorem toks_lns (R : List UInt8) : ∀ k, toks (lns R k) = LR.shift k (toks R)
  | 0 => by rw [lns, shift_zero]
  | k + 1 => by
    rw [lns, toks_join, toks_B, toks_lns R k]
    simp only [LR.then, LR.app_nil]
    rw [shift_shift]
    rfl
theorem toks_ahd (k : Nat) (R : List UInt8) : toks (ahd k ++ R) = LR.shift (k + 1) (toks R) := by
  rw [ahd_lns, toks_join, toks_C, toks_lns]
  simp only [LR.then, LR.app_nil]
  rw [shift_shift]
  rfl
/- letters and digits. -/
theorem dc_D (n : Nat) : ∀ c ∈ Lib.decDigits n, isD c = true ∧ isW c = true := by
  have h : ∀ d : Fin 10, isD (UInt8.ofNat (48 + d.val)) = true ∧ isW (UInt8.ofNat (48 + d.val)) = true := by decide +kernel
  induction n using Nat.strongRecOn with
  | _ n ih =>
    by_cases hs : n < 10
    · rw [dc_small hs]
      intro c hc
      rw [List.mem_singleton] at hc
      subst hc
      exact h ⟨n, hs⟩
    · rw [dc_big hs]
      intro c hc
      rw [List.mem_append, List.mem_singleton] at hc
      rcases hc with hc | rfl
      · exact ih _ (by omega) c hc
      · exact h ⟨n % 10, Nat.mod_lt _ (by decide)⟩
theorem hx_W (v : Nat) : ∀ c ∈ hx v, isW c = true := by
  have h : ∀ d : Fin 16, isW (dig d.val).toUInt8 = true := by decide +kernel
  induction v using Nat.strongRecOn with
  | _ n ih =>
    by_cases hs : n < 16
    · rw [hx_small hs]
      intro c hc
      rw [List.mem_singleton] at hc
      subst hc
      exact h ⟨n, hs⟩
    · rw [hx_big hs]
      intro c hc
      rw [List.mem_append, List.mem_singleton] at hc
      rcases hc with hc | rfl
      · exact ih _ (by omega) c hc
      · exact h ⟨n % 16, Nat.mod_lt _ (by decide)⟩
theorem tx_W (n v : Nat) : ∀ c ∈ tx n v, isW c = true := by
  intro c hc
  unfold tx at hc
  rw [List.mem_append, List.mem_cons] at hc
  rcases hc with hc | rfl | hc
  · exact (dc_D n c hc).2
  · decide +kernel
  · exact hx_W v c hc
theorem dc_cons (n : Nat) : ∃ c l, Lib.decDigits n = c :: l ∧ isD c = true := by
  cases h : Lib.decDigits n with
  | nil => exact absurd h (dc_nil n)
  | cons c l => exact ⟨c, l, rfl, (dc_D n c (by rw [h]; simp)).1⟩
theorem D_facts : ∀ c : UInt8, isD c = true → isBl c = false ∧ c ≠ 47 ∧ c ≠ 61 ∧ c ≠ 60 := by
  intro c h
  have hm : c ∈ dgS := (isIn_iff dgS c).1 h
  have key : ∀ c ∈ dgS, isBl c = false ∧ c ≠ 47 ∧ c ≠ 61 ∧ c ≠ 60 := by decide +kernel
  exact key c hm
theorem skip_D {c : UInt8} (l : List UInt8) (h : isBl c = false) (h2 : c ≠ 47) : skip (c :: l) = c :: l := by
  refine skip_of (by rw [List.dropWhile_cons, h]; simp) ?_
  unfold isRem
  cases hh : Lib.hasPrefix (c :: l) [47, 47] with
  | false => rfl
  | true =>
    obtain ⟨r', e⟩ := isRem_cons (r := c :: l) hh
    injection e with e1 e2
    exact absurd e1 h2
theorem tw_run {run rest : List UInt8} {c : UInt8} (h : ∀ x ∈ run, isW x = true) (hc : isW c = false) : (run ++ c :: rest).takeWhile isW = run ∧ (run ++ c :: rest).dropWhile isW = c :: rest := by
  constructor
  · rw [List.takeWhile_append_of_pos h, List.takeWhile_cons, hc]; simp
  · rw [List.dropWhile_append_of_pos h, List.dropWhile_cons, hc]; simp
theorem whole_dc {n : Nat} (h : n ≤ 2147483647) : wholeW (Lib.decDigits n) = some ⟨2, [], 64, n⟩ := by
  have e : puE 2147483647 (Lib.decDigits n) 10 = .ok n := by
    obtain ⟨c, l, hd, _⟩ := dc_cons n
    have := pu_dc 2147483647 n h
    rw [hd] at this ⊢
    exact this
  unfold wholeW
  rw [e]
  simp only
  rw [if_pos trivial]
theorem wdA_dc {n : Nat} (h : n ≤ 2147483647) (c : UInt8) (rest : List UInt8) (hc : isW c = false) : wdA (Lib.decDigits n ++ c :: rest) = (some ⟨2, [], 64, n⟩, c :: rest) := by
  obtain ⟨h1, h2⟩ := tw_run (rest := rest) (fun x hx => (dc_D n x hx).2) hc
  unfold wdA
  rw [h1, h2]
  have ha : (Lib.decDigits n).all isD = true := List.all_eq_true.2 fun x hx => (dc_D n x hx).1
  have hw := whole_dc h
  obtain ⟨d, l, hd, hD⟩ := dc_cons n
  rw [hd] at ha hw ⊢
  simp only [wd1]
  rw [hD, ha, hw]
  rfl
theorem wdA_tx {n v : Nat} (h : okN n v = true) (c : UInt8) (rest : List UInt8) (hc : isW c = false) : wdA (tx n v ++ c :: rest) = (some ⟨3, [], n, v⟩, c :: rest) := by
  obtain ⟨h1, h2⟩ := tw_run (rest := rest) (tx_W n v) hc
  unfold wdA
  rw [h1, h2]
  have ha : (tx n v).all isD = false := by
    cases hh : (tx n v).all isD with
    | false => rfl
    | true =>
      have := List.all_eq_true.1 hh 119 (by unfold tx; simp)
      exact absurd this (by decide +kernel)
  have hp := prs_tx h
  obtain ⟨d, l, hd, hD⟩ := dc_cons n
  have ht : tx n v = d :: (l ++ 119 :: hx v) := by unfold tx; rw [hd]; rfl
  rw [ht] at ha hp ⊢
  simp only [wd1]
  rw [hD, ha]
  simp only [if_true, Bool.false_eq_true, if_false]
  unfold numW
  rw [hp]
theorem wdA_lss {c : UInt8} (l : List UInt8) (h1 : c ≠ 61) (h2 : c ≠ 60) : wdA (60 :: c :: l) = (some ⟨4, [60], 0, 0⟩, c :: l) := by
  have hs : sgn (60 :: c :: l) = [60] := by
    have b1 : (61 == c) = false := by simpa using fun e => h1 e.symm
    have b2 : (60 == c) = false := by simpa using fun e => h2 e.symm
    simp [sgn, sgs, List.find?, List.isPrefixOf, b1, b2]
  unfold wdA
  rw [List.takeWhile_cons, List.dropWhile_cons, show isW 60 = false by decide +kernel]
  simp only [Bool.false_eq_true, if_false, wd1]
  rw [hs]
  rfl
theorem wdA_shl (l : List UInt8) : wdA (60 :: 60 :: l) = (some ⟨4, [60, 60], 0, 0⟩, l) := by
  have hs : sgn (60 :: 60 :: l) = [60, 60] := by
    simp [sgn, sgs, List.find?, List.isPrefixOf]
  unfold wdA
  rw [List.takeWhile_cons, List.dropWhile_cons, show isW 60 = false by decide +kernel]
  simp only [Bool.false_eq_true, if_false, wd1]
  rw [hs]
  rfl
def oneT (n m v : Nat) : List UInt8 := Lib.decDigits n ++ 60 :: (tx m v ++ 60 :: 60 :: (tx m v ++ [47, 47]))
def oneL (n m v k : Nat) : List (Wd × Nat) := [(⟨2, [], 64, n⟩, k), (⟨4, [60], 0, 0⟩, k), (⟨3, [], m, v⟩, k), (⟨4, [60, 60], 0, 0⟩, k), (⟨3, [], m, v⟩, k)]
theorem c10_W {l : List UInt8} (h : ∀ x ∈ l, isW x = true) : c10 l = 0 := by
  unfold c10
  rw [List.count_eq_zero]
  intro hx
  have := h 10 hx
  rw [isW_ten] at this
  cases this
theorem toks_one {n m v : Nat} (hn : n ≤ 2147483647) (ho : okN m v = true) : toks (oneT n m v) = .ok (oneL n m v 0) := by
  obtain ⟨c, l, hd, hD⟩ := dc_cons n
  obtain ⟨b1, b2, _, _⟩ := D_facts c hD
  obtain ⟨d, l2, hd2, hD2⟩ := dc_cons m
  obtain ⟨f1, f2, f3, f4⟩ := D_facts d hD2
  have ht : tx m v = d :: (l2 ++ 119 :: hx v) := by unfold tx; rw [hd2]; rfl
  have z : c10 (oneT n m v) = 0 := by
    unfold oneT
    have e1 := c10_W (fun x hx => (dc_D n x hx).2)
    have e2 := c10_W (tx_W m v)
    simp only [c10] at *
    simp [List.count_append, e1, e2]
  have s1 : skip (oneT n m v) = oneT n m v := by unfold oneT; rw [hd]; exact skip_D _ b1 b2
  have s2 : ∀ r, skip (60 :: r) = 60 :: r := fun r => skip_D _ (by decide +kernel) (by decide)
  have s3 : ∀ r, skip (tx m v ++ r) = tx m v ++ r := fun r => by rw [ht]; exact skip_D _ f1 f2
  have s4 : skip [47, 47] = [] := by
    unfold skip
    rw [show ([47, 47] : List UInt8).dropWhile isBl = [47, 47] by decide +kernel, skR_yes (by decide +kernel), show (([47, 47] : List UInt8).dropWhile n10).dropWhile isBl = [] by decide +kernel, skR_nil]
  have d1 := wdA_dc hn 60 (tx m v ++ 60 :: 60 :: (tx m v ++ [47, 47])) (by decide +kernel)
  have d2 : wdA (60 :: (tx m v ++ 60 :: 60 :: (tx m v ++ [47, 47]))) = (some ⟨4, [60], 0, 0⟩, tx m v ++ 60 :: 60 :: (tx m v ++ [47, 47])) := by
    rw [ht]; exact wdA_lss _ f3 f4
  have d3 := wdA_tx ho 60 (60 :: (tx m v ++ [47, 47])) (by decide +kernel)
  have d4 := wdA_shl (tx m v ++ [47, 47])
  have d5 := wdA_tx ho 47 [47] (by decide +kernel)
  unfold toks
  rw [s1, z]
  unfold oneT
  rw [tk_some (by rw [hd]; simp) d1, s2, Nat.sub_self, Nat.zero_add, Nat.sub_self, tk_some (by simp) d2, s3, Nat.zero_add, Nat.sub_self, tk_some (by rw [ht]; simp) d3, s2, Nat.zero_add, Nat.sub_self, tk_some (by simp) d4, s3, Nat.zero_add, Nat.sub_self, tk_some (by rw [ht]; simp) d5, s4, tk_nil]
  rfl
theorem toks_all {n m v : Nat} (k : Nat) (hn : n ≤ 2147483647) (ho : okN m v = true) : toks (ahd k ++ oneT n m v) = .ok (oneL n m v (k + 1)) := by
  rw [toks_ahd, toks_one hn ho]
  simp [LR.shift, oneL]
end Go.Proofs.YtfanhdjebmdniaaGreatDoor
