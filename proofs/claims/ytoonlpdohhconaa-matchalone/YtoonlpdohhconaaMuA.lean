/- A table of one prefix of 8 bits, as plain data. -/
import Derived.Test.YtoonlpdohhconaaMtY
namespace Go.Proofs.Ytoonlpdohhconaa
open Go.RowKit

def t8 : Tb := ⟨[2], [8], 4096⟩
def trn (x n : Nat) : Nat := x / 2 ^ (8 - n) * 2 ^ (8 - n)
def msk (n : Nat) : Nat := 256 - 2 ^ (8 - n)
def pe (p : Nat × Nat) : En := en1 p.1 p.2
theorem trn_le (x n : Nat) : trn x n ≤ x := Nat.div_mul_le_self _ _
theorem trn_trn (x n : Nat) : trn (trn x n) n = trn x n := by
  unfold trn
  rw [Nat.mul_div_cancel _ (Nat.pos_of_ne_zero (by simp))]
theorem fst8 {n : Nat} (h : n ≤ 8) : fstB 8 n = ⟨8, 0, msk n⟩ := by
  rcases (by omega : n = 0 ∨ n = 1 ∨ n = 2 ∨ n = 3 ∨ n = 4 ∨ n = 5 ∨ n = 6 ∨ n = 7 ∨ n = 8) with rfl | rfl | rfl | rfl | rfl | rfl | rfl | rfl | rfl <;> kernel_rfl
theorem and_all : ((List.range 256).all fun x => (List.range 9).all fun n => (x &&& msk n) == trn x n) = true := by kernel_rfl
theorem and_msk {x n : Nat} (hx : x < 256) (hn : n ≤ 8) : x &&& msk n = trn x n := by
  have h := List.all_eq_true.1 and_all x (List.mem_range.2 hx)
  have h2 := List.all_eq_true.1 h n (List.mem_range.2 (by omega))
  simpa using h2
theorem chk_all : ((List.range 256).all fun x => (List.range 9).all fun n => chkB t8 (en1 (trn x n : Nat) (n : Nat))) = true := by kernel_rfl
theorem chk8 {x n : Nat} (hx : x < 256) (hn : n ≤ 8) : chkB t8 (pe (trn x n, n)) = true := by
  have h := List.all_eq_true.1 chk_all x (List.mem_range.2 hx)
  exact List.all_eq_true.1 h n (List.mem_range.2 (by omega))
theorem wide_all : ((List.range 256).all fun x => wide ⟨8, 0, (x : Nat)⟩ 8) = true := by kernel_rfl
theorem wide8 {x : Nat} (hx : x < 256) : wide ⟨8, 0, (x : Nat)⟩ 8 = true := List.all_eq_true.1 wide_all x (List.mem_range.2 hx)
theorem xor0 {a b : Nat} : (a ^^^ b) = 0 ↔ a = b := by
  constructor
  · intro h
    apply Nat.eq_of_testBit_eq
    intro i
    have : (a ^^^ b).testBit i = false := by rw [h]; simp
    rw [Nat.testBit_xor] at this
    cases ha : a.testBit i <;> cases hb : b.testBit i <;> simp_all
  · rintro rfl; simp
theorem hit8 {x n key : Nat} (hx : x < 256) (hn : n ≤ 8) (hk : key < 256) : hitB t8 [⟨8, 0, key⟩] (pe (trn x n, n)) = (trn key n == trn x n) := by
  have hv : trn x n < 256 := Nat.lt_of_le_of_lt (trn_le x n) hx
  have h1 : wide (⟨8, 0, (trn x n : Nat)⟩ : Nb) 8 = true := wide8 hv
  have h2 : fromB 0 (n : Int) 8 = true := by simp [fromB]; omega
  have hm : msk n < 18446744073709551616 := Nat.lt_of_le_of_lt (Nat.sub_le _ _) (by decide)
  have h3 : bits .xor .u64 ((key : Nat) : Int) ((trn x n : Nat) : Int) = ((key ^^^ trn x n : Nat) : Int) := u64_xor_nat key (trn x n) (by omega) (by omega)
  have hl : key ^^^ trn x n < 256 := Nat.xor_lt_two_pow (n := 8) hk hv
  have h4 : bits .and .u64 (((key ^^^ trn x n : Nat)) : Int) ((msk n : Nat) : Int) = (((key ^^^ trn x n) &&& msk n : Nat) : Int) := u64_and_nat _ _ (by omega) hm
  have h5 : (key ^^^ trn x n) &&& msk n = trn key n ^^^ trn x n := by rw [Nat.and_xor_distrib_right, and_msk hk hn, and_msk hv hn, trn_trn]
  have h6 : bits .xor .u64 0 0 = 0 := by decide
  have h7 : bits .and .u64 0 0 = 0 := by decide
  simp only [hitB, pe, en1, pfx, allI, mtB, t8, List.getD_cons_zero, h1, matK, h2, Bool.true_and, Bool.and_true, List.length_cons, List.length_nil, beq_self_eq_true, fst8 hn, aliB, h3, h4, h5, h6, h7]
  by_cases e : trn key n = trn x n
  · rw [e]; simp
  · have : trn key n ^^^ trn x n ≠ 0 := fun h => e (xor0.1 h)
    have h8 : (((trn key n ^^^ trn x n : Nat) : Int) == 0) = false := by simp; omega
    rw [h8]; simp [e]
theorem find8b {key : Nat} (hk : key < 256) : findB t8 [⟨8, 0, key⟩] = true := by
  have h0 : tabMay ⟨[2], [8], 4096⟩ = true := by decide
  simp [findB, h0, t8, allI, wide8 hk]
theorem ins8 {V : List (Nat × Nat)} {x n : Nat} (hx : x < 256) (hn : n ≤ 8) (hV : V.length ≤ 300) : insI t8 (V.map pe) (pe (trn x n, n)) = 12 ∨ insI t8 (V.map pe) (pe (trn x n, n)) = 0 := by
  unfold insI
  rw [chk8 hx hn, if_pos rfl]
  have hs : ¬ (t8.size ≤ ((V.map pe).length : Int)) := by
    have : t8.size = 4096 := rfl
    rw [this, List.length_map]; omega
  by_cases h : 0 ≤ hereI (V.map pe) (pe (trn x n, n))
  · rw [if_pos h]; exact .inl rfl
  · rw [if_neg h, if_neg hs]; exact .inr rfl
/- The one that counts most. -/
theorem best_none (wt : Nat → Int) (ys : List Nat) (h : bestL wt ys = none) : ys = [] := by
  rcases List.eq_nil_or_concat ys with rfl | ⟨zs, k, rfl⟩
  · rfl
  · rw [List.concat_eq_append, bestL_snoc] at h
    cases hb : bestL wt zs with
    | none => rw [hb] at h; simp [pickB] at h
    | some j => rw [hb] at h; simp only [pickB] at h; split at h <;> cases h
theorem best_max (wt : Nat → Int) : ∀ (ys : List Nat) (b : Option Nat) (j : Nat), ys.foldl (pickB wt) b = some j → (∀ i ∈ ys, wt i ≤ wt j) ∧ (∀ i, b = some i → wt i ≤ wt j)
  | [], b, j, h => ⟨fun i hi => by simp at hi, fun i hi => by rw [List.foldl_nil] at h; rw [h] at hi; injection hi with hi; rw [hi]; omega⟩
  | k :: ys, b, j, h => by
    obtain ⟨h1, h2⟩ := best_max wt ys (pickB wt b k) j h
    cases b with
    | none =>
      have := h2 k rfl
      exact ⟨fun i hi => by rcases List.mem_cons.1 hi with rfl | hi; exact this; exact h1 i hi, fun i hi => by cases hi⟩
    | some m =>
      by_cases hlt : wt m < wt k
      · have h3 := h2 k (by simp [pickB, hlt])
        exact ⟨fun i hi => by rcases List.mem_cons.1 hi with rfl | hi; exact h3; exact h1 i hi, fun i hi => by injection hi with hi; rw [← hi]; omega⟩
      · have h3 := h2 m (by simp [pickB, hlt])
        exact ⟨fun i hi => by rcases List.mem_cons.1 hi with rfl | hi; omega; exact h1 i hi, fun i hi => by injection hi with hi; rw [← hi]; omega⟩
theorem idxs_mem {α : Type} (P : α → Bool) (l : List α) : ∀ (n j : Nat), j ∈ idxsTo P l n ↔ ∃ h : j < l.length, j < n ∧ P l[j] = true
  | 0, j => by simp [idxsTo]
  | n + 1, j => by
    rw [idxsTo, List.mem_append, idxs_mem P l n j]
    constructor
    · rintro (⟨h, h1, h2⟩ | h)
      · exact ⟨h, by omega, h2⟩
      · split at h
        · split at h
          · have : j = n := by simpa using h
            subst this
            exact ⟨by assumption, by omega, by assumption⟩
          · simp at h
        · simp at h
    · rintro ⟨h, h1, h2⟩
      by_cases e : j = n
      · subst e; right; simp [h, h2]
      · exact .inl ⟨h, by omega, h2⟩
def lbI (key : Nat) : List (Nat × Nat) → Int → Int
  | [], b => b
  | p :: V, b => lbI key V (if trn key p.2 = p.1 ∧ b < (p.2 : Int) then (p.2 : Int) else b)
theorem lb_snoc (key : Nat) (p : Nat × Nat) : ∀ (V : List (Nat × Nat)) (b : Int), lbI key (V ++ [p]) b = (if trn key p.2 = p.1 ∧ lbI key V b < (p.2 : Int) then (p.2 : Int) else lbI key V b)
  | [], _ => rfl
  | _ :: V, _ => lb_snoc key p V _
theorem lb_spec (key : Nat) : ∀ (V : List (Nat × Nat)) (b : Int), (b ≤ lbI key V b) ∧ (∀ p ∈ V, trn key p.2 = p.1 → (p.2 : Int) ≤ lbI key V b) ∧ (lbI key V b = b ∨ ∃ p ∈ V, trn key p.2 = p.1 ∧ lbI key V b = p.2)
  | [], b => ⟨Int.le_refl _, fun p h => by simp at h, .inl rfl⟩
  | q :: V, b => by
    by_cases h : trn key q.2 = q.1 ∧ b < (q.2 : Int)
    · obtain ⟨h1, h2, h3⟩ := lb_spec key V (q.2 : Int)
      have e : lbI key (q :: V) b = lbI key V (q.2 : Int) := by simp [lbI, h]
      rw [e]
      refine ⟨by omega, fun p hp' hh => ?_, ?_⟩
      · rcases List.mem_cons.1 hp' with rfl | hp'
        · exact h1
        · exact h2 p hp' hh
      · rcases h3 with h3 | ⟨p, hp', hh, h4⟩
        · exact .inr ⟨q, by simp, h.1, h3⟩
        · exact .inr ⟨p, by simp [hp'], hh, h4⟩
    · obtain ⟨h1, h2, h3⟩ := lb_spec key V b
      have e : lbI key (q :: V) b = lbI key V b := by rw [lbI, if_neg h]
      rw [e]
      refine ⟨h1, fun p hp' hh => ?_, ?_⟩
      · rcases List.mem_cons.1 hp' with rfl | hp'
        · have : ¬ b < (p.2 : Int) := fun hb => h ⟨hh, hb⟩
          omega
        · exact h2 p hp' hh
      · rcases h3 with h3 | ⟨p, hp', hh, h4⟩
        · exact .inl h3
        · exact .inr ⟨p, by simp [hp'], hh, h4⟩
/- What was found, and what should be. -/
def Good8 (V : List (Nat × Nat)) : Prop := ∀ p ∈ V, p.2 ≤ 8 ∧ ∃ x, x < 256 ∧ p.1 = trn x p.2
theorem find8 {V : List (Nat × Nat)} {key : Nat} (hk : key < 256) (hV : Good8 V) : (findE t8 (V.map pe) [⟨8, 0, key⟩] = -1 ∧ lbI key V (-1) = -1) ∨ ∃ k, ∃ h : k < V.length, findE t8 (V.map pe) [⟨8, 0, key⟩] = k ∧ lbI key V (-1) = V[k].2 := by
  have hhit : ∀ p ∈ V, hitB t8 [⟨8, 0, key⟩] (pe p) = (trn key p.2 == p.1) := fun p hp' => by
    obtain ⟨h1, x, h2, h3⟩ := hV p hp'
    have := hit8 h2 h1 hk
    rw [← h3] at this
    exact this
  unfold findE
  rw [find8b hk, if_pos rfl]
  obtain ⟨_, s2, s3⟩ := lb_spec key V (-1)
  have hget : ∀ j (h : j < V.length), (V.map pe)[j]'(by simpa using h) = pe V[j] := fun j h => by simp
  have hidx : ∀ j, j ∈ idxsTo (hitB t8 [⟨8, 0, key⟩]) (V.map pe) (V.map pe).length ↔ ∃ h : j < V.length, trn key V[j].2 = V[j].1 := fun j => by
    rw [idxs_mem]
    constructor
    · rintro ⟨h, h1, h2⟩
      have h' : j < V.length := by simpa using h
      rw [hget j h', hhit _ (List.getElem_mem h')] at h2
      exact ⟨h', by simpa using h2⟩
    · rintro ⟨h, h1⟩
      refine ⟨by simpa using h, by simpa using h, ?_⟩
      rw [hget j h, hhit _ (List.getElem_mem h)]
      simpa using h1
  cases hb : bestL (wtEn t8 (V.map pe)) (idxsTo (hitB t8 [⟨8, 0, key⟩]) (V.map pe) (V.map pe).length) with
  | none =>
    left
    refine ⟨rfl, ?_⟩
    rcases s3 with s3 | ⟨p, hp', hh, _⟩
    · exact s3
    · obtain ⟨j, hj, rfl⟩ := List.mem_iff_getElem.1 hp'
      have := (hidx j).2 ⟨hj, hh⟩
      rw [best_none _ _ hb] at this
      simp at this
  | some j =>
    right
    have hmem : j ∈ idxsTo (hitB t8 [⟨8, 0, key⟩]) (V.map pe) (V.map pe).length := by
      rcases bestL_mem _ _ _ _ hb with h | h
      · exact h
      · cases h
    obtain ⟨hj, hh⟩ := (hidx j).1 hmem
    have hw : ∀ i (h : i < V.length), wtEn t8 (V.map pe) i = (V[i].2 : Int) := fun i h => by
      have hw1 : weighsB t8 = false := by decide
      have hp1 : preI t8 = 0 := by decide
      have h' : i < (V.map pe).length := by simpa using h
      unfold wtEn
      rw [dif_pos h', hget i h]
      simp [wtI, hw1, hp1, pe, en1, pfx]
    refine ⟨j, hj, rfl, ?_⟩
    have hmax := (best_max _ _ _ _ hb).1
    have h1 := s2 V[j] (List.getElem_mem hj) hh
    rcases s3 with s3 | ⟨p, hp', hh2, h4⟩
    · omega
    · obtain ⟨i, hi, rfl⟩ := List.mem_iff_getElem.1 hp'
      have := hmax i ((hidx i).2 ⟨hi, hh2⟩)
      rw [hw i hi, hw j hj] at this
      omega
end Go.Proofs.Ytoonlpdohhconaa
