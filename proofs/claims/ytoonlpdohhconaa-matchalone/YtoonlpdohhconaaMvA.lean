/- What is found is found without another one, too: the list without one entry. -/
import Derived.Test.YtoonlpdohhconaaMwD
namespace Go.Proofs.Ytoonlpdohhconaa
open Go.RowKit

theorem best_fst {α : Type} (P : α → Bool) (l : List α) (wt : Nat → Int) : ∀ (n k : Nat), bestL wt (idxsTo P l n) = some k → k < n ∧ ∀ j ∈ idxsTo P l n, wt j ≤ wt k ∧ (j < k → wt j < wt k)
  | 0, k, h => by simp [idxsTo, bestL] at h
  | n + 1, k, h => by
    rw [idxsTo] at h ⊢
    by_cases hn : n < l.length
    · by_cases hp : P l[n] = true
      · simp only [hn, hp, dif_pos, if_true] at h ⊢
        rw [bestL_snoc] at h
        cases hb : bestL wt (idxsTo P l n) with
        | none =>
          rw [hb] at h
          simp only [pickB, Option.some.injEq] at h
          subst h
          rw [best_none _ _ hb]
          exact ⟨by omega, fun j hj => by simp at hj; subst hj; exact ⟨by omega, fun h => by omega⟩⟩
        | some i =>
          obtain ⟨h1, h2⟩ := best_fst P l wt n i hb
          rw [hb] at h
          simp only [pickB] at h
          by_cases hw : wt i < wt n
          · rw [if_pos hw] at h
            injection h with h
            subst h
            refine ⟨by omega, fun j hj => ?_⟩
            rcases List.mem_append.1 hj with hj | hj
            · have := (h2 j hj).1; exact ⟨by omega, fun _ => by omega⟩
            · simp at hj; subst hj; exact ⟨by omega, fun h => by omega⟩
          · rw [if_neg hw] at h
            injection h with h
            subst h
            refine ⟨by omega, fun j hj => ?_⟩
            rcases List.mem_append.1 hj with hj | hj
            · exact h2 j hj
            · simp at hj; subst hj; exact ⟨by omega, fun h => by omega⟩
      · have hp' : P l[n] = false := by simpa using hp
        simp only [hn, hp', dif_pos, Bool.false_eq_true, if_false, List.append_nil] at h ⊢
        obtain ⟨h1, h2⟩ := best_fst P l wt n k h
        exact ⟨by omega, h2⟩
    · simp only [hn, dif_neg, not_false_eq_true, List.append_nil] at h ⊢
      obtain ⟨h1, h2⟩ := best_fst P l wt n k h
      exact ⟨by omega, h2⟩
structure Bst (t : Tb) (es : List En) (keys : List Nb) (k : Nat) : Prop where
  lt : k < es.length
  hit : hitB t keys es[k] = true
  top : ∀ j (h : j < es.length), hitB t keys es[j] = true → wtI t es[j] ≤ wtI t es[k] ∧ (j < k → wtI t es[j] < wtI t es[k])
theorem Bst.one {t : Tb} {es : List En} {keys : List Nb} {k k' : Nat} (h : Bst t es keys k) (h' : Bst t es keys k') : k = k' := by
  have h1 := h.top k' h'.lt h'.hit
  have h2 := h'.top k h.lt h.hit
  rcases Nat.lt_trichotomy k k' with hl | hl | hl
  · have := h2.2 hl; omega
  · exact hl
  · have := h1.2 hl; omega
theorem bst_of {t : Tb} {es : List En} {keys : List Nb} (h : 0 ≤ findE t es keys) : ∃ k : Nat, findE t es keys = k ∧ findB t keys = true ∧ Bst t es keys k := by
  unfold findE at h ⊢
  cases hb : findB t keys
  · rw [hb] at h; simp at h
  · rw [hb] at h
    simp only [if_true] at h ⊢
    cases hk : bestL (wtEn t es) (idxsTo (hitB t keys) es es.length) with
    | none => rw [hk] at h; simp [bestC] at h
    | some k =>
      refine ⟨k, rfl, trivial, ?_⟩
      obtain ⟨h1, h2⟩ := best_fst _ _ _ _ _ hk
      have hm : k ∈ idxsTo (hitB t keys) es es.length := by
        rcases bestL_mem _ _ _ _ hk with h | h
        · exact h
        · cases h
      obtain ⟨_, _, hh⟩ := (idxs_mem _ _ _ _).1 hm
      refine ⟨h1, hh, fun j hj hit => ?_⟩
      have := h2 j ((idxs_mem _ _ _ _).2 ⟨hj, hj, hit⟩)
      simpa [wtEn, hj, h1] using this
theorem find_bst {t : Tb} {es : List En} {keys : List Nb} {k : Nat} (hb : findB t keys = true) (h : Bst t es keys k) : findE t es keys = k := by
  have h1 := find_range hb (es[k]'(h.lt)) (es := es) (List.getElem_mem _) h.hit
  obtain ⟨k', e, _, h'⟩ := bst_of h1.1
  rw [e, h.one h']
theorem find_del {t : Tb} {es : List En} {keys : List Nb} {k i : Nat} (h : Bst t es keys k) (hi : i < es.length) (hne : i ≠ k) : Bst t (es.eraseIdx i) keys (if i < k then k - 1 else k) := by
  have hl := h.lt
  have hlen : (es.eraseIdx i).length = es.length - 1 := List.length_eraseIdx_of_lt hi
  have hk' : (if i < k then k - 1 else k) < (es.eraseIdx i).length := by rw [hlen]; split <;> omega
  have ek : (es.eraseIdx i)[if i < k then k - 1 else k] = es[k] := by
    rw [List.getElem_eraseIdx]
    by_cases hik : i < k
    · have : ¬ k - 1 < i := by omega
      simp only [hik, if_true, this, dif_neg, not_false_eq_true]
      congr 1; omega
    · have : k < i := by omega
      simp only [hik, if_false, this, dif_pos]
  refine ⟨hk', by rw [ek]; exact h.hit, fun j hj hh => ?_⟩
  rw [ek]
  rw [hlen] at hj
  rw [List.getElem_eraseIdx] at hh ⊢
  by_cases hji : j < i
  · simp only [hji, dif_pos] at hh ⊢
    have := h.top j (by omega) hh
    exact ⟨this.1, fun hlt => this.2 (by split at hlt <;> omega)⟩
  · simp only [hji, dif_neg, not_false_eq_true] at hh ⊢
    have := h.top (j + 1) (by omega) hh
    exact ⟨this.1, fun hlt => this.2 (by split at hlt <;> omega)⟩
/- The three facts that MatchAlone asks for. -/
theorem alone_none {t : Tb} {es : List En} {keys : List Nb} (h : findE t es keys < 0) (i : Nat) (hi : i < es.length) : findE t [es[i]] keys < 0 := by
  apply Int.not_le.1
  intro hc
  obtain ⟨k, _, hb, hB⟩ := bst_of hc
  have hk : k = 0 := by have := hB.lt; simp at this; exact this
  subst hk
  have := find_range hb es[i] (es := es) (List.getElem_mem _) hB.hit
  omega
theorem alone_del {t : Tb} {es : List En} {keys : List Nb} {k i : Nat} (h : findE t es keys = k) (hi : i < es.length) (hne : i ≠ k) : findE t (es.take i ++ es.drop (i + 1)) keys = (if (i : Int) < k then (k : Int) - 1 else k) := by
  obtain ⟨k', e, hb, hB⟩ := bst_of (t := t) (es := es) (keys := keys) (by omega)
  have : k' = k := by omega
  subst this
  rw [← List.eraseIdx_eq_take_drop_succ, find_bst hb (find_del hB hi hne)]
  by_cases hik : i < k' <;> simp [hik] <;> omega
theorem alone_self {t : Tb} {es : List En} {keys : List Nb} {k : Nat} (h : findE t es keys = k) : ∃ hk : k < es.length, findE t [es[k]] keys = 0 := by
  obtain ⟨k', e, hb, hB⟩ := bst_of (t := t) (es := es) (keys := keys) (by omega)
  have : k' = k := by omega
  subst this
  exact ⟨hB.lt, find_alone hb _ hB.hit⟩
end Go.Proofs.Ytoonlpdohhconaa
