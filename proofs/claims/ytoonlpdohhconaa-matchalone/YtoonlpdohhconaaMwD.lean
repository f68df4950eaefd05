/- An entry that may be is found by its own values. -/
import Derived.Test.YtoonlpdohhconaaMwC
import Derived.Test.YtoonlpdohhconaaMuA
namespace Go.Proofs.Ytoonlpdohhconaa
open Go.RowKit

theorem and0 (x : Int) : bits .and .u64 0 x = 0 := by
  have h : IntKind.u64.wrap 0 = 0 := by decide
  simp [bits, h]
theorem xorSelf {a : Int} (h : u64R a) : bits .xor .u64 a a = 0 := by
  obtain ⟨n, rfl⟩ := Int.eq_ofNat_of_zero_le h.1
  have := u64_xor_nat n n (by have := h.2; omega) (by have := h.2; omega)
  rw [this]; simp
theorem aliSelf {v m : Nb} (h : NbR v) : aliB v v m = true := by
  simp [aliB, xorSelf h.hi, xorSelf h.lo, and0]
theorem atmSelf (v : Nb) : atmB v v = true := by simp [atmB]
theorem eqSelf (v : Nb) : v.eq v = true := by simp [Nb.eq]
def vals13 (e : En) : List Nb := e.ms.map (·.v)
theorem own_one {k : Nat} {m : Mx} {n : Int} (hm : MxR m) (hw : wide m.v n = true) (hy : mayK k m n = true) : wide m.v m.v.w = true ∧ matK k m m.v = true := by
  simp only [wide, Bool.and_eq_true, beq_iff_eq] at hw
  obtain ⟨e, ho⟩ := hw
  subst e
  refine ⟨by simp [wide, ho], ?_⟩
  match k with
  | 0 => simp only [mayK, matK, Bool.and_eq_true] at hy ⊢; exact ⟨hy.1, atmSelf _, hy.2.1⟩
  | 1 => exact eqSelf _
  | 2 => simp only [mayK, matK, Bool.and_eq_true] at hy ⊢; exact ⟨hy.2.1, aliSelf hm.v⟩
  | 3 => simp only [mayK, matK, Bool.and_eq_true] at hy ⊢; exact ⟨hy.1, aliSelf hm.v⟩
  | k + 4 => simp only [mayK, matK, Bool.and_eq_true] at hy ⊢; exact ⟨hy.1, atmSelf _, hy.2.1⟩
theorem own_all {t : Tb} {e : En} (hm : ∀ m ∈ e.ms, MxR m) (hc : chkB t e = true) : findB t (vals13 e) = true ∧ hitB t (vals13 e) e = true := by
  simp only [chkB, enMay, mmsB, Bool.and_eq_true, beq_iff_eq] at hc
  obtain ⟨ht, ⟨hl, hall⟩, _⟩ := hc
  obtain ⟨_, r2, _⟩ := tab_row ht
  have hg := fun k (h : k < e.ms.length) => allI_get e.ms 0 hall k h
  have hkey : ∀ k (h : k < e.ms.length), (vals13 e).getD k nb0 = e.ms[k].v := fun k h => by simp [vals13, h]
  have hws : ∀ k (h : k < e.ms.length), wide e.ms[k].v (t.ws.getD k 0) = true ∧ mayK (t.ks.getD k 0) e.ms[k] (t.ws.getD k 0) = true := fun k h => by
    have := hg k h
    rw [Nat.zero_add] at this
    simpa [mmB] using this
  have hlen : (vals13 e).length = e.ms.length := by simp [vals13]
  constructor
  · simp only [findB, Bool.and_eq_true, beq_iff_eq]
    refine ⟨ht, by omega, allI_yes _ 0 (fun k h => ?_)⟩
    have h' : k < e.ms.length := by omega
    have e1 : (vals13 e)[k] = e.ms[k].v := by simp [vals13]
    rw [Nat.zero_add, e1]
    exact (hws k h').1
  · simp only [hitB, Bool.and_eq_true, beq_iff_eq]
    refine ⟨by omega, allI_yes _ 0 (fun k h => ?_)⟩
    rw [Nat.zero_add]
    simp only [mtB, Bool.and_eq_true]
    rw [hkey k h]
    exact own_one (hm _ (List.getElem_mem h)) (hws k h).1 (hws k h).2
theorem find_range {t : Tb} {es : List En} {keys : List Nb} (hb : findB t keys = true) (e : En) (he : e ∈ es) (hh : hitB t keys e = true) : 0 ≤ findE t es keys ∧ findE t es keys < es.length := by
  unfold findE
  rw [hb, if_pos rfl]
  obtain ⟨j, hj, rfl⟩ := List.mem_iff_getElem.1 he
  have hmem : j ∈ idxsTo (hitB t keys) es es.length := (idxs_mem _ _ _ _).2 ⟨hj, hj, hh⟩
  cases hbst : bestL (wtEn t es) (idxsTo (hitB t keys) es es.length) with
  | none => rw [best_none _ _ hbst] at hmem; simp at hmem
  | some i =>
    have hi : i ∈ idxsTo (hitB t keys) es es.length := by
      rcases bestL_mem _ _ _ _ hbst with h | h
      · exact h
      · cases h
    obtain ⟨h1, _, _⟩ := (idxs_mem _ _ _ _).1 hi
    simp only [bestC]
    omega
theorem find_alone {t : Tb} {keys : List Nb} (hb : findB t keys = true) (e : En) (hh : hitB t keys e = true) : findE t [e] keys = 0 := by
  have := find_range hb e (es := [e]) (by simp) hh
  simp only [List.length_singleton] at this
  omega
theorem ins_ok {t : Tb} {l : List En} {e : En} (h : insI t l e = 0) : chkB t e = true := by
  unfold insI at h
  cases hc : chkB t e
  · rw [hc] at h; simp at h
  · rfl
end Go.Proofs.Ytoonlpdohhconaa
