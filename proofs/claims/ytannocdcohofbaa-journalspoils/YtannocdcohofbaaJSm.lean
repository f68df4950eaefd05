/- A frame of which one byte is another one has no record. -/
import Derived.Test.YtannocdcohofbaaJBa
namespace Go.Proofs.Ytannocdcohofbaa
open Go.RowKit

theorem numL_setx (l : List Nat) (j c : Nat) (hj : j < l.length) (hc : c < 256) (hl : ∀ x ∈ l, x < 256) : numL (l.set j (l[j] ^^^ c)) = numL l ^^^ 2 ^ (8 * j) * c := by
  induction l generalizing j with
  | nil => simp at hj
  | cons x l ih =>
    have hx : x < 256 := hl x (List.mem_cons_self ..)
    have h1 : ∀ y ∈ l, y < 256 := fun y hy => hl y (List.mem_cons_of_mem _ hy)
    cases j with
    | zero =>
      simp only [List.set_cons_zero, List.getElem_cons_zero, numL]
      rw [add_xor (xor_byte hx hc), add_xor hx, Nat.xor_assoc]; simp
    | succ j =>
      have hj' : j < l.length := by simpa using hj
      simp only [List.set_cons_succ, List.getElem_cons_succ, numL]
      rw [ih j hj' h1, add_xor hx, add_xor hx]
      have e : 256 * (numL l ^^^ 2 ^ (8 * j) * c) = 256 * numL l ^^^ 2 ^ (8 * (j + 1)) * c := by
        have := Nat.shiftLeft_xor_distrib (a := numL l) (b := 2 ^ (8 * j) * c) (i := 8)
        simp only [Nat.shiftLeft_eq] at this
        have e2 : (2 : Nat) ^ (8 * (j + 1)) * c = 2 ^ (8 * j) * c * 2 ^ 8 := by
          rw [show 8 * (j + 1) = 8 * j + 8 by omega, Nat.pow_add, Nat.mul_right_comm]
        rw [e2, Nat.mul_comm 256, Nat.mul_comm 256, ← this]
      rw [e]
      simp only [Nat.xor_assoc, Nat.xor_comm x]
theorem xor_ne {x c : Nat} (h : c ≠ 0) : x ^^^ c ≠ x := by
  intro e
  have := congrArg (fun z => x ^^^ z) e
  simp only [← Nat.xor_assoc, Nat.xor_self, Nat.zero_xor] at this
  exact h this
theorem set_bytes (l : List Nat) (j c : Nat) (hj : j < l.length) (hc : c < 256) (hl : ∀ x ∈ l, x < 256) : ∀ x ∈ l.set j (l[j] ^^^ c), x < 256 := by
  intro x hx
  rcases List.mem_or_eq_of_mem_set hx with h | h
  · exact hl x h
  · rw [h]; exact xor_byte (hl _ (List.getElem_mem hj)) hc
theorem sum_spoil (r : List Nat) (j c : Nat) (hj : j < r.length) (hc : c < 256) (h0 : c ≠ 0) (hr : ∀ x ∈ r, x < 256) : sumF 2 (r.set j (r[j] ^^^ c)) ≠ sumF 2 r := by
  intro e
  have e2 : crcF 0xedb88320 0xffffffff (r.set j (r[j] ^^^ c)) ^^^ 0xffffffff = crcF 0xedb88320 0xffffffff r ^^^ 0xffffffff := e
  have e3 := congrArg (fun z => z ^^^ 0xffffffff) e2
  simp only [Nat.xor_assoc, Nat.xor_self, Nat.xor_zero] at e3
  exact h0 (crc_spoil (w := 31) (p := 0xedb88320) (by decide) (by decide) 0xffffffff c (8 * j) r _ hr (set_bytes r j c hj hc hr) rfl (by simp) (Nat.lt_of_lt_of_le hc (by decide)) (by omega) (numL_setx r j c hj hc hr) e3)
theorem frm_get4 (r : List Nat) (q : Nat) : (frm r)[4 + q]? = (le4 (sumF 2 r) ++ r)[q]? := by
  unfold frm
  rw [List.getElem?_append_right (by rw [le4_length]; omega), le4_length, Nat.add_sub_cancel_left]
theorem frm_set4 (r : List Nat) (q y : Nat) : (frm r).set (4 + q) y = le4 r.length ++ (le4 (sumF 2 r) ++ r).set q y := by
  unfold frm
  rw [List.set_append_right _ _ (by rw [le4_length]; omega), le4_length, Nat.add_sub_cancel_left]
theorem parts8 (a z b t : List Nat) (ha : a.length = 4) (hz : z.length = 4) : ((a ++ (z ++ b)) ++ t).drop 8 = b ++ t ∧ (((a ++ (z ++ b)) ++ t).drop 4).take 4 = z := by
  match a, ha, z, hz with
  | [a0, a1, a2, a3], _, [z0, z1, z2, z3], _ => exact ⟨rfl, rfl⟩
theorem fst_spoil (r t : List Nat) (hk : okR r) (hr : ∀ x ∈ r, x < 256) (q c x : Nat) (hx : (frm r)[4 + q]? = some x) (hc : c < 256) (h0 : c ≠ 0) : fstR ((frm r).set (4 + q) (x ^^^ c) ++ t) = [] := by
  rw [frm_get4] at hx
  rw [frm_set4]
  refine fstR_no fun h => ?_
  have hn : num4 ((le4 r.length ++ (le4 (sumF 2 r) ++ r).set q (x ^^^ c)) ++ t) = r.length := by
    rw [List.append_assoc, num4_le4 _ _ (by have := hk.2; omega)]
  have h5 := h.2.2.2.2
  rw [hn] at h5
  by_cases hq4 : q < 4
  · rw [List.set_append_left _ _ (by rw [le4_length]; exact hq4)] at h5
    rw [List.getElem?_append_left (by rw [le4_length]; exact hq4)] at hx
    have hl : ((le4 (sumF 2 r)).set q (x ^^^ c)).length = 4 := by rw [List.length_set, le4_length]
    have hzq : ((le4 (sumF 2 r)).set q (x ^^^ c))[q]? = some (x ^^^ c) := by
      rw [List.getElem?_set_self (by rw [le4_length]; exact hq4)]
    generalize (le4 (sumF 2 r)).set q (x ^^^ c) = z at h5 hl hzq
    obtain ⟨e8, e4⟩ := parts8 (le4 r.length) z r t (le4_length _) hl
    rw [e8, e4, List.take_left] at h5
    rw [← h5, hx] at hzq
    injection hzq with hzq
    exact xor_ne h0 hzq.symm
  · rw [List.set_append_right _ _ (by rw [le4_length]; omega), le4_length] at h5
    rw [List.getElem?_append_right (by rw [le4_length]; omega), le4_length] at hx
    obtain ⟨hjl, rfl⟩ := List.getElem?_eq_some_iff.1 hx
    have hss := sum_spoil r (q - 4) c hjl hc h0 hr
    have hzb := set_bytes r (q - 4) c hjl hc hr
    have hl : (r.set (q - 4) (r[q - 4] ^^^ c)).length = r.length := List.length_set
    generalize r.set (q - 4) (r[q - 4] ^^^ c) = z at h5 hss hzb hl
    obtain ⟨e8, e4⟩ := parts8 (le4 r.length) (le4 (sumF 2 r)) z t (le4_length _) (le4_length _)
    rw [e8, e4, ← hl, List.take_left] at h5
    exact hss (le4_inj (sum32 z hzb) (sum32 r hr) h5)
theorem rd_spoil (rs : List (List Nat)) (ok : ∀ r ∈ rs, okR r ∧ ∀ y ∈ r, y < 256) (k q c x : Nat) (hk : k < rs.length) (hq : q < 4 + rs[k].length) (hc : c < 256) (h0 : c ≠ 0) (hx : (frms rs)[used (rs.take k) + (4 + q)]? = some x) : rd ((frms rs).set (used (rs.take k) + (4 + q)) (x ^^^ c)) = rs.take k := by
  have e : rs = rs.take k ++ rs[k] :: rs.drop (k + 1) := by rw [List.getElem_cons_drop hk, List.take_append_drop]
  have e2 : frms rs = frms (rs.take k) ++ (frm rs[k] ++ frms (rs.drop (k + 1))) := (congrArg frms e).trans (by rw [frms_append, frms_cons])
  have hlt : (frms (rs.take k)).length = used (rs.take k) := frms_length _
  have hx2 : (frm rs[k])[4 + q]? = some x := by
    rw [← hx, e2, List.getElem?_append_right (by omega), hlt, Nat.add_sub_cancel_left, List.getElem?_append_left (by rw [frm_length]; omega)]
  have hs : (frms rs).set (used (rs.take k) + (4 + q)) (x ^^^ c) = frms (rs.take k) ++ ((frm rs[k]).set (4 + q) (x ^^^ c) ++ frms (rs.drop (k + 1))) := by
    rw [e2, List.set_append_right _ _ (by omega), hlt, Nat.add_sub_cancel_left, List.set_append_left _ _ (by rw [frm_length]; omega)]
  rw [hs, rd_frms _ _ (fun r h => (ok r (List.mem_of_mem_take h)).1), rd_stop _ (fst_spoil _ _ (ok _ (List.getElem_mem hk)).1 (ok _ (List.getElem_mem hk)).2 q c x hx2 hc h0), List.append_nil]
def begsOf (rs : List (List Nat)) : List Nat := (List.range rs.length).map (fun i => used (rs.take i))
theorem begsOf_length (rs : List (List Nat)) : (begsOf rs).length = rs.length := by simp [begsOf]
theorem begsOf_get (rs : List (List Nat)) (i : Nat) (h : i < (begsOf rs).length) : (begsOf rs)[i] = used (rs.take i) := by simp [begsOf]
theorem begsOf_snoc (rs : List (List Nat)) (r : List Nat) : begsOf (rs ++ [r]) = begsOf rs ++ [used rs] := by
  apply List.ext_getElem
  · simp [begsOf]
  · intro i h1 h2
    rw [begsOf_get]
    by_cases hi : i < rs.length
    · rw [List.getElem_append_left (by rw [begsOf_length]; exact hi), begsOf_get, List.take_append_of_le_length (by omega)]
    · have : i = rs.length := by rw [begsOf_length, List.length_append, List.length_singleton] at h1; omega
      subst this
      rw [List.getElem_append_right (by rw [begsOf_length]; exact Nat.le_refl _)]
      simp
end Go.Proofs.Ytannocdcohofbaa
