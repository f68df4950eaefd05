/- Records as bytes: what a frame is, and what the records are that bytes begin with. -/
import Derived.Test.YtannocdcohofbaaSuMath
namespace Go.Proofs.Ytannocdcohofbaa

def le4 (n : Nat) : List Nat := [n % 256, n / 256 % 256, n / 65536 % 256, n / 16777216 % 256]
def num4 (b : List Nat) : Nat := b.getD 0 0 + 256 * b.getD 1 0 + 65536 * b.getD 2 0 + 16777216 * b.getD 3 0
theorem le4_length (n : Nat) : (le4 n).length = 4 := rfl
theorem num4_le4 (n : Nat) (t : List Nat) (h : n < 4294967296) : num4 (le4 n ++ t) = n := by
  simp [num4, le4]
  omega
theorem le4_inj {m n : Nat} (hm : m < 4294967296) (hn : n < 4294967296) (h : le4 m = le4 n) : m = n := by
  have h1 := num4_le4 m [] hm
  have h2 := num4_le4 n [] hn
  rw [h] at h1
  omega
def frm (xs : List Nat) : List Nat := le4 xs.length ++ (le4 (sumF 2 xs) ++ xs)
theorem frm_length (xs : List Nat) : (frm xs).length = xs.length + 8 := by simp [frm, le4]
theorem frm_bytes (xs : List Nat) (h : ∀ x ∈ xs, x < 256) : ∀ x ∈ frm xs, x < 256 := by
  intro x hx
  simp only [frm, le4, List.cons_append, List.nil_append, List.mem_cons] at hx
  rcases hx with rfl | rfl | rfl | rfl | rfl | rfl | rfl | rfl | hx
  all_goals first | exact h x hx | exact Nat.mod_lt _ (by decide)
/- The record of the frame that bytes begin with; none, if there is none. -/
abbrev isR (b : List Nat) : Prop := 8 ≤ b.length ∧ 1 ≤ num4 b ∧ num4 b ≤ 65537 ∧ num4 b ≤ b.length - 8 ∧ le4 (sumF 2 ((b.drop 8).take (num4 b))) = (b.drop 4).take 4
def fstR (b : List Nat) : List Nat := if isR b then (b.drop 8).take (num4 b) else []
theorem fstR_no {b : List Nat} (h : ¬ isR b) : fstR b = [] := if_neg h
theorem fstR_yes {b : List Nat} (h : isR b) : fstR b = (b.drop 8).take (num4 b) := if_pos h
theorem fstR_len {b : List Nat} (h : isR b) : (fstR b).length = num4 b := by rw [fstR_yes h]; simp; have := h.2.2.2.1; omega
theorem fstR_le (b : List Nat) (h : fstR b ≠ []) : 1 ≤ (fstR b).length ∧ (fstR b).length ≤ 65537 ∧ (fstR b).length + 8 ≤ b.length ∧ fstR b = (b.drop 8).take (fstR b).length := by
  by_cases hr : isR b
  · rw [fstR_len hr, fstR_yes hr]
    have := hr.1; have := hr.2.2.2.1
    exact ⟨hr.2.1, hr.2.2.1, by omega, rfl⟩
  · exact absurd (fstR_no hr) h
theorem sum32 (xs : List Nat) (h : ∀ x ∈ xs, x < 256) : sumF 2 xs < 4294967296 := sumF_lt 2 xs h
abbrev okR (xs : List Nat) : Prop := 1 ≤ xs.length ∧ xs.length ≤ 65537
theorem frm_drop8 (xs t : List Nat) : (frm xs ++ t).drop 8 = xs ++ t := by simp [frm, le4]
theorem frm_drop4 (xs t : List Nat) : ((frm xs ++ t).drop 4).take 4 = le4 (sumF 2 xs) := by simp [frm, le4]
theorem frm_num4 (xs t : List Nat) (h : xs.length < 4294967296) : num4 (frm xs ++ t) = xs.length := by
  have : frm xs ++ t = le4 xs.length ++ (le4 (sumF 2 xs) ++ xs ++ t) := by simp [frm]
  rw [this, num4_le4 _ _ h]
theorem fstR_frm (xs t : List Nat) (hk : okR xs) : fstR (frm xs ++ t) = xs := by
  have hn := frm_num4 xs t (by have := hk.2; omega)
  have h8 := frm_drop8 xs t
  have ht : ((frm xs ++ t).drop 8).take (num4 (frm xs ++ t)) = xs := by rw [hn, h8]; simp
  have hr : isR (frm xs ++ t) := by
    refine ⟨by simp [frm_length]; omega, by rw [hn]; exact hk.1, by rw [hn]; exact hk.2, by rw [hn]; simp [frm_length]; omega, ?_⟩
    rw [ht, frm_drop4]
  rw [fstR_yes hr, ht]
/- The records that bytes begin with, each with its place. -/
def its : Nat → Nat → List Nat → List (Nat × List Nat)
  | 0, _, _ => []
  | f + 1, pos, b => if fstR b = [] then [] else (pos, fstR b) :: its f (pos + (8 + (fstR b).length)) (b.drop (8 + (fstR b).length))
def rd (b : List Nat) : List (List Nat) := (its b.length 0 b).map (·.2)
def used (rs : List (List Nat)) : Nat := (rs.map (fun r => 8 + r.length)).sum
theorem used_nil : used [] = 0 := rfl
theorem used_cons (r : List Nat) (rs : List (List Nat)) : used (r :: rs) = 8 + r.length + used rs := by simp [used]
theorem used_append (a b : List (List Nat)) : used (a ++ b) = used a + used b := by simp [used]
theorem its_stop (f pos : Nat) (b : List Nat) (h : fstR b = []) : its f pos b = [] := by
  cases f with
  | zero => rfl
  | succ f => simp [its, h]
theorem its_step (f pos : Nat) (b : List Nat) (hb : b.length ≤ f) (h : fstR b ≠ []) : its f pos b = (pos, fstR b) :: its (f - 1) (pos + (8 + (fstR b).length)) (b.drop (8 + (fstR b).length)) := by
  cases f with
  | zero => have := fstR_le b h; omega
  | succ f => simp [its, h]
theorem its_fuel : ∀ (f g pos : Nat) (b : List Nat), b.length ≤ f → b.length ≤ g → its f pos b = its g pos b := by
  intro f
  induction f with
  | zero =>
    intro g pos b h _
    have hb : b = [] := List.length_eq_zero_iff.1 (by omega)
    have h0 : fstR b = [] := by rw [hb]; exact fstR_no (fun k => by have := k.1; simp at this)
    rw [its_stop _ _ _ h0, its_stop _ _ _ h0]
  | succ f ih =>
    intro g pos b h1 h2
    by_cases h : fstR b = []
    · rw [its_stop _ _ _ h, its_stop _ _ _ h]
    · have hl := fstR_le b h
      rw [its_step _ _ _ h1 h, its_step _ _ _ h2 h, Nat.add_sub_cancel]
      rw [ih (g - 1) _ _ (by rw [List.length_drop]; omega) (by rw [List.length_drop]; omega)]
theorem its_shift : ∀ (f pos : Nat) (b : List Nat), (its f pos b).map (·.2) = (its f 0 b).map (·.2) := by
  intro f
  induction f with
  | zero => intro pos b; rfl
  | succ f ih =>
    intro pos b
    by_cases h : fstR b = []
    · rw [its_stop _ _ _ h, its_stop _ _ _ h]
    · simp only [its, if_neg h, List.map_cons]
      rw [ih (pos + _), ih (0 + _)]
theorem rd_stop (b : List Nat) (h : fstR b = []) : rd b = [] := by rw [rd, its_stop _ _ _ h]; rfl
theorem rd_step (b : List Nat) (h : fstR b ≠ []) : rd b = fstR b :: rd (b.drop (8 + (fstR b).length)) := by
  have hl := fstR_le b h
  rw [rd, its_step _ _ _ (Nat.le_refl _) h, List.map_cons, its_shift, rd]
  rw [its_fuel (b.length - 1) (b.drop (8 + (fstR b).length)).length _ _ (by rw [List.length_drop]; omega) (Nat.le_refl _)]
theorem rd_frm (xs t : List Nat) (hk : okR xs) : rd (frm xs ++ t) = xs :: rd t := by
  have e := fstR_frm xs t hk
  have hne : fstR (frm xs ++ t) ≠ [] := by rw [e]; intro h; rw [h] at hk; exact absurd hk.1 (by simp)
  rw [rd_step _ hne, e]
  congr 2
  rw [show 8 + xs.length = (frm xs).length by rw [frm_length]; omega, List.drop_left]
/- Bytes that records make. -/
def frms (rs : List (List Nat)) : List Nat := (rs.map frm).flatten
theorem frms_nil : frms [] = [] := rfl
theorem frms_cons (r : List Nat) (rs : List (List Nat)) : frms (r :: rs) = frm r ++ frms rs := by simp [frms]
theorem frms_snoc (rs : List (List Nat)) (r : List Nat) : frms (rs ++ [r]) = frms rs ++ frm r := by simp [frms]
theorem frms_length (rs : List (List Nat)) : (frms rs).length = used rs := by
  induction rs with
  | nil => rfl
  | cons r rs ih => rw [frms_cons, used_cons, List.length_append, ih, frm_length]; omega
theorem rd_frms (rs : List (List Nat)) (t : List Nat) (h : ∀ r ∈ rs, okR r) : rd (frms rs ++ t) = rs ++ rd t := by
  induction rs with
  | nil => rfl
  | cons r rs ih =>
    rw [frms_cons, List.append_assoc, rd_frm r _ (h r (List.mem_cons_self ..)), ih (fun x hx => h x (List.mem_cons_of_mem _ hx))]
    rfl
theorem rd_nil : rd [] = [] := rfl
theorem rd_frms_all (rs : List (List Nat)) (h : ∀ r ∈ rs, okR r) : rd (frms rs) = rs := by
  have := rd_frms rs [] h
  rw [rd_nil, List.append_nil, List.append_nil] at this
  exact this
theorem rd_used : ∀ (n : Nat) (b : List Nat), b.length ≤ n → used (rd b) ≤ b.length := by
  intro n
  induction n with
  | zero => intro b h; rw [show b = [] from List.length_eq_zero_iff.1 (by omega)]; exact Nat.le_refl _
  | succ n ih =>
    intro b h
    by_cases h0 : fstR b = []
    · rw [rd_stop b h0]; exact Nat.zero_le _
    · have hl := fstR_le b h0
      have := ih (b.drop (8 + (fstR b).length)) (by rw [List.length_drop]; omega)
      rw [rd_step b h0, used_cons]
      rw [List.length_drop] at this
      omega
theorem rd_ok : ∀ (n : Nat) (b : List Nat), b.length ≤ n → ∀ r ∈ rd b, okR r := by
  intro n
  induction n with
  | zero => intro b h; rw [show b = [] from List.length_eq_zero_iff.1 (by omega), rd_nil]; intro r hr; simp at hr
  | succ n ih =>
    intro b h r hr
    by_cases h0 : fstR b = []
    · rw [rd_stop b h0] at hr; simp at hr
    · have hl := fstR_le b h0
      rw [rd_step b h0] at hr
      rcases List.mem_cons.1 hr with rfl | hr
      · exact ⟨hl.1, hl.2.1⟩
      · exact ih _ (by rw [List.length_drop]; omega) r hr
/- A part of a frame has no record. -/
theorem fstR_part (xs : List Nat) (k : Nat) (hl : xs.length < 4294967296) (hk : k < (frm xs).length) : fstR ((frm xs).take k) = [] := by
  refine fstR_no fun h => ?_
  rw [frm_length] at hk
  have h1 := h.1
  have h4 := h.2.2.2.1
  rw [List.length_take, frm_length] at h1 h4
  have hn : num4 ((frm xs).take k) = xs.length := by
    have e : (frm xs).take k = le4 xs.length ++ (le4 (sumF 2 xs) ++ xs).take (k - 4) := by
      rw [frm, List.take_append, List.take_of_length_le (by rw [le4_length]; omega), le4_length]
    rw [e, num4_le4 _ _ hl]
  rw [hn] at h4
  omega
theorem rd_part (rs : List (List Nat)) (r : List Nat) (k : Nat) (h : ∀ r ∈ rs, okR r) (hr : okR r) (hk : k < (frm r).length) : rd (frms rs ++ (frm r).take k) = rs := by
  rw [rd_frms rs _ h, rd_stop _ (fstR_part r k (by have := hr.2; omega) hk), List.append_nil]
end Go.Proofs.Ytannocdcohofbaa
