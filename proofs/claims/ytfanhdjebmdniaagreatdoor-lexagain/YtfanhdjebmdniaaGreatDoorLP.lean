/- Words of two texts with a byte 10 between. -/
import Derived.Test.YtfanhdjebmdniaaGreatDoorLM
namespace Go.Proofs.YtfanhdjebmdniaaGreatDoor
open Go.RowKit

theorem tw_app {P : UInt8 → Bool} {r b : List UInt8} (hP : P 10 = false) : (r ++ 10 :: b).takeWhile P = r.takeWhile P ∧ (r ++ 10 :: b).dropWhile P = r.dropWhile P ++ 10 :: b := by
  induction r with
  | nil => simp [hP]
  | cons c r ih =>
    rw [List.cons_append, List.takeWhile_cons, List.takeWhile_cons, List.dropWhile_cons, List.dropWhile_cons, ih.1, ih.2]
    cases P c <;> simp
theorem db_app (r b : List UInt8) : (r ++ 10 :: b).dropWhile isBl = if r.dropWhile isBl = [] then b.dropWhile isBl else r.dropWhile isBl ++ 10 :: b := by
  induction r with
  | nil =>
    have h : isBl 10 = true := by decide +kernel
    simp [h]
  | cons c r ih =>
    rw [List.cons_append, List.dropWhile_cons, List.dropWhile_cons]
    cases isBl c
    · simp
    · simp only [if_true]; exact ih
theorem n10_10 : n10 10 = false := by decide +kernel
theorem isW_ten : isW 10 = false := by decide +kernel
theorem isRem_app {r b : List UInt8} (h : r ≠ []) : isRem (r ++ 10 :: b) = isRem r := by
  match r, h with
  | [c], _ => simp [isRem, Lib.hasPrefix, List.isPrefixOf]
  | c :: d :: r, _ => simp [isRem, Lib.hasPrefix, List.isPrefixOf]
theorem skR_nil : skR [] = [] := skR_no rfl
theorem skR_app (b : List UInt8) (r : List UInt8) (h : r ≠ []) : skR (r ++ 10 :: b) = if skR r = [] then skip b else skR r ++ 10 :: b := by
  induction hn : r.length using Nat.strongRecOn generalizing r with
  | _ n ih =>
    cases hr : isRem r with
    | false =>
      rw [skR_no (by rw [isRem_app h]; exact hr), skR_no hr, if_neg h]
    | true =>
      rw [skR_yes (by rw [isRem_app h]; exact hr), skR_yes hr, (tw_app n10_10).2, db_app]
      by_cases he : (r.dropWhile n10).dropWhile isBl = []
      · rw [if_pos he, he, skR_nil, if_pos rfl]; rfl
      · rw [if_neg he]
        exact ih _ (by rw [← hn]; exact rem_less hr) _ he rfl
theorem skip_app (r b : List UInt8) : skip (r ++ 10 :: b) = if skip r = [] then skip b else skip r ++ 10 :: b := by
  unfold skip
  rw [db_app]
  by_cases he : r.dropWhile isBl = []
  · rw [if_pos he, he, skR_nil, if_pos rfl]
  · rw [if_neg he]
    exact skR_app b _ he
theorem sgn_app {r b : List UInt8} : sgn (r ++ 10 :: b) = sgn r := by
  have h10 : ∀ s ∈ sgs, (10 : UInt8) ∉ s := by decide +kernel
  unfold sgn
  congr 1
  have key : ∀ s : List UInt8, (10 : UInt8) ∉ s → s.isPrefixOf (r ++ 10 :: b) = s.isPrefixOf r := fun s hs => by
    cases h : s.isPrefixOf r with
    | true =>
      rw [List.isPrefixOf_iff_prefix] at h ⊢
      exact h.trans (List.prefix_append _ _)
    | false =>
      cases h2 : s.isPrefixOf (r ++ 10 :: b) with
      | false => rfl
      | true =>
        rw [List.isPrefixOf_iff_prefix] at h2
        exfalso
        rcases Nat.lt_or_ge r.length s.length with hl | hl
        · obtain ⟨t, ht⟩ := h2
          have e : (s ++ t)[r.length]? = some 10 := by rw [ht]; simp
          rw [List.getElem?_append_left hl] at e
          exact hs (List.mem_of_getElem? e)
        · have : s <+: r := List.prefix_of_prefix_length_le h2 (List.prefix_append _ _) hl
          rw [← List.isPrefixOf_iff_prefix, h] at this
          cases this
  generalize sgs = l at h10
  induction l with
  | nil => rfl
  | cons s l ih =>
    rw [List.find?_cons, List.find?_cons, key s (h10 s (by simp)), ih (fun x hx => h10 x (by simp [hx]))]
theorem wdA_app (r b : List UInt8) : wdA (r ++ 10 :: b) = ((wdA r).1, (wdA r).2 ++ 10 :: b) := by
  unfold wdA
  rw [(tw_app isW_ten).1, (tw_app isW_ten).2]
  cases r.takeWhile isW with
  | nil =>
    simp only [wd1]
    rw [sgn_app, List.drop_append_of_le_length (sgn_pre _).2]
  | cons c l =>
    unfold wd1
    simp only
    split
    · split <;> rfl
    · rfl
theorem drop_c10 (P : UInt8 → Bool) (l : List UInt8) : c10 (l.dropWhile P) ≤ c10 l := by have := dropW_c10 P l; omega
theorem skR_c10 (r : List UInt8) : c10 (skR r) ≤ c10 r := by
  induction hn : r.length using Nat.strongRecOn generalizing r with
  | _ n ih =>
    cases h : isRem r with
    | false => rw [skR_no h]; exact Nat.le_refl _
    | true =>
      rw [skR_yes h]
      exact Nat.le_trans (ih _ (by rw [← hn]; exact rem_less h) _ rfl) (Nat.le_trans (drop_c10 _ _) (drop_c10 _ _))
theorem skip_c10 (r : List UInt8) : c10 (skip r) ≤ c10 r := Nat.le_trans (skR_c10 _) (drop_c10 _ _)
def LR.then (x : LR) (f : List (Wd × Nat) → LR) : LR := match x with | .error k => .error k | .ok ws => f ws
theorem LR.app_then (a : List (Wd × Nat)) (x y : LR) : LR.app a (x.then fun ws => LR.app ws y) = (LR.app a x).then fun ws => LR.app ws y := by
  cases x with
  | error k => rfl
  | ok ws => exact LR.app_app a ws y
theorem tk_app (b : List UInt8) (r : List UInt8) (n : Nat) (h : r ≠ []) :
    tk (r ++ 10 :: b) n = (tk r n).then fun ws => LR.app ws (tk (skip b) (n + c10 r + 1 + c10 b - c10 (skip b))) := by
  induction hl : r.length using Nat.strongRecOn generalizing r n with
  | _ m ih =>
    have hne : r ++ 10 :: b ≠ [] := by simp
    cases hw : wdA r with
    | mk o r' =>
      have hw2 := wdA_app r b
      rw [hw] at hw2
      have hc := wdA_c10 r
      rw [hw] at hc
      simp only at hw2 hc
      cases o with
      | none => rw [tk_none hne hw2, tk_none h hw]; rfl
      | some x =>
        have hless := wdA_less hw
        have hsk := skip_le r'
        have hcJ : c10 (r' ++ 10 :: b) = c10 r' + 1 + c10 b := by rw [c10_app]; simp [c10]; omega
        rw [tk_some hne hw2, tk_some h hw, skip_app, hcJ]
        by_cases he : skip r' = []
        · rw [if_pos he, he, tk_nil, hc]
          simp only [LR.then, LR.app, List.append_nil]
          congr 2; omega
        · have hcS : c10 (skip r' ++ 10 :: b) = c10 (skip r') + 1 + c10 b := by rw [c10_app]; simp [c10]; omega
          have hcl := skip_c10 r'
          rw [if_neg he, hcS, show n + (c10 r' + 1 + c10 b) - (c10 (skip r') + 1 + c10 b) = n + c10 r' - c10 (skip r') by omega]
          rw [ih _ (by rw [← hl]; omega) _ _ he rfl, LR.app_then]
          congr 2
          funext ws
          congr 2
          rw [← hc]; omega
/- lines further down. -/
def LR.shift (d : Nat) : LR → LR
  | .error k => .error (k + d)
  | .ok ws => .ok (ws.map fun x => (x.1, x.2 + d))
theorem LR.shift_app (d : Nat) (a : List (Wd × Nat)) (x : LR) : LR.shift d (LR.app a x) = LR.app (a.map fun x => (x.1, x.2 + d)) (LR.shift d x) := by
  cases x with
  | error k => rfl
  | ok ws => simp [LR.app, LR.shift]
theorem tk_shift (r : List UInt8) (n d : Nat) : tk r (n + d) = LR.shift d (tk r n) := by
  induction hl : r.length using Nat.strongRecOn generalizing r n with
  | _ m ih =>
    by_cases h : r = []
    · rw [h, tk_nil, tk_nil]; rfl
    · cases hw : wdA r with
      | mk o r' =>
        cases o with
        | none => rw [tk_none h hw, tk_none h hw]; rfl
        | some x =>
          have hless := wdA_less hw
          have hsk := skip_le r'
          have hc := skip_c10 r'
          rw [tk_some h hw, tk_some h hw, LR.shift_app, show n + d + c10 r' - c10 (skip r') = (n + c10 r' - c10 (skip r')) + d by omega, ih _ (by rw [← hl]; omega) _ _ rfl]
          rfl
theorem toks_join (a b : List UInt8) : toks (a ++ 10 :: b) = (toks a).then fun ws => LR.app ws (LR.shift (c10 a + 1) (toks b)) := by
  unfold toks
  have hcJ : c10 (a ++ 10 :: b) = c10 a + 1 + c10 b := by rw [c10_app]; simp [c10]; omega
  have ha := skip_c10 a
  have hb := skip_c10 b
  rw [skip_app, hcJ, ← tk_shift]
  by_cases he : skip a = []
  · rw [if_pos he, he, tk_nil]
    simp only [LR.then]
    rw [LR.app_nil]
    congr 1; omega
  · have hcS : c10 (skip a ++ 10 :: b) = c10 (skip a) + 1 + c10 b := by rw [c10_app]; simp [c10]; omega
    rw [if_neg he, hcS, show c10 a + 1 + c10 b - (c10 (skip a) + 1 + c10 b) = c10 a - c10 (skip a) by omega, tk_app b _ _ he]
    congr 2
    funext ws
    congr 2
    omega
end Go.Proofs.YtfanhdjebmdniaaGreatDoor
