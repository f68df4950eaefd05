/- LexAgain: words told with blanks between them are read as the same words. -/
import Derived.Test.YtfanhdjebmdniaaGreatDoorLZ
namespace Go.Proofs.YtfanhdjebmdniaaGreatDoor
open Go.RowKit

def toldW (x : Wd) : List UInt8 := if x.k = 2 then Lib.decDigits x.v else if x.k = 3 then tx x.w x.v else x.s
def Good (x : Wd) : Prop := (∃ c l, x = ⟨1, c :: l, 0, 0⟩ ∧ (∀ y ∈ c :: l, isW y = true) ∧ isD c = false ∧ (c :: l).length ≤ 255) ∨ (∃ n, x = ⟨2, [], 64, n⟩ ∧ n ≤ 2147483647) ∨ (∃ n v, x = ⟨3, [], n, v⟩ ∧ okN (n : Int) v = true) ∨ (∃ j, j < 27 ∧ x = ⟨4, sgs.getD j [], 0, 0⟩)
theorem sgn_mem {r : List UInt8} (h : sgn r ≠ []) : ∃ j, j < 27 ∧ sgn r = sgs.getD j [] := by
  unfold sgn at h ⊢
  cases hf : sgs.find? (fun s => s.isPrefixOf r) with
  | none => rw [hf] at h; exact absurd rfl h
  | some s =>
    have hm := List.mem_of_find?_eq_some hf
    obtain ⟨j, hj, e⟩ := List.mem_iff_getElem.1 hm
    refine ⟨j, hj, ?_⟩
    simp [List.getD, List.getElem?_eq_getElem hj, e]
theorem tw_all {P : UInt8 → Bool} : ∀ (l : List UInt8), ∀ y ∈ l.takeWhile P, P y = true
  | [], y, h => by simp at h
  | c :: l, y, h => by
    rw [List.takeWhile_cons] at h
    split at h
    · rename_i hc
      rcases List.mem_cons.1 h with rfl | h
      · exact hc
      · exact tw_all l y h
    · simp at h
theorem wdA_good {r r' : List UInt8} {x : Wd} (h : wdA r = (some x, r')) : Good x := by
  unfold wdA at h
  have hall := tw_all (P := isW) r
  cases hr : r.takeWhile isW with
  | nil =>
    rw [hr] at h
    simp only [wd1, Prod.mk.injEq] at h
    obtain ⟨h1, _⟩ := h
    unfold signW at h1
    split at h1
    · cases h1
    · rename_i hne
      injection h1 with h1
      obtain ⟨j, hj, e⟩ := sgn_mem hne
      exact .inr (.inr (.inr ⟨j, hj, by rw [← h1, e]⟩))
  | cons c l =>
    rw [hr] at h hall
    unfold wd1 at h
    simp only at h
    split at h
    · split at h
      · have h1 := (Prod.mk.inj h).1
        unfold wholeW at h1
        split at h1
        · rename_i n hn
          split at h1
          · injection h1 with h1
            exact .inr (.inl ⟨n, h1.symm, puE_lt31 hn⟩)
          · cases h1
        · cases h1
      · have h1 := (Prod.mk.inj h).1
        unfold numW at h1
        split at h1
        · rename_i n v hp
          injection h1 with h1
          exact .inr (.inr (.inl ⟨n, v, h1.symm, (prs_some hp).1⟩))
        · cases h1
    · rename_i hD
      have h1 := (Prod.mk.inj h).1
      unfold nameW at h1
      split at h1
      · rename_i hlen
        injection h1 with h1
        exact .inl ⟨c, l, h1.symm, hall, by simpa using hD, hlen⟩
      · cases h1
theorem W_facts : ∀ c : UInt8, isW c = true → isBl c = false ∧ c ≠ 47 := by
  intro c h
  have hm : c ∈ anL := (isIn_iff anL c).1 h
  have key : ∀ c ∈ anL, isBl c = false ∧ c ≠ 47 := by decide +kernel
  exact key c hm
theorem told_head {x : Wd} (h : Good x) : ∃ c l, toldW x = c :: l ∧ isBl c = false ∧ c ≠ 47 := by
  rcases h with ⟨c, l, rfl, h1, _, _⟩ | ⟨n, rfl, _⟩ | ⟨n, v, rfl, _⟩ | ⟨j, hj, rfl⟩
  · exact ⟨c, l, rfl, W_facts c (h1 c (by simp))⟩
  · obtain ⟨c, l, e, _⟩ := dc_cons n
    exact ⟨c, l, e, W_facts c (dc_D n c (by rw [e]; simp)).2⟩
  · obtain ⟨c, l, e, _⟩ := dc_cons n
    exact ⟨c, l ++ 119 :: hx v, by show tx n v = _; unfold tx; rw [e]; rfl, W_facts c (dc_D n c (by rw [e]; simp)).2⟩
  · have key : ∀ j : Fin 27, ∃ c l, sgs.getD j.val [] = c :: l ∧ isBl c = false ∧ c ≠ 47 := by
      have k2 : ∀ j : Fin 27, (match sgs.getD j.val [] with | [] => false | c :: _ => !isBl c && c != 47) = true := by decide +kernel
      intro j
      have := k2 j
      cases hh : sgs.getD j.val [] with
      | nil => rw [hh] at this; cases this
      | cons c l => rw [hh] at this; simp at this; exact ⟨c, l, rfl, by simpa using this.1, this.2⟩
    exact key ⟨j, hj⟩
theorem told_10 {x : Wd} (h : Good x) : c10 (toldW x) = 0 := by
  rcases h with ⟨c, l, rfl, h1, _, _⟩ | ⟨n, rfl, _⟩ | ⟨n, v, rfl, _⟩ | ⟨j, hj, rfl⟩
  · exact c10_W h1
  · exact c10_W fun y hy => (dc_D n y hy).2
  · exact c10_W (tx_W n v)
  · have key : ∀ j : Fin 27, c10 (sgs.getD j.val []) = 0 := by decide +kernel
    exact key ⟨j, hj⟩
def tl (q : List Wd) : List UInt8 := (q.map fun y => 32 :: toldW y).flatten
theorem tl_cases (q : List Wd) : tl q = [] ∧ q = [] ∨ ∃ y q', q = y :: q' ∧ tl q = 32 :: (toldW y ++ tl q') := by
  cases q with
  | nil => exact .inl ⟨rfl, rfl⟩
  | cons y q' => exact .inr ⟨y, q', rfl, by simp [tl]⟩
theorem tw_tl {run : List UInt8} (q : List Wd) (h : ∀ x ∈ run, isW x = true) : (run ++ tl q).takeWhile isW = run ∧ (run ++ tl q).dropWhile isW = tl q := by
  rcases tl_cases q with ⟨e, _⟩ | ⟨y, q', _, e⟩
  · rw [e, List.append_nil]
    have h2 := takeW_split isW run
    have h3 : run.takeWhile isW = run := by
      have := List.takeWhile_append_of_pos (p := isW) (l₁ := run) (l₂ := []) h
      simpa using this
    have h4 : run.dropWhile isW = [] := by
      have := List.dropWhile_append_of_pos (p := isW) (l₁ := run) (l₂ := []) h
      simpa using this
    exact ⟨h3, h4⟩
  · rw [e]
    exact tw_run h (by decide +kernel)
theorem sg_told (j : Nat) (hj : j < 27) (q : List Wd) : sgn (sgs.getD j [] ++ tl q) = sgs.getD j [] ∧ (sgs.getD j [] ++ tl q).takeWhile isW = [] ∧ (sgs.getD j [] ++ tl q).dropWhile isW = sgs.getD j [] ++ tl q := by
  have k1 : ∀ j : Fin 27, sgn (sgs.getD j.val []) = sgs.getD j.val [] ∧ (match sgs.getD j.val [] with | [] => false | c :: _ => !isW c) = true := by decide +kernel
  have k1' := k1 ⟨j, hj⟩
  simp only at k1'
  have hcons : ∃ c l, sgs.getD j [] = c :: l ∧ isW c = false := by
    have := k1'.2
    cases hh : sgs.getD j [] with
    | nil => rw [hh] at this; cases this
    | cons c l => rw [hh] at this; exact ⟨c, l, rfl, by simpa using this⟩
  refine ⟨?_, ?_, ?_⟩
  · rcases tl_cases q with ⟨e, _⟩ | ⟨y, q', _, e⟩
    · rw [e, List.append_nil]; exact k1'.1
    · rw [e]
      generalize toldW y ++ tl q' = R
      clear k1' hcons e k1
      have key : ∀ j : Fin 27, ∀ R : List UInt8, sgn (sgs.getD j.val [] ++ 32 :: R) = sgs.getD j.val [] := by
        intro j R
        match j with
        | ⟨0, _⟩ | ⟨1, _⟩ | ⟨2, _⟩ | ⟨3, _⟩ | ⟨4, _⟩ | ⟨5, _⟩ | ⟨6, _⟩ | ⟨7, _⟩ | ⟨8, _⟩ | ⟨9, _⟩ | ⟨10, _⟩ | ⟨11, _⟩ | ⟨12, _⟩ | ⟨13, _⟩ | ⟨14, _⟩ | ⟨15, _⟩ | ⟨16, _⟩ | ⟨17, _⟩ | ⟨18, _⟩ | ⟨19, _⟩ | ⟨20, _⟩ | ⟨21, _⟩ | ⟨22, _⟩ | ⟨23, _⟩ | ⟨24, _⟩ | ⟨25, _⟩ | ⟨26, _⟩ => simp [sgn, sgs, List.find?, List.isPrefixOf]
        | ⟨k + 27, h⟩ => omega
      exact key ⟨j, hj⟩ R
  · obtain ⟨c, l, e, hc⟩ := hcons
    rw [e, List.cons_append, List.takeWhile_cons, hc]; simp
  · obtain ⟨c, l, e, hc⟩ := hcons
    rw [e, List.cons_append, List.dropWhile_cons, hc]; simp
theorem wdA_told {x : Wd} (h : Good x) (q : List Wd) : wdA (toldW x ++ tl q) = (some x, tl q) := by
  rcases h with ⟨c, l, rfl, h1, hD, hlen⟩ | ⟨n, rfl, hn⟩ | ⟨n, v, rfl, ho⟩ | ⟨j, hj, rfl⟩
  · obtain ⟨e1, e2⟩ := tw_tl q h1
    unfold wdA
    show wd1 (((c :: l) ++ tl q).takeWhile isW) (((c :: l) ++ tl q).dropWhile isW) = _
    rw [e1, e2]
    unfold wd1
    simp only
    rw [hD]
    simp only [Bool.false_eq_true, if_false]
    unfold nameW
    rw [if_pos hlen]
  · obtain ⟨e1, e2⟩ := tw_tl q (fun y hy => (dc_D n y hy).2)
    unfold wdA
    show wd1 ((Lib.decDigits n ++ tl q).takeWhile isW) ((Lib.decDigits n ++ tl q).dropWhile isW) = _
    rw [e1, e2]
    have ha : (Lib.decDigits n).all isD = true := List.all_eq_true.2 fun x hx => (dc_D n x hx).1
    have hw := whole_dc hn
    obtain ⟨d, l, hd, hD⟩ := dc_cons n
    rw [hd] at ha hw ⊢
    simp only [wd1]
    rw [hD, ha, hw]
    rfl
  · obtain ⟨e1, e2⟩ := tw_tl q (tx_W n v)
    unfold wdA
    show wd1 ((tx n v ++ tl q).takeWhile isW) ((tx n v ++ tl q).dropWhile isW) = _
    rw [e1, e2]
    have ha : (tx n v).all isD = false := by
      cases hh : (tx n v).all isD with
      | false => rfl
      | true =>
        have := List.all_eq_true.1 hh 119 (by unfold tx; simp)
        exact absurd this (by decide +kernel)
    have hp := prs_tx ho
    obtain ⟨d, l, hd, hD⟩ := dc_cons n
    have ht : tx n v = d :: (l ++ 119 :: hx v) := by unfold tx; rw [hd]; rfl
    rw [ht] at ha hp ⊢
    simp only [wd1]
    rw [hD, ha]
    simp only [if_true, Bool.false_eq_true, if_false]
    unfold numW
    rw [hp]
  · obtain ⟨e0, e1, e2⟩ := sg_told j hj q
    unfold wdA
    show wd1 ((sgs.getD j [] ++ tl q).takeWhile isW) ((sgs.getD j [] ++ tl q).dropWhile isW) = _
    rw [e1, e2]
    simp only [wd1]
    rw [e0]
    have hne : sgs.getD j [] ≠ [] := by
      have k : ∀ j : Fin 27, sgs.getD j.val [] ≠ [] := by decide +kernel
      exact k ⟨j, hj⟩
    unfold signW
    rw [if_neg hne, List.drop_left]
def ag : List Wd → List UInt8
  | [] => []
  | x :: q => toldW x ++ tl q
theorem ag_snoc (l : List Wd) (y : Wd) : ag (l ++ [y]) = ag l ++ (if l = [] then [] else [32]) ++ toldW y := by
  cases l with
  | nil => simp [ag, tl]
  | cons x q => simp [ag, tl]
theorem skip_told {x : Wd} (h : Good x) (r : List UInt8) : skip (toldW x ++ r) = toldW x ++ r := by
  obtain ⟨c, l, e, h1, h2⟩ := told_head h
  rw [e]
  exact skip_D _ h1 h2
theorem skip_32 {x : Wd} (h : Good x) (r : List UInt8) : skip (32 :: (toldW x ++ r)) = toldW x ++ r := by
  have h1 := skip_told h r
  unfold skip at h1 ⊢
  rw [List.dropWhile_cons, show isBl 32 = true by decide +kernel]
  exact h1
theorem tk_ag : ∀ (q : List Wd) (x : Wd), Good x → (∀ y ∈ q, Good y) → tk (toldW x ++ tl q) 0 = .ok ((x :: q).map fun y => (y, 0))
  | [], x, hx, _ => by
    have hne : toldW x ++ tl [] ≠ [] := by obtain ⟨c, l, e, _⟩ := told_head hx; rw [e]; simp
    rw [tk_some hne (wdA_told hx [])]
    rw [show tl [] = [] from rfl, skip_of (r := []) (r' := []) rfl rfl, tk_nil]
    rfl
  | y :: q, x, hx, hq => by
    have hne : toldW x ++ tl (y :: q) ≠ [] := by obtain ⟨c, l, e, _⟩ := told_head hx; rw [e]; simp
    rw [tk_some hne (wdA_told hx (y :: q))]
    have hy := hq y (by simp)
    have et : tl (y :: q) = 32 :: (toldW y ++ tl q) := by simp [tl]
    rw [et, skip_32 hy]
    have ec : 0 + c10 (32 :: (toldW y ++ tl q)) - c10 (toldW y ++ tl q) = 0 := by simp [c10]
    rw [ec, tk_ag q y hy (fun z hz => hq z (by simp [hz]))]
    rfl
theorem toks_ag (l : List Wd) (h : ∀ y ∈ l, Good y) : toks (ag l) = .ok (l.map fun y => (y, 0)) := by
  cases l with
  | nil => unfold toks; rw [show ag [] = [] from rfl, skip_of (r := []) (r' := []) rfl rfl, tk_nil]; rfl
  | cons x q =>
    unfold toks
    rw [show ag (x :: q) = toldW x ++ tl q from rfl, skip_told (h x (by simp)), Nat.sub_self]
    exact tk_ag q x (h x (by simp)) (fun y hy => h y (by simp [hy]))
/- what toks says of any text. -/
theorem tk_good : ∀ (m : Nat) (r : List UInt8) (n : Nat) (xs : List (Wd × Nat)), r.length = m → tk r n = .ok xs → (∀ x ∈ xs, Good x.1 ∧ n ≤ x.2) ∧ xs.Pairwise (fun a b => a.2 ≤ b.2) := by
  intro m
  induction m using Nat.strongRecOn with
  | _ m ih =>
    intro r n xs hm h
    by_cases h0 : r = []
    · rw [h0, tk_nil] at h; cases h; exact ⟨fun x hx => by simp at hx, List.Pairwise.nil⟩
    · cases hw : wdA r with
      | mk o r' =>
        cases o with
        | none => rw [tk_none h0 hw] at h; cases h
        | some y =>
          have hless := wdA_less hw
          have hsk := skip_le r'
          have hc := skip_c10 r'
          rw [tk_some h0 hw] at h
          cases ht : tk (skip r') (n + c10 r' - c10 (skip r')) with
          | error k => rw [ht] at h; cases h
          | ok ws =>
            rw [ht] at h
            cases h
            obtain ⟨i1, i2⟩ := ih _ (by omega) _ _ _ rfl ht
            refine ⟨fun x hx => ?_, List.Pairwise.cons (fun b hb => ?_) i2⟩
            · rcases List.mem_cons.1 hx with rfl | hx
              · exact ⟨wdA_good hw, Nat.le_refl _⟩
              · have := i1 x hx; exact ⟨this.1, by omega⟩
            · have := (i1 b hb).2
              show n ≤ b.2
              omega
theorem toks_good {s : List UInt8} {xs : List (Wd × Nat)} (h : toks s = .ok xs) : (∀ x ∈ xs, Good x.1) ∧ xs.Pairwise (fun a b => a.2 ≤ b.2) := by
  have := tk_good _ _ _ _ rfl h
  exact ⟨fun x hx => (this.1 x hx).1, this.2⟩
end Go.Proofs.YtfanhdjebmdniaaGreatDoor
