/- Pieces of the proof: PLa, PLb. -/
import Derived.Test.YtcfopkaomknmjaaGreatDoorM34
/- Readers of words look no further than they go: two rows of words that are alike up to a place are read alike up to it. The tools. -/
namespace Go.Proofs.YtcfopkaomknmjaaGreatDoor
open Go.RowKit

def Ag (L L' : List (Wd × Nat)) (n : Nat) : Prop := ∀ j, j ≤ n → (L[j]?).map (·.1) = (L'[j]?).map (·.1)
theorem Ag.le {L L' : List (Wd × Nat)} {n m : Nat} (h : Ag L L' n) (hm : m ≤ n) : Ag L L' m := fun j hj => h j (Nat.le_trans hj hm)
/- no reader goes beyond the last word. -/
def Le (L : List (Wd × Nat)) : Prop := ∀ k x, L[k]? = some x → (x.1.k ≠ 0 ∨ x.1.s ≠ []) → k + 1 < L.length
def LcR {α : Type} (R : α → α → Prop) (L L' : List (Wd × Nat)) (k : Nat) (r r' : Except Nat (α × Nat)) : Prop :=
  (∀ e, r = .error e → k ≤ e ∧ e < L.length ∧ (Ag L L' e → r' = .error e)) ∧ ∀ x k1, r = .ok (x, k1) → k ≤ k1 ∧ k1 < L.length ∧ (Ag L L' k1 → ∃ x', r' = .ok (x', k1) ∧ R x x')
theorem LcR.pre {α : Type} {R : α → α → Prop} {L L' : List (Wd × Nat)} {k : Nat} {r r' r2 : Except Nat (α × Nat)} (h : LcR R L L' k r r2) (he : Ag L L' k → r' = r2) : LcR R L L' k r r' :=
  ⟨fun e h1 => ⟨(h.1 e h1).1, (h.1 e h1).2.1, fun ha => (he (ha.le (h.1 e h1).1)).trans ((h.1 e h1).2.2 ha)⟩, fun x k1 h1 => ⟨(h.2 x k1 h1).1, (h.2 x k1 h1).2.1, fun ha => by rw [he (ha.le (h.2 x k1 h1).1)]; exact (h.2 x k1 h1).2.2 ha⟩⟩
theorem LcR.later {α : Type} {R : α → α → Prop} {L L' : List (Wd × Nat)} {k : Nat} {r r' : Except Nat (α × Nat)} (h : LcR R L L' (k + 1) r r') : LcR R L L' k r r' :=
  ⟨fun e h1 => ⟨Nat.le_of_succ_le (h.1 e h1).1, (h.1 e h1).2⟩, fun x k1 h1 => ⟨Nat.le_of_succ_le (h.2 x k1 h1).1, (h.2 x k1 h1).2⟩⟩
theorem LcR.ret {α : Type} {R : α → α → Prop} {L L' : List (Wd × Nat)} {k : Nat} {x x' : α} (hk : k < L.length) (hx : R x x') : LcR R L L' k (.ok (x, k)) (.ok (x', k)) :=
  ⟨fun e h => (by cases h), fun y k1 h => (by cases h; exact ⟨Nat.le_refl _, hk, fun _ => ⟨x', rfl, hx⟩⟩)⟩
theorem LcR.fail {α : Type} {R : α → α → Prop} {L L' : List (Wd × Nat)} {k : Nat} (hk : k < L.length) : LcR R L L' k (.error k) (.error k) :=
  ⟨fun e h => (by cases h; exact ⟨Nat.le_refl _, hk, fun _ => rfl⟩), fun y k1 h => (by cases h)⟩
def Lc {α : Type} (R : α → α → Prop) (L L' : List (Wd × Nat)) (k0 : Nat) (f f' : Pf α) : Prop := ∀ k, k0 ≤ k → k < L.length → LcR R L L' k (f L k) (f' L' k)
theorem Lc.from {α : Type} {R : α → α → Prop} {L L' : List (Wd × Nat)} {k0 k1 : Nat} {f f' : Pf α} (h : Lc R L L' k0 f f') (hk : k0 ≤ k1) : Lc R L L' k1 f f' := fun k h1 h2 => h k (Nat.le_trans hk h1) h2
theorem Lc.imp {α : Type} {R S : α → α → Prop} {L L' : List (Wd × Nat)} {k0 : Nat} {f f' : Pf α} (h : Lc R L L' k0 f f') (hR : ∀ x y, R x y → S x y) : Lc S L L' k0 f f' := fun k h1 h2 =>
  ⟨(h k h1 h2).1, fun x k1 e => ⟨((h k h1 h2).2 x k1 e).1, ((h k h1 h2).2 x k1 e).2.1, fun ha => by
    obtain ⟨x', e', r⟩ := ((h k h1 h2).2 x k1 e).2.2 ha
    exact ⟨x', e', hR _ _ r⟩⟩⟩
theorem Lc.late {α : Type} {R : α → α → Prop} {L L' : List (Wd × Nat)} {k0 : Nat} {f f0 f' : Pf α} (h : Lc R L L' k0 f f0) (hk : L'.length ≤ k0) : Lc R L L' k0 f f' := fun k h1 h2 => (h k h1 h2).pre fun ha => by
  have := ha k (Nat.le_refl _)
  rw [List.getElem?_eq_getElem h2, List.getElem?_eq_none (by omega)] at this
  cases this
theorem lc_bind {α β : Type} {R : α → α → Prop} {S : β → β → Prop} {L L' : List (Wd × Nat)} {k0 : Nat} {a a' : Pf α} {f f' : α → Pf β} (rr : ∀ x, R x x) (ha : Lc R L L' k0 a a') (hf : ∀ x x', R x x' → Lc S L L' k0 (f x) (f' x')) : Lc S L L' k0 (a.bind f) (a'.bind f') := by
  intro k h1 h2
  unfold Pf.bind
  have q := ha k h1 h2
  cases h : a L k with
  | error e =>
    obtain ⟨q1, q0, q2⟩ := q.1 e h
    exact ⟨fun e' h' => by cases h'; exact ⟨q1, q0, fun hA => by rw [q2 hA]⟩, fun x k1 h' => by cases h'⟩
  | ok y =>
    obtain ⟨x, k1⟩ := y
    obtain ⟨q1, q2, q3⟩ := q.2 x k1 h
    have p := hf x x (rr x) k1 (Nat.le_trans h1 q1) q2
    refine ⟨fun e h' => ?_, fun z k2 h' => ?_⟩
    · have p1 := p.1 e h'
      refine ⟨Nat.le_trans q1 p1.1, p1.2.1, fun hA => ?_⟩
      obtain ⟨x', e', r⟩ := q3 (hA.le p1.1)
      rw [e']
      exact ((hf x x' r k1 (Nat.le_trans h1 q1) q2).1 e h').2.2 hA
    · have p1 := p.2 z k2 h'
      refine ⟨Nat.le_trans q1 p1.1, p1.2.1, fun hA => ?_⟩
      obtain ⟨x', e', r⟩ := q3 (hA.le p1.1)
      rw [e']
      exact ((hf x x' r k1 (Nat.le_trans h1 q1) q2).2 z k2 h').2.2 hA
theorem lc_bindG {α β : Type} {R : α → α → Prop} {S : β → β → Prop} {L L' : List (Wd × Nat)} {k0 : Nat} {a a' : Pf α} {f f' : α → Pf β} (rr : ∀ x, R x x) (hg : Goes a) (ha : Lc R L L' k0 a a') (hf : ∀ x x', R x x' → Lc S L L' (k0 + 1) (f x) (f' x')) : Lc S L L' k0 (a.bind f) (a'.bind f') := by
  intro k h1 h2
  unfold Pf.bind
  have q := ha k h1 h2
  cases h : a L k with
  | error e =>
    obtain ⟨q1, q0, q2⟩ := q.1 e h
    exact ⟨fun e' h' => by cases h'; exact ⟨q1, q0, fun hA => by rw [q2 hA]⟩, fun x k1 h' => by cases h'⟩
  | ok y =>
    obtain ⟨x, k1⟩ := y
    obtain ⟨q1, q2, q3⟩ := q.2 x k1 h
    have g1 : k0 + 1 ≤ k1 := Nat.lt_of_le_of_lt h1 (hg L k x k1 h)
    have p := hf x x (rr x) k1 g1 q2
    refine ⟨fun e h' => ?_, fun z k2 h' => ?_⟩
    · have p1 := p.1 e h'
      refine ⟨Nat.le_trans q1 p1.1, p1.2.1, fun hA => ?_⟩
      obtain ⟨x', e', r⟩ := q3 (hA.le p1.1)
      rw [e']
      exact ((hf x x' r k1 g1 q2).1 e h').2.2 hA
    · have p1 := p.2 z k2 h'
      refine ⟨Nat.le_trans q1 p1.1, p1.2.1, fun hA => ?_⟩
      obtain ⟨x', e', r⟩ := q3 (hA.le p1.1)
      rw [e']
      exact ((hf x x' r k1 g1 q2).2 z k2 h').2.2 hA
theorem lc_ret {α : Type} {R : α → α → Prop} {L L' : List (Wd × Nat)} {k0 : Nat} {x x' : α} (h : R x x') : Lc R L L' k0 (Pf.ret x) (Pf.ret x') := fun _ _ h2 => LcR.ret h2 h
def failP {α : Type} : Pf α := fun _ k => .error k
theorem lc_fail {α : Type} {R : α → α → Prop} {L L' : List (Wd × Nat)} {k0 : Nat} : Lc R L L' k0 failP failP := fun _ _ h => LcR.fail h
/- what is looked at. -/
theorem ag_passed {L L' : List (Wd × Nat)} {k : Nat} {l : List UInt8} (h : Ag L L' k) : passedP l L' k = passedP l L k := by
  have h := h k (Nat.le_refl _)
  unfold passedP
  cases e : L[k]? with
  | none => rw [e] at h; cases e' : L'[k]? with
    | none => rfl
    | some x => rw [e'] at h; cases h
  | some x => rw [e] at h; cases e' : L'[k]? with
    | none => rw [e'] at h; cases h
    | some x' => rw [e'] at h; injection h with h; simp only at h ⊢; rw [h]
theorem ag_words {L L' : List (Wd × Nat)} {k : Nat} (h : Ag L L' k) : sP L' k = sP L k ∧ wordS L' k = wordS L k ∧ kdP L' k = kdP L k := by
  have h := h k (Nat.le_refl _)
  unfold sP wordS kdP
  cases e : L[k]? with
  | none => rw [e] at h; cases e' : L'[k]? with
    | none => exact ⟨rfl, rfl, rfl⟩
    | some x => rw [e'] at h; cases h
  | some x => rw [e] at h; cases e' : L'[k]? with
    | none => rw [e'] at h; cases h
    | some x' => rw [e'] at h; injection h with h; simp only at h ⊢; rw [h]; exact ⟨rfl, rfl, rfl⟩
theorem passed_lt {L : List (Wd × Nat)} {k : Nat} {l : List UInt8} (hE : Le L) (hl : l ≠ []) (h : passedP l L k = true) : k + 1 < L.length := by
  unfold passedP at h
  split at h
  · rename_i x e
    refine hE k x e (.inr ?_)
    rw [of_decide_eq_true h]; exact hl
  · cases h
theorem word_lt {L : List (Wd × Nat)} {k : Nat} (hE : Le L) (h : wordS L k ≠ []) : k + 1 < L.length := by
  unfold wordS at h
  split at h
  · rename_i x e
    exact hE k x e (.inr h)
  · exact absurd rfl h
/- one word that is asked for. -/
def ifL {α : Type} (l : List UInt8) (a : Nat → Pf α) (b : Pf α) : Pf α := fun L k => if passedP l L k then a (lineP L k) L (k + 1) else b L k
theorem lc_ifL {α : Type} {R : α → α → Prop} {L L' : List (Wd × Nat)} {k0 : Nat} {l : List UInt8} {a a' : Nat → Pf α} {b b' : Pf α} (hE : Le L) (hl : l ≠ []) (ha : ∀ n n', Lc R L L' (k0 + 1) (a n) (a' n')) (hb : Lc R L L' k0 b b') : Lc R L L' k0 (ifL l a b) (ifL l a' b') := by
  intro k h1 h2
  unfold ifL
  cases hp : passedP l L k with
  | true =>
    rw [if_pos rfl]
    exact (ha (lineP L k) (lineP L' k) (k + 1) (Nat.succ_le_succ h1) (passed_lt hE hl hp)).later.pre fun hA => by rw [ag_passed hA, hp, if_pos rfl]
  | false =>
    rw [if_neg (by decide)]
    exact (hb k h1 h2).pre fun hA => by rw [ag_passed hA, hp, if_neg (by decide)]
theorem lc_ifP {α : Type} {R : α → α → Prop} {L L' : List (Wd × Nat)} {k0 : Nat} {l : List UInt8} {a a' : Pf α} {b b' : Pf α} (hE : Le L) (hl : l ≠ []) (ha : Lc R L L' (k0 + 1) a a') (hb : Lc R L L' k0 b b') : Lc R L L' k0 (ifP l a b) (ifP l a' b') := lc_ifL (a := fun _ => a) (a' := fun _ => a') hE hl (fun _ _ => ha) hb
def condP {α : Type} (c : List (Wd × Nat) → Nat → Bool) (a b : Pf α) : Pf α := fun L k => if c L k then a L k else b L k
theorem lc_cond {α : Type} {R : α → α → Prop} {L L' : List (Wd × Nat)} {k0 : Nat} {c : List (Wd × Nat) → Nat → Bool} {a a' b b' : Pf α} (hc : ∀ k, Ag L L' k → c L' k = c L k) (ha : Lc R L L' k0 a a') (hb : Lc R L L' k0 b b') : Lc R L L' k0 (condP c a b) (condP c a' b') := by
  intro k h1 h2
  unfold condP
  cases hp : c L k with
  | true =>
    rw [if_pos rfl]
    exact (ha k h1 h2).pre fun hA => by rw [hc k hA, hp, if_pos rfl]
  | false =>
    rw [if_neg (by decide)]
    exact (hb k h1 h2).pre fun hA => by rw [hc k hA, hp, if_neg (by decide)]
def lnP {α : Type} (a : Nat → Pf α) : Pf α := fun L k => a (lineP L k) L k
theorem lc_ln {α : Type} {R : α → α → Prop} {L L' : List (Wd × Nat)} {k0 : Nat} {a a' : Nat → Pf α} (ha : ∀ n n', Lc R L L' k0 (a n) (a' n')) : Lc R L L' k0 (lnP a) (lnP a') := fun k h1 h2 => ha _ _ k h1 h2
theorem lc_fuel {α : Type} {R : α → α → Prop} {L L' : List (Wd × Nat)} {k0 : Nat} {F F' : Nat → Pf α} (h : ∀ k, k0 ≤ k → Lc R L L' k (F (L.length + 1 - k)) (F' (L'.length + 1 - k))) : Lc R L L' k0 (fun L k => F (L.length + 1 - k) L k) (fun L k => F' (L.length + 1 - k) L k) := fun k h1 h2 => h k h1 k (Nat.le_refl _) h2
theorem lc_pass {L L' : List (Wd × Nat)} (hE : Le L) : ∀ (ls : List (List UInt8)) (k0 : Nat), (∀ l ∈ ls, l ≠ []) → Lc Eq L L' k0 (passP ls) (passP ls)
  | [], _, _ => lc_ret rfl
  | l :: ls, k0, h => by
    have e : passP (l :: ls) = ifL l (fun _ => passP ls) failP := rfl
    rw [e]
    exact lc_ifL hE (h l (by simp)) (fun _ _ => lc_pass hE ls (k0 + 1) fun x hx => h x (by simp [hx])) lc_fail
theorem lc_self {α : Type} {L L' : List (Wd × Nat)} {k0 : Nat} {f : Pf α} (h1 : ∀ k, Ag L L' k → f L' k = f L k) (h2 : ∀ k e, f L k = .error e → e = k) (h3 : ∀ k x k1, f L k = .ok (x, k1) → k1 = k + 1 ∧ k + 1 < L.length) : Lc Eq L L' k0 f f := by
  intro k _ hk
  refine LcR.pre (r2 := f L k) ⟨fun e he => ⟨by rw [h2 k e he]; exact Nat.le_refl _, by rw [h2 k e he]; exact hk, fun _ => he⟩, fun x k1 he => ?_⟩ (h1 k)
  obtain ⟨e1, e2⟩ := h3 k x k1 he
  exact ⟨by omega, by omega, fun _ => ⟨x, he, rfl⟩⟩
theorem ag_get {L L' : List (Wd × Nat)} {k : Nat} (h : Ag L L' k) : (L[k]? = none ∧ L'[k]? = none) ∨ ∃ x n n', L[k]? = some (x, n) ∧ L'[k]? = some (x, n') := by
  have h := h k (Nat.le_refl _)
  cases e : L[k]? with
  | none => rw [e] at h; cases e' : L'[k]? with
    | none => exact .inl ⟨rfl, rfl⟩
    | some x => rw [e'] at h; cases h
  | some x => rw [e] at h; cases e' : L'[k]? with
    | none => rw [e'] at h; cases h
    | some x' =>
      rw [e'] at h; injection h with h
      obtain ⟨x1, n⟩ := x
      obtain ⟨x2, n'⟩ := x'
      simp only at h
      exact .inr ⟨x1, n, n', rfl, by rw [h]⟩
theorem lc_name {L L' : List (Wd × Nat)} {k0 : Nat} (hE : Le L) : Lc Eq L L' k0 nameP nameP := by
  refine lc_self (fun k hA => ?_) (fun k e h => ?_) (fun k x k1 h => ?_)
  · unfold nameP
    rcases ag_get hA with ⟨e1, e2⟩ | ⟨x, n, n', e1, e2⟩
    · rw [e1, e2]
    · rw [e1, e2]
  · unfold nameP at h
    split at h
    · split at h
      · cases h; rfl
      · split at h
        · cases h
        · cases h; rfl
    · cases h; rfl
  · unfold nameP at h
    split at h
    · rename_i y hy
      split at h
      · cases h
      · split at h
        · rename_i hk
          cases h
          exact ⟨rfl, hE k y hy (.inl (by rw [hk]; decide))⟩
        · cases h
    · cases h
theorem lc_whole {L L' : List (Wd × Nat)} {k0 : Nat} (hE : Le L) : Lc Eq L L' k0 wholeP wholeP := by
  refine lc_self (fun k hA => ?_) (fun k e h => ?_) (fun k x k1 h => ?_)
  · unfold wholeP
    rcases ag_get hA with ⟨e1, e2⟩ | ⟨x, n, n', e1, e2⟩
    · rw [e1, e2]
    · rw [e1, e2]
  · unfold wholeP at h
    split at h
    · split at h
      · cases h
      · cases h; rfl
    · cases h; rfl
  · unfold wholeP at h
    split at h
    · rename_i y hy
      split at h
      · rename_i hk
        cases h
        exact ⟨rfl, hE k y hy (.inl (by rw [hk]; decide))⟩
      · cases h
    · cases h
theorem lc_lit {L L' : List (Wd × Nat)} {k0 : Nat} (hE : Le L) : Lc Eq L L' k0 litP litP := by
  refine lc_self (fun k hA => ?_) (fun k e h => ?_) (fun k x k1 h => ?_)
  · unfold litP
    rcases ag_get hA with ⟨e1, e2⟩ | ⟨x, n, n', e1, e2⟩
    · rw [e1, e2]
    · rw [e1, e2]
  · unfold litP at h
    split at h
    · split at h
      · cases h
      · cases h; rfl
    · cases h; rfl
  · unfold litP at h
    split at h
    · rename_i y hy
      split at h
      · rename_i hk
        cases h
        exact ⟨rfl, hE k y hy (.inl (by rw [hk]; decide))⟩
      · cases h
    · cases h
/- rows. -/
def LQ {α : Type} (R : α → α → Prop) : List α → List α → Prop
  | [], [] => True
  | x :: xs, y :: ys => R x y ∧ LQ R xs ys
  | _, _ => False
theorem LQ.refl {α : Type} {R : α → α → Prop} (h : ∀ x, R x x) : ∀ l, LQ R l l
  | [] => trivial
  | x :: xs => ⟨h x, LQ.refl h xs⟩
theorem until_eq {α : Type} (en : List UInt8) (f : Pf α) (g : Nat) : untilF en f (g + 1) = ifL en (fun _ => Pf.ret []) (f.bind fun x => (untilF en f g).bind fun xs => Pf.ret (x :: xs)) := by
  funext L k
  rw [untilF]
  unfold ifL Pf.bind Pf.ret
  cases passedP en L k with
  | true => rfl
  | false =>
    simp only [Bool.false_eq_true, if_false]
    cases f L k with
    | error e => rfl
    | ok y =>
      simp only
      cases untilF en f g L y.2 with
      | error e => rfl
      | ok z => rfl
theorem wh_eq {α : Type} (sep : List UInt8) (f : Pf α) (g : Nat) : whF sep f (g + 1) = ifL sep (fun _ => f.bind fun x => (whF sep f g).bind fun xs => Pf.ret (x :: xs)) (Pf.ret []) := by
  funext L k
  unfold ifL Pf.bind Pf.ret
  simp only [whF]
  cases passedP sep L k with
  | false => rfl
  | true =>
    simp only [if_true]
    cases f L (k + 1) with
    | error e => rfl
    | ok y =>
      simp only
      cases whF sep f g L y.2 with
      | error e => rfl
      | ok z => rfl
theorem lc_until {α : Type} {R : α → α → Prop} {L L' : List (Wd × Nat)} {en : List UInt8} (hE : Le L) (hl : en ≠ []) (rr : ∀ x, R x x) {f f' : Pf α} (hg : Goes f) : ∀ (g g' k0 : Nat), Lc R L L' k0 f f' → L.length + 1 ≤ g + k0 → L'.length + 1 ≤ g' + k0 → Lc (LQ R) L L' k0 (untilF en f g) (untilF en f' g') := by
  intro g
  induction g with
  | zero => intro g' k0 _ h _ k h1 h2; omega
  | succ g ih =>
    have main : ∀ g' k0, Lc R L L' k0 f f' → L.length + 1 ≤ g + 1 + k0 → L'.length + 1 ≤ g' + 1 + k0 → Lc (LQ R) L L' k0 (untilF en f (g + 1)) (untilF en f' (g' + 1)) := by
      intro g' k0 hf h h'
      rw [until_eq, until_eq]
      exact lc_ifL hE hl (fun _ _ => lc_ret trivial) (lc_bindG rr hg hf fun x x' hx => lc_bind (LQ.refl rr) (ih g' (k0 + 1) (hf.from (by omega)) (by omega) (by omega)) fun xs xs' hxs => lc_ret ⟨hx, hxs⟩)
    intro g' k0 hf h h'
    cases g' with
    | zero => exact Lc.late (main (L'.length + 2) k0 hf h (by omega)) (by omega)
    | succ g' => exact main g' k0 hf h h'
theorem lc_untilP {α : Type} {R : α → α → Prop} {L L' : List (Wd × Nat)} {en : List UInt8} (hE : Le L) (hl : en ≠ []) (rr : ∀ x, R x x) {f f' : Pf α} (hg : Goes f) {k0 : Nat} (hf : Lc R L L' k0 f f') : Lc (LQ R) L L' k0 (untilP en f) (untilP en f') :=
  lc_fuel (F := untilF en f) (F' := untilF en f') fun k hk => lc_until hE hl rr hg _ _ k (hf.from hk) (by omega) (by omega)
theorem lc_wh {α : Type} {R : α → α → Prop} {L L' : List (Wd × Nat)} {sep : List UInt8} (hE : Le L) (hl : sep ≠ []) (rr : ∀ x, R x x) {f f' : Pf α} : ∀ (g g' k0 : Nat), Lc R L L' k0 f f' → L.length + 1 ≤ g + k0 → L'.length + 1 ≤ g' + k0 → Lc (LQ R) L L' k0 (whF sep f g) (whF sep f' g') := by
  intro g
  induction g with
  | zero => intro g' k0 _ h _ k h1 h2; omega
  | succ g ih =>
    have main : ∀ g' k0, Lc R L L' k0 f f' → L.length + 1 ≤ g + 1 + k0 → L'.length + 1 ≤ g' + 1 + k0 → Lc (LQ R) L L' k0 (whF sep f (g + 1)) (whF sep f' (g' + 1)) := by
      intro g' k0 hf h h'
      rw [wh_eq, wh_eq]
      exact lc_ifL hE hl (fun _ _ => lc_bind rr (hf.from (by omega)) fun x x' hx => lc_bind (LQ.refl rr) (ih g' (k0 + 1) (hf.from (by omega)) (by omega) (by omega)) fun xs xs' hxs => lc_ret ⟨hx, hxs⟩) (lc_ret trivial)
    intro g' k0 hf h h'
    cases g' with
    | zero => exact Lc.late (main (L'.length + 2) k0 hf h (by omega)) (by omega)
    | succ g' => exact main g' k0 hf h h'
theorem lc_whP {α : Type} {R : α → α → Prop} {L L' : List (Wd × Nat)} {sep : List UInt8} (hE : Le L) (hl : sep ≠ []) (rr : ∀ x, R x x) {f f' : Pf α} {k0 : Nat} (hf : Lc R L L' k0 f f') : Lc (LQ R) L L' k0 (whP sep f) (whP sep f') :=
  lc_fuel (F := whF sep f) (F' := whF sep f') fun k hk => lc_wh hE hl rr _ _ k (hf.from hk) (by omega) (by omega)
theorem sm2_wh {α : Type} (f : Pf α) : ∀ g, sm2F f g = whF [44] f g
  | 0 => rfl
  | g + 1 => by
    funext L k
    rw [sm2F, whF, sm2_wh f g]
    rfl
theorem sm_wh (f : Pf Ex) : ∀ g, smF f g = whF [44] f g
  | 0 => rfl
  | g + 1 => by
    funext L k
    rw [wh_eq]
    unfold ifL Pf.bind Pf.ret
    simp only [smF, sm_wh f g]
    cases passedP [44] L k with
    | false => rfl
    | true =>
      simp only [if_true]
      cases f L (k + 1) with
      | error e => rfl
      | ok y =>
        simp only
        cases whF [44] f g L y.2 with
        | error e => rfl
        | ok z => rfl
theorem preL_bind {α : Type} (F : Pf (List α)) (l : List α) : (fun L k => preL l (F L k)) = F.bind fun xs => Pf.ret (l ++ xs) := by
  funext L k
  unfold Pf.bind
  cases h : F L k <;> rfl
theorem some2_eq {α : Type} (f : Pf α) : some2P f = f.bind fun x => (whP [44] f).bind fun xs => Pf.ret ([x] ++ xs) := by
  funext L k
  unfold some2P Pf.bind
  cases f L k with
  | error e => rfl
  | ok y =>
    simp only
    rw [sm2_wh]
    unfold whP
    cases whF [44] f (L.length + 1 - y.2) L y.2 <;> rfl
theorem some_eq (f : Pf Ex) : someP f = f.bind fun x => (whP [44] f).bind fun xs => Pf.ret ([x] ++ xs) := by
  funext L k
  unfold someP Pf.bind
  cases f L k with
  | error e => rfl
  | ok y =>
    simp only
    rw [sm_wh]
    unfold whP
    cases whF [44] f (L.length + 1 - y.2) L y.2 <;> rfl
theorem lc_some2 {α : Type} {R : α → α → Prop} {L L' : List (Wd × Nat)} (hE : Le L) (rr : ∀ x, R x x) {f f' : Pf α} {k0 : Nat} (hf : Lc R L L' k0 f f') : Lc (LQ R) L L' k0 (some2P f) (some2P f') := by
  rw [some2_eq, some2_eq]
  exact lc_bind rr hf fun x x' hx => lc_bind (LQ.refl rr) (lc_whP hE (by decide) rr hf) fun xs xs' hxs => lc_ret ⟨hx, hxs⟩
theorem lc_some {R : Ex → Ex → Prop} {L L' : List (Wd × Nat)} (hE : Le L) (rr : ∀ x, R x x) {f f' : Pf Ex} {k0 : Nat} (hf : Lc R L L' k0 f f') : Lc (LQ R) L L' k0 (someP f) (someP f') := by
  rw [some_eq, some_eq]
  exact lc_bind rr hf fun x x' hx => lc_bind (LQ.refl rr) (lc_whP hE (by decide) rr hf) fun xs xs' hxs => lc_ret ⟨hx, hxs⟩
theorem lc_closed {α : Type} {R : α → α → Prop} {L L' : List (Wd × Nat)} {k0 : Nat} (hE : Le L) (rr : ∀ x, R x x) {f f' : Pf α} (hf : Lc R L L' k0 f f') : Lc R L L' k0 (closedP f) (closedP f') :=
  lc_bind rr hf fun _ _ hx => lc_bind (fun _ => rfl) (lc_pass hE _ _ (by simp)) fun _ _ _ => lc_ret hx
theorem LQ.eq {α : Type} : ∀ {l l' : List α}, LQ Eq l l' → l = l'
  | [], [], _ => rfl
  | x :: xs, y :: ys, h => by rw [h.1, LQ.eq h.2]
  | [], _ :: _, h => by cases h
  | _ :: _, [], h => by cases h
theorem lc_eqs {α : Type} {L L' : List (Wd × Nat)} {k0 : Nat} {f f' : Pf (List α)} (h : Lc (LQ Eq) L L' k0 f f') : Lc Eq L L' k0 f f' := h.imp fun _ _ => LQ.eq
theorem lc_brack {α : Type} {R : α → α → Prop} {L L' : List (Wd × Nat)} {k0 : Nat} (hE : Le L) (rr : ∀ x, R x x) {so so' : Pf (List α)} (hf : Lc (LQ R) L L' k0 so so') : Lc (LQ R) L L' k0 (brackP so) (brackP so') :=
  lc_bind (fun _ => rfl) (lc_pass hE _ _ (by simp)) fun _ _ _ => lc_ifP hE (by decide) (lc_ret trivial) (lc_bind (LQ.refl rr) hf fun _ _ hx => lc_bind (fun _ => rfl) (lc_pass hE _ _ (by simp)) fun _ _ _ => lc_ret hx)
end Go.Proofs.YtcfopkaomknmjaaGreatDoor
/- Readers look no further than they go: expressions. -/
namespace Go.Proofs.YtcfopkaomknmjaaGreatDoor
open Go.RowKit

/- What trees are held alike by: any reading of trees that does not look at their lines. -/
structure Rels where
  x : Ex → Ex → Prop
  s : Sm → Sm → Prop
  t : Ts → Ts → Prop
  d : Dc → Dc → Prop
  xx : ∀ a, x a a
  ss : ∀ a, s a a
  tt : ∀ a, t a a
  dd : ∀ a, d a a
  hx : ∀ (op w v : Nat) (name field : List UInt8) (n m l l' : Nat) (a1 a2 : List Ex), LQ x a1 a2 → x ⟨op, w, v, name, field, n, m, l, a1⟩ ⟨op, w, v, name, field, n, m, l', a2⟩
  xl : ∀ (a b : Ex) (l l' : Nat), x a b → x (exLn a l) (exLn b l')
  hs : ∀ (kind : Nat) (name field array : List UInt8) (n l l' : Nat) (a1 a2 : List Ex) (b1 b2 e1 e2 : List Sm), LQ x a1 a2 → LQ s b1 b2 → LQ s e1 e2 → s ⟨kind, name, field, array, n, a1, b1, e1, l⟩ ⟨kind, name, field, array, n, a2, b2, e2, l'⟩
  sl : ∀ (a b : Sm) (l l' : Nat), s a b → s (smLn a l) (smLn b l')
  ht : ∀ (name : List UInt8) (hd : List (List UInt8)) (cs : List Ck) (dest : List UInt8) (l l' : Nat) (a1 a2 : List Ex), LQ x a1 a2 → t ⟨name, hd, a1, cs, dest, l⟩ ⟨name, hd, a2, cs, dest, l'⟩
  hd : ∀ (kind : Nat) (name : List UInt8) (fields : List (List UInt8 × Nat)) (w n rate burst : Nat) (s1 s2 : List Ts) (k1 k2 : List (Ex × Nat)) (acts : List (List UInt8)) (dflt : List UInt8) (args : List (Nat × Nat)) (b1 b2 : List Sm) (emits : List (List UInt8)) (l l' : Nat), LQ t s1 s2 → LQ (fun p q => x p.1 q.1 ∧ p.2 = q.2) k1 k2 → LQ s b1 b2 → d ⟨kind, name, fields, w, n, rate, burst, s1, k1, acts, dflt, args, b1, emits, l⟩ ⟨kind, name, fields, w, n, rate, burst, s2, k2, acts, dflt, args, b2, emits, l'⟩
  dl : ∀ (a b : Dc) (l l' : Nat), d a b → d (dcLn a l) (dcLn b l')
theorem lc_owner {L L' : List (Wd × Nat)} {k0 : Nat} (hE : Le L) : Lc Eq L L' k0 ownerP ownerP := by
  have e : ownerP = ifL metaL (fun _ => Pf.ret metaL) nameP := rfl
  rw [e]
  exact lc_ifL hE (by decide) (fun _ _ => lc_ret rfl) (lc_name hE)
theorem lc_fieldOf {L L' : List (Wd × Nat)} {k0 : Nat} (hE : Le L) : Lc Eq L L' k0 fieldOfP fieldOfP :=
  lc_bind (fun _ => rfl) (lc_pass hE _ _ (by simp)) fun _ _ _ => lc_bind (fun _ => rfl) (lc_name hE) fun _ _ e => lc_ret e
theorem fop_eq : fopP = ownerP.bind fun n => condP (fun L k => decide (n = metaL) || passedP [46] L k) (fieldOfP.bind fun f => Pf.ret (exN 2 n f)) (Pf.ret (exN 3 n [])) := by
  funext L k
  simp only [fopP, condP, Pf.bind, Pf.ret]
  cases ownerP L k with
  | error e => rfl
  | ok y =>
    simp only
    split
    · cases fieldOfP L y.2 <;> rfl
    · rfl
theorem lc_fop {L L' : List (Wd × Nat)} {k0 : Nat} (hE : Le L) : Lc Eq L L' k0 fopP fopP := by
  rw [fop_eq]
  refine lc_bind (fun _ => rfl) (lc_owner hE) fun n n' e => ?_
  subst e
  exact lc_cond (fun k hA => by rw [ag_passed hA]) (lc_bind (fun _ => rfl) (lc_fieldOf hE) fun _ _ e => lc_ret (by rw [e])) (lc_ret rfl)
theorem lc_cut {L L' : List (Wd × Nat)} {k0 : Nat} (hE : Le L) : Lc Eq L L' k0 cutP cutP :=
  lc_bind (fun _ => rfl) (lc_whole hE) fun _ _ e => lc_bind (fun _ => rfl) (lc_pass hE _ _ (by simp)) fun _ _ _ => lc_bind (fun _ => rfl) (lc_whole hE) fun _ _ e2 => lc_bind (fun _ => rfl) (lc_pass hE _ _ (by simp)) fun _ _ _ => lc_ret (by rw [e, e2])
theorem lc_cast (R : Rels) {L L' : List (Wd × Nat)} {k0 : Nat} (hE : Le L) {ex ex' : Pf Ex} (h : Lc R.x L L' k0 ex ex') : Lc R.x L L' k0 (castP ex) (castP ex') :=
  lc_bind (fun _ => rfl) (lc_whole hE) fun n n' e => lc_bind (fun _ => rfl) (lc_pass hE _ _ (by simp)) fun _ _ _ => lc_bind R.xx h fun a b hab => lc_bind (fun _ => rfl) (lc_pass hE _ _ (by simp)) fun _ _ _ => lc_ret (by
    subst e
    exact R.hx _ _ _ _ _ _ _ _ _ _ _ ⟨hab, trivial⟩)
theorem lc_hash (R : Rels) {L L' : List (Wd × Nat)} {k0 : Nat} (hE : Le L) {so so' : Pf (List Ex)} (h : Lc (LQ R.x) L L' k0 so so') : Lc R.x L L' k0 (hashP so) (hashP so') :=
  lc_bind (fun _ => rfl) (lc_name hE) fun n n' e => lc_bind (fun _ => rfl) (lc_pass hE _ _ (by simp)) fun _ _ _ => lc_bind (LQ.refl R.xx) h fun a b hab => lc_bind (fun _ => rfl) (lc_pass hE _ _ (by simp)) fun _ _ _ => lc_ret (by
    subst e
    exact R.hx _ _ _ _ _ _ _ _ _ _ _ hab)
theorem plain_eq (ca ha : Pf Ex) : plainP ca ha = condP (fun L k => decide (kdP L k = 3)) (litP.bind fun x => Pf.ret (exLit x)) (ifL [118, 97, 108, 105, 100] (fun _ => nameP.bind fun n => Pf.ret (exN 4 n [])) (ifL [99, 97, 115, 116] (fun _ => ca) (ifL [104, 97, 115, 104] (fun _ => ha) fopP))) := by
  funext L k
  simp only [plainP, condP, ifL, Pf.bind, Pf.ret]
  by_cases h : kdP L k = 3
  · simp only [h, if_true, decide_true]
    cases litP L k <;> rfl
  · simp only [h, if_false, decide_false, Bool.false_eq_true]
    cases passedP [118, 97, 108, 105, 100] L k with
    | true =>
      simp only [if_true]
      cases nameP L (k + 1) <;> rfl
    | false => rfl
theorem eq_x (R : Rels) {L L' : List (Wd × Nat)} {k0 : Nat} {f f' : Pf Ex} (h : Lc Eq L L' k0 f f') : Lc R.x L L' k0 f f' := h.imp fun a b e => by subst e; exact R.xx a
theorem lc_plain (R : Rels) {L L' : List (Wd × Nat)} {k0 : Nat} (hE : Le L) {ca ca' ha ha' : Pf Ex} (h1 : Lc R.x L L' (k0 + 1) ca ca') (h2 : Lc R.x L L' (k0 + 1) ha ha') : Lc R.x L L' k0 (plainP ca ha) (plainP ca' ha') := by
  rw [plain_eq, plain_eq]
  exact lc_cond (fun k hA => by rw [(ag_words hA).2.2]) (eq_x R (lc_bind (fun _ => rfl) (lc_lit hE) fun _ _ e => lc_ret (by rw [e]))) (lc_ifL hE (by decide) (fun _ _ => eq_x R (lc_bind (fun _ => rfl) (lc_name hE) fun _ _ e => lc_ret (by rw [e]))) (lc_ifL hE (by decide) (fun _ _ => h1) (lc_ifL hE (by decide) (fun _ _ => h2) (eq_x R (lc_fop hE)))))
theorem prim_eq (ch : Nat → Pf Ex) (pl : Pf Ex) : primP ch pl = ifL [40] (fun _ => (ch 0).bind fun x => (passP [[41]]).bind fun _ => Pf.ret x) (lnP fun n => pl.bind fun x => Pf.ret (exLn x n)) := by
  funext L k
  simp only [primP, ifL, lnP]
  cases passedP [40] L k with
  | true => rfl
  | false =>
    simp only [Bool.false_eq_true, if_false, Pf.bind, Pf.ret]
    cases pl L k <;> rfl
theorem lc_prim (R : Rels) {L L' : List (Wd × Nat)} {k0 : Nat} (hE : Le L) {ch ch' : Nat → Pf Ex} {pl pl' : Pf Ex} (h1 : Lc R.x L L' (k0 + 1) (ch 0) (ch' 0)) (h2 : Lc R.x L L' k0 pl pl') : Lc R.x L L' k0 (primP ch pl) (primP ch' pl') := by
  rw [prim_eq, prim_eq]
  exact lc_ifL hE (by decide) (fun _ _ => lc_bind R.xx h1 fun _ _ hx => lc_bind (fun _ => rfl) (lc_pass hE _ _ (by simp)) fun _ _ _ => lc_ret hx) (lc_ln fun _ _ => lc_bind R.xx h2 fun _ _ hx => lc_ret (R.xl _ _ _ _ hx))
theorem po_eq (n g : Nat) (x : Ex) : poF n (g + 1) x = ifL [91] (fun _ => cutP.bind fun nm => poF n g (exCut x nm.1 nm.2 n)) (Pf.ret x) := by
  funext L k
  simp only [poF, ifL, Pf.bind, Pf.ret]
  cases passedP [91] L k with
  | false => rfl
  | true =>
    simp only [if_true]
    cases cutP L (k + 1) <;> rfl
theorem lc_po (R : Rels) {L L' : List (Wd × Nat)} (hE : Le L) : ∀ (g g' k0 n n' : Nat) (x x' : Ex), R.x x x' → L.length + 1 ≤ g + k0 → L'.length + 1 ≤ g' + k0 → Lc R.x L L' k0 (poF n g x) (poF n' g' x') := by
  intro g
  induction g with
  | zero => intro g' k0 n n' x x' _ h _ k h1 h2; omega
  | succ g ih =>
    have main : ∀ (g' k0 n n' : Nat) (x x' : Ex), R.x x x' → L.length + 1 ≤ g + 1 + k0 → L'.length + 1 ≤ g' + 1 + k0 → Lc R.x L L' k0 (poF n (g + 1) x) (poF n' (g' + 1) x') := by
      intro g' k0 n n' x x' hx h h'
      rw [po_eq, po_eq]
      exact lc_ifL hE (by decide) (fun _ _ => lc_bind (fun _ => rfl) (lc_cut hE) fun a b e => by
        subst e
        exact ih g' (k0 + 1) n n' _ _ (R.hx _ _ _ _ _ _ _ _ _ _ _ ⟨hx, trivial⟩) (by omega) (by omega)) (lc_ret hx)
    intro g' k0 n n' x x' hx h h'
    cases g' with
    | zero => exact Lc.late (main (L'.length + 2) k0 n n' x x' hx h (by omega)) (by omega)
    | succ g' => exact main g' k0 n n' x x' hx h h'
theorem post_eq (pr : Pf Ex) : postP pr = lnP fun n => pr.bind fun x => fun L k => poF n (L.length + 1 - k) x L k := by
  funext L k
  simp only [postP, lnP, Pf.bind]
  cases pr L k <;> rfl
theorem lc_post (R : Rels) {L L' : List (Wd × Nat)} {k0 : Nat} (hE : Le L) {pr pr' : Pf Ex} (h : Lc R.x L L' k0 pr pr') : Lc R.x L L' k0 (postP pr) (postP pr') := by
  rw [post_eq, post_eq]
  exact lc_ln fun n n' => lc_bind R.xx h fun x x' hx => lc_fuel (F := fun g => poF n g x) (F' := fun g => poF n' g x') fun k _ => lc_po R hE _ _ k n n' x x' hx (by omega) (by omega)
theorem un_eq (po : Pf Ex) (g : Nat) : unF po (g + 1) = ifL [126] (fun n => (unF po g).bind fun x => Pf.ret (exOp 11 [x] n)) po := by
  funext L k
  simp only [unF, ifL, Pf.bind, Pf.ret]
  cases passedP [126] L k with
  | false => rfl
  | true =>
    simp only [if_true]
    cases unF po g L (k + 1) <;> rfl
theorem lc_un (R : Rels) {L L' : List (Wd × Nat)} (hE : Le L) {po po' : Pf Ex} : ∀ (g g' k0 : Nat), Lc R.x L L' k0 po po' → L.length + 1 ≤ g + k0 → L'.length + 1 ≤ g' + k0 → Lc R.x L L' k0 (unF po g) (unF po' g') := by
  intro g
  induction g with
  | zero => intro g' k0 _ h _ k h1 h2; omega
  | succ g ih =>
    have main : ∀ g' k0, Lc R.x L L' k0 po po' → L.length + 1 ≤ g + 1 + k0 → L'.length + 1 ≤ g' + 1 + k0 → Lc R.x L L' k0 (unF po (g + 1)) (unF po' (g' + 1)) := by
      intro g' k0 hp h h'
      rw [un_eq, un_eq]
      exact lc_ifL hE (by decide) (fun _ _ => lc_bind R.xx (ih g' (k0 + 1) (hp.from (by omega)) (by omega) (by omega)) fun _ _ hx => lc_ret (R.hx _ _ _ _ _ _ _ _ _ _ _ ⟨hx, trivial⟩)) hp
    intro g' k0 hp h h'
    cases g' with
    | zero => exact Lc.late (main (L'.length + 2) k0 hp h (by omega)) (by omega)
    | succ g' => exact main g' k0 hp h h'
theorem lc_unOf (R : Rels) {L L' : List (Wd × Nat)} {k0 : Nat} (hE : Le L) {ch ch' : Nat → Pf Ex} (h : Lc R.x L L' (k0 + 1) (ch 0) (ch' 0)) : Lc R.x L L' k0 (unOf ch) (unOf ch') := by
  unfold unOf
  exact lc_fuel (F := unF (postP (primP ch (plainP (castP (ch 0)) (hashP (someP (ch 0))))))) (F' := unF (postP (primP ch' (plainP (castP (ch' 0)) (hashP (someP (ch' 0))))))) fun k hk => lc_un R hE _ _ k ((lc_post R hE (lc_prim R hE h (lc_plain R hE (lc_cast R hE h) (lc_hash R hE (lc_some hE R.xx h))))).from hk) (by omega) (by omega)
theorem chL_next {ch : Nat → Pf Ex} {least ln g most : Nat} {x : Ex} {L : List (Wd × Nat)} {k : Nat} {t : List UInt8 × Nat × Nat} (h : twoP (sP L k) = some t) (hc : ¬ (t.2.2 < least ∨ most < t.2.2)) : chL ch least ln (g + 1) x most L k = ((ch (t.2.2 + 1)).bind fun y => chL ch least ln g (exOp t.2.1 [x, y] ln) (if t.2.2 = 2 then 1 else t.2.2)) L (k + 1) := by
  unfold Pf.bind
  simp only [chL, h]
  rw [if_neg hc]
  cases ch (t.2.2 + 1) L (k + 1) <;> rfl
theorem lc_chL (R : Rels) {L L' : List (Wd × Nat)} (hE : Le L) {ch ch' : Nat → Pf Ex} {least : Nat} : ∀ (g g' k0 n n' : Nat) (x x' : Ex) (most : Nat), (∀ l, Lc R.x L L' (k0 + 1) (ch l) (ch' l)) → R.x x x' → L.length + 1 ≤ g + k0 → L'.length + 1 ≤ g' + k0 → Lc R.x L L' k0 (chL ch least n g x most) (chL ch' least n' g' x' most) := by
  intro g
  induction g with
  | zero => intro g' k0 n n' x x' most _ _ h _ k h1 h2; omega
  | succ g ih =>
    have main : ∀ (g' k0 n n' : Nat) (x x' : Ex) (most : Nat), (∀ l, Lc R.x L L' (k0 + 1) (ch l) (ch' l)) → R.x x x' → L.length + 1 ≤ g + 1 + k0 → L'.length + 1 ≤ g' + 1 + k0 → Lc R.x L L' k0 (chL ch least n (g + 1) x most) (chL ch' least n' (g' + 1) x' most) := by
      intro g' k0 n n' x x' most hch hx h h' k h1 h2
      cases ht : twoP (sP L k) with
      | none =>
        rw [chL_none (by omega) ht]
        exact (LcR.ret h2 hx).pre fun hA => chL_none (by omega) (by rw [(ag_words hA).1]; exact ht)
      | some t =>
        by_cases hc : t.2.2 < least ∨ most < t.2.2
        · rw [chL_stop (by omega) ht hc]
          exact (LcR.ret h2 hx).pre fun hA => chL_stop (by omega) (by rw [(ag_words hA).1]; exact ht) hc
        · rw [chL_next ht hc]
          have hk : k + 1 < L.length := by
            obtain ⟨f1, f2, _, _⟩ := two_facts ht
            refine word_lt hE ?_
            show sP L k ≠ []
            rw [← f1]; exact f2
          exact (lc_bind R.xx (hch (t.2.2 + 1)) (f := fun y => chL ch least n g (exOp t.2.1 [x, y] n) (if t.2.2 = 2 then 1 else t.2.2)) (f' := fun y => chL ch' least n' g' (exOp t.2.1 [x', y] n') (if t.2.2 = 2 then 1 else t.2.2)) (fun y y' hy => ih g' (k0 + 1) n n' _ _ _ (fun l => (hch l).from (by omega)) (R.hx _ _ _ _ _ _ _ _ _ _ _ ⟨hx, hy, trivial⟩) (by omega) (by omega)) (k + 1) (by omega) hk).later.pre fun hA => chL_next (by rw [(ag_words hA).1]; exact ht) hc
    intro g' k0 n n' x x' most hch hx h h'
    cases g' with
    | zero => exact Lc.late (main (L'.length + 2) k0 n n' x x' most hch hx h (by omega)) (by omega)
    | succ g' => exact main g' k0 n n' x x' most hch hx h h'
theorem chainG_eq (un : Pf Ex) (ch : Nat → Pf Ex) (least : Nat) : chainG un ch least = lnP fun n => un.bind fun x => fun L k => chL ch least n (L.length + 1 - k) x 7 L k := by
  funext L k
  simp only [chainG, lnP, Pf.bind]
  cases un L k <;> rfl
theorem lc_chainG (R : Rels) {L L' : List (Wd × Nat)} {k0 : Nat} (hE : Le L) {un un' : Pf Ex} {ch ch' : Nat → Pf Ex} (least : Nat) (hu : Lc R.x L L' k0 un un') (hch : ∀ l, Lc R.x L L' (k0 + 1) (ch l) (ch' l)) : Lc R.x L L' k0 (chainG un ch least) (chainG un' ch' least) := by
  rw [chainG_eq, chainG_eq]
  exact lc_ln fun n n' => lc_bind R.xx hu fun x x' hx => lc_fuel (F := fun g => chL ch least n g x 7) (F' := fun g => chL ch' least n' g x' 7) fun k hk => lc_chL R hE _ _ k n n' x x' 7 (fun l => (hch l).from (by omega)) hx (by omega) (by omega)
theorem lc_chain (R : Rels) {L L' : List (Wd × Nat)} (hE : Le L) : ∀ (f f' k0 l : Nat), L.length ≤ f + k0 → L'.length ≤ f' + k0 → Lc R.x L L' k0 (chainF f l) (chainF f' l) := by
  intro f
  induction f with
  | zero => intro f' k0 l h _ k h1 h2; omega
  | succ f ih =>
    have main : ∀ f' k0 l, L.length ≤ f + 1 + k0 → L'.length ≤ f' + 1 + k0 → Lc R.x L L' k0 (chainF (f + 1) l) (chainF (f' + 1) l) := by
      intro f' k0 l h h'
      rw [chainF, chainF]
      exact lc_chainG R hE l (lc_unOf R hE (ih f' (k0 + 1) 0 (by omega) (by omega))) fun l => ih f' (k0 + 1) l (by omega) (by omega)
    intro f' k0 l h h'
    cases f' with
    | zero => exact Lc.late (main L'.length k0 l h (by omega)) (by omega)
    | succ f' => exact main f' k0 l h h'
theorem lc_expr (R : Rels) {L L' : List (Wd × Nat)} (hE : Le L) {k0 : Nat} : Lc R.x L L' k0 exprP exprP := fun k _ h2 => lc_chain R hE (L.length - k) (L'.length - k) k 0 (by omega) (by omega) k (Nat.le_refl _) h2
end Go.Proofs.YtcfopkaomknmjaaGreatDoor
