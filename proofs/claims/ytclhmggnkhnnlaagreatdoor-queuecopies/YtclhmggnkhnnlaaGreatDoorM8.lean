/- Pieces of the proof: GnD. -/
import Derived.Test.YtclhmggnkhnnlaaGreatDoorM4
import Derived.Test.YtclhmggnkhnnlaaGreatDoorM3
import Derived.Laws.AppendOwnNone
/- Of every package, naming no number: lists cell by cell. (Cut out of GnM in round 17.) -/
namespace Go.Proofs.YtclhmggnkhnnlaaGreatDoor
open Go.RowKit

def flat {α : Type} (f : α → List Value) (l : List α) : List Value := l.flatMap f
theorem flat_length {α : Type} {f : α → List Value} {c : Nat} (hf : ∀ x, (f x).length = c) : ∀ l : List α, (flat f l).length = l.length * c
  | [] => by simp [flat]
  | x :: l => by
    have := flat_length hf l
    unfold flat at *
    rw [List.flatMap_cons, List.length_append, hf, this, List.length_cons, Nat.succ_mul, Nat.add_comm]
theorem flat_append {α : Type} (f : α → List Value) (l m : List α) : flat f (l ++ m) = flat f l ++ flat f m := by simp [flat]
theorem flat_get {α : Type} {f : α → List Value} {c : Nat} (hf : ∀ x, (f x).length = c) : ∀ (l : List α) (i j : Nat) (h : i < l.length), j < c → (flat f l)[i * c + j]? = (f l[i])[j]?
  | [], i, _, h, _ => by simp at h
  | x :: l, 0, j, _, hj => by
    unfold flat
    rw [List.flatMap_cons, Nat.zero_mul, Nat.zero_add, List.getElem?_append_left (by rw [hf]; exact hj)]
    rfl
  | x :: l, i + 1, j, h, hj => by
    have := flat_get hf l i j (by simpa using h) hj
    unfold flat at *
    rw [List.flatMap_cons, List.getElem?_append_right (by rw [hf, Nat.succ_mul]; omega), hf]
    rw [List.getElem_cons_succ, ← this]
    congr 1
    rw [Nat.succ_mul]; omega
theorem flat_one {α : Type} {f : α → List Value} (hf : ∀ x, ∀ u ∈ f x, u.oneCell' = true) (l : List α) : ∀ u ∈ flat f l, u.oneCell' = true := fun u hu => by
  obtain ⟨x, _, h⟩ := List.mem_flatMap.1 hu
  exact hf x u h
theorem flat_src {α : Type} {f : α → List Value} {c : Nat} (hc : 0 < c) (hf : ∀ x, (f x).length = c) {W : World} {p off : Nat} {l : List α} (h : ∀ i (hi : i < l.length) j u, (f l[i])[j]? = some u → W.cell? ⟨p, off + i * c + j, none⟩ = some u) : ∀ j u, (flat f l)[j]? = some u → W.cell? ((⟨p, off, none⟩ : Addr).add j) = some u := fun j u hu => by
  have hj : j < (flat f l).length := (List.getElem?_eq_some_iff.1 hu).1
  rw [flat_length hf] at hj
  have hi : j / c < l.length := Nat.div_lt_of_lt_mul (by rw [Nat.mul_comm]; exact hj)
  have hm := Nat.mod_lt j hc
  have e : j / c * c + j % c = j := by rw [Nat.mul_comm]; exact Nat.div_add_mod j c
  rw [← e, flat_get hf l _ _ hi hm] at hu
  have := h _ hi _ _ hu
  rw [add8, ← this]
  congr 2
  omega
theorem own_cell {W : World} {B c n : Nat} {e : TypeId} {v : Value} {α : Type} {f : α → List Value} {l : List α} (hf : ∀ x, (f x).length = c) (h : W.ownsRow B e c v n (flat f l)) {g cap : Nat} (hv : v = .slice (some ⟨g, 0, none⟩) n cap) (i : Nat) (hi : i < l.length) (j : Nat) (u : Value) (hj : (f l[i])[j]? = some u) : W.cell? ⟨g, 0 + i * c + j, none⟩ = some u := by
  have hjc : j < c := by have := (List.getElem?_eq_some_iff.1 hj).1; rw [hf] at this; exact this
  have := World.ownsRow.cells h (g := g) (by rw [hv]; rfl) (i * c + j) u (by rw [flat_get hf l i j hi hjc]; exact hj)
  rw [add8] at this
  rw [← this]; congr 2; omega
theorem own_form {W : World} {B c n : Nat} {e : TypeId} {v : Value} {xs : List Value} (h : W.ownsRow B e c v n xs) : (v = .slice none 0 0 ∧ n = 0) ∨ ∃ g cap, v = .slice (some ⟨g, 0, none⟩) n cap ∧ B ≤ g ∧ g < W.heap.size ∧ n ≤ cap := by
  rcases h.2 with ⟨h1, h2⟩ | ⟨g, cap, cur, h1, h2, h3, h4, _⟩
  · exact .inl ⟨h1, h2⟩
  · exact .inr ⟨g, cap, h1, h2, (Array.getElem?_eq_some_iff.1 h3).1, h4⟩
end Go.Proofs.YtclhmggnkhnnlaaGreatDoor
