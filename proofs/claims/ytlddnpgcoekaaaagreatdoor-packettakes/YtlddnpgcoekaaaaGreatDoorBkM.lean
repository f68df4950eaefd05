/- A Book that was told lists of bytes alone, as it lies in memory. -/
import Derived.Test.YtlddnpgcoekaaaaGreatDoorFr
namespace Go.Proofs.YtlddnpgcoekaaaaGreatDoor
open Go.RowKit

/- One kept list: its value, the value that grew out of it, its number, its bytes. -/
structure Hb where
  v : Value
  vl : Value
  m : Nat
  xs : List Nat
def flat (hs : List Hb) : List Value := hs.flatMap (fun h => [h.v, h.vl, .int .i64 h.m])
theorem flat_length (hs : List Hb) : (flat hs).length = hs.length * 3 := by
  induction hs with
  | nil => rfl
  | cons h r ih => simp [flat, List.flatMap_cons] at ih ⊢; omega
theorem flat_append (hs ks : List Hb) : flat (hs ++ ks) = flat hs ++ flat ks := by simp [flat]
theorem flat_get {hs : List Hb} {i : Nat} (h : i < hs.length) : (flat hs)[3 * i]? = some hs[i].v ∧ (flat hs)[3 * i + 1]? = some hs[i].vl ∧ (flat hs)[3 * i + 2]? = some (.int .i64 hs[i].m) := by
  induction hs generalizing i with
  | nil => simp at h
  | cons a r ih =>
    have e : flat (a :: r) = a.v :: a.vl :: .int .i64 a.m :: flat r := by simp [flat]
    rw [e]
    cases i with
    | zero => exact ⟨rfl, rfl, rfl⟩
    | succ i =>
      have := ih (i := i) (by simpa using h)
      rw [show 3 * (i + 1) = 3 * i + 1 + 1 + 1 by omega]
      simp only [List.getElem?_cons_succ, List.getElem_cons_succ]
      exact this
theorem flat_set {hs : List Hb} {i : Nat} (h : i < hs.length) (u : Value) : (flat hs).set (3 * i + 1) u = flat (hs.set i { hs[i] with vl := u }) := by
  induction hs generalizing i with
  | nil => simp at h
  | cons a r ih =>
    have e : ∀ b : Hb, ∀ q, flat (b :: q) = b.v :: b.vl :: .int .i64 b.m :: flat q := fun b q => by simp [flat]
    cases i with
    | zero => rw [e]; simp only [List.set_cons_zero, List.getElem_cons_zero, e]; rfl
    | succ i =>
      have := ih (i := i) (by simpa using h)
      rw [e, show 3 * (i + 1) + 1 = 3 * i + 1 + 1 + 1 + 1 by omega]
      simp only [List.set_cons_succ, List.getElem_cons_succ, e]
      rw [show 3 * i + 1 = 3 * i + 1 from rfl] at this
      rw [this]
structure Bk (W : World) (B g : Nat) (vb : Value) (n : Nat) (hs : List Hb) : Prop where
  gB : B ≤ g
  c0 : W.cell? ⟨g, 0, none⟩ = some (.int .i64 n)
  cz : ∀ o, 1 ≤ o → o ≤ 30 → o ≠ 2 → W.cell? ⟨g, o, none⟩ = some (.slice none 0 0)
  c2 : W.cell? ⟨g, 2, none⟩ = some vb
  soft : ∀ o, W.frozen? ⟨g, o, none⟩ = false
  row : W.ownsRow B 95 3 vb hs.length (flat hs)
  ne : vb.ownBlock ≠ some g
theorem Bk.lt {W : World} {B g n : Nat} {vb : Value} {hs : List Hb} (h : Bk W B g vb n hs) : g < W.heap.size := World.block_lt_of_cell? W _ h.c0
theorem Bk.vlt {W : World} {B g n : Nat} {vb : Value} {hs : List Hb} (h : Bk W B g vb n hs) : ∀ b, vb.ownBlock = some b → B ≤ b ∧ b < W.heap.size := World.ownsRow.lt h.row
theorem ownsRow_lower {W : World} {B B' e size n : Nat} {v : Value} {xs : List Value} (h : W.ownsRow B e size v n xs) (hb : B' ≤ B) : W.ownsRow B' e size v n xs := by
  refine ⟨h.1, ?_⟩
  rcases h.2 with h0 | ⟨gr, cap, cur, e, hg, rest⟩
  · exact .inl h0
  · exact .inr ⟨gr, cap, cur, e, Nat.le_trans hb hg, rest⟩
theorem ownsRow_fr {E : Nat → Prop} {W W' : World} {B e size n : Nat} {v : Value} {xs : List Value} (h : W.ownsRow B e size v n xs) (hf : Fr E W W') (hn : ∀ b, v.ownBlock = some b → ¬ E b) : W'.ownsRow B e size v n xs := by
  refine ⟨h.1, ?_⟩
  rcases h.2 with h0 | ⟨gr, cap, cur, rfl, hg, hcur, rest⟩
  · exact .inl h0
  · exact .inr ⟨gr, cap, cur, rfl, hg, (hf.block _ (Array.getElem?_eq_some_iff.1 hcur).1 (hn gr rfl)).trans hcur, rest⟩
theorem Own8.fr {E : Nat → Prop} {W W' : World} {B : Nat} {v : Value} {xs : List Nat} (h : Own8 W B v xs) (hf : Fr E W W') (hn : ∀ b, v.ownBlock = some b → ¬ E b) : Own8 W' B v xs := ownsRow_fr h hf hn
theorem Bk.fr {E : Nat → Prop} {W W' : World} {B g n : Nat} {vb : Value} {hs : List Hb} (h : Bk W B g vb n hs) (hf : Fr E W W') (h1 : ¬ E g) (h2 : ∀ b, vb.ownBlock = some b → ¬ E b) : Bk W' B g vb n hs := by
  refine ⟨h.gB, hf.cell h.c0 h1, fun o o1 o2 o3 => hf.cell (h.cz o o1 o2 o3) h1, hf.cell h.c2 h1, fun o => ?_, ownsRow_fr h.row hf h2, h.ne⟩
  exact (World.frozen?_of_block (w := W) (a := ⟨g, o, none⟩) (hf.block g h.lt h1)).trans (h.soft o)
theorem Bk.next {W W' : World} {B g n : Nat} {vb : Value} {hs : List Hb} (h : Bk W B g vb n hs) (hb : Below W.heap.size W W') : Bk W' B g vb n hs := h.fr (E := fun _ => False) (Fr.ofBelow hb) (fun e => e) (fun _ _ e => e)
/- The kept lists lie apart from the book, from its row, and from one another. -/
structure Sep (g : Nat) (vb : Value) (hs : List Hb) : Prop where
  g : ∀ h ∈ hs, h.v.ownBlock ≠ some g
  b : ∀ h ∈ hs, ∀ k, h.v.ownBlock = some k → vb.ownBlock ≠ some k
  p : ∀ i j (hi : i < hs.length) (hj : j < hs.length), i ≠ j → ∀ k, hs[i].v.ownBlock = some k → hs[j].v.ownBlock ≠ some k
/- The cells of the i-th row. -/
theorem Bk.at {W : World} {B g n : Nat} {vb : Value} {hs : List Hb} (h : Bk W B g vb n hs) {i : Nat} (hi : i < hs.length) : ∃ r cap, vb = .slice (some ⟨r, 0, none⟩) hs.length cap ∧ r < W.heap.size ∧ B ≤ r ∧ hs.length ≤ cap ∧ W.cell? ⟨r, 3 * i, none⟩ = some hs[i].v ∧ W.cell? ⟨r, 3 * i + 1, none⟩ = some hs[i].vl ∧ W.cell? ⟨r, 3 * i + 2, none⟩ = some (.int .i64 hs[i].m) ∧ ∀ o, W.frozen? ⟨r, o, none⟩ = false := by
  rcases h.row.2 with ⟨_, hn⟩ | ⟨r, cap, cur, hv, hr, hcur, h1, h2, h3, h4⟩
  · omega
  · have hc : ∀ j u, (flat hs)[j]? = some u → W.cell? ⟨r, j, none⟩ = some u := fun j u hu => by
      have := World.ownsRow.cells (hv ▸ h.row) (g := r) rfl j u hu
      rwa [add8, Nat.zero_add] at this
    obtain ⟨f1, f2, f3⟩ := flat_get hi
    refine ⟨r, cap, hv, (Array.getElem?_eq_some_iff.1 hcur).1, hr, h1, hc _ _ f1, hc _ _ f2, hc _ _ f3, fun o => ?_⟩
    unfold World.frozen?; simp only [hcur]; simp
/- The i-th row's grown value is written. -/
theorem Bk.put {W : World} {B g n r cap : Nat} {hs : List Hb} (h : Bk W B g (.slice (some ⟨r, 0, none⟩) hs.length cap) n hs) {i : Nat} (hi : i < hs.length) (u : Value) : Bk (W.setCell ⟨r, 3 * i + 1, none⟩ u) B g (.slice (some ⟨r, 0, none⟩) hs.length cap) n (hs.set i { hs[i] with vl := u }) := by
  have hrg : r ≠ g := fun e => h.ne (by rw [e]; rfl)
  have hF : Fr (fun b => b = r) W (W.setCell ⟨r, 3 * i + 1, none⟩ u) := (Fr.refl _ W).set _ _ rfl
  refine ⟨h.gB, hF.cell h.c0 (fun e => hrg e.symm), fun o o1 o2 o3 => hF.cell (h.cz o o1 o2 o3) (fun e => hrg e.symm), hF.cell h.c2 (fun e => hrg e.symm), fun o => by rw [World.frozen?_setCell]; exact h.soft o, ?_, h.ne⟩
  rcases h.row.2 with ⟨e, _⟩ | ⟨r', cap', cur, hv, hr, hcur, h1, h2, h3, h4⟩
  · cases e
  · injection hv with e1 e2 e3
    injection e1 with e1
    injection e1 with e1
    subst e1 e3
    refine ⟨by rw [flat_length, List.length_set], .inr ⟨r, cap, _, by rw [List.length_set], hr, heap_setCell_same hcur _, by rw [List.length_set]; exact h1, h2, by simpa using h3, ?_⟩⟩
    rw [List.length_set, Array.toList_setIfInBounds, List.take_set, h4, flat_set hi]
end Go.Proofs.YtlddnpgcoekaaaaGreatDoor
