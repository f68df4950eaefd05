/- pointsmanlaw17.QueuePlays: what it holds while it runs. -/
import Derived.Test.YtnihneicoikdhaaGreatDoorQvK
import Derived.Test.YtnihneicoikdhaaGreatDoorQvS
import Derived.Test.YtnihneicoikdhaaGreatDoorQvT
namespace Go.Proofs.YtnihneicoikdhaaGreatDoor
open Go.RowKit

def Cy.u (c : Cy) : Nat × Value × Nat := (2, .slice c.a c.xs.length c.cap, c.xs.length)
theorem oob2 : OoB 2 := ⟨by decide, by decide⟩
/- The document's queue, the Book, and the lists of one's own that the Book is not told yet. -/
structure PD (w : World) (gr gb r N : Nat) (U M : List Cy) (W : World) : Prop where
  d : ∃ vr, Rs W w.heap.size gr r vr M ∧ vr.ownBlock ≠ some gb
  b : ∃ n v hs, BoR KQ lvQ w gb W n v hs (U.map Cy.u) ∧ n + U.length ≤ N
  o : ∀ c ∈ U, Own8 W w.heap.size (.slice c.a c.xs.length c.cap) c.xs
  m : ∀ c ∈ M, RdA w c.a c.xs
  x : ∀ c ∈ U, c.xs.length ≤ 140737488351232
  ne : gr ≠ gb
/- What is not moved. -/
def TF (gb : Nat) (W W' : World) : Prop := W.heap.size ≤ W'.heap.size ∧ ∀ b cs t f, W.heap[b]? = some (.cells cs t f) → t ≠ 112 → t ≠ 83 → t ≠ 75 → t ≠ 130 → b ≠ gb → W'.heap[b]? = some (.cells cs t f)
/- What the document's queue and the Book do not move. -/
def TR (gb : Nat) (W W' : World) : Prop := W.heap.size ≤ W'.heap.size ∧ ∀ b cs t f, W.heap[b]? = some (.cells cs t f) → t ≠ 83 → t ≠ 75 → t ≠ 130 → b ≠ gb → W'.heap[b]? = some (.cells cs t f)
theorem TR.tf {gb : Nat} {W W' : World} (h : TR gb W W') : TF gb W W' := ⟨h.1, fun b cs t f hb _ h2 h3 h4 h5 => h.2 b cs t f hb h2 h3 h4 h5⟩
theorem TR.qs {gb g r f : Nat} {W W' : World} {L : List Cy} (h : TR gb W W') (hq : Qs W g r f L) (hg : g ≠ gb) : Qs W' g r f L := by
  obtain ⟨cs, h1, h2⟩ := hq
  exact ⟨cs, h.2 g _ _ _ h1 (by decide) (by decide) (by decide) hg, h2⟩
theorem tr_of {gb : Nat} {W W' : World} {E : Nat → Prop} (hf : Fr E W W') (hE : ∀ b, E b → b = gb ∨ ∃ cs t f, W.heap[b]? = some (.cells cs t f) ∧ (t = 83 ∨ t = 75 ∨ t = 130)) : TR gb W W' := by
  refine ⟨hf.size, fun b cs t f hb h2 h3 h4 h5 => ?_⟩
  refine (hf.block b (lt_heap hb) (fun e => ?_)).trans hb
  rcases hE b e with e | ⟨cs', t', f', hb', ht⟩
  · exact h5 e
  · rw [hb] at hb'
    injection hb' with hb'
    injection hb' with _ hb' _
    subst hb'
    rcases ht with e | e | e
    · exact h2 e
    · exact h3 e
    · exact h4 e
theorem TR.below {gb : Nat} {W W' : World} (hb : Below W.heap.size W W') : TR gb W W' := tr_of (E := fun _ => False) (Fr.ofBelow hb) (fun _ e => e.elim)
theorem TR.trans {gb : Nat} {W W' W2 : World} (h : TR gb W W') (k : TR gb W' W2) : TR gb W W2 := ⟨Nat.le_trans h.1 k.1, fun b cs t f hb h2 h3 h4 h5 => k.2 b cs t f (h.2 b cs t f hb h2 h3 h4 h5) h2 h3 h4 h5⟩
section
variable {w W W' : World} {gr gb r N : Nat} {U M : List Cy}
theorem tf_of {E : Nat → Prop} (hf : Fr E W W') (hE : ∀ b, E b → b = gb ∨ ∃ cs t f, W.heap[b]? = some (.cells cs t f) ∧ (t = 112 ∨ t = 83 ∨ t = 75 ∨ t = 130)) : TF gb W W' := by
  refine ⟨hf.size, fun b cs t f hb h1 h2 h3 h4 h5 => ?_⟩
  refine (hf.block b (lt_heap hb) (fun e => ?_)).trans hb
  rcases hE b e with e | ⟨cs', t', f', hb', ht⟩
  · exact h5 e
  · rw [hb] at hb'
    injection hb' with hb'
    injection hb' with _ hb' _
    subst hb'
    rcases ht with e | e | e | e
    · exact h1 e
    · exact h2 e
    · exact h3 e
    · exact h4 e
theorem TF.below (hb : Below W.heap.size W W') : TF gb W W' := tf_of (E := fun _ => False) (Fr.ofBelow hb) (fun _ e => e.elim)
theorem TF.trans {W2 : World} (h : TF gb W W') (k : TF gb W' W2) : TF gb W W2 := ⟨Nat.le_trans h.1 k.1, fun b cs t f hb h1 h2 h3 h4 h5 => k.2 b cs t f (h.2 b cs t f hb h1 h2 h3 h4 h5) h1 h2 h3 h4 h5⟩
theorem own_ty {B e c n b : Nat} {v : Value} {xs : List Value} (h : W.ownsRow B e c v n xs) (hb : v.ownBlock = some b) {cs : Array Value} {t : TypeId} {f : Nat × Nat} (hh : W.heap[b]? = some (.cells cs t f)) : t = e := by
  obtain ⟨c2, h3⟩ := row_ty h hb
  rw [hh] at h3
  injection h3 with h3
  injection h3 with _ h3 _
theorem TF.own {B e c n : Nat} {v : Value} {xs : List Value} (h : TF gb W W') (ho : W.ownsRow B e c v n xs) (h1 : e ≠ 112) (h2 : e ≠ 83) (h3 : e ≠ 75) (h4 : e ≠ 130) (h5 : v.ownBlock ≠ some gb) : W'.ownsRow B e c v n xs := by
  refine ⟨ho.1, ?_⟩
  rcases ho.2 with h0 | ⟨g, cap, cur, rfl, hg, hcur, rest⟩
  · exact .inl h0
  · exact .inr ⟨g, cap, cur, rfl, hg, h.2 g _ _ _ hcur h1 h2 h3 h4 (fun e => h5 (by rw [e]; rfl)), rest⟩
theorem TF.own8 {B : Nat} {v : Value} {xs : List Nat} (h : TF gb W W') (ho : Own8 W B v xs) (h5 : v.ownBlock ≠ some gb) : Own8 W' B v xs := TF.own h ho (by decide) (by decide) (by decide) (by decide) h5
theorem PD.bl (h : PD w gr gb r N U M W) : Below w.heap.size w W := by obtain ⟨n, v, hs, h, _⟩ := h.b; exact h.bl
theorem PD.gbl (h : PD w gr gb r N U M W) : w.heap.size ≤ gb ∧ gb < W.heap.size := by obtain ⟨n, v, hs, h, _⟩ := h.b; exact h.lt
theorem PD.og (h : PD w gr gb r N U M W) : ∀ c ∈ U, (Value.slice c.a c.xs.length c.cap).ownBlock ≠ some gb := fun c hc => by
  obtain ⟨n, v, hs, h, _⟩ := h.b
  exact (h.ow _ (List.mem_map_of_mem hc)).2.2.2.2
theorem PD.fr {E : Nat → Prop} (h : PD w gr gb r N U M W) (hf : Fr E W W') (hE : ∀ b, E b → w.heap.size ≤ b ∧ b ≠ gb ∧ ∃ cs t f, W.heap[b]? = some (.cells cs t f) ∧ t ≠ 83 ∧ t ≠ 75 ∧ t ≠ 5 ∧ t ≠ 130 ∧ t < 1000000) : PD w gr gb r N U M W' := by
  obtain ⟨vr, hd, hn⟩ := h.d
  obtain ⟨n, v, hs, hb, hN⟩ := h.b
  refine ⟨⟨vr, hd.fr hf (fun e => ?_) (fun b hb e => ?_), hn⟩, ⟨n, v, hs, hb.fr hf (fun b e => ?_), hN⟩, fun c hc => (h.o c hc).fr hf (fun b hb e => ?_), h.m, h.x, h.ne⟩
  · obtain ⟨_, _, cs, t, f, h1, h2, _⟩ := hE _ e
    rw [hd.blk] at h1
    injection h1 with h1
    injection h1 with _ h1 _
    exact h2 h1.symm
  · obtain ⟨_, _, cs, t, f, h1, _, h2, _⟩ := hE _ e
    exact h2 (own_ty hd.row hb h1)
  · obtain ⟨k1, k2, cs, t, f, k3, _, _, k4, k5, k6⟩ := hE b e
    exact ⟨k1, k2, cs, t, f, k3, kQ_out k4 k5 k6⟩
  · obtain ⟨_, _, cs, t, f, h1, _, _, h2, _⟩ := hE _ e
    exact h2 (own_ty (h.o c hc) hb h1)
theorem PD.next (h : PD w gr gb r N U M W) (hb : Below W.heap.size W W') : PD w gr gb r N U M W' := h.fr (E := fun _ => False) (Fr.ofBelow hb) (fun _ e => e.elim)
theorem PD.add {W0 : World} {U1 U2 : List Cy} (h0 : PD w gr gb r N (U1 ++ U2) M W0) (h : PD w gr gb r N (U1 ++ U2) M W) (hn : ∀ n v hs, BoR KQ lvQ w gb W0 n v hs ((U1 ++ U2).map Cy.u) → BoR KQ lvQ w gb W n v hs ((U1 ++ U2).map Cy.u)) (c : Cy) (ho : Own8 W W0.heap.size (.slice c.a c.xs.length c.cap) c.xs) (hx : c.xs.length ≤ 140737488351232) : PD w gr gb r (N + 1) (U1 ++ c :: U2) M W := by
  obtain ⟨n, v, hs, hb, hN⟩ := h0.b
  have hb' := hn n v hs hb
  rw [List.map_append] at hb hb'
  have := BoR.add hb hb' c.u oob2 rfl ho hx
  refine ⟨h.d, ⟨n, v, hs, by rw [List.map_append, List.map_cons]; exact this, by simp at hN ⊢; omega⟩, fun y hy => ?_, h.m, fun y hy => ?_, h.ne⟩
  · rcases List.mem_append.1 hy with hy | hy
    · exact h.o y (List.mem_append.2 (.inl hy))
    · rcases List.mem_cons.1 hy with rfl | hy
      · exact Own8.lower ho (by have := h0.bl.size; omega)
      · exact h.o y (List.mem_append.2 (.inr hy))
  · rcases List.mem_append.1 hy with hy | hy
    · exact h.x y (List.mem_append.2 (.inl hy))
    · rcases List.mem_cons.1 hy with rfl | hy
      · exact hx
      · exact h.x y (List.mem_append.2 (.inr hy))
theorem PD.tell {c : Cy} (h : PD w gr gb r N (c :: U) M W) (hN : N ≤ 100000) : Calls Tryz.prog 14 #[.pointer (some ⟨gb, 0, none⟩), .slice c.a c.xs.length c.cap] W fun e W' => e = .returned (.tuple #[]) ∧ PD w gr gb r N U M W' ∧ TR gb W W' := by
  obtain ⟨vr, hd, hn⟩ := h.d
  obtain ⟨n, v, hs, hb, hN2⟩ := h.b
  rw [List.map_cons] at hb
  have hrow := (hb.bo.bk 2 oob2).row
  refine (BoR.tell kQ_ok hb keepQ (by simp at hN2; omega)).mono ?_
  rintro e W' ⟨rfl, v', hs', hb', hf⟩
  have hf' : Fr (BEc gb (v 2)) W W' := hf
  have hty : ∀ b, (v 2).ownBlock = some b → ∃ cs, W.heap[b]? = some (.cells cs 130 (0, 0)) := fun b hb => row_ty hrow hb
  refine ⟨rfl, ⟨⟨vr, hd.fr hf' (fun e => ?_) (fun b hvb e => ?_), hn⟩, ⟨_, v', hs', hb', by simp at hN2; omega⟩, fun y hy => (h.o y (List.mem_cons_of_mem _ hy)).fr hf' (fun b hyb e => ?_), h.m, fun y hy => h.x y (List.mem_cons_of_mem _ hy), h.ne⟩, tr_of hf' (fun b e => ?_)⟩
  · rcases e with e | e
    · exact h.ne e
    · have := own_ty hrow e hd.blk
      revert this; decide
  · rcases e with e | e
    · exact hn (by rw [hvb, e])
    · obtain ⟨cs, h1⟩ := hty b e
      have := own_ty hd.row hvb h1
      revert this; decide
  · rcases e with e | e
    · exact h.og y (List.mem_cons_of_mem _ hy) (by rw [hyb, e])
    · obtain ⟨cs, h1⟩ := hty b e
      have := own_ty (h.o y (List.mem_cons_of_mem _ hy)) hyb h1
      revert this; decide
  · rcases e with e | e
    · exact .inl e
    · obtain ⟨cs, h1⟩ := hty b e
      exact .inr ⟨cs, _, _, h1, .inr (.inr rfl)⟩
end
end Go.Proofs.YtnihneicoikdhaaGreatDoor
