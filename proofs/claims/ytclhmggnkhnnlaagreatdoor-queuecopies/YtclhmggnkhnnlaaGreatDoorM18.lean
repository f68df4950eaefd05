/- Pieces of the proof: QuH. -/
import Derived.Test.YtclhmggnkhnnlaaGreatDoorM17
import Derived.Maps.OwnIn
/- package queue: Copies. -/
namespace Go.Proofs.YtclhmggnkhnnlaaGreatDoor
open Go.RowKit Go.Shelf

attribute [local go_sem] Oper.semAt_some
theorem own_frE {E : Nat → Prop} {W W' : World} {B c n : Nat} {e : TypeId} {v : Value} {xs : List Value} (h : W.ownsRow B e c v n xs) (hf : Fr E W W') (hn : ∀ b, v.ownBlock = some b → ¬ E b) : W'.ownsRow B e c v n xs := by
  refine ⟨h.1, ?_⟩
  rcases h.2 with h0 | ⟨gr, cap, cur, rfl, hg, hcur, rest⟩
  · exact .inl h0
  · exact .inr ⟨gr, cap, cur, rfl, hg, (hf.block _ (Array.getElem?_eq_some_iff.1 hcur).1 (hn gr rfl)).trans hcur, rest⟩
theorem own_lowerE {W : World} {B B' c n : Nat} {e : TypeId} {v : Value} {xs : List Value} (h : W.ownsRow B e c v n xs) (hb : B' ≤ B) : W.ownsRow B' e c v n xs := by
  refine ⟨h.1, ?_⟩
  rcases h.2 with h0 | ⟨gr, cap, cur, rfl, hg, rest⟩
  · exact .inl h0
  · exact .inr ⟨gr, cap, cur, rfl, Nat.le_trans hb hg, rest⟩
theorem own_heapE {W : World} {B c n : Nat} {e : TypeId} {v : Value} {xs : List Value} (h : W.ownsRow B e c v n xs) {b : Nat} (hb : v.ownBlock = some b) : ∃ cs, W.heap[b]? = some (.cells cs e (0, 0)) := by
  rcases h.2 with ⟨rfl, _⟩ | ⟨gr, cap, cur, rfl, hg, hcur, _⟩
  · cases hb
  · have : gr = b := by injection hb
    subst this
    exact ⟨_, hcur⟩
theorem own_ncellE {W : World} {B c n : Nat} {e : TypeId} {v : Value} {xs : List Value} (h : W.ownsRow B e c v n xs) {l : Nat} {o : Obj} (hl : W.heap[l]? = some o) (ho : o.isCells = false) : v.ownBlock ≠ some l := fun hb => by
  obtain ⟨cs, hc⟩ := own_heapE h hb
  rw [hl] at hc
  cases hc
  cases ho
theorem own_shapeE {W : World} {B c n : Nat} {e : TypeId} {v : Value} {xs : List Value} (h : W.ownsRow B e c v n xs) : ∃ a cap, v = .slice a n cap := by
  rcases h.2 with ⟨rfl, hn⟩ | ⟨gr, cap, cur, rfl, _⟩
  · exact ⟨none, 0, by rw [hn]⟩
  · exact ⟨_, _, rfl⟩
/- What Copies holds. -/
structure CpI (w : World) (n₀ b6 : Nat) (xs : List Nat) (pre : List Cy) (W : World) : Prop where
  bl : Below w.heap.size w W
  sz : n₀ ≤ W.heap.size
  box : ∃ v, W.heap[b6]? = some (.cells #[v] 35 (0, 0)) ∧ W.ownsRow n₀ 80 2 v pre.length (flat Cy.cells pre)
  ow : ∀ y ∈ pre, y.xs = xs ∧ Own8 W n₀ (.slice y.a y.xs.length y.cap) y.xs
  pw : pre.Pairwise (fun y z => ∀ b b', (Value.slice y.a y.xs.length y.cap).ownBlock = some b → (Value.slice z.a z.xs.length z.cap).ownBlock = some b' → b < b')
theorem CpI.fr {w : World} {n₀ b6 : Nat} {xs : List Nat} {pre : List Cy} {W W' : World} {E : Nat → Prop} (h : CpI w n₀ b6 xs pre W) (hf : Fr E W W') (h6 : ¬ E b6) (hw : ∀ b, E b → w.heap.size ≤ b) (hc : ∀ b cs t, W.heap[b]? = some (.cells cs t (0, 0)) → n₀ ≤ b → ¬ E b) : CpI w n₀ b6 xs pre W' := by
  obtain ⟨v, h1, h2⟩ := h.box
  refine ⟨h.bl.trans (hf.below hw h.bl.size), Nat.le_trans h.sz hf.size, ⟨v, (hf.block _ (lt_heap h1) h6).trans h1, own_frE h2 hf (fun b hb => ?_)⟩, fun y hy => ⟨(h.ow y hy).1, (h.ow y hy).2.fr hf (fun b hb => ?_)⟩, h.pw⟩
  · obtain ⟨cs, hh⟩ := own_heapE h2 hb
    exact hc b cs _ hh (World.ownsRow.lt h2 b hb).1
  · obtain ⟨cs, hh⟩ := own_heapE (h.ow y hy).2 hb
    exact hc b cs _ hh (World.ownsRow.lt (h.ow y hy).2 b hb).1
theorem CpI.below {w : World} {n₀ b6 : Nat} {xs : List Nat} {pre : List Cy} {W W' : World} (h : CpI w n₀ b6 xs pre W) (hb : Below W.heap.size W W') : CpI w n₀ b6 xs pre W' :=
  h.fr (E := fun _ => False) (Fr.ofBelow hb) (fun e => e) (fun _ e => e.elim) (fun _ _ _ _ _ e => e)
theorem CpI.put {w : World} {n₀ b6 : Nat} {xs : List Nat} {pre : List Cy} {W : World} (h : CpI w n₀ b6 xs pre W) (h6 : b6 < n₀) (hwn : w.heap.size ≤ n₀) {l : Nat} {o : Obj} (o' : Obj) (hl0 : n₀ ≤ l) (hl : W.heap[l]? = some o) (ho : o.isCells = false) : CpI w n₀ b6 xs pre (W.putObj l o') :=
  h.fr (putObj_fr W o') (by omega) (fun b e => by omega) (fun b cs t hc _ e => by subst e; rw [hl] at hc; cases hc; cases ho)
/- ... and behind the assignment of its variable. -/
structure CpA (w : World) (n₀ b6 : Nat) (xs : List Nat) (pre : List Cy) (x : Cy) (cb : Nat) (W : World) : Prop where
  i : CpI w n₀ b6 xs pre W
  xx : x.xs = xs
  ox : Own8 W n₀ (.slice x.a x.xs.length x.cap) x.xs
  gt : ∀ y ∈ pre, ∀ b b', (Value.slice y.a y.xs.length y.cap).ownBlock = some b → (Value.slice x.a x.xs.length x.cap).ownBlock = some b' → b < b'
  bx : W.heap[cb]? = some (.cells #[.int .i64 x.port, .slice x.a x.xs.length x.cap] 80 (0, 0))
  nc : n₀ ≤ cb
theorem CpA.put {w : World} {n₀ b6 : Nat} {xs : List Nat} {pre : List Cy} {x : Cy} {cb : Nat} {W : World} (h : CpA w n₀ b6 xs pre x cb W) (h6 : b6 < n₀) (hwn : w.heap.size ≤ n₀) {l : Nat} {o : Obj} (o' : Obj) (hl0 : n₀ ≤ l) (hl : W.heap[l]? = some o) (ho : o.isCells = false) : CpA w n₀ b6 xs pre x cb (W.putObj l o') :=
  ⟨h.i.put h6 hwn o' hl0 hl ho, h.xx, h.ox.fr (putObj_fr W o') (fun b hb e => own_ncellE h.ox hl ho (by rw [hb, e])), h.gt, (World.putObj_heap_other (fun e => by have := h.bx; rw [e, hl] at this; cases this; cases ho)).trans h.bx, h.nc⟩
theorem CpA.of {w : World} {n₀ b6 : Nat} {xs : List Nat} {pre : List Cy} {x : Cy} {W0 W1 W2 W3 : World} (h : CpI w n₀ b6 xs pre W0) (hb : Below W0.heap.size W0 W1) (he : ElC xs x W0 W1) (h2 : Below W1.heap.size W1 W2) (h3 : W3.heap[W1.heap.size]? = some (.cells #[.int .i64 x.port, .slice x.a x.xs.length x.cap] 80 (0, 0))) (hf : Fr (· = W1.heap.size) W2 W3) : CpA w n₀ b6 xs pre x W1.heap.size W3 := by
  have b13 : Below W1.heap.size W1 W3 := h2.trans (hf.below (fun b e => by omega) h2.size)
  have b03 : Below W0.heap.size W0 W3 := bstep hb b13
  refine ⟨h.below b03, he.1, (he.2.below b13).lower h.sz, fun y hy b b' h1 h2' => ?_, h3, Nat.le_trans h.sz hb.size⟩
  have e1 := (World.ownsRow.lt (h.ow y hy).2 b h1).2
  have e2 := (World.ownsRow.lt he.2 b' h2').1
  omega
/- One more copy. -/
theorem CpA.snoc {w : World} {n₀ b6 cb : Nat} {xs : List Nat} {pre : List Cy} {x : Cy} {W W1 W2 : World} {v v' : Value} (h : CpA w n₀ b6 xs pre x cb W) (h6 : b6 < n₀) (hw6 : w.heap.size ≤ b6) (hbx : W.heap[b6]? = some (.cells #[v] 35 (0, 0))) (hb1 : Below W.heap.size W W1) (hr : W2.ownsRow n₀ 80 2 v' (pre.length + 1) (flat Cy.cells pre ++ x.cells)) (hg : W1.grownBy W2 v.ownBlock) : KeepsOthers W (W2.setCell ⟨b6, 0, none⟩ v') ∧ KeepBut (fun b => b = b6) n₀ W (W2.setCell ⟨b6, 0, none⟩ v') ∧ CpI w n₀ b6 xs (pre ++ [x]) (W2.setCell ⟨b6, 0, none⟩ v') := by
  obtain ⟨v0, k1, k2⟩ := h.i.box
  have ev : v0 = v := by rw [hbx] at k1; cases k1; rfl
  subst ev
  have f12 : Fr (fun b => v0.ownBlock = some b) W1 W2 := Fr.grown hg (fun r e => e)
  have f02 : Fr (fun b => v0.ownBlock = some b) W W2 := (Fr.ofBelow hb1).trans f12 (fun _ _ e => e)
  have f03 : Fr (fun b => v0.ownBlock = some b ∨ b = b6) W (W2.setCell ⟨b6, 0, none⟩ v') := ⟨f02.os, f02.tape, f02.output, Nat.le_trans f02.size (by simp), fun b hb hn => (Below.heap_setCell _ _ _ _ (fun e => hn (.inr e))).trans (f02.block b hb (fun e => hn (.inl e)))⟩
  have vlt : ∀ b, v0.ownBlock = some b → n₀ ≤ b := fun b hb => (World.ownsRow.lt k2 b hb).1
  have h6W : b6 < W.heap.size := lt_heap hbx
  have hb62 : W2.heap[b6]? = some (.cells #[v0] 35 (0, 0)) := (f02.block b6 h6W (fun e => by have := vlt _ e; omega)).trans hbx
  have n8 : ∀ {u : Value} {ys : List Nat}, Own8 W n₀ u ys → ∀ b, u.ownBlock = some b → ¬ (v0.ownBlock = some b ∨ b = b6) := fun ho b hb e => by
    rcases e with e | e
    · obtain ⟨cs, h1⟩ := own_heapE ho hb
      obtain ⟨cs2, h2⟩ := own_heapE k2 e
      rw [h1] at h2
      injection h2 with h2
      injection h2 with _ h2
      exact absurd h2 (by decide)
    · have := (World.ownsRow.lt ho b hb).1
      omega
  refine ⟨⟨f03.size, fun k o hk ho => ?_⟩, ⟨f03.size, fun b hb hn => f03.block b (Nat.lt_of_lt_of_le hb h.i.sz) (fun e => ?_)⟩, ⟨h.i.bl.trans (f03.below (fun b e => ?_) h.i.bl.size), Nat.le_trans h.i.sz f03.size, ⟨v', ?_, ?_⟩, fun y hy => ?_, ?_⟩⟩
  · refine (f03.block k (lt_heap hk) (fun e => ?_)).trans hk
    rcases e with e | e
    · exact own_ncellE k2 hk ho e
    · subst e; rw [hbx] at hk; cases hk; cases ho
  · rcases e with e | e
    · have := vlt b e; omega
    · exact hn e
  · rcases e with e | e
    · have := vlt b e
      have := h.i.sz
      omega
    · omega
  · exact heap_setCell_same hb62 _
  · have e : flat Cy.cells (pre ++ [x]) = flat Cy.cells pre ++ x.cells := by rw [flat_append]; simp [flat]
    rw [List.length_append, List.length_singleton, e]
    refine own_frE (E := (· = b6)) hr ((Fr.refl _ W2).set ⟨b6, 0, none⟩ v' rfl) (fun b hb e => ?_)
    have := (World.ownsRow.lt hr b hb).1
    omega
  · rcases List.mem_append.1 hy with hy | hy
    · exact ⟨(h.i.ow y hy).1, (h.i.ow y hy).2.fr f03 (n8 (h.i.ow y hy).2)⟩
    · rw [List.mem_singleton.1 hy]
      exact ⟨h.xx, h.ox.fr f03 (n8 h.ox)⟩
  · rw [List.pairwise_append]
    refine ⟨h.i.pw, List.pairwise_singleton _ _, fun y hy z hz => ?_⟩
    rw [List.mem_singleton.1 hz]
    exact h.gt y hy
end Go.Proofs.YtclhmggnkhnnlaaGreatDoor
