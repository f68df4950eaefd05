/- Pieces of the proof: QwA. -/
import Derived.Test.YtclhmggnkhnnlaaGreatDoorM12
import Derived.Test.YtclhmggnkhnnlaaGreatDoorM13
import Derived.Test.YtclhmggnkhnnlaaGreatDoorM19
import Derived.RegionTactic
import Derived.Deep.LoopGhost
/- pointsmanref17.Copies. -/
namespace Go.Proofs.YtclhmggnkhnnlaaGreatDoor
open Go.RowKit

theorem run_app0 {o : Oper} {w : World} (sa : Option Addr) (cap : Nat) (xs : List Nat) (hr : RdA w sa xs) (hn : sa = none → cap = 0) (hl : xs.length ≤ 140737488355328) :
    ∃ a' c' w', (Builtin.append_ #[24, 24] o.type #[.slice none 0 0, .slice sa xs.length cap]).run Tryz.prog w = .ok (.slice a' xs.length c') w' ∧ Own8 w' w.heap.size (.slice a' xs.length c') xs ∧ Below w.heap.size w w' := by
  obtain ⟨i0, hi0, hz0, hz1, hz2⟩ := info_parts Tryz.info8
  have key : ∀ (ad : Addr), (∀ j u, (u8s xs)[j]? = some u → w.cell? (ad.add j) = some u) → sa = some ad → ∃ a' c' w', (Builtin.append_ #[24, 24] o.type #[.slice none 0 0, .slice sa xs.length cap]).run Tryz.prog w = .ok (.slice a' xs.length c') w' ∧ Own8 w' w.heap.size (.slice a' xs.length c') xs ∧ Below w.heap.size w w' := fun ad hc e => by
    subst e
    obtain ⟨v', w', hr, h2, h3, _, h5⟩ := run_append_own_at (P := Tryz.prog) w w.heap.size 24 o.type 5 i0 (.int .u8 0) 1 1 Tryz.underlying24 hi0 hz0 hz1 hz2 rfl (by decide) (.slice none 0 0) 0 [] (World.ownsRow_nil _ _ _ _) ad xs.length cap (u8s xs) (by rw [u8s_length]; omega) hc (u8s_one xs) (by unfold maxLen; omega) (by omega) (Nat.le_refl _)
    rw [List.nil_append, Nat.zero_add] at h2
    obtain ⟨a1, c1, rfl⟩ := owR_shape h2
    exact ⟨a1, c1, w', hr, h2, (Below.refl _ _).grown h3 (Nat.le_refl _) (fun k e => by cases e)⟩
  rcases hr with rfl | ⟨q, off, rfl, hp, hc⟩
  · cases sa with
    | none =>
      obtain rfl := hn rfl
      exact ⟨none, 0, w, run_append_owned_none (P := Tryz.prog) (w := w) w.heap.size 24 o.type 5 i0 1 Tryz.underlying24 hi0 _ 0 [] (World.ownsRow_nil _ _ _ _), Own8.nil _ _, Below.refl _ _⟩
    | some q => exact key q (fun j u hu => by simp [u8s] at hu) rfl
  · exact key ⟨q, off, none⟩ (rdA_src hc) rfl
theorem step_app0 {ops : Array Oper} {o : Oper} {a : Act} {w : World} {K : Act → World → Prop} {Q : Exit → Act → World → Prop} {E : Prop} (hgd : o.guard = none) (s x : Operand) (ho : o.op = .call { callee := .builtin .append, args := #[s, x], argTypes := #[24, 24] })
    (hv : a.eval s = .slice none 0 0) (sa : Option Addr) (cap n : Nat) (xs : List Nat) (hx : a.eval x = .slice sa n cap) (hxn : n = xs.length) (hr : RdA w sa xs) (hn : sa = none → cap = 0) (hl : xs.length ≤ 140737488355328)
    (h : ∀ a' c' w', Own8 w' w.heap.size (.slice a' xs.length c') xs → Below w.heap.size w w' → K (a.put o.dst (.slice a' n c')) w') :
    if Region.wanted o (yielded ops a.tmps) = true then Oper.wp Tryz.prog o a w K Q else E := by
  subst hxn
  have hw : Region.wanted o (yielded ops a.tmps) = true := by simp [Region.wanted, hgd]
  rw [if_pos hw]
  obtain ⟨a', c', w', hr, h1, h2⟩ := run_app0 (o := o) sa cap xs hr hn hl
  unfold Oper.wp execOp
  simp only [ho, resolve, invoke, builtin, Sem.run_bind, Sem.run_pure, Result.andThen_ok, List.map_toArray, List.map_cons, List.map_nil, hv, hx, hr]
  exact h a' c' w' h1 h2
/- What the document has copied. -/
structure RcI (w : World) (xs : List Nat) (ps : List Int) (v : Value) (W : World) : Prop where
  bl : Below w.heap.size w W
  ow : ∃ ys : List Cy, W.ownsRow w.heap.size 106 2 v ys.length (flat Cy.cells ys) ∧ ys.map Cy.port = ps ∧ ∀ y ∈ ys, y.xs = xs ∧ Own8 W w.heap.size (.slice y.a y.xs.length y.cap) y.xs
theorem RcI.next {w W W' : World} {xs : List Nat} {ps : List Int} {v : Value} (h : RcI w xs ps v W) (hb : Below W.heap.size W W') : RcI w xs ps v W' := by
  obtain ⟨ys, h1, h2, h3⟩ := h.ow
  exact ⟨bstep h.bl hb, ys, owR_below h1 hb, h2, fun y hy => ⟨(h3 y hy).1, (h3 y hy).2.below hb⟩⟩
/- One copy more. -/
theorem RcI.put {w W W7 w8 : World} {xs : List Nat} {ps : List Int} {v v' : Value} {ys : List Cy} {c : Cy} (hbl : Below w.heap.size w W) (h1 : W.ownsRow w.heap.size 106 2 v ys.length (flat Cy.cells ys)) (h2 : ys.map Cy.port = ps) (h3 : ∀ y ∈ ys, y.xs = xs ∧ Own8 W w.heap.size (.slice y.a y.xs.length y.cap) y.xs)
    (hb : Below W.heap.size W W7) (hc : c.xs = xs) (ho : Own8 W7 W.heap.size (.slice c.a c.xs.length c.cap) c.xs) (O : w8.ownsRow w.heap.size 106 2 v' (ys ++ [c]).length (flat Cy.cells (ys ++ [c]))) (G : W7.grownBy w8 v.ownBlock) : RcI w xs (ps ++ [c.port]) v' w8 ∧ ∀ (b : Nat) (cs : Array Value) (t : TypeId) (f : Nat × Nat), W.heap[b]? = some (.cells cs t f) → t ≠ 106 → w8.heap[b]? = some (.cells cs t f) := by
  have hf : Fr (fun b => v.ownBlock = some b) W7 w8 := Fr.grown G (fun r e => e)
  have h17 := owR_below h1 hb
  have k8 : ∀ {B : Nat} {u : Value} {zs : List Nat}, Own8 W7 B u zs → Own8 w8 B u zs := fun hu => hu.fr hf (fun b hb e => by
    obtain ⟨cs, h⟩ := row_ty hu hb
    have := own_ty h17 e h
    revert this; decide)
  refine ⟨⟨(bstep hbl hb).trans (hf.below (fun b e => (World.ownsRow.lt h17 b e).1) (by have := hbl.size; have := hb.size; omega) |>.mono (Nat.le_refl _)), ys ++ [c], O, by simp [h2], fun y hy => ?_⟩, fun b cs t f hh ht => ?_⟩
  · rcases List.mem_append.1 hy with hy | hy
    · exact ⟨(h3 y hy).1, k8 ((h3 y hy).2.below hb)⟩
    · obtain rfl := List.mem_singleton.1 hy
      exact ⟨hc, Own8.lower (k8 ho) hbl.size⟩
  · have h7 := heap_below hb hh
    exact (hf.block b (lt_heap h7) (fun e => ht (own_ty h17 e h7))).trans h7
end Go.Proofs.YtclhmggnkhnnlaaGreatDoor
