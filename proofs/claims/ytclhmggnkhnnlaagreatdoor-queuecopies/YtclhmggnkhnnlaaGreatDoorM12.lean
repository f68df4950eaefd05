/- Pieces of the proof: GkNm, QvAg. -/
import Derived.Test.YtclhmggnkhnnlaaGreatDoorM11
import Derived.ArgAppend
import Derived.Test.YtclhmggnkhnnlaaGreatDoorM10
/- One element is put behind a row of one's own: in its place, or somewhere new, and then all else is as it was. -/
namespace Go.Proofs.YtclhmggnkhnnlaaGreatDoor
open Go.RowKit

theorem wpList_appC9 {P : Program} {w : World} {ops : Array Oper} {rest : List Oper} {o : Oper} {a : Act} {Q : Exit → Act → World → Prop} (hgd : o.guard = none) (s x : Operand) (t : TypeId) (ho : o.op = .call { callee := .builtin .append, args := #[s, x], argTypes := #[t, t] })
    (et : TypeId) (i0 : TypeInfo) (z : Value) (c bytes : Nat) (hu : P.underlying t = some (.slice et)) (hi0 : P.info? et = some i0) (hz0 : i0.zero = some z) (hz1 : i0.size = c) (hz2 : i0.bytes = bytes) (hz3 : z.cells.size = c) (hc0 : 0 < c)
    (B : Nat) (v : Value) (n : Nat) (xs : List Value) (hs : a.eval s = v) (hown : w.ownsRow B et c v n xs) (p : Nat) (ys : List Value) (hx : a.eval x = .slice (some ⟨p, 0, none⟩) 1 1) (hyl : ys.length = c) (hr : ∀ j u, ys[j]? = some u → w.cell? ((⟨p, 0, none⟩ : Addr).add j) = some u) (hone : ∀ u ∈ ys, u.oneCell' = true)
    (hbb : (n + 1) * bytes ≤ 140737488355328) (hl : n ≤ 140737488355328) (hB : B ≤ w.heap.size)
    (h : ∀ v' w', w'.ownsRow B et c v' (n + 1) (xs ++ ys) → (v'.ownBlock = v.ownBlock ∧ w.grownBy w' v.ownBlock) ∨ (w.grownBy w' none ∧ ∀ b, v'.ownBlock = some b → w.heap.size ≤ b) → wpList P ops Q rest (a.put o.dst v') w') :
    wpList P ops Q (o :: rest) a w := by
  have hyl1 : ys.length = 1 * c := by omega
  have hown0 := hown
  rcases hown.2 with ⟨rfl, hn⟩ | ⟨g, cap, cur, rfl, hg, hcur, h1, h2, h3, h4⟩
  · subst hn
    have hx0 : xs = [] := List.length_eq_zero_iff.1 (by have := hown.1; omega)
    subst hx0
    refine wpList_append_grows w hgd s x t ho et i0 z c bytes hu hi0 hz0 hz1 hz2 hz3 hc0 none 0 0 [] hs (fun _ => ⟨rfl, rfl⟩) (by simp) (fun _ e => by cases e) ⟨p, 0, none⟩ 1 1 ys hx hyl1 hr hone (by omega) (by unfold maxLen; omega) hbb ?_
    intro v' w' r1 r2
    exact h v' w' (owR_lower r1 hB) (.inr ⟨r2, fun b hb => (World.ownsRow.lt r1 b hb).1⟩)
  · by_cases hfit : n + 1 ≤ cap
    · refine wpList_append_fits w hgd s x t ho B et i0 c hu hi0 hz1 g n cap xs hs hown0 ⟨p, 0, none⟩ 1 1 ys hx hyl1 hr hone hfit ?_
      intro w' r1 r2
      exact h _ w' r1 (.inl ⟨rfl, r2⟩)
    · have hcell : ∀ b, (some (⟨g, 0, none⟩ : Addr)) = some b → ∀ j u, xs[j]? = some u → w.cell? (b.add j) = some u := fun b e j u hu => by
        cases e; exact World.ownsRow.cells hown0 (g := g) rfl j u hu
      refine wpList_append_grows w hgd s x t ho et i0 z c bytes hu hi0 hz0 hz1 hz2 hz3 hc0 (some ⟨g, 0, none⟩) n cap xs hs (fun e => by cases e) hown0.1 hcell ⟨p, 0, none⟩ 1 1 ys hx hyl1 hr hone (by omega) (by unfold maxLen; omega) hbb ?_
      intro v' w' r1 r2
      exact h v' w' (owR_lower r1 hB) (.inr ⟨r2, fun b hb => (World.ownsRow.lt r1 b hb).1⟩)
theorem wpList_appC {P : Program} {w : World} {ops : Array Oper} {rest : List Oper} {o : Oper} {a : Act} {Q : Exit → Act → World → Prop} (hgd : o.guard = none) (s x : Operand) (t : TypeId) (ho : o.op = .call { callee := .builtin .append, args := #[s, x], argTypes := #[t, t] })
    (et : TypeId) (i0 : TypeInfo) (z : Value) (c bytes : Nat) (hu : P.underlying t = some (.slice et)) (hi0 : P.info? et = some i0) (hz0 : i0.zero = some z) (hz1 : i0.size = c) (hz2 : i0.bytes = bytes) (hz3 : z.cells.size = c) (hc0 : 0 < c) (hby : bytes ≤ 100000)
    (B : Nat) (v : Value) (n : Nat) (xs : List Value) (hs : a.eval s = v) (hown : w.ownsRow B et c v n xs) (p : Nat) (ys : List Value) (hx : a.eval x = .slice (some ⟨p, 0, none⟩) 1 1) (hyl : ys.length = c) (hr : ∀ j u, ys[j]? = some u → w.cell? ((⟨p, 0, none⟩ : Addr).add j) = some u) (hone : ∀ u ∈ ys, u.oneCell' = true)
    (hl : n ≤ 1000000000) (hB : B ≤ w.heap.size)
    (h : ∀ v' w', w'.ownsRow B et c v' (n + 1) (xs ++ ys) → (v'.ownBlock = v.ownBlock ∧ w.grownBy w' v.ownBlock) ∨ (w.grownBy w' none ∧ ∀ b, v'.ownBlock = some b → w.heap.size ≤ b) → wpList P ops Q rest (a.put o.dst v') w') :
    wpList P ops Q (o :: rest) a w :=
  wpList_appC9 hgd s x t ho et i0 z c bytes hu hi0 hz0 hz1 hz2 hz3 hc0 B v n xs hs hown p ys hx hyl hr hone (by
    have : (n + 1) * bytes ≤ (1000000000 + 1) * 100000 := Nat.mul_le_mul (by omega) hby
    omega) (by omega) hB h
theorem cells_newC (w : World) (cs : List Value) (t : TypeId) : ∀ j u, cs[j]? = some u → (w.alloc (.cells cs.toArray t)).cell? ((⟨w.heap.size, 0, none⟩ : Addr).add j) = some u := by
  intro j u hj
  have e : (⟨w.heap.size, 0, none⟩ : Addr).add j = ⟨w.heap.size, j, none⟩ := by rw [Addr.add_mid, Nat.zero_add]
  rw [e, World.cell?_alloc_new]
  simpa using hj
end Go.Proofs.YtclhmggnkhnnlaaGreatDoor
/- Lists of the document's copies: what is put behind one (cut out of QvA). -/
namespace Go.Proofs.YtclhmggnkhnnlaaGreatDoor
open Go.RowKit

theorem Tryz.infoRCy : (Tryz.prog.info? 106).map (fun i => (i.zero, i.size, i.bytes)) = some (some (.agg #[.int .i64 0, .slice none 0 0]), 2, 32) := by kernel_rfl
theorem aggRCy : ∀ w, (isAgg 106).run Tryz.prog w = .ok true w := fun w => by kernel_rfl
theorem szRCy : ∀ w, (sizeOf 106).run Tryz.prog w = .ok 2 w := fun w => by kernel_rfl
/- What is put behind a list. -/
def SrcR (w : World) (sl : Value) (m : Nat) (news : List Value) : Prop := (sl = .slice none 0 0 ∧ m = 0 ∧ news = []) ∨ ∃ ad c, sl = .slice (some ad) m c ∧ ∀ j u, news[j]? = some u → w.cell? (ad.add j) = some u
theorem run_appR {o : Oper} {w : World} (B : Nat) (v : Value) (L : List Cy) (hown : w.ownsRow B 106 2 v L.length (flat Cy.cells L)) (sl : Value) (M : List Cy) (hs : SrcR w sl M.length (flat Cy.cells M)) (hl : L.length + M.length ≤ 1000000) (hB : B ≤ w.heap.size) :
    ∃ v' w', (Builtin.append_ #[39, 39] o.type #[v, sl]).run Tryz.prog w = .ok v' w' ∧ w'.ownsRow B 106 2 v' (L ++ M).length (flat Cy.cells (L ++ M)) ∧ w.grownBy w' v.ownBlock ∧ (v'.ownBlock = v.ownBlock ∨ v'.ownBlock = some w.heap.size) := by
  obtain ⟨i0, hi0, hz0, hz1, hz2⟩ := info_parts Tryz.infoRCy
  rcases hs with ⟨rfl, hm, _⟩ | ⟨ad, c, rfl, hc⟩
  · obtain rfl : M = [] := List.length_eq_zero_iff.1 hm
    refine ⟨v, w, run_append_owned_none (P := Tryz.prog) (w := w) B 39 o.type 106 i0 2 Tryz.underlying39 hi0 v _ _ hown, by simpa using hown, World.grownBy.refl _ _, .inl rfl⟩
  · obtain ⟨v', w', hr, h2, h3, _, h5⟩ := run_append_own_at (P := Tryz.prog) w B 39 o.type 106 i0 (.agg #[.int .i64 0, .slice none 0 0]) 2 32 Tryz.underlying39 hi0 hz0 hz1 hz2 rfl (by decide) v L.length (flat Cy.cells L) hown ad M.length c (flat Cy.cells M) (flat_length cy_len M) hc (flat_one cy_one M) (by unfold maxLen; omega) (by omega) hB
    refine ⟨v', w', hr, ?_, h3, h5⟩
    rw [List.length_append, flat_append]
    exact h2
theorem wpList_appR {w : World} {ops : Array Oper} {rest : List Oper} {o : Oper} {a : Act} {Q : Exit → Act → World → Prop} (hgd : o.guard = none) (s x : Operand) (ho : o.op = .call { callee := .builtin .append, args := #[s, x], argTypes := #[39, 39] })
    (B : Nat) (v : Value) (L : List Cy) (hv : a.eval s = v) (hown : w.ownsRow B 106 2 v L.length (flat Cy.cells L)) (sl : Value) (M : List Cy) (hx : a.eval x = sl) (hs : SrcR w sl M.length (flat Cy.cells M)) (hl : L.length + M.length ≤ 1000000) (hB : B ≤ w.heap.size)
    (h : ∀ v' w', w'.ownsRow B 106 2 v' (L ++ M).length (flat Cy.cells (L ++ M)) → w.grownBy w' v.ownBlock → (v'.ownBlock = v.ownBlock ∨ v'.ownBlock = some w.heap.size) → wpList Tryz.prog ops Q rest (a.put o.dst v') w') :
    wpList Tryz.prog ops Q (o :: rest) a w := by
  refine wpList_plain hgd fun K hK => ?_
  obtain ⟨v', w', hr, h1, h2, h3⟩ := run_appR (o := o) B v L hown sl M hs hl hB
  unfold Oper.wp execOp
  simp only [ho, resolve, invoke, builtin, Sem.run_bind, Sem.run_pure, Result.andThen_ok, List.map_toArray, List.map_cons, List.map_nil, hv, hx, hr]
  exact hK _ _ (h v' w' h1 h2 h3)
theorem step_appR {ops : Array Oper} {o : Oper} {a : Act} {w : World} {K : Act → World → Prop} {Q : Exit → Act → World → Prop} {E : Prop} (hgd : o.guard = none) (s x : Operand) (ho : o.op = .call { callee := .builtin .append, args := #[s, x], argTypes := #[39, 39] })
    (B : Nat) (v : Value) (L : List Cy) (hv : a.eval s = v) (hown : w.ownsRow B 106 2 v L.length (flat Cy.cells L)) (sl : Value) (M : List Cy) (hx : a.eval x = sl) (hs : SrcR w sl M.length (flat Cy.cells M)) (hl : L.length + M.length ≤ 1000000) (hB : B ≤ w.heap.size)
    (h : ∀ v' w', w'.ownsRow B 106 2 v' (L ++ M).length (flat Cy.cells (L ++ M)) → w.grownBy w' v.ownBlock → (v'.ownBlock = v.ownBlock ∨ v'.ownBlock = some w.heap.size) → K (a.put o.dst v') w') :
    if Region.wanted o (yielded ops a.tmps) = true then Oper.wp Tryz.prog o a w K Q else E := by
  have hw : Region.wanted o (yielded ops a.tmps) = true := by simp [Region.wanted, hgd]
  rw [if_pos hw]
  obtain ⟨v', w', hr, h1, h2, h3⟩ := run_appR (o := o) B v L hown sl M hs hl hB
  unfold Oper.wp execOp
  simp only [ho, resolve, invoke, builtin, Sem.run_bind, Sem.run_pure, Result.andThen_ok, List.map_toArray, List.map_cons, List.map_nil, hv, hx, hr]
  exact h v' w' h1 h2 h3
end Go.Proofs.YtclhmggnkhnnlaaGreatDoor
