/- pointsmanref17's queue as it lies; New, Put, Send. -/
import Derived.Test.YtnihneicoikdhaaGreatDoorQuD
import Derived.Test.YtnihneicoikdhaaGreatDoorGkNm
namespace Go.Proofs.YtnihneicoikdhaaGreatDoor
open Go.RowKit

theorem Tryz.infoRCy : (Tryz.prog.info? 75).map (fun i => (i.zero, i.size, i.bytes)) = some (some (.agg #[.int .i64 0, .slice none 0 0]), 2, 32) := by kernel_rfl
theorem aggRCy : ∀ w, (isAgg 75).run Tryz.prog w = .ok true w := fun w => by kernel_rfl
theorem szRCy : ∀ w, (sizeOf 75).run Tryz.prog w = .ok 2 w := fun w => by kernel_rfl
/- The document's queue: its copies hold the bytes that they were handed. -/
structure Rs (W : World) (B g r : Nat) (v : Value) (L : List Cy) : Prop where
  blk : W.heap[g]? = some (.cells #[.int .i64 r, v] 83 (0, 0))
  row : W.ownsRow B 75 2 v L.length (flat Cy.cells L)
  gB : B ≤ g
def RE (g : Nat) (v : Value) (b : Nat) : Prop := b = g ∨ v.ownBlock = some b
theorem Rs.ne {W : World} {B g r : Nat} {v : Value} {L : List Cy} (h : Rs W B g r v L) : v.ownBlock ≠ some g := fun e => by
  rcases h.row.2 with ⟨rfl, _⟩ | ⟨b, cap, cur, rfl, _, hb, _⟩
  · cases e
  · injection e with e
    subst e
    have := h.blk.symm.trans hb
    injection this with this
    injection this with _ this
    revert this; decide
theorem Rs.fr {E : Nat → Prop} {W W' : World} {B g r : Nat} {v : Value} {L : List Cy} (h : Rs W B g r v L) (hf : Fr E W W') (hg : ¬ E g) (hv : ∀ b, v.ownBlock = some b → ¬ E b) : Rs W' B g r v L :=
  ⟨(hf.block _ (lt_heap h.blk) hg).trans h.blk, owR_fr h.row hf hv, h.gB⟩
theorem Rs.below {W W' : World} {B g r : Nat} {v : Value} {L : List Cy} (h : Rs W B g r v L) (hb : Below W.heap.size W W') : Rs W' B g r v L :=
  h.fr (E := fun _ => False) (Fr.ofBelow hb) (fun e => e) (fun _ _ e => e)
theorem Rs.at {W : World} {B g r : Nat} {v : Value} {L : List Cy} (h : Rs W B g r v L) : W.cell? ⟨g, 0, none⟩ = some (.int .i64 r) ∧ W.cell? ⟨g, 1, none⟩ = some v ∧ ∀ o, W.frozen? ⟨g, o, none⟩ = false :=
  ⟨(cellA h.blk 0).trans rfl, (cellA h.blk 1).trans rfl, fun o => softA h.blk o⟩
theorem Rs.put {W w' : World} {B g r : Nat} {v v' : Value} {L L' : List Cy} (h : Rs W B g r v L) {E : Nat → Prop} (hf : Fr E W w') (hg : ¬ E g) (hr : w'.ownsRow B 75 2 v' L'.length (flat Cy.cells L')) (hn : v'.ownBlock ≠ some g) : Rs (w'.setCell ⟨g, 1, none⟩ v') B g r v' L' := by
  have hb := (hf.block _ (lt_heap h.blk) hg).trans h.blk
  refine ⟨heap_setCell_same hb _, owR_fr hr (E := (· = g)) ((Fr.refl _ w').set _ _ rfl) (fun b hb e => hn (by rw [hb, e])), h.gB⟩
theorem rnew_yes (n : Nat) (w : World) (hn : n ≤ 64) : Calls Tryz.prog 7 #[.int .i64 n] w fun e w' => e = .returned (.tuple #[.pointer (some ⟨w.heap.size, 0, none⟩), .int .i64 0]) ∧ Rs w' w.heap.size w.heap.size n (.slice none 0 0) [] ∧ Below w.heap.size w w' := by
  have e1 : decide ((n : Int) < 0) = false := by simp
  have e2 : decide ((n : Int) > 64) = false := by simp; omega
  clear hn
  go_enter Tryz.func7, Tryz.ntmps7
  go_wp2
  go_ret2
  refine ⟨rfl, ⟨heap_alloc_new w _, World.ownsRow_nil _ _ _ _, Nat.le_refl _⟩, (Below.refl _ w).alloc (Nat.le_refl _) _⟩
theorem rnew_no (n : Int) (w : World) (hn : n < 0 ∨ 64 < n) : Calls Tryz.prog 7 #[.int .i64 n] w fun e w' => e = .returned (.tuple #[.pointer none, .int .i64 1]) ∧ w' = w := by
  by_cases h : n < 0
  · have e1 : decide (n < 0) = true := by simpa using h
    clear hn
    go_enter Tryz.func7, Tryz.ntmps7
    go_wp2
    go_ret2
    exact ⟨rfl, rfl⟩
  · have e1 : decide (n < 0) = false := by simpa using h
    have e2 : decide (n > 64) = true := by simp; omega
    clear hn
    go_enter Tryz.func7, Tryz.ntmps7
    go_wp2
    go_ret2
    exact ⟨rfl, rfl⟩
/- What is put behind a list. -/
def SrcR (w : World) (sl : Value) (m : Nat) (news : List Value) : Prop := (sl = .slice none 0 0 ∧ m = 0 ∧ news = []) ∨ ∃ ad c, sl = .slice (some ad) m c ∧ ∀ j u, news[j]? = some u → w.cell? (ad.add j) = some u
theorem run_appR {o : Oper} {w : World} (B : Nat) (v : Value) (L : List Cy) (hown : w.ownsRow B 75 2 v L.length (flat Cy.cells L)) (sl : Value) (M : List Cy) (hs : SrcR w sl M.length (flat Cy.cells M)) (hl : L.length + M.length ≤ 1000000) (hB : B ≤ w.heap.size) :
    ∃ v' w', (Builtin.append_ #[78, 78] o.type #[v, sl]).run Tryz.prog w = .ok v' w' ∧ w'.ownsRow B 75 2 v' (L ++ M).length (flat Cy.cells (L ++ M)) ∧ w.grownBy w' v.ownBlock ∧ (v'.ownBlock = v.ownBlock ∨ v'.ownBlock = some w.heap.size) := by
  obtain ⟨i0, hi0, hz0, hz1, hz2⟩ := info_parts Tryz.infoRCy
  rcases hs with ⟨rfl, hm, _⟩ | ⟨ad, c, rfl, hc⟩
  · obtain rfl : M = [] := List.length_eq_zero_iff.1 hm
    refine ⟨v, w, run_append_owned_none (P := Tryz.prog) (w := w) B 78 o.type 75 i0 2 Tryz.underlying78 hi0 v _ _ hown, by simpa using hown, World.grownBy.refl _ _, .inl rfl⟩
  · obtain ⟨v', w', hr, h2, h3, _, h5⟩ := run_append_own_at (P := Tryz.prog) w B 78 o.type 75 i0 (.agg #[.int .i64 0, .slice none 0 0]) 2 32 Tryz.underlying78 hi0 hz0 hz1 hz2 rfl (by decide) v L.length (flat Cy.cells L) hown ad M.length c (flat Cy.cells M) (flat_length cy_len M) hc (flat_one cy_one M) (by unfold maxLen; omega) (by omega) hB
    refine ⟨v', w', hr, ?_, h3, h5⟩
    rw [List.length_append, flat_append]
    exact h2
theorem wpList_appR {w : World} {ops : Array Oper} {rest : List Oper} {o : Oper} {a : Act} {Q : Exit → Act → World → Prop} (hgd : o.guard = none) (s x : Operand) (ho : o.op = .call { callee := .builtin .append, args := #[s, x], argTypes := #[78, 78] })
    (B : Nat) (v : Value) (L : List Cy) (hv : a.eval s = v) (hown : w.ownsRow B 75 2 v L.length (flat Cy.cells L)) (sl : Value) (M : List Cy) (hx : a.eval x = sl) (hs : SrcR w sl M.length (flat Cy.cells M)) (hl : L.length + M.length ≤ 1000000) (hB : B ≤ w.heap.size)
    (h : ∀ v' w', w'.ownsRow B 75 2 v' (L ++ M).length (flat Cy.cells (L ++ M)) → w.grownBy w' v.ownBlock → (v'.ownBlock = v.ownBlock ∨ v'.ownBlock = some w.heap.size) → wpList Tryz.prog ops Q rest (a.put o.dst v') w') :
    wpList Tryz.prog ops Q (o :: rest) a w := by
  refine wpList_plain hgd fun K hK => ?_
  obtain ⟨v', w', hr, h1, h2, h3⟩ := run_appR (o := o) B v L hown sl M hs hl hB
  unfold Oper.wp execOp
  simp only [ho, resolve, invoke, builtin, Sem.run_bind, Sem.run_pure, Result.andThen_ok, List.map_toArray, List.map_cons, List.map_nil, hv, hx, hr]
  exact hK _ _ (h v' w' h1 h2 h3)
theorem step_appR {ops : Array Oper} {o : Oper} {a : Act} {w : World} {K : Act → World → Prop} {Q : Exit → Act → World → Prop} {E : Prop} (hgd : o.guard = none) (s x : Operand) (ho : o.op = .call { callee := .builtin .append, args := #[s, x], argTypes := #[78, 78] })
    (B : Nat) (v : Value) (L : List Cy) (hv : a.eval s = v) (hown : w.ownsRow B 75 2 v L.length (flat Cy.cells L)) (sl : Value) (M : List Cy) (hx : a.eval x = sl) (hs : SrcR w sl M.length (flat Cy.cells M)) (hl : L.length + M.length ≤ 1000000) (hB : B ≤ w.heap.size)
    (h : ∀ v' w', w'.ownsRow B 75 2 v' (L ++ M).length (flat Cy.cells (L ++ M)) → w.grownBy w' v.ownBlock → (v'.ownBlock = v.ownBlock ∨ v'.ownBlock = some w.heap.size) → K (a.put o.dst v') w') :
    if Region.wanted o (yielded ops a.tmps) = true then Oper.wp Tryz.prog o a w K Q else E := by
  have hw : Region.wanted o (yielded ops a.tmps) = true := by simp [Region.wanted, hgd]
  rw [if_pos hw]
  obtain ⟨v', w', hr, h1, h2, h3⟩ := run_appR (o := o) B v L hown sl M hs hl hB
  unfold Oper.wp execOp
  simp only [ho, resolve, invoke, builtin, Sem.run_bind, Sem.run_pure, Result.andThen_ok, List.map_toArray, List.map_cons, List.map_nil, hv, hx, hr]
  exact h v' w' h1 h2 h3
theorem flat_take2 (L : List Cy) (k : Nat) : (flat Cy.cells L).take (k * 2) = flat Cy.cells (L.take k) := by
  by_cases h : k ≤ L.length
  · have e : flat Cy.cells L = flat Cy.cells (L.take k) ++ flat Cy.cells (L.drop k) := by rw [← flat_append, List.take_append_drop]
    have hl : (flat Cy.cells (L.take k)).length = k * 2 := by rw [flat_length cy_len, List.length_take, Nat.min_eq_left h]
    rw [e, ← hl, List.take_left]
  · rw [List.take_of_length_le (by rw [flat_length cy_len]; omega), List.take_of_length_le (by omega)]
theorem flat_drop2 (L : List Cy) (k : Nat) : (flat Cy.cells L).drop (k * 2) = flat Cy.cells (L.drop k) := by
  by_cases h : k ≤ L.length
  · have e : flat Cy.cells L = flat Cy.cells (L.take k) ++ flat Cy.cells (L.drop k) := by rw [← flat_append, List.take_append_drop]
    have hl : (flat Cy.cells (L.take k)).length = k * 2 := by rw [flat_length cy_len, List.length_take, Nat.min_eq_left h]
    rw [e, ← hl, List.drop_left]
  · rw [List.drop_eq_nil_of_le (by rw [flat_length cy_len]; omega), List.drop_eq_nil_of_le (by omega)]; rfl
theorem srcR_take {w : World} {B : Nat} {a : Option Addr} {cap k : Nat} {L : List Cy} (h : w.ownsRow B 75 2 (.slice a L.length cap) L.length (flat Cy.cells L)) (hk : k ≤ L.length) : SrcR w (.slice a k cap) (L.take k).length (flat Cy.cells (L.take k)) := by
  rw [List.length_take, Nat.min_eq_left hk]
  rcases h.2 with ⟨e, hn⟩ | ⟨g, c, cur, e, _⟩
  · injection e with e1 e2 e3
    subst e1 e3
    obtain rfl : k = 0 := by omega
    exact .inl ⟨rfl, rfl, rfl⟩
  · injection e with e1 e2 e3
    subst e1 e3
    refine .inr ⟨_, _, rfl, fun j u hu => World.ownsRow.cells h rfl j u ?_⟩
    rw [← flat_take2] at hu
    rw [List.getElem?_take] at hu
    split at hu
    · exact hu
    · cases hu
theorem srcR_drop {w : World} {B : Nat} {a : Option Addr} {cap k : Nat} {L : List Cy} (h : w.ownsRow B 75 2 (.slice a L.length cap) L.length (flat Cy.cells L)) (hk : k ≤ L.length) : SrcR w (.slice (if cap = k then a else a.map (·.add (k * 2))) (L.length - k) (cap - k)) (L.drop k).length (flat Cy.cells (L.drop k)) := by
  rw [List.length_drop]
  rcases h.2 with ⟨e, hn⟩ | ⟨g, c, cur, e, hg, hc, h1, _⟩
  · injection e with e1 e2 e3
    subst e1 e3
    have h0 : L.length = 0 := hn
    obtain rfl : k = 0 := by omega
    obtain rfl : L = [] := List.length_eq_zero_iff.1 h0
    exact .inl ⟨rfl, rfl, rfl⟩
  · injection e with e1 e2 e3
    subst e1 e3
    by_cases hck : cap = k
    · subst hck
      have hd : L.drop cap = [] := List.drop_eq_nil_of_le h1
      rw [if_pos rfl, hd]
      exact .inr ⟨_, _, rfl, fun j u hu => by simp [flat] at hu⟩
    · rw [if_neg hck]
      refine .inr ⟨_, _, rfl, fun j u hu => ?_⟩
      rw [← flat_drop2, List.getElem?_drop] at hu
      have := World.ownsRow.cells h rfl _ u hu
      rw [← this]
      show w.cell? (((⟨g, 0, none⟩ : Addr).add (k * 2)).add j) = _
      rw [Addr.add_mid, Addr.add_mid, Addr.add_mid, Nat.add_assoc]
end Go.Proofs.YtnihneicoikdhaaGreatDoor
