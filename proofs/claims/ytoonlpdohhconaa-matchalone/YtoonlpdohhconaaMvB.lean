/- Pieces of a list of entries, and lists of entries put behind one another. -/
import Derived.Test.YtoonlpdohhconaaMvA
namespace Go.Proofs.Ytoonlpdohhconaa
open Go.RowKit

theorem rdE_part {W : World} {p off : Nat} {l : List EnL} (h : RdE W (some ⟨p, off, none⟩) l) (i n : Nat) : RdE W (some ⟨p, off + i * 4, none⟩) ((l.drop i).take n) := by
  refine ⟨?_, fun x hx => h.ok x (List.mem_of_mem_drop (List.mem_of_mem_take hx))⟩
  rcases h.rd with rfl | ⟨p', off', e, hp, hc⟩
  · exact .inl (by simp)
  · injection e with e
    injection e with e1 e2
    subst e1 e2
    refine .inr ⟨p, off + i * 4, rfl, hp, fun k hk => ?_⟩
    have hk' : i + k < l.length := by simp at hk; omega
    have e : ((l.drop i).take n)[k] = l[i + k] := by simp
    have := hc (i + k) hk'
    rw [e, show off + i * 4 + k * 4 = off + (i + k) * 4 by omega]
    exact this
theorem en_src {W : World} {p off : Nat} {l : List EnL} (h : ∀ i (h : i < l.length), W.cell? ⟨p, off + i * 4, none⟩ = some (.slice l[i].ma l[i].e.ms.length l[i].mc) ∧ W.cell? ⟨p, off + i * 4 + 1, none⟩ = some (.int .i64 l[i].e.prio) ∧ W.cell? ⟨p, off + i * 4 + 2, none⟩ = some (.string l[i].e.act) ∧ W.cell? ⟨p, off + i * 4 + 3, none⟩ = some (.slice l[i].aa l[i].e.args.length l[i].ac)) : ∀ j u, (flat EnL.cells l)[j]? = some u → W.cell? ((⟨p, off, none⟩ : Addr).add j) = some u := by
  refine flat_src (by decide) en_len (fun i hi j u hu => ?_)
  obtain ⟨h0, h1, h2, h3⟩ := h i hi
  have hj : j < 4 := (List.getElem?_eq_some_iff.1 hu).1
  rcases (by omega : j = 0 ∨ j = 1 ∨ j = 2 ∨ j = 3) with rfl | rfl | rfl | rfl
  all_goals (injection hu with hu; subst hu; assumption)
/- A row of one's own, of entries that were there before. -/
structure Ow (w W : World) (v : Value) (acc : List EnL) : Prop where
  bl : Below w.heap.size w W
  own : W.ownsRow w.heap.size 30 4 v acc.length (flat EnL.cells acc)
  ok : ∀ x ∈ acc, EnR w x
theorem Ow.start {w W : World} (h : Below w.heap.size w W) : Ow w W (.slice none 0 0) [] := ⟨h, World.ownsRow_nil _ _ _ _, fun x h => absurd h (by simp)⟩
theorem Ow.rd {w W : World} {v : Value} {acc : List EnL} (h : Ow w W v acc) : ∃ a cap, v = .slice a acc.length cap ∧ RdE W a acc ∧ (a = none → cap = 0) := by
  rcases own_form h.own with ⟨hv, hn⟩ | ⟨g, cap, hv, hg, hlt, hc⟩
  · have h0 : acc = [] := List.length_eq_zero_iff.1 hn
    subst h0
    exact ⟨none, 0, hv, ⟨.inl rfl, fun x hx => absurd hx (by simp)⟩, fun _ => rfl⟩
  · refine ⟨_, cap, hv, ⟨.inr ⟨g, 0, rfl, hlt, fun i hi => ?_⟩, fun x hx => (h.ok x hx).below h.bl⟩, fun e => (by cases e)⟩
    have key := own_cell en_len h.own hv i hi
    exact ⟨key 0 _ rfl, key 1 _ rfl, key 2 _ rfl, key 3 _ rfl⟩
theorem wpList_appEs {w0 w : World} {ops : Array Oper} {rest : List Oper} {o : Oper} {a : Act} {Q : Exit → Act → World → Prop} (hgd : o.guard = none) (s x : Operand) (ho : o.op = .call { callee := .builtin .append, args := #[s, x], argTypes := #[26, 26] })
    (v : Value) (acc : List EnL) (hs : a.eval s = v) (how : Ow w0 w v acc) (p off n cap : Nat) (l : List EnL) (hn : n = l.length) (hx : a.eval x = .slice (some ⟨p, off, none⟩) n cap) (hr : RdE w0 (some ⟨p, off, none⟩) l) (hl : acc.length + n ≤ 1000000)
    (h : ∀ v' w', Ow w0 w' v' (acc ++ l) → wpList Try.prog ops Q rest (a.put o.dst v') w') :
    wpList Try.prog ops Q (o :: rest) a w := by
  subst hn
  obtain ⟨i0, hi0, hz0, hz1, hz2⟩ := info_parts Try.infoEn
  have hsrc : ∀ j u, (flat EnL.cells l)[j]? = some u → w.cell? ((⟨p, off, none⟩ : Addr).add j) = some u := by
    rcases (hr.below how.bl).rd with rfl | ⟨p', off', e, hp, hc⟩
    · intro j u hu; simp [flat] at hu
    · injection e with e
      injection e with e1 e2
      subst e1 e2
      exact en_src hc
  refine wpList_append_own_at w hgd s x 26 ho w0.heap.size 30 i0 _ 4 72 Try.underlying26 hi0 hz0 hz1 hz2 rfl (by decide) v acc.length (flat EnL.cells acc) hs how.own ⟨p, off, none⟩ l.length cap (flat EnL.cells l) hx (flat_length en_len l) hsrc (flat_one en_one l) (by unfold maxLen; omega) (by omega) how.bl.size ?_
  intro v' w' h1 h2 _ _
  refine h v' w' ⟨how.bl.grown h2 how.bl.size (fun k e => (how.own.lt k e).1), ?_, fun y hy => ?_⟩
  · rw [List.length_append, flat_append]; exact h1
  · rcases List.mem_append.1 hy with hy | hy
    · exact how.ok y hy
    · exact hr.ok y hy
/- The list without one entry, as it is laid anew. -/
theorem ens_del (l : List EnL) (i : Nat) : ens (l.take i ++ l.drop (i + 1)) = (ens l).take i ++ (ens l).drop (i + 1) := by
  unfold ens; rw [List.map_append, List.map_take, List.map_drop]
theorem ens_at (l : List EnL) (i : Nat) (h : i < l.length) : ens ((l.drop i).take 1) = [(ens l)[i]'(by rw [ens_len]; exact h)] := by
  unfold ens
  rw [List.drop_eq_getElem_cons h, List.take_succ_cons, List.take_zero, List.map_cons, List.map_nil, List.getElem_map]
set_option maxRecDepth 100000 in
theorem open_ens_cap {H : Type} {enc : TypeId × Value → H} {W : World} {base fuel : Nat} {v : Value} {x : DataW H × List MemPlace} (h : DataW.trod enc Try.prog W base (fun _ => true) true fuel 26 [v] = some x) (hw : ∀ n ∈ x.1.weights Try.prog 26, n ≤ reachBytes) {a : Option Addr} {n cap : Nat} (hv : v = .slice a n cap) : n ≤ cap := by
  obtain ⟨a', cap', l, h1, h2, _, _⟩ := open_list Try.underlying26 cellsEn (by decide) EnL.cells (EnO W) (fun h hw => open_en h hw) h hw
  rw [h1] at hv
  injection hv with e1 e2 e3
  rw [← e2, ← e3]; exact h2.le
end Go.Proofs.Ytoonlpdohhconaa
