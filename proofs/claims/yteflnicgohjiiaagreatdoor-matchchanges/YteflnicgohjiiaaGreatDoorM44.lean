/- Pieces of the proof: MdC, MvO, MdD. -/
import Derived.Test.YteflnicgohjiiaaGreatDoorM40
import Derived.Test.YteflnicgohjiiaaGreatDoorM43
import Derived.Test.YteflnicgohjiiaaGreatDoorM11
import Derived.Maps.AppendAt
import Derived.Deep.RegionLaw
/- The document's own Insert, Modify, Delete (chapter 13): the refusals. -/
namespace Go.Proofs.YteflnicgohjiiaaGreatDoor
open Go.RowKit

set_option maxRecDepth 100000 in
set_option maxHeartbeats 4000000 in
theorem refInsert_a (x : TbL) (a : Option Addr) (cap n : Nat) (y : EnL) (w : World) (HK : Hid (∀ W, Below w.heap.size w W → Calls Tryz.prog 33 #[x.val, y.val] W fun e w' => e = .returned (.int .i64 1) ∧ Below W.heap.size W w')) :
    Calls Tryz.prog 11 #[x.val, .slice a n cap, y.val] w fun e w' => e = .returned (.tuple #[.slice none 0 0, .int .i64 1]) ∧ Below w.heap.size w w' := by
  obtain ⟨⟨ks, ws, size⟩, ka, kc, wa, wc⟩ := x
  obtain ⟨⟨ms, prio, act, args⟩, ma, mc, aa, ac⟩ := y
  simp only [TbL.val, EnL.val] at *
  generalize ks.length = n1 at *
  generalize ws.length = n2 at *
  generalize ms.length = n3 at *
  generalize args.length = n4 at *
  go_enter Tryz.func11, Tryz.ntmps11
  go_wp2_with fail
  refine (HK.out _ (below2 _ _ _)).mono ?_
  rintro e w1 ⟨rfl, hb⟩
  have BB := hide (bstep (below2 _ _ _) hb)
  clear hb
  go_wp2
  refine bodyPost_ret (v := .tuple #[.slice none 0 0, .int .i64 1]) (by simp [results, Tryz.results11, go_sem]) rfl ⟨rfl, ?_⟩
  exact BB.out
set_option maxRecDepth 100000 in
set_option maxHeartbeats 4000000 in
theorem refInsert_b (x : TbL) (a : Option Addr) (cap n : Nat) (y : EnL) (w : World) (r : Int) (hr : 0 ≤ r) (HK : Hid (∀ W, Below w.heap.size w W → Calls Tryz.prog 33 #[x.val, y.val] W fun e w' => e = .returned (.int .i64 0) ∧ Below W.heap.size W w')) (HA : Hid (∀ W, Below w.heap.size w W → Calls Tryz.prog 34 #[.slice a n cap, y.val] W fun e w' => e = .returned (.int .i64 r) ∧ Below W.heap.size W w')) :
    Calls Tryz.prog 11 #[x.val, .slice a n cap, y.val] w fun e w' => e = .returned (.tuple #[.slice none 0 0, .int .i64 12]) ∧ Below w.heap.size w w' := by
  obtain ⟨⟨ks, ws, size⟩, ka, kc, wa, wc⟩ := x
  obtain ⟨⟨ms, prio, act, args⟩, ma, mc, aa, ac⟩ := y
  simp only [TbL.val, EnL.val] at *
  generalize ks.length = n1 at *
  generalize ws.length = n2 at *
  generalize ms.length = n3 at *
  generalize args.length = n4 at *
  go_enter Tryz.func11, Tryz.ntmps11
  go_wp2_with fail
  refine (HK.out _ (below2 _ _ _)).mono ?_
  rintro e w1 ⟨rfl, hb⟩
  have BB := hide (bstep (below2 _ _ _) hb)
  have K0 := hide (heap_below hb (heap_past _ (heap_alloc_new w _)))
  have K1 := hide (heap_below hb (heap_snd w _ _ _))
  obtain ⟨y0, y1, y2, y3, -⟩ := at4 K1.out
  clear hb
  go_wp2_with fail
  refine (HA.out _ BB.out).mono ?_
  rintro e w2 ⟨rfl, hb⟩
  replace BB := hide (bstep BB.out hb)
  replace K0 := hide (heap_below hb K0.out)
  replace K1 := hide (heap_below hb K1.out)
  clear hb y0 y1 y2 y3
  go_wp2
  refine bodyPost_ret (v := .tuple #[.slice none 0 0, .int .i64 12]) (by simp [results, Tryz.results11, go_sem]) rfl ⟨rfl, ?_⟩
  exact BB.out
set_option maxRecDepth 100000 in
set_option maxHeartbeats 4000000 in
theorem refInsert_c (x : TbL) (a : Option Addr) (cap n : Nat) (y : EnL) (w : World) (r : Int) (hr : ¬ 0 ≤ r) (hs : x.t.size ≤ n) (HK : Hid (∀ W, Below w.heap.size w W → Calls Tryz.prog 33 #[x.val, y.val] W fun e w' => e = .returned (.int .i64 0) ∧ Below W.heap.size W w')) (HA : Hid (∀ W, Below w.heap.size w W → Calls Tryz.prog 34 #[.slice a n cap, y.val] W fun e w' => e = .returned (.int .i64 r) ∧ Below W.heap.size W w')) :
    Calls Tryz.prog 11 #[x.val, .slice a n cap, y.val] w fun e w' => e = .returned (.tuple #[.slice none 0 0, .int .i64 10]) ∧ Below w.heap.size w w' := by
  obtain ⟨⟨ks, ws, size⟩, ka, kc, wa, wc⟩ := x
  obtain ⟨⟨ms, prio, act, args⟩, ma, mc, aa, ac⟩ := y
  simp only [TbL.val, EnL.val] at *
  generalize ks.length = n1 at *
  generalize ws.length = n2 at *
  generalize ms.length = n3 at *
  generalize args.length = n4 at *
  go_enter Tryz.func11, Tryz.ntmps11
  go_wp2_with fail
  refine (HK.out _ (below2 _ _ _)).mono ?_
  rintro e w1 ⟨rfl, hb⟩
  have BB := hide (bstep (below2 _ _ _) hb)
  have K0 := hide (heap_below hb (heap_past _ (heap_alloc_new w _)))
  have K1 := hide (heap_below hb (heap_snd w _ _ _))
  obtain ⟨y0, y1, y2, y3, -⟩ := at4 K1.out
  clear hb
  go_wp2_with fail
  refine (HA.out _ BB.out).mono ?_
  rintro e w2 ⟨rfl, hb⟩
  replace BB := hide (bstep BB.out hb)
  replace K0 := hide (heap_below hb K0.out)
  replace K1 := hide (heap_below hb K1.out)
  clear hb y0 y1 y2 y3
  obtain ⟨x0, x1, x2, -⟩ := at3 K0.out
  go_wp2
  refine bodyPost_ret (v := .tuple #[.slice none 0 0, .int .i64 10]) (by simp [results, Tryz.results11, go_sem]) rfl ⟨rfl, ?_⟩
  exact BB.out
set_option maxRecDepth 100000 in
set_option maxHeartbeats 4000000 in
theorem refModify_a (x : TbL) (a : Option Addr) (cap n : Nat) (y : EnL) (w : World) (HK : Hid (∀ W, Below w.heap.size w W → Calls Tryz.prog 33 #[x.val, y.val] W fun e w' => e = .returned (.int .i64 1) ∧ Below W.heap.size W w')) :
    Calls Tryz.prog 13 #[x.val, .slice a n cap, y.val] w fun e w' => e = .returned (.tuple #[.slice none 0 0, .int .i64 1]) ∧ Below w.heap.size w w' := by
  obtain ⟨⟨ks, ws, size⟩, ka, kc, wa, wc⟩ := x
  obtain ⟨⟨ms, prio, act, args⟩, ma, mc, aa, ac⟩ := y
  simp only [TbL.val, EnL.val] at *
  generalize ks.length = n1 at *
  generalize ws.length = n2 at *
  generalize ms.length = n3 at *
  generalize args.length = n4 at *
  go_enter Tryz.func13, Tryz.ntmps13
  go_wp2_with fail
  refine (HK.out _ (below2 _ _ _)).mono ?_
  rintro e w1 ⟨rfl, hb⟩
  have BB := hide (bstep (below2 _ _ _) hb)
  clear hb
  go_wp2
  refine bodyPost_ret (v := .tuple #[.slice none 0 0, .int .i64 1]) (by simp [results, Tryz.results13, go_sem]) rfl ⟨rfl, ?_⟩
  exact BB.out
set_option maxRecDepth 100000 in
set_option maxHeartbeats 4000000 in
theorem refModify_b (x : TbL) (a : Option Addr) (cap n : Nat) (y : EnL) (w : World) (r : Int) (hr : r < 0) (HK : Hid (∀ W, Below w.heap.size w W → Calls Tryz.prog 33 #[x.val, y.val] W fun e w' => e = .returned (.int .i64 0) ∧ Below W.heap.size W w')) (HA : Hid (∀ W, Below w.heap.size w W → Calls Tryz.prog 34 #[.slice a n cap, y.val] W fun e w' => e = .returned (.int .i64 r) ∧ Below W.heap.size W w')) :
    Calls Tryz.prog 13 #[x.val, .slice a n cap, y.val] w fun e w' => e = .returned (.tuple #[.slice none 0 0, .int .i64 11]) ∧ Below w.heap.size w w' := by
  obtain ⟨⟨ks, ws, size⟩, ka, kc, wa, wc⟩ := x
  obtain ⟨⟨ms, prio, act, args⟩, ma, mc, aa, ac⟩ := y
  simp only [TbL.val, EnL.val] at *
  generalize ks.length = n1 at *
  generalize ws.length = n2 at *
  generalize ms.length = n3 at *
  generalize args.length = n4 at *
  go_enter Tryz.func13, Tryz.ntmps13
  go_wp2_with fail
  refine (HK.out _ (below2 _ _ _)).mono ?_
  rintro e w1 ⟨rfl, hb⟩
  have BB := hide (bstep (below2 _ _ _) hb)
  have K0 := hide (heap_below hb (heap_past _ (heap_alloc_new w _)))
  have K1 := hide (heap_below hb (heap_snd w _ _ _))
  obtain ⟨y0, y1, y2, y3, -⟩ := at4 K1.out
  clear hb
  go_wp2_with fail
  refine (HA.out _ BB.out).mono ?_
  rintro e w2 ⟨rfl, hb⟩
  replace BB := hide (bstep BB.out hb)
  replace K0 := hide (heap_below hb K0.out)
  replace K1 := hide (heap_below hb K1.out)
  clear hb y0 y1 y2 y3
  go_wp2
  refine bodyPost_ret (v := .tuple #[.slice none 0 0, .int .i64 11]) (by simp [results, Tryz.results13, go_sem]) rfl ⟨rfl, ?_⟩
  exact BB.out
set_option maxRecDepth 100000 in
set_option maxHeartbeats 4000000 in
theorem refDelete_a (x : TbL) (a : Option Addr) (cap n : Nat) (y : EnL) (w : World) (HK : Hid (∀ W, Below w.heap.size w W → Calls Tryz.prog 33 #[x.val, y.val] W fun e w' => e = .returned (.int .i64 1) ∧ Below W.heap.size W w')) :
    Calls Tryz.prog 14 #[x.val, .slice a n cap, y.val] w fun e w' => e = .returned (.tuple #[.slice none 0 0, .int .i64 1]) ∧ Below w.heap.size w w' := by
  obtain ⟨⟨ks, ws, size⟩, ka, kc, wa, wc⟩ := x
  obtain ⟨⟨ms, prio, act, args⟩, ma, mc, aa, ac⟩ := y
  simp only [TbL.val, EnL.val] at *
  generalize ks.length = n1 at *
  generalize ws.length = n2 at *
  generalize ms.length = n3 at *
  generalize args.length = n4 at *
  go_enter Tryz.func14, Tryz.ntmps14
  go_wp2_with fail
  refine (HK.out _ (below2 _ _ _)).mono ?_
  rintro e w1 ⟨rfl, hb⟩
  have BB := hide (bstep (below2 _ _ _) hb)
  clear hb
  go_wp2
  refine bodyPost_ret (v := .tuple #[.slice none 0 0, .int .i64 1]) (by simp [results, Tryz.results14, go_sem]) rfl ⟨rfl, ?_⟩
  exact BB.out
set_option maxRecDepth 100000 in
set_option maxHeartbeats 4000000 in
theorem refDelete_b (x : TbL) (a : Option Addr) (cap n : Nat) (y : EnL) (w : World) (r : Int) (hr : r < 0) (HK : Hid (∀ W, Below w.heap.size w W → Calls Tryz.prog 33 #[x.val, y.val] W fun e w' => e = .returned (.int .i64 0) ∧ Below W.heap.size W w')) (HA : Hid (∀ W, Below w.heap.size w W → Calls Tryz.prog 34 #[.slice a n cap, y.val] W fun e w' => e = .returned (.int .i64 r) ∧ Below W.heap.size W w')) :
    Calls Tryz.prog 14 #[x.val, .slice a n cap, y.val] w fun e w' => e = .returned (.tuple #[.slice none 0 0, .int .i64 11]) ∧ Below w.heap.size w w' := by
  obtain ⟨⟨ks, ws, size⟩, ka, kc, wa, wc⟩ := x
  obtain ⟨⟨ms, prio, act, args⟩, ma, mc, aa, ac⟩ := y
  simp only [TbL.val, EnL.val] at *
  generalize ks.length = n1 at *
  generalize ws.length = n2 at *
  generalize ms.length = n3 at *
  generalize args.length = n4 at *
  go_enter Tryz.func14, Tryz.ntmps14
  go_wp2_with fail
  refine (HK.out _ (below2 _ _ _)).mono ?_
  rintro e w1 ⟨rfl, hb⟩
  have BB := hide (bstep (below2 _ _ _) hb)
  have K0 := hide (heap_below hb (heap_past _ (heap_alloc_new w _)))
  have K1 := hide (heap_below hb (heap_snd w _ _ _))
  obtain ⟨y0, y1, y2, y3, -⟩ := at4 K1.out
  clear hb
  go_wp2_with fail
  refine (HA.out _ BB.out).mono ?_
  rintro e w2 ⟨rfl, hb⟩
  replace BB := hide (bstep BB.out hb)
  replace K0 := hide (heap_below hb K0.out)
  replace K1 := hide (heap_below hb K1.out)
  clear hb y0 y1 y2 y3
  go_wp2
  refine bodyPost_ret (v := .tuple #[.slice none 0 0, .int .i64 11]) (by simp [results, Tryz.results14, go_sem]) rfl ⟨rfl, ?_⟩
  exact BB.out
end Go.Proofs.YteflnicgohjiiaaGreatDoor
/- Pieces of a list of entries, and lists of entries put behind one another (cut out of MvB and MvD). -/
namespace Go.Proofs.YteflnicgohjiiaaGreatDoor
open Go.RowKit

theorem rdE_part {W : World} {p off : Nat} {l : List EnL} (h : RdE W (some ⟨p, off, none⟩) l) (i n : Nat) : RdE W (some ⟨p, off + i * 4, none⟩) ((l.drop i).take n) := by
  refine ⟨?_, fun x hx => h.ok x (List.mem_of_mem_drop (List.mem_of_mem_take hx))⟩
  rcases h.rd with rfl | ⟨p', off', e, hp, hc⟩
  · exact .inl (by simp)
  · injection e with e
    injection e with e1 e2
    subst e1 e2
    refine .inr ⟨p, off + i * 4, rfl, hp, fun k hk => ?_⟩
    have hk' : i + k < l.length := by simp at hk; omega
    have e : ((l.drop i).take n)[k] = l[i + k] := by simp
    have := hc (i + k) hk'
    rw [e, show off + i * 4 + k * 4 = off + (i + k) * 4 by omega]
    exact this
theorem en_src {W : World} {p off : Nat} {l : List EnL} (h : ∀ i (h : i < l.length), W.cell? ⟨p, off + i * 4, none⟩ = some (.slice l[i].ma l[i].e.ms.length l[i].mc) ∧ W.cell? ⟨p, off + i * 4 + 1, none⟩ = some (.int .i64 l[i].e.prio) ∧ W.cell? ⟨p, off + i * 4 + 2, none⟩ = some (.string l[i].e.act) ∧ W.cell? ⟨p, off + i * 4 + 3, none⟩ = some (.slice l[i].aa l[i].e.args.length l[i].ac)) : ∀ j u, (flat EnL.cells l)[j]? = some u → W.cell? ((⟨p, off, none⟩ : Addr).add j) = some u := by
  refine flat_src (by decide) en_len (fun i hi j u hu => ?_)
  obtain ⟨h0, h1, h2, h3⟩ := h i hi
  have hj : j < 4 := (List.getElem?_eq_some_iff.1 hu).1
  rcases (by omega : j = 0 ∨ j = 1 ∨ j = 2 ∨ j = 3) with rfl | rfl | rfl | rfl
  all_goals (injection hu with hu; subst hu; assumption)
/- A row of one's own, of entries that were there before. -/
structure Ow (w W : World) (v : Value) (acc : List EnL) : Prop where
  bl : Below w.heap.size w W
  own : W.ownsRow w.heap.size 30 4 v acc.length (flat EnL.cells acc)
  ok : ∀ x ∈ acc, EnR w x
theorem Ow.start {w W : World} (h : Below w.heap.size w W) : Ow w W (.slice none 0 0) [] := ⟨h, World.ownsRow_nil _ _ _ _, fun x h => absurd h (by simp)⟩
theorem Ow.rd {w W : World} {v : Value} {acc : List EnL} (h : Ow w W v acc) : ∃ a cap, v = .slice a acc.length cap ∧ RdE W a acc ∧ (a = none → cap = 0) := by
  rcases own_form h.own with ⟨hv, hn⟩ | ⟨g, cap, hv, hg, hlt, hc⟩
  · have h0 : acc = [] := List.length_eq_zero_iff.1 hn
    subst h0
    exact ⟨none, 0, hv, ⟨.inl rfl, fun x hx => absurd hx (by simp)⟩, fun _ => rfl⟩
  · refine ⟨_, cap, hv, ⟨.inr ⟨g, 0, rfl, hlt, fun i hi => ?_⟩, fun x hx => (h.ok x hx).below h.bl⟩, fun e => (by cases e)⟩
    have key := own_cell en_len h.own hv i hi
    exact ⟨key 0 _ rfl, key 1 _ rfl, key 2 _ rfl, key 3 _ rfl⟩
theorem wpList_appEs {w0 w : World} {ops : Array Oper} {rest : List Oper} {o : Oper} {a : Act} {Q : Exit → Act → World → Prop} (hgd : o.guard = none) (s x : Operand) (ho : o.op = .call { callee := .builtin .append, args := #[s, x], argTypes := #[26, 26] })
    (v : Value) (acc : List EnL) (hs : a.eval s = v) (how : Ow w0 w v acc) (p off n cap : Nat) (l : List EnL) (hn : n = l.length) (hx : a.eval x = .slice (some ⟨p, off, none⟩) n cap) (hr : RdE w0 (some ⟨p, off, none⟩) l) (hl : acc.length + n ≤ 1000000)
    (h : ∀ v' w', Ow w0 w' v' (acc ++ l) → wpList Tryz.prog ops Q rest (a.put o.dst v') w') :
    wpList Tryz.prog ops Q (o :: rest) a w := by
  subst hn
  obtain ⟨i0, hi0, hz0, hz1, hz2⟩ := info_parts Tryz.infoEn
  have hsrc : ∀ j u, (flat EnL.cells l)[j]? = some u → w.cell? ((⟨p, off, none⟩ : Addr).add j) = some u := by
    rcases (hr.below how.bl).rd with rfl | ⟨p', off', e, hp, hc⟩
    · intro j u hu; simp [flat] at hu
    · injection e with e
      injection e with e1 e2
      subst e1 e2
      exact en_src hc
  refine wpList_append_own_at w hgd s x 26 ho w0.heap.size 30 i0 _ 4 72 Tryz.underlying26 hi0 hz0 hz1 hz2 rfl (by decide) v acc.length (flat EnL.cells acc) hs how.own ⟨p, off, none⟩ l.length cap (flat EnL.cells l) hx (flat_length en_len l) hsrc (flat_one en_one l) (by unfold maxLen; omega) (by omega) how.bl.size ?_
  intro v' w' h1 h2 _ _
  refine h v' w' ⟨how.bl.grown h2 how.bl.size (fun k e => (how.own.lt k e).1), ?_, fun y hy => ?_⟩
  · rw [List.length_append, flat_append]; exact h1
  · rcases List.mem_append.1 hy with hy | hy
    · exact how.ok y hy
    · exact hr.ok y hy
theorem step_appEs {w0 : World} {ops : Array Oper} {o : Oper} {a : Act} {w : World} {K : Act → World → Prop} {Q : Exit → Act → World → Prop} {E : Prop}
    (hg : o.guard = none) (s x : Operand) (hop : o.op = Op.call { callee := Callee.builtin Builtin.append, args := #[s, x], argTypes := #[26, 26] })
    (v : Value) (acc : List EnL) (hs : a.eval s = v) (how : Ow w0 w v acc) (q : Addr) (n cap : Nat) (l : List EnL) (hn : n = l.length) (hx : a.eval x = .slice (some q) n cap) (hr : RdE w0 (some q) l) (hl : acc.length + n ≤ 1000000)
    (hK : ∀ v' w', Ow w0 w' v' (acc ++ l) → K (a.put o.dst v') w') :
    if Region.wanted o (yielded ops a.tmps) = true then Oper.wp Tryz.prog o a w K Q else E := by
  have hw : Region.wanted o (yielded ops a.tmps) = true := by simp [Region.wanted, hg]
  rw [if_pos hw]
  subst hn
  obtain ⟨i0, hi0, hz0, hz1, hz2⟩ := info_parts Tryz.infoEn
  have hsrc : ∀ j u, (flat EnL.cells l)[j]? = some u → w.cell? (q.add j) = some u := by
    rcases (hr.below how.bl).rd with rfl | ⟨p', off', e, hp, hc⟩
    · intro j u hu; simp [flat] at hu
    · injection e with e
      subst e
      exact en_src hc
  obtain ⟨v', w', hrun, r1, r2, _, r4⟩ := run_append_own_at (P := Tryz.prog) w w0.heap.size 26 o.type 30 i0 _ 4 72 Tryz.underlying26 hi0 hz0 hz1 hz2 rfl (by decide) v acc.length (flat EnL.cells acc) how.own q l.length cap (flat EnL.cells l) (flat_length en_len l) hsrc (flat_one en_one l) (by unfold maxLen; omega) (by omega) how.bl.size
  unfold Oper.wp
  simp [execOp, hop, resolve, invoke, builtin, hs, hx, hrun, Result.andThen]
  refine hK v' w' ⟨how.bl.grown r2 how.bl.size (fun k e => (how.own.lt k e).1), ?_, fun y hy => ?_⟩
  · rw [List.length_append, flat_append]; exact r1
  · rcases List.mem_append.1 hy with hy | hy
    · exact how.ok y hy
    · exact hr.ok y hy
theorem rdE_nil' (W : World) (a : Option Addr) : RdE W a [] := ⟨.inl rfl, fun x hx => absurd hx (by simp)⟩
theorem Ow.drew {w W : World} {v : Value} {acc : List EnL} (h : Ow w W v acc) : Ow w W.drew v acc := ⟨h.bl.drew, h.own, h.ok⟩
end Go.Proofs.YteflnicgohjiiaaGreatDoor
/- The document's own Delete and Modify (chapter 13), where the entry is there. -/
namespace Go.Proofs.YteflnicgohjiiaaGreatDoor
open Go.RowKit

set_option maxRecDepth 100000 in
set_option maxHeartbeats 8000000 in
theorem refDelete_yes (x : TbL) (p off cap : Nat) (l : List EnL) (y : EnL) (w : World) (hl : RdE w (some ⟨p, off, none⟩) l) (hn : l.length ≤ 900000) (hcap : l.length ≤ cap) (k : Nat) (hk : k < l.length) (HK : Hid (∀ W, Below w.heap.size w W → Calls Tryz.prog 33 #[x.val, y.val] W fun e w' => e = .returned (.int .i64 0) ∧ Below W.heap.size W w')) (HA : Hid (∀ W, Below w.heap.size w W → Calls Tryz.prog 34 #[.slice (some ⟨p, off, none⟩) l.length cap, y.val] W fun e w' => e = .returned (.int .i64 (k : Int)) ∧ Below W.heap.size W w')) :
    Calls Tryz.prog 14 #[x.val, .slice (some ⟨p, off, none⟩) l.length cap, y.val] w fun e w' => ∃ a' cap' acc, e = .returned (.tuple #[.slice a' acc.length cap', .int .i64 0]) ∧ acc = l.take k ++ l.drop (k + 1) ∧ RdE w' a' acc ∧ Below w.heap.size w w' := by
  suffices H : ∀ Q : Ending → World → Prop, (∀ v W' W0, Ow W0 W' v (l.take k ++ l.drop (k + 1)) → Below w.heap.size w W0 → Q (.returned (.tuple #[v, .int .i64 0])) W') → Calls Tryz.prog 14 #[x.val, .slice (some ⟨p, off, none⟩) l.length cap, y.val] w Q from
    H _ (fun v W' W0 h1 h2 => by
      obtain ⟨a', cap', rfl, h3, _⟩ := h1.rd
      exact ⟨a', cap', _, rfl, rfl, h3, bstep h2 h1.bl⟩)
  intro Q hQ
  have HQ := hide hQ
  clear hQ
  have HL := hide hl
  have hlI : (k : Int) < (l.length : Int) := by omega
  have hc1 : k + 1 ≤ cap := by omega
  have hc2 : (k : Int) + 1 ≤ (l.length : Int) := by omega
  have hc3 : (k : Int) ≤ (cap : Int) := by omega
  have hc4 : k ≤ cap := by omega
  have hc5 : k + 1 ≤ l.length := by omega
  have hc6 : (k : Int) + 1 ≤ (cap : Int) := by omega
  have hc7 : l.length ≤ cap := hcap
  have hc8 : (l.length : Int) ≤ (cap : Int) := by omega
  have hc9 : (0 : Int) ≤ (k : Int) + 1 := by omega
  have hwk : IntKind.i64.wrap ((k : Int) + 1) = (k : Int) + 1 := by rw [IntKind.wrap_i64]; omega
  clear hl
  obtain ⟨⟨ks, ws, size⟩, ka, kc, wa, wc⟩ := x
  obtain ⟨⟨ms, prio, act, args⟩, ma, mc, aa, ac⟩ := y
  simp only [TbL.val, EnL.val] at HK HA ⊢
  generalize ks.length = n1 at HK HA ⊢
  generalize ws.length = n2 at HK HA ⊢
  generalize ms.length = n3 at HK HA ⊢
  generalize args.length = n4 at HK HA ⊢
  go_enter Tryz.func14, Tryz.ntmps14
  go_wp2_with fail
  refine (HK.out _ (below2 _ _ _)).mono ?_
  rintro e w1 ⟨rfl, hb⟩
  have BB := hide (bstep (below2 _ _ _) hb)
  have K0 := hide (heap_below hb (heap_past _ (heap_alloc_new w _)))
  have K1 := hide (heap_below hb (heap_snd w _ _ _))
  obtain ⟨y0, y1, y2, y3, -⟩ := at4 K1.out
  clear hb
  go_wp2_with fail
  refine (HA.out _ BB.out).mono ?_
  rintro e w2 ⟨rfl, hb⟩
  replace BB := hide (bstep BB.out hb)
  replace K0 := hide (heap_below hb K0.out)
  replace K1 := hide (heap_below hb K1.out)
  clear hb y0 y1 y2 y3
  have HO0 := hide ((Ow.start (Below.refl _ w2)).drew)
  have HR := hide (HL.out.below BB.out)
  have HA1 := hide (rdE_head HR.out k)
  by_cases hc : cap = k + 1
  · have hcq : (cap = k + 1) = True := eq_true hc
    have HA2 : Hid (RdE w2 (some ⟨p, off, none⟩) (l.drop (k + 1))) := by
      have : l.drop (k + 1) = [] := List.drop_eq_nil_of_le (by omega)
      show RdE _ _ _
      rw [this]; exact rdE_nil' _ _
    clear hc
    go_wp2
    go_region_law (first
      | (refine step_appEs (w0 := w2) rfl _ _ rfl (.slice none 0 0) [] rfl HO0.out _ k cap (l.take k) (by simp; omega) rfl HA1.out (by simp; omega) ?_; intro v7 w7 O7; have OO7 := hide O7; clear O7)
      | (refine step_appEs (w0 := w2) rfl _ _ rfl v7 _ rfl OO7.out _ (l.length - (k + 1)) _ (l.drop (k + 1)) (by simp) rfl HA2.out (by simp; omega) ?_; intro v8 w8 O8; have OO8 := hide O8; clear O8))
    all_goals
      go_wp2
      refine bodyPost_ret (v := .tuple #[v8, .int .i64 0]) (by simp [results, Tryz.results14, go_sem]) rfl ?_
      exact HQ.out _ _ _ OO8.out BB.out
  · have hcq : (cap = k + 1) = False := eq_false hc
    have ha2 := rdE_tail HR.out (k + 1)
    obtain ⟨o', ho'⟩ : ∃ o', off + (k + 1) * 4 = o' := ⟨_, rfl⟩
    rw [ho'] at ha2
    have HA2 := hide ha2
    clear hc ha2
    go_wp2
    go_region_law (first
      | (refine step_appEs (w0 := w2) rfl _ _ rfl (.slice none 0 0) [] rfl HO0.out _ k cap (l.take k) (by simp; omega) rfl HA1.out (by simp; omega) ?_; intro v7 w7 O7; have OO7 := hide O7; clear O7)
      | (refine step_appEs (w0 := w2) rfl _ _ rfl v7 _ rfl OO7.out _ (l.length - (k + 1)) _ (l.drop (k + 1)) (by simp) rfl HA2.out (by simp; omega) ?_; intro v8 w8 O8; have OO8 := hide O8; clear O8))
    all_goals
      go_wp2
      refine bodyPost_ret (v := .tuple #[v8, .int .i64 0]) (by simp [results, Tryz.results14, go_sem]) rfl ?_
      exact HQ.out _ _ _ OO8.out BB.out
end Go.Proofs.YteflnicgohjiiaaGreatDoor
