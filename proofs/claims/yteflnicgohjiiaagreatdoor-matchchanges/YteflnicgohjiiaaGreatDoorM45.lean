/- Pieces of the proof: MdF, MdG. -/
import Derived.Test.YteflnicgohjiiaaGreatDoorM44
/- The document's own Modify (chapter 13), where the entry is there. -/
namespace Go.Proofs.YteflnicgohjiiaaGreatDoor
open Go.RowKit

theorem flat_ch (y : EnL) : ∀ (l : List EnL) (k : Nat) (h : k < l.length), ((flat EnL.cells l).set (k * 4 + 2) (.string y.e.act)).set (k * 4 + 3) (.slice y.aa y.e.args.length y.ac) = flat EnL.cells (l.set k (chE l[k] y))
  | [], _, h => by simp at h
  | z :: l, 0, _ => by
    have e : ∀ (b : EnL) (q : List EnL), flat EnL.cells (b :: q) = .slice b.ma b.e.ms.length b.mc :: .int .i64 b.e.prio :: .string b.e.act :: .slice b.aa b.e.args.length b.ac :: flat EnL.cells q := fun b q => by simp [flat, EnL.cells]
    rw [e]
    simp only [Nat.zero_mul, Nat.zero_add, List.set_cons_zero, List.set_cons_succ, List.getElem_cons_zero, e, chE]
  | z :: l, k + 1, h => by
    have e : ∀ (b : EnL) (q : List EnL), flat EnL.cells (b :: q) = .slice b.ma b.e.ms.length b.mc :: .int .i64 b.e.prio :: .string b.e.act :: .slice b.aa b.e.args.length b.ac :: flat EnL.cells q := fun b q => by simp [flat, EnL.cells]
    have ih := flat_ch y l k (by simpa using h)
    rw [e, show (k + 1) * 4 + 2 = k * 4 + 2 + 1 + 1 + 1 + 1 by omega, show (k + 1) * 4 + 3 = k * 4 + 3 + 1 + 1 + 1 + 1 by omega]
    simp only [List.set_cons_succ, List.getElem_cons_succ, e]
    rw [ih]
theorem ow_some {w W : World} {v : Value} {l : List EnL} (h : Ow w W v ([] ++ l)) (hl : 0 < l.length) : ∃ g c, v = .slice (some ⟨g, 0, none⟩) l.length c ∧ w.heap.size ≤ g ∧ W.ownsRow w.heap.size 30 4 (.slice (some ⟨g, 0, none⟩) l.length c) l.length (flat EnL.cells l) ∧ ∀ k, k < l.length → (∃ u, W.cell? ⟨g, k * 4 + 2, none⟩ = some u) ∧ ∃ u, W.cell? ⟨g, k * 4 + 3, none⟩ = some u := by
  have ho := h.own
  rw [List.nil_append] at ho
  rcases own_form ho with ⟨_, h0⟩ | ⟨g, c, rfl, h2, h3, h4⟩
  · omega
  · refine ⟨g, c, rfl, h2, ho, fun k hk => ?_⟩
    have c2 := own_cell en_len ho rfl k hk 2 _ rfl
    have c3 := own_cell en_len ho rfl k hk 3 _ rfl
    rw [Nat.zero_add] at c2 c3
    exact ⟨⟨_, c2⟩, ⟨_, c3⟩⟩
set_option maxRecDepth 100000 in
set_option maxHeartbeats 8000000 in
theorem refModify_yes (x : TbL) (p off cap : Nat) (l : List EnL) (y : EnL) (w : World) (hl : RdE w (some ⟨p, off, none⟩) l) (hy : EnR w y) (hn : l.length ≤ 900000) (k : Nat) (hk : k < l.length) (HK : Hid (∀ W, Below w.heap.size w W → Calls Tryz.prog 33 #[x.val, y.val] W fun e w' => e = .returned (.int .i64 0) ∧ Below W.heap.size W w')) (HA : Hid (∀ W, Below w.heap.size w W → Calls Tryz.prog 34 #[.slice (some ⟨p, off, none⟩) l.length cap, y.val] W fun e w' => e = .returned (.int .i64 (k : Int)) ∧ Below W.heap.size W w')) :
    Calls Tryz.prog 13 #[x.val, .slice (some ⟨p, off, none⟩) l.length cap, y.val] w fun e w' => ∃ a' cap' acc, e = .returned (.tuple #[.slice a' acc.length cap', .int .i64 0]) ∧ acc = l.set k (chE l[k] y) ∧ RdE w' a' acc ∧ Below w.heap.size w w' := by
  have HL := hide hl
  have hlI : (k : Int) < (l.length : Int) := by omega
  have hk0 : ¬ ((k : Int) < 0) := by omega
  have hfc := flat_ch y l k hk
  obtain ⟨zk, hzk⟩ : ∃ zk, zk = l[k] := ⟨_, rfl⟩
  have HZK : Hid (zk ∈ l) := by show zk ∈ l; rw [hzk]; exact List.getElem_mem hk
  rw [← hzk] at hfc ⊢
  have HFC := hide hfc
  clear hfc hzk
  have HYR := hide hy
  have HKK := hide hk
  suffices H : ∀ Q : Ending → World → Prop, (∀ a' cap' W', RdE W' a' (l.set k (chE zk y)) → Below w.heap.size w W' → Q (.returned (.tuple #[.slice a' l.length cap', .int .i64 0])) W') → Calls Tryz.prog 13 #[x.val, .slice (some ⟨p, off, none⟩) l.length cap, y.val] w Q from
    H _ (fun a' cap' W' h1 h2 => ⟨a', cap', _, by rw [List.length_set], rfl, h1, h2⟩)
  intro Q hQ
  have HQ := hide hQ
  clear hl hy hQ
  have HYE : Hid (∃ y' : EnL, y' = y) := ⟨y, rfl⟩
  obtain ⟨yy, hyy⟩ := HYE.out
  rw [← hyy] at HFC HYR HQ
  have HYY := hide hyy
  clear hyy HYE
  obtain ⟨⟨ks, ws, size⟩, ka, kc, wa, wc⟩ := x
  obtain ⟨⟨ms, prio, act, args⟩, ma, mc, aa, ac⟩ := y
  obtain rfl := HYY.out
  clear HYY
  simp only [TbL.val, EnL.val] at HK HA ⊢
  generalize ks.length = n1 at HK HA ⊢
  generalize ws.length = n2 at HK HA ⊢
  generalize ms.length = n3 at HK HA ⊢
  go_enter Tryz.func13, Tryz.ntmps13
  go_wp2_with fail
  refine (HK.out _ (below2 _ _ _)).mono ?_
  rintro e w1 ⟨rfl, hb⟩
  have BB := hide (bstep (below2 _ _ _) hb)
  have K0 := hide (heap_below hb (heap_past _ (heap_alloc_new w _)))
  have K1 := hide (heap_below hb (heap_snd w _ _ _))
  obtain ⟨y0, y1, y2, y3, -⟩ := at4 K1.out
  clear hb
  go_wp2_with fail
  refine (HA.out _ BB.out).mono ?_
  rintro e w2 ⟨rfl, hb⟩
  replace BB := hide (bstep BB.out hb)
  replace K0 := hide (heap_below hb K0.out)
  replace K1 := hide (heap_below hb K1.out)
  clear hb y0 y1 y2 y3
  have HO0 := hide (Ow.start (Below.refl _ w2))
  have HR := hide (HL.out.below BB.out)
  have HY2 := hide (HYR.out.below BB.out)
  have HZ2 := hide (show w.heap.size + 2 ≤ w2.heap.size by have := lt_heap K1.out; omega)
  go_wp2_with (at_builtin; refine wpList_appEs (w0 := w2) rfl _ _ rfl (.slice none 0 0) [] rfl HO0.out p off l.length cap l rfl rfl HR.out (by simp; omega) ?_; intro v7 w7 O7; obtain ⟨g, c7, hv7, hg7, ow7, hq⟩ := ow_some O7 (by have := HKK.out; omega); subst hv7; have OO7 := hide O7; have G7 := hide hg7; have OW7 := hide ow7; obtain ⟨⟨u2, hu2⟩, ⟨u3, hu3⟩⟩ := hq k HKK.out; have f2 := World.ownsRow.frozenAt ow7 (k * 4 + 2); have f3 := World.ownsRow.frozenAt ow7 (k * 4 + 3); obtain ⟨y0, y1, y2, y3, -⟩ := at4 (heap_below O7.bl K1.out); have hne : ¬ (g = w.heap.size + 1) := (by have := HZ2.out; omega); clear O7 ow7 hg7 hq)
  have O9 := (World.ownsRow.stored (World.ownsRow.stored OW7.out (k * 4 + 2) (.string act)).1 (k * 4 + 3) (.slice aa args.length ac)).1
  have F9 := ((Fr.refl (fun b => b = g) w7).set ⟨g, k * 4 + 2, none⟩ (.string act) rfl).set ⟨g, k * 4 + 3, none⟩ (.slice aa args.length ac) rfl
  have OF : Ow w2 ((w7.setCell ⟨g, k * 4 + 2, none⟩ (.string act)).setCell ⟨g, k * 4 + 3, none⟩ (.slice aa args.length ac)) (.slice (some ⟨g, 0, none⟩) l.length c7) (l.set k (chE zk ⟨⟨ms, prio, act, args⟩, ma, mc, aa, ac⟩)) := by
    refine ⟨OO7.out.bl.trans ((F9.below (B := w2.heap.size) (fun b e => by have := G7.out; omega) OO7.out.bl.size)), ?_, fun z hz => ?_⟩
    · rw [List.length_set, ← HFC.out]; exact O9
    · rcases List.mem_or_eq_of_mem_set hz with h | h
      · exact HR.out.ok z h
      · rw [h]; exact chE_r (HR.out.ok _ HZK.out) HY2.out
  obtain ⟨a9, c9, hv9, hr9, _⟩ := OF.rd
  rw [List.length_set] at hv9
  injection hv9 with e1 e2 e3
  subst e1 e3
  have RF := hide hr9
  have BF := hide (bstep BB.out OF.bl)
  clear OF O9 F9 hr9 OW7 OO7
  go_wp2
  exact HQ.out _ _ _ RF.out BF.out
end Go.Proofs.YteflnicgohjiiaaGreatDoor
/- The document's own Insert (chapter 13), where there is room. -/
namespace Go.Proofs.YteflnicgohjiiaaGreatDoor
open Go.RowKit

/- Entries are put behind a row of one's own, inside a drawn region: all other blocks stay. -/
theorem step_appG {w0 : World} {ops : Array Oper} {o : Oper} {a : Act} {w : World} {K : Act → World → Prop} {Q : Exit → Act → World → Prop} {E : Prop}
    (hg : o.guard = none) (s x : Operand) (hop : o.op = Op.call { callee := Callee.builtin Builtin.append, args := #[s, x], argTypes := #[26, 26] })
    (v : Value) (acc : List EnL) (hs : a.eval s = v) (how : Ow w0 w v acc) (q : Addr) (n cap : Nat) (l : List EnL) (hn : n = l.length) (hx : a.eval x = .slice (some q) n cap) (hsrc : ∀ j u, (flat EnL.cells l)[j]? = some u → w.cell? (q.add j) = some u) (hok : ∀ z ∈ l, EnR w0 z) (hl : acc.length + n ≤ 1000000)
    (hK : ∀ v' w', Ow w0 w' v' (acc ++ l) → w.grownBy w' v.ownBlock → K (a.put o.dst v') w') :
    if Region.wanted o (yielded ops a.tmps) = true then Oper.wp Tryz.prog o a w K Q else E := by
  have hw : Region.wanted o (yielded ops a.tmps) = true := by simp [Region.wanted, hg]
  rw [if_pos hw]
  subst hn
  obtain ⟨i0, hi0, hz0, hz1, hz2⟩ := info_parts Tryz.infoEn
  obtain ⟨v', w', hrun, r1, r2, _, r4⟩ := run_append_own_at (P := Tryz.prog) w w0.heap.size 26 o.type 30 i0 _ 4 72 Tryz.underlying26 hi0 hz0 hz1 hz2 rfl (by decide) v acc.length (flat EnL.cells acc) how.own q l.length cap (flat EnL.cells l) (flat_length en_len l) hsrc (flat_one en_one l) (by unfold maxLen; omega) (by omega) how.bl.size
  unfold Oper.wp
  simp [execOp, hop, resolve, invoke, builtin, hs, hx, hrun, Result.andThen]
  refine hK v' w' ⟨how.bl.grown r2 how.bl.size (fun k e => (how.own.lt k e).1), ?_, fun y hy => ?_⟩ r2
  · rw [List.length_append, flat_append]; exact r1
  · rcases List.mem_append.1 hy with hy | hy
    · exact how.ok y hy
    · exact hok y hy
theorem rdE_src {W : World} {q : Addr} {l : List EnL} (h : RdE W (some q) l) : ∀ j u, (flat EnL.cells l)[j]? = some u → W.cell? (q.add j) = some u := by
  rcases h.rd with rfl | ⟨p', off', e, hp, hc⟩
  · intro j u hu; simp [flat] at hu
  · injection e with e
    subst e
    exact en_src hc
theorem enB_src {W : World} {b : Nat} {y : EnL} (h : EnB W b y) : ∀ j u, (flat EnL.cells [y])[j]? = some u → W.cell? ((⟨b, 0, none⟩ : Addr).add j) = some u := by
  intro j u hu
  rw [add8, Nat.zero_add]
  obtain ⟨h0, h1, h2, h3, -⟩ := at4 h
  have e : flat EnL.cells [y] = y.cells := by simp [flat]
  rw [e] at hu
  have hj : j < 4 := (List.getElem?_eq_some_iff.1 hu).1
  rcases (by omega : j = 0 ∨ j = 1 ∨ j = 2 ∨ j = 3) with rfl | rfl | rfl | rfl
  all_goals (injection hu with hu; subst hu; assumption)
set_option maxRecDepth 100000 in
set_option maxHeartbeats 8000000 in
theorem refInsert_yes (x : TbL) (q : Addr) (cap : Nat) (l : List EnL) (y : EnL) (w : World) (hl : RdE w (some q) l) (hy : EnR w y) (hn : l.length ≤ 900000) (r : Int) (hr : ¬ 0 ≤ r) (hs : ¬ x.t.size ≤ (l.length : Int)) (HK : Hid (∀ W, Below w.heap.size w W → Calls Tryz.prog 33 #[x.val, y.val] W fun e w' => e = .returned (.int .i64 0) ∧ Below W.heap.size W w')) (HA : Hid (∀ W, Below w.heap.size w W → Calls Tryz.prog 34 #[.slice (some q) l.length cap, y.val] W fun e w' => e = .returned (.int .i64 r) ∧ Below W.heap.size W w')) :
    Calls Tryz.prog 11 #[x.val, .slice (some q) l.length cap, y.val] w fun e w' => ∃ a' cap' acc, e = .returned (.tuple #[.slice a' acc.length cap', .int .i64 0]) ∧ acc = l ++ [y] ∧ RdE w' a' acc ∧ Below w.heap.size w w' := by
  have HL := hide hl
  have HYR := hide hy
  suffices H : ∀ Q : Ending → World → Prop, (∀ v W' W0, Ow W0 W' v (l ++ [y]) → Below w.heap.size w W0 → Q (.returned (.tuple #[v, .int .i64 0])) W') → Calls Tryz.prog 11 #[x.val, .slice (some q) l.length cap, y.val] w Q from
    H _ (fun v W' W0 h1 h2 => by
      obtain ⟨a', cap', rfl, h3, _⟩ := h1.rd
      exact ⟨a', cap', _, rfl, rfl, h3, bstep h2 h1.bl⟩)
  intro Q hQ
  have HQ := hide hQ
  clear hl hy hQ
  have HYE : Hid (∃ y' : EnL, y' = y) := ⟨y, rfl⟩
  obtain ⟨yy, hyy⟩ := HYE.out
  rw [← hyy] at HYR HQ
  have HEB : Hid (∀ W b, W.heap[b]? = some (.cells #[.slice y.ma y.e.ms.length y.mc, .int .i64 y.e.prio, .string y.e.act, .slice y.aa y.e.args.length y.ac] 30 (0, 0)) → EnB W b yy) := fun W b h => by rw [hyy]; exact h
  clear hyy HYE
  obtain ⟨⟨ks, ws, size⟩, ka, kc, wa, wc⟩ := x
  obtain ⟨⟨ms, prio, act, args⟩, ma, mc, aa, ac⟩ := y
  simp only [TbL.val, EnL.val] at HK HA HEB ⊢
  generalize ks.length = n1 at HK HA HEB ⊢
  generalize ws.length = n2 at HK HA HEB ⊢
  generalize ms.length = n3 at HK HA HEB ⊢
  generalize args.length = n4 at HK HA HEB ⊢
  go_enter Tryz.func11, Tryz.ntmps11
  go_wp2_with fail
  refine (HK.out _ (below2 _ _ _)).mono ?_
  rintro e w1 ⟨rfl, hb⟩
  have BB := hide (bstep (below2 _ _ _) hb)
  have K0 := hide (heap_below hb (heap_past _ (heap_alloc_new w _)))
  have K1 := hide (heap_below hb (heap_snd w _ _ _))
  obtain ⟨y0, y1, y2, y3, -⟩ := at4 K1.out
  clear hb
  go_wp2_with fail
  refine (HA.out _ BB.out).mono ?_
  rintro e w2 ⟨rfl, hb⟩
  replace BB := hide (bstep BB.out hb)
  replace K0 := hide (heap_below hb K0.out)
  replace K1 := hide (heap_below hb K1.out)
  clear hb y0 y1 y2 y3
  have HR := hide (HL.out.below BB.out)
  have HY2 := hide (HYR.out.below BB.out)
  obtain ⟨y0, y1, y2, y3, -⟩ := at4 K1.out
  obtain ⟨x0, x1, x2, -⟩ := at3 K0.out
  have HO0 := hide ((Ow.start (Below.refl _ w2)).drew)
  have HO1 := hide (Ow.start (bstep (Below.refl _ w2).drew (below1 w2.drew (.cells #[.slice ma n3 mc, .int .i64 prio, .string act, .slice aa n4 ac] 30))))
  have hs' : ((l.length : Int) ≥ size) = False := by simp; omega
  go_wp2
  go_region_law (first
    | (refine step_appG (w0 := w2) rfl _ _ rfl (.slice none 0 0) [] rfl (by first | exact HO0.out | exact HO1.out) q l.length cap l rfl rfl (rdE_src (by first | exact HR.out.below (Below.refl _ w2).drew | exact HR.out.below (bstep (Below.refl _ w2).drew (below1 _ _)))) HR.out.ok (by simp; omega) ?_; intro v7 w7 O7 G7; have OO7 := hide O7; have GG7 := hide G7; have KY := hide (heap_below O7.bl K1.out); obtain ⟨y07, y17, y27, y37, -⟩ := at4 KY.out; clear O7 G7)
    | (refine step_appG (w0 := w2) rfl _ _ rfl v7 _ rfl (by first | exact OO7.out | exact ⟨OO7.out.bl.alloc OO7.out.bl.size _, (OO7.out.own).alloc _, OO7.out.ok⟩) ⟨_, 0, none⟩ 1 1 [yy] rfl rfl (enB_src (HEB.out _ _ (by first | exact heap_alloc_new _ _ | exact (GG7.out.block _ (by simp) (by simp [Value.ownBlock])).trans (heap_alloc_new _ _)))) (by intro z hz; rw [List.mem_singleton.1 hz]; exact HY2.out) (by simp; omega) ?_; intro v8 w8 O8 G8; have OO8 := hide O8; clear O8 G8))
  all_goals
    go_wp2
    refine bodyPost_ret (v := .tuple #[v8, .int .i64 0]) (by simp [results, Tryz.results11, go_sem]) rfl ?_
    exact HQ.out _ _ _ (by simpa using OO8.out) BB.out
set_option maxRecDepth 100000 in
set_option maxHeartbeats 8000000 in
theorem refInsert_nil (x : TbL) (y : EnL) (w : World) (hy : EnR w y) (r : Int) (hr : ¬ 0 ≤ r) (hs : ¬ x.t.size ≤ (0 : Int)) (HK : Hid (∀ W, Below w.heap.size w W → Calls Tryz.prog 33 #[x.val, y.val] W fun e w' => e = .returned (.int .i64 0) ∧ Below W.heap.size W w')) (HA : Hid (∀ W, Below w.heap.size w W → Calls Tryz.prog 34 #[.slice none 0 0, y.val] W fun e w' => e = .returned (.int .i64 r) ∧ Below W.heap.size W w')) :
    Calls Tryz.prog 11 #[x.val, .slice none 0 0, y.val] w fun e w' => ∃ a' cap' acc, e = .returned (.tuple #[.slice a' acc.length cap', .int .i64 0]) ∧ acc = [y] ∧ RdE w' a' acc ∧ Below w.heap.size w w' := by
  have HYR := hide hy
  suffices H : ∀ Q : Ending → World → Prop, (∀ v W' W0, Ow W0 W' v [y] → Below w.heap.size w W0 → Q (.returned (.tuple #[v, .int .i64 0])) W') → Calls Tryz.prog 11 #[x.val, .slice none 0 0, y.val] w Q from
    H _ (fun v W' W0 h1 h2 => by
      obtain ⟨a', cap', rfl, h3, _⟩ := h1.rd
      exact ⟨a', cap', _, rfl, rfl, h3, bstep h2 h1.bl⟩)
  intro Q hQ
  have HQ := hide hQ
  clear hy hQ
  have HYE : Hid (∃ y' : EnL, y' = y) := ⟨y, rfl⟩
  obtain ⟨yy, hyy⟩ := HYE.out
  rw [← hyy] at HYR HQ
  have HEB : Hid (∀ W b, W.heap[b]? = some (.cells #[.slice y.ma y.e.ms.length y.mc, .int .i64 y.e.prio, .string y.e.act, .slice y.aa y.e.args.length y.ac] 30 (0, 0)) → EnB W b yy) := fun W b h => by rw [hyy]; exact h
  clear hyy HYE
  obtain ⟨⟨ks, ws, size⟩, ka, kc, wa, wc⟩ := x
  obtain ⟨⟨ms, prio, act, args⟩, ma, mc, aa, ac⟩ := y
  simp only [TbL.val, EnL.val] at HK HA HEB ⊢
  generalize ks.length = n1 at HK HA HEB ⊢
  generalize ws.length = n2 at HK HA HEB ⊢
  generalize ms.length = n3 at HK HA HEB ⊢
  generalize args.length = n4 at HK HA HEB ⊢
  go_enter Tryz.func11, Tryz.ntmps11
  go_wp2_with fail
  refine (HK.out _ (below2 _ _ _)).mono ?_
  rintro e w1 ⟨rfl, hb⟩
  have BB := hide (bstep (below2 _ _ _) hb)
  have K0 := hide (heap_below hb (heap_past _ (heap_alloc_new w _)))
  have K1 := hide (heap_below hb (heap_snd w _ _ _))
  obtain ⟨y0, y1, y2, y3, -⟩ := at4 K1.out
  clear hb
  go_wp2_with fail
  refine (HA.out _ BB.out).mono ?_
  rintro e w2 ⟨rfl, hb⟩
  replace BB := hide (bstep BB.out hb)
  replace K0 := hide (heap_below hb K0.out)
  replace K1 := hide (heap_below hb K1.out)
  clear hb y0 y1 y2 y3
  have HY2 := hide (HYR.out.below BB.out)
  obtain ⟨y0, y1, y2, y3, -⟩ := at4 K1.out
  obtain ⟨x0, x1, x2, -⟩ := at3 K0.out
  have HO1 := hide (Ow.start (bstep (Below.refl _ w2).drew (below1 w2.drew (.cells #[.slice ma n3 mc, .int .i64 prio, .string act, .slice aa n4 ac] 30))))
  have hs' : ((0 : Int) ≥ size) = False := by simp; omega
  go_wp2
  go_region_law (refine step_appG (w0 := w2) rfl _ _ rfl (.slice none 0 0) [] rfl HO1.out ⟨_, 0, none⟩ 1 1 [yy] rfl rfl (enB_src (HEB.out _ _ (heap_alloc_new _ _))) (by intro z hz; rw [List.mem_singleton.1 hz]; exact HY2.out) (by simp) ?_; intro v8 w8 O8 G8; have OO8 := hide O8; clear O8 G8)
  all_goals
    go_wp2
    refine bodyPost_ret (v := .tuple #[v8, .int .i64 0]) (by simp [results, Tryz.results11, go_sem]) rfl ?_
    exact HQ.out _ _ _ (by simpa using OO8.out) BB.out
end Go.Proofs.YteflnicgohjiiaaGreatDoor
