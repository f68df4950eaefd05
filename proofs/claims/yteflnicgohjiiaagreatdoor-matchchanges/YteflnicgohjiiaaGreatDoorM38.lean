/- Pieces of the proof: MdK. -/
import Derived.Test.YteflnicgohjiiaaGreatDoorM35
import Derived.Test.YteflnicgohjiiaaGreatDoorM37
/- package match: Insert, Modify, Delete answer lists of one's own within one's own. -/
namespace Go.Proofs.YteflnicgohjiiaaGreatDoor
open Go.RowKit

theorem Cq.none {w W : World} (h : Below w.heap.size w W) : Cq w W (.slice none 0 0) [] := ⟨Cp.none h, fun x hx => absurd hx (by simp), List.Pairwise.nil⟩
theorem Cq.from {w w0 W : World} {v : Value} {acc : List EnL} (h : Cq w W v acc) (hb : Below w0.heap.size w0 w) : Cq w0 W v acc := ⟨h.cp.from hb, fun x hx => ⟨owR_lower (h.iw x hx).1 hb.size, owR_lower (h.iw x hx).2 hb.size⟩, h.pw⟩
set_option maxRecDepth 100000 in
set_option maxHeartbeats 4000000 in
theorem insertQ_any (x : TbL) (a : Option Addr) (cap : Nat) (l : List EnL) (y : EnL) (w : World) (hx : TbR w x) (hl : RdE w a l) (hy : EnR w y) (hn : l.length ≤ 900000) :
    Calls Tryz.prog 8 #[x.val, .slice a l.length cap, y.val] w fun e w' => ∃ v acc, e = .returned (.tuple #[v, .int .i64 (insI x.t (ens l) y.e)]) ∧ ens acc = (if insI x.t (ens l) y.e = 0 then ens l ++ [y.e] else []) ∧ Cq w w' v acc := by
  suffices H : ∀ Q : Ending → World → Prop, (∀ v acc W', ens acc = (if insI x.t (ens l) y.e = 0 then ens l ++ [y.e] else []) → Cq w W' v acc → Q (.returned (.tuple #[v, .int .i64 (insI x.t (ens l) y.e)])) W') → Calls Tryz.prog 8 #[x.val, .slice a l.length cap, y.val] w Q from H _ (fun v acc W' h1 h2 => ⟨v, acc, rfl, h1, h2⟩)
  intro Q hQ
  have HQ := hide hQ
  clear hQ
  have HC : Hid (∀ W, Below w.heap.size w W → _) := fun W hb => check13_any x y W (hx.below hb) (hy.below hb)
  have HP : Hid (∀ W, Below w.heap.size w W → _) := fun W hb => placeOf_any a cap l y W (hl.below hb) (by omega) (hy.below hb)
  have HL := hide hl
  have HY := hide hy
  have HN := hide hn
  unfold insI chkI at *
  have HH : Hid (firstI (fun x : EnL => sameP x.e y.e) l = hereI (ens l) y.e) := firstI_ens (fun x => sameP x y.e) l
  rw [HH.out] at HP
  have HS : Hid (-1 ≤ hereI (ens l) y.e ∧ hereI (ens l) y.e < 1000000) := by
    have := firstI_lt (fun x => sameP x y.e) (ens l)
    rw [ens_len] at this
    unfold hereI
    show _ ∧ _
    omega
  clear hx hl hy hn
  generalize hereI (ens l) y.e = r at *
  generalize chkB x.t y.e = t at *
  obtain ⟨⟨ks, ws, size⟩, ka, kc, wa, wc⟩ := x
  have HEN : Hid (∀ W b, EnB W b y ↔ W.heap[b]? = some (.cells #[.slice y.ma y.e.ms.length y.mc, .int .i64 y.e.prio, .string y.e.act, .slice y.aa y.e.args.length y.ac] 30 (0, 0))) := fun _ _ => Iff.rfl
  obtain ⟨⟨ms, prio, act, args⟩, ma, mc, aa, ac⟩ := y
  simp only [TbL.val, EnL.val] at *
  cases t
  · simp only [Bool.false_eq_true, if_false] at HC HQ
    go_enter Tryz.func8, Tryz.ntmps8
    go_wp2_with fail
    refine (HC.out _ (below2 _ _ _)).mono ?_
    rintro e w1 ⟨rfl, hb⟩
    go_wp2
    exact HQ.out _ [] _ rfl (Cq.none (bstep (below2 _ _ _) hb))
  · simp only [if_true] at HC HQ
    go_enter Tryz.func8, Tryz.ntmps8
    go_wp2_with fail
    refine (HC.out _ (below2 _ _ _)).mono ?_
    rintro e w1 ⟨rfl, hb⟩
    have B1 := hide (bstep (below2 _ _ _) hb)
    have T1 := hide (heap_below hb (heap_past _ (heap_alloc_new _ _)))
    have E1 := hide (heap_below hb (heap_snd _ _ _ _))
    obtain ⟨b0, b1, b2, b3, -⟩ := at4 E1.out
    clear hb
    go_wp2_with fail
    refine (HP.out _ B1.out).mono ?_
    rintro e w2 ⟨rfl, hb2⟩
    have B2 := hide (bstep B1.out hb2)
    obtain ⟨c0, c1, c2, -⟩ := at3 (heap_below hb2 T1.out)
    have E2 := hide (heap_below hb2 E1.out)
    obtain ⟨d0, d1, d2, d3, -⟩ := at4 E2.out
    clear hb2 b0 b1 b2 b3
    by_cases h1 : 0 ≤ r
    · have f1 : (r == -1) = false := by simp; omega
      have f2 : (r = -1) = False := by simp; omega
      rw [if_pos h1] at HQ
      clear HS
      go_wp2
      exact HQ.out _ [] _ rfl (Cq.none B2.out)
    · obtain rfl : r = -1 := by have := HS.out; omega
      rw [if_neg h1, ens_len] at HQ
      clear HS h1
      by_cases h2 : size ≤ l.length
      · have f1 : ((l.length : Int) ≥ size) = True := by simp; omega
        rw [if_pos h2] at HQ
        go_wp2
        exact HQ.out _ [] _ rfl (Cq.none B2.out)
      · have f1 : ((l.length : Int) ≥ size) = False := by simp; omega
        have f2 : (size ≤ (l.length : Int)) = False := by simp; omega
        rw [if_neg h2] at HQ
        clear h2
        have HE2 := hide (HL.out.below B2.out)
        have HY2 := hide (HY.out.below B2.out)
        have HR2 := hide (two_lists (W := (w2.alloc (.cells #[.slice ma ms.length mc, .int .i64 prio, .string act, .slice aa args.length ac] 30)).alloc (.cells #[.slice a l.length cap, .slice (some ⟨w2.heap.size, 0, none⟩) 1 1] 26)) (a := a) (cap := cap) (l := l) (y := ⟨⟨ms, prio, act, args⟩, ma, mc, aa, ac⟩) (c := w2.heap.size) (p := w2.heap.size + 1) (HE2.out.below (below2 _ _ _)) (HY2.out.below (below2 _ _ _)) (heap_past _ (heap_alloc_new _ _)) (heap_snd _ _ _ _))
        have HCC := hide (copiedQ_any (w2.heap.size + 1) 2 _ _ HR2.out (by simp) (by have := HN.out; simp [allE, ens_len]; omega))
        simp only [List.length_cons, List.length_nil] at HCC
        go_wp2_with fail
        refine HCC.out.mono ?_
        rintro e w3 ⟨v, acc, rfl, hacc, hcp⟩
        have HAC := hide hacc
        have HCP := hide (hcp.from (bstep B2.out (below2 _ _ _)))
        clear hacc hcp
        go_wp2
        exact HQ.out _ acc _ (by rw [HAC.out]; simp [allE, ens]) HCP.out
set_option maxRecDepth 100000 in
set_option maxHeartbeats 8000000 in
theorem deleteQ_yes (x : TbL) (a : Option Addr) (cap : Nat) (l : List EnL) (y : EnL) (w : World) (hx : TbR w x) (hl : RdE w a l) (hy : EnR w y) (hn : l.length ≤ 900000) (hcap : l.length ≤ cap) (k : Nat) (hk : k < l.length) (hc : thI x.t (ens l) y.e = ((k : Int), 0)) :
    Calls Tryz.prog 10 #[x.val, .slice a l.length cap, y.val] w fun e w' => ∃ v acc, e = .returned (.tuple #[v, .int .i64 0]) ∧ ens acc = (ens l).take k ++ (ens l).drop (k + 1) ∧ Cq w w' v acc := by
  obtain ⟨p, off, rfl, -, -⟩ := hl.some (by omega)
  suffices H : ∀ Q : Ending → World → Prop, (∀ v acc W', ens acc = (ens l).take k ++ (ens l).drop (k + 1) → Cq w W' v acc → Q (.returned (.tuple #[v, .int .i64 0])) W') → Calls Tryz.prog 10 #[x.val, .slice (some ⟨p, off, none⟩) l.length cap, y.val] w Q from H _ (fun v acc W' h1 h2 => ⟨v, acc, rfl, h1, h2⟩)
  intro Q hQ
  have HQ := hide hQ
  clear hQ
  have HT : Hid (∀ W, Below w.heap.size w W → _) := fun W hb => there_any x (some ⟨p, off, none⟩) cap l y W (hx.below hb) (hl.below hb) (hy.below hb) hn
  rw [hc] at HT
  have HCP : Hid (∀ (W : World) (q c1 c2 n1 n2 : Nat) (a2 : Option Addr), Below w.heap.size w W → (a2 = some ⟨p, off + (k + 1) * 4, none⟩ ∨ l.drop (k + 1) = []) → n1 = (l.take k).length → n2 = (l.drop (k + 1)).length → W.heap[q]? = some (.cells #[.slice (some ⟨p, off, none⟩) n1 c1, .slice a2 n2 c2] 26 (0, 0)) → Calls Tryz.prog 31 #[.slice (some ⟨q, 0, none⟩) 2 2] W fun e w' => ∃ v acc, e = .returned v ∧ ens acc = (ens l).take k ++ (ens l).drop (k + 1) ∧ Cq w w' v acc) := fun W q c1 c2 n1 n2 a2 hb ha e1 e2 hq => by
    have h2 : RdE W a2 (l.drop (k + 1)) := by
      rcases ha with rfl | h
      · exact rdE_tail (hl.below hb) (k + 1)
      · rw [h]; exact rdE_none _
    refine (copiedQ_any q 2 _ W (two_pieces (rdE_head (hl.below hb) k) h2 e1 e2 hq) (by simp) (by simp [allE, ens_len]; omega)).mono ?_
    rintro e w' ⟨v, acc, rfl, hacc, hcp⟩
    refine ⟨v, acc, rfl, ?_, hcp.from hb⟩
    rw [hacc]
    simp [allE, ens, List.map_take, List.map_drop]
  have hkI : ((k : Int) < (l.length : Int)) := by omega
  have w1 : IntKind.i64.wrap ((k : Int) + 1) = (k : Int) + 1 := by rw [IntKind.wrap_i64]; omega
  have HK1 := hide (show (l.take k).length = k by simp; omega)
  have HK2 := hide (show (l.drop (k + 1)).length = l.length - (k + 1) by simp)
  have HD : Hid (l.length ≤ k + 1 → l.drop (k + 1) = []) := fun h => List.drop_eq_nil_of_le h
  have HKL := hide hk
  have HCA := hide hcap
  clear hx hl hy hn hc
  obtain ⟨⟨ks, ws, size⟩, ka, kc, wa, wc⟩ := x
  obtain ⟨⟨ms, prio, act, args⟩, ma, mc, aa, ac⟩ := y
  simp only [TbL.val, EnL.val] at *
  generalize l.length = n at *
  generalize ks.length = n1 at *
  generalize ws.length = n2 at *
  generalize ms.length = n3 at *
  generalize args.length = n4 at *
  have l1 : ((k : Int) ≤ (cap : Int)) = True := by simp; omega
  have l2 : ((k : Int) + 1 ≤ (n : Int)) = True := by simp; omega
  have l3 : ((k : Int) < 0) = False := by simp
  have l4 : ((k : Int) + 1 < 0) = False := by simp; omega
  go_enter Tryz.func10, Tryz.ntmps10
  go_wp2_with fail
  refine (HT.out _ (below2 _ _ _)).mono ?_
  rintro e w1 ⟨rfl, hb⟩
  have B1 := hide (bstep (below2 _ _ _) hb)
  clear hb hcap hk
  go_wp2
  by_cases hcc : cap = k + 1
  · have g1 : (cap = k + 1) = True := by simp [hcc]
    have g2 := HCA.out
    have g3 := HKL.out
    go_region_with (go_at_call 31; refine (HCP.out _ _ _ _ _ _ _ (bstep B1.out (below1 _ _)).drew (by first | exact .inl rfl | exact .inr (HD.out (by have := HCA.out; omega))) HK1.out.symm (by rw [HK2.out]; try omega) (heap_alloc_new w1 _)).mono ?_; rintro e w5 ⟨v, acc, rfl, hacc, hcp⟩; have HAC := hide hacc; have HC5 := hide hcp; clear hacc hcp)
    all_goals
      go_wp2
      refine bodyPost_ret (v := .tuple #[v, .int .i64 0]) (by simp [results, Tryz.results10, go_sem, Act.put]) rfl ?_
      exact HQ.out _ _ _ HAC.out HC5.out
  · have g1 : (cap = k + 1) = False := by simp [hcc]
    go_region_with (go_at_call 31; refine (HCP.out _ _ _ _ _ _ _ (bstep B1.out (below1 _ _)).drew (by first | exact .inl rfl | exact .inr (HD.out (by have := HCA.out; omega))) HK1.out.symm (by rw [HK2.out]; try omega) (heap_alloc_new w1 _)).mono ?_; rintro e w5 ⟨v, acc, rfl, hacc, hcp⟩; have HAC := hide hacc; have HC5 := hide hcp; clear hacc hcp)
    all_goals
      go_wp2
      refine bodyPost_ret (v := .tuple #[v, .int .i64 0]) (by simp [results, Tryz.results10, go_sem, Act.put]) rfl ?_
      exact HQ.out _ _ _ HAC.out HC5.out
set_option maxRecDepth 100000 in
set_option maxHeartbeats 8000000 in
theorem modifyQ_yes (x : TbL) (a : Option Addr) (cap : Nat) (l : List EnL) (y : EnL) (w : World) (hx : TbR w x) (hl : RdE w a l) (hy : EnR w y) (hn : l.length ≤ 900000) (hcap : l.length ≤ cap) (k : Nat) (hk : k < l.length) (hc : thI x.t (ens l) y.e = ((k : Int), 0)) :
    Calls Tryz.prog 9 #[x.val, .slice a l.length cap, y.val] w fun e w' => ∃ v acc, e = .returned (.tuple #[v, .int .i64 0]) ∧ ens acc = (ens l).take k ++ ((chE l[k] y).e :: (ens l).drop (k + 1)) ∧ Cq w w' v acc := by
  obtain ⟨p, off, rfl, hp, hcl⟩ := hl.some (by omega)
  suffices H : ∀ Q : Ending → World → Prop, (∀ v acc W', ens acc = (ens l).take k ++ ((chE l[k] y).e :: (ens l).drop (k + 1)) → Cq w W' v acc → Q (.returned (.tuple #[v, .int .i64 0])) W') → Calls Tryz.prog 9 #[x.val, .slice (some ⟨p, off, none⟩) l.length cap, y.val] w Q from H _ (fun v acc W' h1 h2 => ⟨v, acc, rfl, h1, h2⟩)
  intro Q hQ
  obtain ⟨z, hz⟩ : ∃ z, z = l[k] := ⟨_, rfl⟩
  have hzr : EnR w z := by rw [hz]; exact hl.ok _ (List.getElem_mem hk)
  have hck := hcl k hk
  rw [← hz] at hck
  have HQ : Hid (∀ v acc W', ens acc = (ens l).take k ++ ((chE z y).e :: (ens l).drop (k + 1)) → Cq w W' v acc → Q (.returned (.tuple #[v, .int .i64 0])) W') := by rw [hz]; exact hQ
  clear hQ
  have HT : Hid (∀ W, Below w.heap.size w W → _) := fun W hb => there_any x (some ⟨p, off, none⟩) cap l y W (hx.below hb) (hl.below hb) (hy.below hb) hn
  rw [hc] at HT
  have HLK : Hid (∀ W, Below w.heap.size w W → W.cell? ⟨p, off + k * 4, none⟩ = some (.slice z.ma z.e.ms.length z.mc) ∧ W.cell? ⟨p, off + k * 4 + 1, none⟩ = some (.int .i64 z.e.prio) ∧ W.cell? ⟨p, off + k * 4 + 2, none⟩ = some (.string z.e.act) ∧ W.cell? ⟨p, off + k * 4 + 3, none⟩ = some (.slice z.aa z.e.args.length z.ac)) := fun W hb => by
    obtain ⟨h0, h1, h2, h3⟩ := hck
    exact ⟨(hb.cell (p := ⟨p, _, none⟩) hp).trans h0, (hb.cell (p := ⟨p, _, none⟩) hp).trans h1, (hb.cell (p := ⟨p, _, none⟩) hp).trans h2, (hb.cell (p := ⟨p, _, none⟩) hp).trans h3⟩
  have HCP : Hid (∀ (W : World) (q c c1 c2 n1 n2 : Nat) (a2 : Option Addr), Below w.heap.size w W → (a2 = some ⟨p, off + (k + 1) * 4, none⟩ ∨ l.drop (k + 1) = []) → n1 = (l.take k).length → n2 = (l.drop (k + 1)).length → W.heap[c]? = some (.cells #[.slice z.ma z.e.ms.length z.mc, .int .i64 z.e.prio, .string y.e.act, .slice y.aa y.e.args.length y.ac] 30 (0, 0)) → W.heap[q]? = some (.cells #[.slice (some ⟨p, off, none⟩) n1 c1, .slice (some ⟨c, 0, none⟩) 1 1, .slice a2 n2 c2] 26 (0, 0)) → Calls Tryz.prog 31 #[.slice (some ⟨q, 0, none⟩) 3 3] W fun e w' => ∃ v acc, e = .returned v ∧ ens acc = (ens l).take k ++ ((chE z y).e :: (ens l).drop (k + 1)) ∧ Cq w w' v acc) := fun W q c c1 c2 n1 n2 a2 hb ha e1 e2 hc0 hq => by
    have h2 : RdE W a2 (l.drop (k + 1)) := by
      rcases ha with rfl | h
      · exact rdE_tail (hl.below hb) (k + 1)
      · rw [h]; exact rdE_none _
    refine (copiedQ_any q 3 _ W (three_pieces (y := chE z y) (rdE_head (hl.below hb) k) (chE_r (hzr.below hb) (hy.below hb)) hc0 h2 e1 e2 hq) (by simp) (by simp [allE, ens_len]; omega)).mono ?_
    rintro e w' ⟨v, acc, rfl, hacc, hcp⟩
    refine ⟨v, acc, rfl, ?_, hcp.from hb⟩
    rw [hacc]
    simp [allE, ens, List.map_take, List.map_drop]
  have hkI : ((k : Int) < (l.length : Int)) := by omega
  have w1 : IntKind.i64.wrap ((k : Int) + 1) = (k : Int) + 1 := by rw [IntKind.wrap_i64]; omega
  have HK1 := hide (show (l.take k).length = k by simp; omega)
  have HK2 := hide (show (l.drop (k + 1)).length = l.length - (k + 1) by simp)
  have HD : Hid (l.length ≤ k + 1 → l.drop (k + 1) = []) := fun h => List.drop_eq_nil_of_le h
  have HKL := hide hk
  have HCA := hide hcap
  clear hx hl hy hn hc hcl hz hp hzr hck
  generalize (chE z y).e = CE at *
  obtain ⟨⟨ks, ws, size⟩, ka, kc, wa, wc⟩ := x
  obtain ⟨⟨ms, prio, act, args⟩, ma, mc, aa, ac⟩ := y
  obtain ⟨⟨zms, zprio, zact, zargs⟩, zma, zmc, zaa, zac⟩ := z
  simp only [TbL.val, EnL.val] at *
  generalize l.length = n at *
  generalize ks.length = n1 at *
  generalize ws.length = n2 at *
  generalize ms.length = n3 at *
  generalize args.length = n4 at *
  generalize zms.length = n5 at *
  generalize zargs.length = n6 at *
  have l1 : ((k : Int) ≤ (cap : Int)) = True := by simp; omega
  have l2 : ((k : Int) + 1 ≤ (n : Int)) = True := by simp; omega
  have l3 : ((k : Int) < 0) = False := by simp
  have l4 : ((k : Int) + 1 < 0) = False := by simp; omega
  go_enter Tryz.func9, Tryz.ntmps9
  go_wp2_with fail
  refine (HT.out _ (below2 _ _ _)).mono ?_
  rintro e w1 ⟨rfl, hb⟩
  have B1 := hide (bstep (below2 _ _ _) hb)
  have E1 := hide (heap_below hb (heap_snd w _ _ _))
  obtain ⟨c0, c1, c2, c3⟩ := HLK.out _ B1.out
  have E2 := hide (heap_past (.cells #[.slice zma n5 zmc, .int .i64 zprio, .string zact, .slice zaa n6 zac] 30) E1.out)
  obtain ⟨b0, b1, b2, b3, -⟩ := at4 E2.out
  obtain ⟨-, -, d2, d3, -⟩ := at4 (heap_past (.cells #[.slice zma n5 zmc, .int .i64 zprio, .string act, .slice zaa n6 zac] 30) E1.out)
  obtain ⟨-, -, f2, f3, -⟩ := at4 (heap_past (.cells #[.slice zma n5 zmc, .int .i64 zprio, .string zact, .slice aa n4 ac] 30) E1.out)
  clear hb hcap hk
  go_wp2
  go_region
  all_goals
    clear c0 c1 c2 c3 b0 b1 b2 b3 d2 d3 f2 f3
    go_wp2
    by_cases hcc : cap = k + 1
    · have g1 : (cap = k + 1) = True := by simp [hcc]
      have g2 := HCA.out
      have g3 := HKL.out
      go_region_with (go_at_call 31; refine (HCP.out _ _ _ _ _ _ _ _ ((bstep B1.out (below3 w1 (.cells #[.slice zma n5 zmc, .int .i64 zprio, .string act, .slice aa n4 ac] 30) (.cells #[.slice zma n5 zmc, .int .i64 zprio, .string act, .slice aa n4 ac] 30) _)).drew).drew (by first | exact .inl rfl | exact .inr (HD.out (by have := HCA.out; omega))) HK1.out.symm (by rw [HK2.out]; try omega) (heap_past _ (heap_snd w1 _ _ _)) (heap_trd w1 _ _ _ _)).mono ?_; rintro e w5 ⟨v, acc, rfl, hacc, hcp⟩; have HAC := hide hacc; have HC5 := hide hcp; clear hacc hcp)
      all_goals
        go_wp2
        refine bodyPost_ret (v := .tuple #[v, .int .i64 0]) (by simp [results, Tryz.results9, go_sem, Act.put]) rfl ?_
        exact HQ.out _ _ _ HAC.out HC5.out
    · have g1 : (cap = k + 1) = False := by simp [hcc]
      go_region_with (go_at_call 31; refine (HCP.out _ _ _ _ _ _ _ _ ((bstep B1.out (below3 w1 (.cells #[.slice zma n5 zmc, .int .i64 zprio, .string act, .slice aa n4 ac] 30) (.cells #[.slice zma n5 zmc, .int .i64 zprio, .string act, .slice aa n4 ac] 30) _)).drew).drew (by first | exact .inl rfl | exact .inr (HD.out (by have := HCA.out; omega))) HK1.out.symm (by rw [HK2.out]; try omega) (heap_past _ (heap_snd w1 _ _ _)) (heap_trd w1 _ _ _ _)).mono ?_; rintro e w5 ⟨v, acc, rfl, hacc, hcp⟩; have HAC := hide hacc; have HC5 := hide hcp; clear hacc hcp)
      all_goals
        go_wp2
        refine bodyPost_ret (v := .tuple #[v, .int .i64 0]) (by simp [results, Tryz.results9, go_sem, Act.put]) rfl ?_
        exact HQ.out _ _ _ HAC.out HC5.out
theorem modifyQ_any (x : TbL) (a : Option Addr) (cap : Nat) (l : List EnL) (y : EnL) (w : World) (hx : TbR w x) (hl : RdE w a l) (hy : EnR w y) (hn : l.length ≤ 900000) (hcap : l.length ≤ cap) :
    Calls Tryz.prog 9 #[x.val, .slice a l.length cap, y.val] w fun e w' => ∃ v acc, e = .returned (.tuple #[v, .int .i64 (thI x.t (ens l) y.e).2]) ∧ ens acc = modL x.t (ens l) y.e ∧ Cq w w' v acc := by
  unfold modL
  by_cases h : (thI x.t (ens l) y.e).2 = 0
  · rw [if_pos h]
    obtain ⟨k, h1, h2, h3, -⟩ := thI_yes h
    rw [h2, Int.toNat_natCast]
    have hk : k < l.length := by rw [ens_len] at h1; exact h1
    refine (modifyQ_yes x a cap l y w hx hl hy hn hcap k hk h3).mono ?_
    rintro e w' ⟨v, acc, rfl, h4, h5⟩
    refine ⟨v, acc, by rw [h], h4.trans ?_, h5⟩
    have e2 : (ens l).getD k y.e = l[k].e := by
      rw [List.getD_eq_getElem?_getD, List.getElem?_eq_getElem h1, Option.getD_some]
      simp [ens]
    rw [e2]; rfl
  · rw [if_neg h]
    refine (modify_no x a cap l y w hx hl hy hn _ rfl h).mono ?_
    rintro e w' ⟨rfl, h2⟩
    exact ⟨_, [], rfl, rfl, Cq.none h2⟩
theorem deleteQ_any (x : TbL) (a : Option Addr) (cap : Nat) (l : List EnL) (y : EnL) (w : World) (hx : TbR w x) (hl : RdE w a l) (hy : EnR w y) (hn : l.length ≤ 900000) (hcap : l.length ≤ cap) :
    Calls Tryz.prog 10 #[x.val, .slice a l.length cap, y.val] w fun e w' => ∃ v acc, e = .returned (.tuple #[v, .int .i64 (thI x.t (ens l) y.e).2]) ∧ ens acc = delL x.t (ens l) y.e ∧ Cq w w' v acc := by
  unfold delL
  by_cases h : (thI x.t (ens l) y.e).2 = 0
  · rw [if_pos h]
    obtain ⟨k, h1, h2, h3, -⟩ := thI_yes h
    rw [h2, Int.toNat_natCast]
    have hk : k < l.length := by rw [ens_len] at h1; exact h1
    refine (deleteQ_yes x a cap l y w hx hl hy hn hcap k hk h3).mono ?_
    rintro e w' ⟨v, acc, rfl, h4, h5⟩
    exact ⟨v, acc, by rw [h], h4, h5⟩
  · rw [if_neg h]
    refine (delete_no x a cap l y w hx hl hy hn _ rfl h).mono ?_
    rintro e w' ⟨rfl, h2⟩
    exact ⟨_, [], rfl, rfl, Cq.none h2⟩
end Go.Proofs.YteflnicgohjiiaaGreatDoor
