/- Pieces of the proof: MdW. -/
import Derived.Test.YteflnicgohjiiaaGreatDoorM39
import Derived.Test.YteflnicgohjiiaaGreatDoorM46
/- MatchChanges, walked. -/
namespace Go.Proofs.YteflnicgohjiiaaGreatDoor
open Go.RowKit

set_option maxRecDepth 100000 in
set_option maxHeartbeats 1000000 in
theorem changes_great (x : TbL) (la : Option Addr) (lc : Nat) (l : List EnL) (y : EnL) (w : World) (h : CaO w x la lc l y) (hbig : 30000 < caSz x l y) : Calls Tryz.prog 3 #[.agg (caCells x la lc l y)] w fun e w' => e = .returned (.bool true) ∧ Below w.heap.size w w' := by
  have HLV : Hid (Pure _ _ _) := lives_any
  have HBY : Hid (∀ W, Below w.heap.size w W → _) := fun W hb => beyond_any x la lc l y W ⟨h.t.below hb, h.es.below hb, h.ln, h.lz, h.e.below hb⟩
  have ed : decide (30000 < caSz x l y) = true := by simp [hbig]
  rw [ed] at HBY
  clear ed hbig h
  obtain ⟨⟨ks, ws, size⟩, ka, kc, wa, wc⟩ := x
  obtain ⟨⟨ms, prio, act, args⟩, ma, mc, aa, ac⟩ := y
  simp only [caCells] at *
  go_enter Tryz.func3, Tryz.ntmps3
  go_wp2_with fail
  refine (HBY.out _ (below1 _ _)).mono ?_
  rintro e w1 ⟨rfl, hb⟩
  go_wp2_with fail
  refine (HLV.out _).mono ?_
  rintro e w2 ⟨rfl, hb2⟩
  go_wp2
  go_ret
  exact ⟨rfl, bstep (bstep (below1 _ _) hb) hb2⟩
set_option maxRecDepth 100000 in
set_option maxHeartbeats 16000000 in
theorem changes_small (x : TbL) (la : Option Addr) (lc : Nat) (l : List EnL) (y : EnL) (w : World) (h : CaO w x la lc l y) (hcap : l.length ≤ lc) (hLp : Lp w) (hsz : caSz x l y ≤ 30000) : Calls Tryz.prog 3 #[.agg (caCells x la lc l y)] w fun e w' => e = .returned (.bool true) ∧ Below w.heap.size w w' := by
  have HLV : Hid (Pure _ _ _) := lives_any
  have HBY : Hid (∀ W, Below w.heap.size w W → _) := fun W hb => beyond_any x la lc l y W ⟨h.t.below hb, h.es.below hb, h.ln, h.lz, h.e.below hb⟩
  have ed : decide (30000 < caSz x l y) = false := by simp; omega
  rw [ed] at HBY
  unfold caSz at hsz
  have hE : EnR w y := h.e.small (by omega)
  have hL : RdE w la l := h.es.small (fun z hz => by
    have := szF_mem (ens l) (ens l).length (by unfold esz at hsz; omega) z.e (List.mem_map.2 ⟨z, hz, rfl⟩)
    unfold esz at hsz; omega)
  have hln : l.length ≤ 30000 := by
    have := szF_le (ens l) (ens l).length
    rw [ens_len] at this
    unfold esz at hsz
    rw [ens_len] at hsz
    omega
  have HE := hide hE
  have HL := hide hL
  have HN := hide hln
  have HTB := hide h.t
  have HBK : Hid (BookOk KM lvM w w.heap.size) := bookM hLp
  have HTS : Hid (∀ W, Below w.heap.size w W → _) := fun W hb => twinEs_any la lc l W (hL.below hb) (by omega)
  have HTE : Hid (∀ W, Below w.heap.size w W → _) := fun W hb => twinEnQ_any y W (hE.below hb)
  have HOF : Hid (Pure _ _ _) := of13_any x
  have HRI : Hid (∀ W, Below w.heap.size w W → Calls Tryz.prog 11 #[x.val, .slice la l.length lc, y.val] W fun e w' => ∃ a' cap' acc, e = .returned (.tuple #[.slice a' ((if insI x.t (ens l) y.e = 0 then ens l ++ [y.e] else [])).length cap', .int .i64 (insI x.t (ens l) y.e)]) ∧ (ens acc = (if insI x.t (ens l) y.e = 0 then ens l ++ [y.e] else []) ∧ acc.length = ((if insI x.t (ens l) y.e = 0 then ens l ++ [y.e] else [])).length ∧ RdE w' a' acc) ∧ Below W.heap.size W w') := fun W hb => by
    refine (refInsert13_any x la lc l y W (h.t.below hb) (hL.below hb) h.lz (hE.below hb) (by omega)).mono ?_
    rintro e w' ⟨a', c', acc, rfl, h1, h2, h3⟩
    have e3 : acc.length = ((if insI x.t (ens l) y.e = 0 then ens l ++ [y.e] else [])).length := by rw [← h1, ens_len]
    refine ⟨a', c', acc, by rw [← e3], ⟨h1, e3, h2⟩, h3⟩
  have HRM : Hid (∀ W, Below w.heap.size w W → Calls Tryz.prog 13 #[x.val, .slice la l.length lc, y.val] W fun e w' => ∃ a' cap' acc, e = .returned (.tuple #[.slice a' (modL x.t (ens l) y.e).length cap', .int .i64 ((thI x.t (ens l) y.e).2)]) ∧ (ens acc = modL x.t (ens l) y.e ∧ acc.length = (modL x.t (ens l) y.e).length ∧ RdE w' a' acc) ∧ Below W.heap.size W w') := fun W hb => by
    refine (refModify13_any x la lc l y W (h.t.below hb) (hL.below hb) (hE.below hb) (by omega)).mono ?_
    rintro e w' ⟨a', c', acc, rfl, h1, h2, h3⟩
    have e3 : acc.length = (modL x.t (ens l) y.e).length := by rw [← h1, ens_len]
    refine ⟨a', c', acc, by rw [← e3], ⟨h1, e3, h2⟩, h3⟩
  have HRD : Hid (∀ W, Below w.heap.size w W → Calls Tryz.prog 14 #[x.val, .slice la l.length lc, y.val] W fun e w' => ∃ a' cap' acc, e = .returned (.tuple #[.slice a' (delL x.t (ens l) y.e).length cap', .int .i64 ((thI x.t (ens l) y.e).2)]) ∧ (ens acc = delL x.t (ens l) y.e ∧ acc.length = (delL x.t (ens l) y.e).length ∧ RdE w' a' acc) ∧ Below W.heap.size W w') := fun W hb => by
    refine (refDelete13_any x la lc l y W (h.t.below hb) (hL.below hb) (hE.below hb) (by omega) hcap).mono ?_
    rintro e w' ⟨a', c', acc, rfl, h1, h2, h3⟩
    have e3 : acc.length = (delL x.t (ens l) y.e).length := by rw [← h1, ens_len]
    refine ⟨a', c', acc, by rw [← e3], ⟨h1, e3, h2⟩, h3⟩
  have HPI : Hid (∀ W (zs : List EnL) (z : EnL) a c, Below w.heap.size w W → RdE W a zs → EnR W z → ens zs = ens l → z.e = y.e → zs.length ≤ c → Calls Tryz.prog 8 #[x.val, .slice a zs.length c, z.val] W fun e w' => ∃ a' c' acc, e = .returned (.tuple #[.slice a' ((if insI x.t (ens l) y.e = 0 then ens l ++ [y.e] else [])).length c', .int .i64 (insI x.t (ens l) y.e)]) ∧ ens acc = (if insI x.t (ens l) y.e = 0 then ens l ++ [y.e] else []) ∧ acc.length = ((if insI x.t (ens l) y.e = 0 then ens l ++ [y.e] else [])).length ∧ RdE w' a' acc ∧ Cq W w' (.slice a' ((if insI x.t (ens l) y.e = 0 then ens l ++ [y.e] else [])).length c') acc) := fun W zs z a c hb hr hz e1 e2 hc => by
    have hl : zs.length = l.length := by rw [← ens_len, e1, ens_len]
    refine (insertQ_any x a c zs z W (h.t.below hb) hr hz (by omega)).mono ?_
    rintro e w' ⟨v, acc, rfl, h1, h2⟩
    obtain ⟨a', c', rfl, h3, -, -, -⟩ := h2.cp.rd
    rw [e1, e2] at h1 ⊢
    have e3 : acc.length = ((if insI x.t (ens l) y.e = 0 then ens l ++ [y.e] else [])).length := by rw [← h1, ens_len]
    rw [← e3]
    exact ⟨a', c', acc, rfl, h1, rfl, h3, h2⟩
  have HPM : Hid (∀ W (zs : List EnL) (z : EnL) a c, Below w.heap.size w W → RdE W a zs → EnR W z → ens zs = ens l → z.e = y.e → zs.length ≤ c → Calls Tryz.prog 9 #[x.val, .slice a zs.length c, z.val] W fun e w' => ∃ a' c' acc, e = .returned (.tuple #[.slice a' (modL x.t (ens l) y.e).length c', .int .i64 (thI x.t (ens l) y.e).2]) ∧ ens acc = modL x.t (ens l) y.e ∧ acc.length = (modL x.t (ens l) y.e).length ∧ RdE w' a' acc ∧ Cq W w' (.slice a' (modL x.t (ens l) y.e).length c') acc) := fun W zs z a c hb hr hz e1 e2 hc => by
    have hl : zs.length = l.length := by rw [← ens_len, e1, ens_len]
    refine (modifyQ_any x a c zs z W (h.t.below hb) hr hz (by omega) hc).mono ?_
    rintro e w' ⟨v, acc, rfl, h1, h2⟩
    obtain ⟨a', c', rfl, h3, -, -, -⟩ := h2.cp.rd
    rw [e1, e2] at h1 ⊢
    have e3 : acc.length = (modL x.t (ens l) y.e).length := by rw [← h1, ens_len]
    rw [← e3]
    exact ⟨a', c', acc, rfl, h1, rfl, h3, h2⟩
  have HPD : Hid (∀ W (zs : List EnL) (z : EnL) a c, Below w.heap.size w W → RdE W a zs → EnR W z → ens zs = ens l → z.e = y.e → zs.length ≤ c → Calls Tryz.prog 10 #[x.val, .slice a zs.length c, z.val] W fun e w' => ∃ a' c' acc, e = .returned (.tuple #[.slice a' (delL x.t (ens l) y.e).length c', .int .i64 (thI x.t (ens l) y.e).2]) ∧ ens acc = delL x.t (ens l) y.e ∧ acc.length = (delL x.t (ens l) y.e).length ∧ RdE w' a' acc ∧ Cq W w' (.slice a' (delL x.t (ens l) y.e).length c') acc) := fun W zs z a c hb hr hz e1 e2 hc => by
    have hl : zs.length = l.length := by rw [← ens_len, e1, ens_len]
    refine (deleteQ_any x a c zs z W (h.t.below hb) hr hz (by omega) hc).mono ?_
    rintro e w' ⟨v, acc, rfl, h1, h2⟩
    obtain ⟨a', c', rfl, h3, -, -, -⟩ := h2.cp.rd
    rw [e1, e2] at h1 ⊢
    have e3 : acc.length = (delL x.t (ens l) y.e).length := by rw [← h1, ens_len]
    rw [← e3]
    exact ⟨a', c', acc, rfl, h1, rfl, h3, h2⟩
  have LI : Hid ((if insI x.t (ens l) y.e = 0 then ens l ++ [y.e] else []).length ≤ 30001) := by
    show _ ≤ _
    split
    · rw [List.length_append, ens_len]; simp; omega
    · simp
  have LM : Hid ((modL x.t (ens l) y.e).length ≤ 30001) := by
    show _ ≤ _
    unfold modL
    split
    · simp [ens_len]; omega
    · simp
  have LD : Hid ((delL x.t (ens l) y.e).length ≤ 30001) := by
    show _ ≤ _
    unfold delL
    split
    · simp [ens_len]; omega
    · simp
  have HLE : Hid (∀ W B (z : EnL), Below w.heap.size w W → TwQ W B y z → _) := fun W B z hb ht => leftEnQ_yes y z W (hE.below hb) ht
  have HLS : Hid (∀ W B g c (zs : List EnL), Below w.heap.size w W → zs.length = l.length → W.ownsRow B 30 4 (.slice (some ⟨g, 0, none⟩) (l.length + 1) c) (l.length + 1) (flat EnL.cells (zs ++ [spE])) → (∀ i (h : i < zs.length) (h' : i < l.length), TwQ W B l[i] zs[i]) → l.length + 1 ≤ c → c ≤ maxLen → _) := fun W B g c zs hb h1 h2 h3 h4 h5 => leftEs_yes B g c la lc l zs W (by omega) (hL.below hb) h1 h2 h3 h4 h5
  generalize insI x.t (ens l) y.e = ci at *
  generalize (thI x.t (ens l) y.e).2 = ct at *
  generalize (if ci = 0 then ens l ++ [y.e] else []) = ei at *
  generalize modL x.t (ens l) y.e = em at *
  generalize delL x.t (ens l) y.e = ed at *
  generalize hli : ei.length = li at *
  generalize hlm : em.length = lm at *
  generalize hld : ed.length = ld at *
  have HLI := hide hli
  have HLM := hide hlm
  have HLD := hide hld
  clear hli hlm hld
  clear hsz hE hL h hcap hln hLp
  have HYE : Hid (∃ e, e = y.e) := ⟨_, rfl⟩
  obtain ⟨ye, hye⟩ := HYE.out
  rw [← hye] at HPI HPM HPD
  have HTY : Hid (∀ W B z, TwQ W B y z → z.e = ye ∧ (EnR W y → EnR W z) ∧ (EnR W y → EnW W B z)) := fun W B z ht => ⟨by rw [hye]; exact ht.e, ht.en, ht.w⟩
  clear hye HYE
  have HTQ : Hid (∀ W W' B z, TwQ W B y z → Below W.heap.size W W' → TwQ W' B y z) := fun W W' B z ht hb => ht.below hb
  generalize hTQ : (fun W B z => TwQ W B y z) = TQ at *
  have eTQ : ∀ W B z, TwQ W B y z = TQ W B z := fun W B z => by rw [← hTQ]
  simp only [eTQ] at HTE HLE HTY HTQ
  clear hTQ eTQ
  have HER : Hid (∀ W, Below w.heap.size w W → EnR W y) := fun W hb => HE.out.below hb
  generalize hER : (fun W => EnR W y) = ER at *
  have eER : ∀ W, EnR W y = ER W := fun W => by rw [← hER]
  simp only [eER] at HTY HER
  clear hER eER HE HTB
  obtain ⟨⟨ks, ws, size⟩, ka, kc, wa, wc⟩ := x
  obtain ⟨⟨ms, prio, act, args⟩, ma, mc, aa, ac⟩ := y
  simp only [caCells, TbL.val, EnL.val] at *
  generalize ks.length = n1 at *
  generalize ws.length = n2 at *
  generalize ms.length = n3 at *
  generalize args.length = n4 at *
  go_enter Tryz.func3, Tryz.ntmps3
  go_wp2_with fail
  refine (HBY.out _ (below1 _ _)).mono ?_
  rintro e w1 ⟨rfl, hb⟩
  have BB := hide (bstep (below1 _ _) hb)
  have K8 := hide (heap_below hb (heap_alloc_new w _))
  have hW1S := hide BB.out.size
  clear hb HBY ed
  obtain ⟨b0, b1, b2, b3, b4, b5, b6, b7⟩ := at8 K8.out
  go_wp2_with fail
  refine (HTS.out _ BB.out).mono ?_
  rintro e w2 ⟨g, c, zs, rfl, hz1, hz2, hz3, hz4, hz5⟩
  have ZL := hide hz1
  have ZO := hide hz2
  have ZT := hide hz3
  have ZC := hide (And.intro hz4 hz5)
  have B12 := hide hz3.bl
  replace BB := hide (bstep BB.out hz3.bl)
  replace K8 := hide (heap_below hz3.bl K8.out)
  have RZ := hide (hz3.rd (fun y hy => (HL.out.below BB.out).ok y hy))
  have EZ := hide (hz3.ens hz1)
  have G1 := hide (hz3.grp (fun y hy => (HL.out.below BB.out).ok y hy) (by have := HN.out; omega))
  have RZ := hide (hz3.rd (fun y hy => (HL.out.below BB.out).ok y hy))
  have EZ := hide (hz3.ens hz1)
  have G1 := hide (hz3.grp (fun y hy => (HL.out.below BB.out).ok y hy) (by have := HN.out; omega))
  have RZ := hide (hz3.rd (fun y hy => (HL.out.below BB.out).ok y hy))
  have EZ := hide (hz3.ens hz1)
  have G1 := hide (hz3.grp (fun y hy => (HL.out.below BB.out).ok y hy) (by have := HN.out; omega))
  have RZ := hide (hz3.rd (fun y hy => (HL.out.below BB.out).ok y hy))
  have EZ := hide (hz3.ens hz1)
  have G1 := hide (hz3.grp (fun y hy => (HL.out.below BB.out).ok y hy) (by have := HN.out; omega))
  have RZ := hide (hz3.rd (fun y hy => (HL.out.below BB.out).ok y hy))
  have EZ := hide (hz3.ens hz1)
  have G1 := hide (hz3.grp (fun y hy => (HL.out.below BB.out).ok y hy) (by have := HN.out; omega))
  clear hz1 hz2 hz3 hz4 hz5 b0 b1 b2 b3 b4 b5 b6 b7 HTS
  obtain ⟨b0, b1, b2, b3, b4, b5, b6, b7⟩ := at8 K8.out
  go_wp2_with fail
  refine (HTE.out _ BB.out).mono ?_
  rintro e w3 ⟨z, rfl, hz, hb⟩
  have ZQ := hide hz
  have ZB := hide hb
  replace BB := hide (bstep BB.out hb)
  replace K8 := hide (heap_below hb K8.out)
  clear hz hb b0 b1 b2 b3 b4 b5 b6 b7 HTE
  have ZE := hide (HTY.out _ _ _ ZQ.out)
  have ER3 := hide (HER.out _ BB.out)
  have EN3 := hide (ZE.out.2.1 ER3.out)
  have GA := hide ((G1.out.below ZB.out).then (grp_e (ZE.out.2.2 ER3.out)) B12.out.size (Nat.le_refl _) ZB.out.size)
  have PI : Hid (∀ W, Below w3.heap.size w3 W → _) := fun W hb => HPI.out W zs z (some ⟨g, 0, none⟩) c (bstep BB.out hb) ((RZ.out.below ZB.out).below hb) (EN3.out.below hb) EZ.out ZE.out.1 (by have := ZC.out.1; have := ZL.out; omega)
  have PM : Hid (∀ W, Below w3.heap.size w3 W → _) := fun W hb => HPM.out W zs z (some ⟨g, 0, none⟩) c (bstep BB.out hb) ((RZ.out.below ZB.out).below hb) (EN3.out.below hb) EZ.out ZE.out.1 (by have := ZC.out.1; have := ZL.out; omega)
  have PD : Hid (∀ W, Below w3.heap.size w3 W → _) := fun W hb => HPD.out W zs z (some ⟨g, 0, none⟩) c (bstep BB.out hb) ((RZ.out.below ZB.out).below hb) (EN3.out.below hb) EZ.out ZE.out.1 (by have := ZC.out.1; have := ZL.out; omega)
  rw [ZL.out] at PI PM PD
  have ZS := hide (And.intro B12.out.size ZB.out.size)
  clear HPI HPM HPD ER3 G1 HTY
  obtain ⟨⟨zms, zprio, zact, zargs⟩, zma, zmc, zaa, zac⟩ := z
  simp only at *
  obtain ⟨b0, b1, b2, b3, b4, b5, b6, b7⟩ := at8 (heap_past (.cells #[.slice zma zms.length zmc, .int .i64 zprio, .string zact, .slice zaa zargs.length zac] 30) K8.out)
  go_wp2_with fail
  refine (PI.out _ (below1 _ _)).mono ?_
  rintro e w4 ⟨a4, c4, acc4, rfl, he, hel, hr, hq⟩
  have hb := hq.cp.bl
  have A4 := hide (And.intro he hr)
  have N4 := hide hel
  have Q4 := hide (hq.grp (by have := LI.out; omega))
  clear hel
  have KE := hide (heap_below hb (heap_alloc_new w3 (.cells #[.slice zma zms.length zmc, .int .i64 zprio, .string zact, .slice zaa zargs.length zac] 30)))
  replace K8 := hide (heap_below hb (heap_past (.cells #[.slice zma zms.length zmc, .int .i64 zprio, .string zact, .slice zaa zargs.length zac] 30) K8.out))
  have U4 := hide (bstep (below1 w3 (.cells #[.slice zma zms.length zmc, .int .i64 zprio, .string zact, .slice zaa zargs.length zac] 30)) hb)
  have S34 := hide (show w3.heap.size ≤ (w3.alloc (.cells #[.slice zma zms.length zmc, .int .i64 zprio, .string zact, .slice zaa zargs.length zac] 30)).heap.size by simp)
  have S4 := hide hb.size
  have GB4 := hide ((GA.out.below U4.out).then Q4.out (by have := ZS.out; have := S34.out; omega) S34.out U4.out.size)
  clear hb he hr hq b0 b1 b2 b3 b4 b5 b6 b7 PI
  obtain ⟨b0, b1, b2, b3, b4, b5, b6, b7⟩ := at8 K8.out
  obtain ⟨d0, d1, d2, d3, -⟩ := at4 KE.out
  go_wp2_with fail
  refine (PM.out _ U4.out).mono ?_
  rintro e w5 ⟨a5, c5, acc5, rfl, he, hel, hr, hq⟩
  have hb := hq.cp.bl
  have A5 := hide (And.intro he hr)
  have N5 := hide hel
  have Q5 := hide (hq.grp (by have := LM.out; omega))
  clear hel
  replace K8 := hide (heap_below hb K8.out)
  replace KE := hide (heap_below hb KE.out)
  have U5 := hide (bstep U4.out hb)
  have S5 := hide hb.size
  have V5 := hide hb
  have GB5 := hide ((GB4.out.below hb).then Q5.out (by have := ZS.out; have := U4.out.size; omega) (Nat.le_refl _) hb.size)
  clear hb he hr hq b0 b1 b2 b3 b4 b5 b6 b7 d0 d1 d2 d3 PM
  obtain ⟨b0, b1, b2, b3, b4, b5, b6, b7⟩ := at8 K8.out
  obtain ⟨d0, d1, d2, d3, -⟩ := at4 KE.out
  go_wp2_with fail
  refine (PD.out _ U5.out).mono ?_
  rintro e w6 ⟨a6, c6, acc6, rfl, he, hel, hr, hq⟩
  have hb := hq.cp.bl
  have A6 := hide (And.intro he hr)
  have N6 := hide hel
  have Q6 := hide (hq.grp (by have := LD.out; omega))
  clear hel
  replace K8 := hide (heap_below hb K8.out)
  replace KE := hide (heap_below hb KE.out)
  have U6 := hide (bstep U5.out hb)
  have S6 := hide hb.size
  have V6 := hide hb
  have GB6 := hide ((GB5.out.below hb).then Q6.out (by have := ZS.out; have := U5.out.size; omega) (Nat.le_refl _) hb.size)
  clear hb he hr hq b0 b1 b2 b3 b4 b5 b6 b7 d0 d1 d2 d3 PD
  obtain ⟨b0, b1, b2, b3, b4, b5, b6, b7⟩ := at8 K8.out
  obtain ⟨d0, d1, d2, d3, -⟩ := at4 KE.out
  replace BB := hide (bstep BB.out U6.out)
  have T3 := hide (ZT.out.below ZB.out)
  have R4 := hide ((A4.out.2.below V5.out).below V6.out)
  have R5 := hide (A5.out.2.below V6.out)
  clear Q4 Q5 Q6 GA GB4 GB5 b0 b1 b2 b3 b4 b5 b6 b7 d0 d1 d2 d3
  go_wp2
  have hS0 : Below w6.heap.size w6 w6.drew := (Below.refl _ _).drew
  refine wp_region_noPanic ?_
  refine wp_region_held_drew (S := fun w' => Below w6.heap.size w6 w') (by kernel_rfl) hS0 (fun hHeld => ?_)
  clear hS0
  generalize w6.drew = wd8 at *
  refine wpAnyH_take (i := 0) (v := ?_) rfl (by kernel_rfl) (by kernel_rfl) (by kernel_rfl) (fun _ _ _ h => h) (Or.inl ⟨by rfl, ?_⟩) hHeld ?_
  rotate_left
  · (intro w hSw; clear hSw; go_simp; try (with_reducible rfl))
  refine wpAnyH_take (i := 1) (v := ?_) rfl (by kernel_rfl) (by kernel_rfl) (by kernel_rfl) (fun _ _ _ h => h) (Or.inl ⟨by rfl, ?_⟩) hHeld ?_
  rotate_left
  · (intro w hSw; obtain ⟨b0, b1, b2, b3, b4, b5, b6, b7⟩ := at8 (heap_below hSw K8.out); clear hSw; go_simp; try (with_reducible rfl))
  refine wpAnyH_take (i := 3) (v := ?_) rfl (by kernel_rfl) (by kernel_rfl) (by kernel_rfl) (fun _ _ _ h => h) (Or.inl ⟨by rfl, ?_⟩) hHeld ?_
  rotate_left
  · (intro w hSw; clear hSw; go_simp; try (with_reducible rfl))
  refine wpAnyH_take (i := 4) (v := ?_) rfl (by kernel_rfl) (by kernel_rfl) (by kernel_rfl) (fun _ _ _ h => h) (Or.inl ⟨by rfl, ?_⟩) hHeld ?_
  rotate_left
  · (intro w hSw; obtain ⟨b0, b1, b2, b3, b4, b5, b6, b7⟩ := at8 (heap_below hSw K8.out); clear hSw; go_simp; try (with_reducible rfl))
  refine wpAnyH_take (i := 5) (v := ?_) rfl (by kernel_rfl) (by kernel_rfl) (by kernel_rfl) (fun _ _ _ h => h) (Or.inl ⟨by rfl, ?_⟩) hHeld ?_
  rotate_left
  · (intro w hSw; clear hSw; go_simp; try (with_reducible rfl))
  refine wpAnyH_take (i := 6) (v := ?_) rfl (by kernel_rfl) (by kernel_rfl) (by kernel_rfl) (fun _ _ _ h => h) (Or.inl ⟨by rfl, ?_⟩) hHeld ?_
  rotate_left
  · (intro w hSw; obtain ⟨b0, b1, b2, b3, b4, b5, b6, b7⟩ := at8 (heap_below hSw K8.out); clear hSw; go_simp; try (with_reducible rfl))
  refine wpAnyH_ready (rs := [2]) (by kernel_rfl) (by simp) ?_
  refine AllReadyH.cons rfl (fun K hK => ?_) AllReadyH.nil
  go_simp
  refine (HOF.out _).mono ?_
  rintro e yo8 ⟨rfl, hb⟩
  replace hHeld := bstep hHeld hb
  clear hb
  go_wp2_with fail
  refine hK.out _ _ hHeld (fun _ => ?_)
  clear hK K
  refine wpAnyH_ready (rs := [7]) (by kernel_rfl) (by simp) ?_
  refine AllReadyH.cons rfl (fun K hK => ?_) AllReadyH.nil
  go_simp
  refine (HRI.out _ (bstep BB.out hHeld)).mono ?_
  rintro e yr8 ⟨p8, q8, u8, rfl, hu, hb⟩
  have X8 := hide hu
  clear hu
  replace hHeld := bstep hHeld hb
  have BN := hide hHeld
  clear hb
  go_wp2_with fail
  refine hK.out _ _ hHeld (fun _ => ?_)
  clear hK K
  refine wpAnyH_take (i := 8) (v := ?_) rfl (by kernel_rfl) (by kernel_rfl) (by kernel_rfl) (fun _ _ _ h => h) (Or.inl ⟨by rfl, ?_⟩) hHeld ?_
  rotate_left
  · (intro w hSw; clear hSw; go_simp; try (with_reducible rfl))
  refine wpAnyH_take (i := 9) (v := ?_) rfl (by kernel_rfl) (by kernel_rfl) (by kernel_rfl) (fun _ _ _ h => h) (Or.inl ⟨by rfl, ?_⟩) hHeld ?_
  rotate_left
  · (intro w hSw; clear hSw; go_simp; try (with_reducible rfl))
  refine wpAnyH_take (i := 10) (v := ?_) rfl (by kernel_rfl) (by kernel_rfl) (by kernel_rfl) (fun _ _ _ h => h) (Or.inl ⟨by rfl, ?_⟩) hHeld ?_
  rotate_left
  · (intro w hSw; clear hSw; go_simp; try (with_reducible rfl))
  refine wpAnyH_take (i := 11) (v := ?_) rfl (by kernel_rfl) (by kernel_rfl) (by kernel_rfl) (fun _ _ _ h => h) (Or.inl ⟨by rfl, ?_⟩) hHeld ?_
  rotate_left
  · (intro w hSw; clear hSw; go_simp; try (with_reducible rfl))
  refine wpAnyH_take (i := 12) (v := ?_) rfl (by kernel_rfl) (by kernel_rfl) (by kernel_rfl) (fun _ _ _ h => h) (Or.inl ⟨by rfl, ?_⟩) hHeld ?_
  rotate_left
  · (intro w hSw; clear hSw; go_simp; try (with_reducible rfl))
  refine wpAnyH_done (by kernel_rfl) ?_ _
  refine NoPanic.normal ?_
  clear hHeld
  replace K8 := hide (heap_below BN.out K8.out)
  replace KE := hide (heap_below BN.out KE.out)
  replace BB := hide (bstep BB.out BN.out)
  have Y8 := hide BN.out
  clear BN
  go_wp2
  have hS0 : Below yr8.heap.size yr8 yr8.drew := (Below.refl _ _).drew
  refine wp_region_noPanic ?_
  refine wp_region_held_drew (S := fun w' => Below yr8.heap.size yr8 w') (by kernel_rfl) hS0 (fun hHeld => ?_)
  clear hS0
  generalize yr8.drew = wd9 at *
  refine wpAnyH_take (i := 0) (v := ?_) rfl (by kernel_rfl) (by kernel_rfl) (by kernel_rfl) (fun _ _ _ h => h) (Or.inl ⟨by rfl, ?_⟩) hHeld ?_
  rotate_left
  · (intro w hSw; clear hSw; go_simp; try (with_reducible rfl))
  refine wpAnyH_take (i := 1) (v := ?_) rfl (by kernel_rfl) (by kernel_rfl) (by kernel_rfl) (fun _ _ _ h => h) (Or.inl ⟨by rfl, ?_⟩) hHeld ?_
  rotate_left
  · (intro w hSw; obtain ⟨b0, b1, b2, b3, b4, b5, b6, b7⟩ := at8 (heap_below hSw K8.out); clear hSw; go_simp; try (with_reducible rfl))
  refine wpAnyH_take (i := 3) (v := ?_) rfl (by kernel_rfl) (by kernel_rfl) (by kernel_rfl) (fun _ _ _ h => h) (Or.inl ⟨by rfl, ?_⟩) hHeld ?_
  rotate_left
  · (intro w hSw; clear hSw; go_simp; try (with_reducible rfl))
  refine wpAnyH_take (i := 4) (v := ?_) rfl (by kernel_rfl) (by kernel_rfl) (by kernel_rfl) (fun _ _ _ h => h) (Or.inl ⟨by rfl, ?_⟩) hHeld ?_
  rotate_left
  · (intro w hSw; obtain ⟨b0, b1, b2, b3, b4, b5, b6, b7⟩ := at8 (heap_below hSw K8.out); clear hSw; go_simp; try (with_reducible rfl))
  refine wpAnyH_take (i := 5) (v := ?_) rfl (by kernel_rfl) (by kernel_rfl) (by kernel_rfl) (fun _ _ _ h => h) (Or.inl ⟨by rfl, ?_⟩) hHeld ?_
  rotate_left
  · (intro w hSw; clear hSw; go_simp; try (with_reducible rfl))
  refine wpAnyH_take (i := 6) (v := ?_) rfl (by kernel_rfl) (by kernel_rfl) (by kernel_rfl) (fun _ _ _ h => h) (Or.inl ⟨by rfl, ?_⟩) hHeld ?_
  rotate_left
  · (intro w hSw; obtain ⟨b0, b1, b2, b3, b4, b5, b6, b7⟩ := at8 (heap_below hSw K8.out); clear hSw; go_simp; try (with_reducible rfl))
  refine wpAnyH_ready (rs := [2]) (by kernel_rfl) (by simp) ?_
  refine AllReadyH.cons rfl (fun K hK => ?_) AllReadyH.nil
  go_simp
  refine (HOF.out _).mono ?_
  rintro e yo9 ⟨rfl, hb⟩
  replace hHeld := bstep hHeld hb
  clear hb
  go_wp2_with fail
  refine hK.out _ _ hHeld (fun _ => ?_)
  clear hK K
  refine wpAnyH_ready (rs := [7]) (by kernel_rfl) (by simp) ?_
  refine AllReadyH.cons rfl (fun K hK => ?_) AllReadyH.nil
  go_simp
  refine (HRM.out _ (bstep BB.out hHeld)).mono ?_
  rintro e yr9 ⟨p9, q9, u9, rfl, hu, hb⟩
  have X9 := hide hu
  clear hu
  replace hHeld := bstep hHeld hb
  have BN := hide hHeld
  clear hb
  go_wp2_with fail
  refine hK.out _ _ hHeld (fun _ => ?_)
  clear hK K
  refine wpAnyH_take (i := 8) (v := ?_) rfl (by kernel_rfl) (by kernel_rfl) (by kernel_rfl) (fun _ _ _ h => h) (Or.inl ⟨by rfl, ?_⟩) hHeld ?_
  rotate_left
  · (intro w hSw; clear hSw; go_simp; try (with_reducible rfl))
  refine wpAnyH_take (i := 9) (v := ?_) rfl (by kernel_rfl) (by kernel_rfl) (by kernel_rfl) (fun _ _ _ h => h) (Or.inl ⟨by rfl, ?_⟩) hHeld ?_
  rotate_left
  · (intro w hSw; clear hSw; go_simp; try (with_reducible rfl))
  refine wpAnyH_take (i := 10) (v := ?_) rfl (by kernel_rfl) (by kernel_rfl) (by kernel_rfl) (fun _ _ _ h => h) (Or.inl ⟨by rfl, ?_⟩) hHeld ?_
  rotate_left
  · (intro w hSw; clear hSw; go_simp; try (with_reducible rfl))
  refine wpAnyH_take (i := 11) (v := ?_) rfl (by kernel_rfl) (by kernel_rfl) (by kernel_rfl) (fun _ _ _ h => h) (Or.inl ⟨by rfl, ?_⟩) hHeld ?_
  rotate_left
  · (intro w hSw; clear hSw; go_simp; try (with_reducible rfl))
  refine wpAnyH_take (i := 12) (v := ?_) rfl (by kernel_rfl) (by kernel_rfl) (by kernel_rfl) (fun _ _ _ h => h) (Or.inl ⟨by rfl, ?_⟩) hHeld ?_
  rotate_left
  · (intro w hSw; clear hSw; go_simp; try (with_reducible rfl))
  refine wpAnyH_done (by kernel_rfl) ?_ _
  refine NoPanic.normal ?_
  clear hHeld
  replace K8 := hide (heap_below BN.out K8.out)
  replace KE := hide (heap_below BN.out KE.out)
  replace BB := hide (bstep BB.out BN.out)
  have Y9 := hide BN.out
  clear BN
  go_wp2
  have hS0 : Below yr9.heap.size yr9 yr9.drew := (Below.refl _ _).drew
  refine wp_region_noPanic ?_
  refine wp_region_held_drew (S := fun w' => Below yr9.heap.size yr9 w') (by kernel_rfl) hS0 (fun hHeld => ?_)
  clear hS0
  generalize yr9.drew = wd10 at *
  refine wpAnyH_take (i := 0) (v := ?_) rfl (by kernel_rfl) (by kernel_rfl) (by kernel_rfl) (fun _ _ _ h => h) (Or.inl ⟨by rfl, ?_⟩) hHeld ?_
  rotate_left
  · (intro w hSw; clear hSw; go_simp; try (with_reducible rfl))
  refine wpAnyH_take (i := 1) (v := ?_) rfl (by kernel_rfl) (by kernel_rfl) (by kernel_rfl) (fun _ _ _ h => h) (Or.inl ⟨by rfl, ?_⟩) hHeld ?_
  rotate_left
  · (intro w hSw; obtain ⟨b0, b1, b2, b3, b4, b5, b6, b7⟩ := at8 (heap_below hSw K8.out); clear hSw; go_simp; try (with_reducible rfl))
  refine wpAnyH_take (i := 3) (v := ?_) rfl (by kernel_rfl) (by kernel_rfl) (by kernel_rfl) (fun _ _ _ h => h) (Or.inl ⟨by rfl, ?_⟩) hHeld ?_
  rotate_left
  · (intro w hSw; clear hSw; go_simp; try (with_reducible rfl))
  refine wpAnyH_take (i := 4) (v := ?_) rfl (by kernel_rfl) (by kernel_rfl) (by kernel_rfl) (fun _ _ _ h => h) (Or.inl ⟨by rfl, ?_⟩) hHeld ?_
  rotate_left
  · (intro w hSw; obtain ⟨b0, b1, b2, b3, b4, b5, b6, b7⟩ := at8 (heap_below hSw K8.out); clear hSw; go_simp; try (with_reducible rfl))
  refine wpAnyH_take (i := 5) (v := ?_) rfl (by kernel_rfl) (by kernel_rfl) (by kernel_rfl) (fun _ _ _ h => h) (Or.inl ⟨by rfl, ?_⟩) hHeld ?_
  rotate_left
  · (intro w hSw; clear hSw; go_simp; try (with_reducible rfl))
  refine wpAnyH_take (i := 6) (v := ?_) rfl (by kernel_rfl) (by kernel_rfl) (by kernel_rfl) (fun _ _ _ h => h) (Or.inl ⟨by rfl, ?_⟩) hHeld ?_
  rotate_left
  · (intro w hSw; obtain ⟨b0, b1, b2, b3, b4, b5, b6, b7⟩ := at8 (heap_below hSw K8.out); clear hSw; go_simp; try (with_reducible rfl))
  refine wpAnyH_ready (rs := [2]) (by kernel_rfl) (by simp) ?_
  refine AllReadyH.cons rfl (fun K hK => ?_) AllReadyH.nil
  go_simp
  refine (HOF.out _).mono ?_
  rintro e yo10 ⟨rfl, hb⟩
  replace hHeld := bstep hHeld hb
  clear hb
  go_wp2_with fail
  refine hK.out _ _ hHeld (fun _ => ?_)
  clear hK K
  refine wpAnyH_ready (rs := [7]) (by kernel_rfl) (by simp) ?_
  refine AllReadyH.cons rfl (fun K hK => ?_) AllReadyH.nil
  go_simp
  refine (HRD.out _ (bstep BB.out hHeld)).mono ?_
  rintro e yr10 ⟨p10, q10, u10, rfl, hu, hb⟩
  have X10 := hide hu
  clear hu
  replace hHeld := bstep hHeld hb
  have BN := hide hHeld
  clear hb
  go_wp2_with fail
  refine hK.out _ _ hHeld (fun _ => ?_)
  clear hK K
  refine wpAnyH_take (i := 8) (v := ?_) rfl (by kernel_rfl) (by kernel_rfl) (by kernel_rfl) (fun _ _ _ h => h) (Or.inl ⟨by rfl, ?_⟩) hHeld ?_
  rotate_left
  · (intro w hSw; clear hSw; go_simp; try (with_reducible rfl))
  refine wpAnyH_take (i := 9) (v := ?_) rfl (by kernel_rfl) (by kernel_rfl) (by kernel_rfl) (fun _ _ _ h => h) (Or.inl ⟨by rfl, ?_⟩) hHeld ?_
  rotate_left
  · (intro w hSw; clear hSw; go_simp; try (with_reducible rfl))
  refine wpAnyH_take (i := 10) (v := ?_) rfl (by kernel_rfl) (by kernel_rfl) (by kernel_rfl) (fun _ _ _ h => h) (Or.inl ⟨by rfl, ?_⟩) hHeld ?_
  rotate_left
  · (intro w hSw; clear hSw; go_simp; try (with_reducible rfl))
  refine wpAnyH_take (i := 11) (v := ?_) rfl (by kernel_rfl) (by kernel_rfl) (by kernel_rfl) (fun _ _ _ h => h) (Or.inl ⟨by rfl, ?_⟩) hHeld ?_
  rotate_left
  · (intro w hSw; clear hSw; go_simp; try (with_reducible rfl))
  refine wpAnyH_take (i := 12) (v := ?_) rfl (by kernel_rfl) (by kernel_rfl) (by kernel_rfl) (fun _ _ _ h => h) (Or.inl ⟨by rfl, ?_⟩) hHeld ?_
  rotate_left
  · (intro w hSw; clear hSw; go_simp; try (with_reducible rfl))
  refine wpAnyH_done (by kernel_rfl) ?_ _
  refine NoPanic.normal ?_
  clear hHeld
  replace K8 := hide (heap_below BN.out K8.out)
  replace KE := hide (heap_below BN.out KE.out)
  replace BB := hide (bstep BB.out BN.out)
  have Y10 := hide BN.out
  clear BN
  have V10 := hide (bstep (bstep Y8.out Y9.out) Y10.out)
  have Z26 := hide (bstep (bstep ZB.out U6.out) V10.out)
  have Z36 := hide (bstep U6.out V10.out)
  have SA1 : Hid (∀ W, Below yr10.heap.size yr10 W → _) := fun W hb => sameEs_any a4 p8 c4 q8 li acc4 u8 W (R4.out.below (bstep V10.out hb)) (X8.out.2.2.below (bstep (bstep Y9.out Y10.out) hb)) N4.out X8.out.2.1 (A4.out.1.trans X8.out.1.symm) (by have := LI.out; omega)
  have SA2 : Hid (∀ W, Below yr10.heap.size yr10 W → _) := fun W hb => sameEs_any a5 p9 c5 q9 lm acc5 u9 W (R5.out.below (bstep V10.out hb)) (X9.out.2.2.below (bstep Y10.out hb)) N5.out X9.out.2.1 (A5.out.1.trans X9.out.1.symm) (by have := LM.out; omega)
  have SA3 : Hid (∀ W, Below yr10.heap.size yr10 W → _) := fun W hb => sameEs_any a6 p10 c6 q10 ld acc6 u10 W (A6.out.2.below (bstep V10.out hb)) (X10.out.2.2.below hb) N6.out X10.out.2.1 (A6.out.1.trans X10.out.1.symm) (by have := LD.out; omega)
  have LS : Hid (∀ W, Below yr10.heap.size yr10 W → _) := fun W hb => HLS.out W w1.heap.size g c zs (bstep BB.out hb) ZL.out (owR_below ZO.out (bstep Z26.out hb)) (ZT.out.below (bstep Z26.out hb)).tw ZC.out.1 ZC.out.2
  have LE : Hid (∀ W, Below yr10.heap.size yr10 W → _) := fun W hb => HLE.out W w2.heap.size ⟨⟨zms, zprio, zact, zargs⟩, zma, zmc, zaa, zac⟩ (bstep BB.out hb) (HTQ.out _ _ _ _ ZQ.out (bstep Z36.out hb))
  simp only at LE
  have GBX := hide (GB6.out.below V10.out)
  have RZX := hide (RZ.out.below Z26.out)
  have RX4 := hide (R4.out.below V10.out)
  have RX5 := hide (R5.out.below V10.out)
  have RX6 := hide (A6.out.2.below V10.out)
  have W1S : Hid (w.heap.size ≤ w1.heap.size) := hW1S.out
  clear HLS HLE HTQ X8 X9 X10 A4 A5 A6 R4 R5 GB6 ZO ZT ZC ZQ T3 HRI HRM HRD HOF RZ
  obtain ⟨b0, b1, b2, b3, b4, b5, b6, b7⟩ := at8 K8.out
  obtain ⟨d0, d1, d2, d3, -⟩ := at4 KE.out
  go_wp2_with fail
  refine (SA1.out _ (Below.refl _ _)).mono ?_
  rintro e w11 ⟨rfl, hb⟩
  have G11 := hide hb
  clear hb SA1
  go_wp2_with fail
  refine (SA2.out _ G11.out).mono ?_
  rintro e w12 ⟨rfl, hb⟩
  have G12 := hide (bstep G11.out hb)
  clear hb SA2 G11
  go_wp2_with fail
  refine (SA3.out _ G12.out).mono ?_
  rintro e w13 ⟨rfl, hb⟩
  have G13 := hide (bstep G12.out hb)
  clear hb SA3 G12 b0 b1 b2 b3 b4 b5 b6 b7 d0 d1 d2 d3
  obtain ⟨b0, b1, b2, b3, b4, b5, b6, b7⟩ := at8 (heap_below G13.out K8.out)
  obtain ⟨d0, d1, d2, d3, -⟩ := at4 (heap_below G13.out KE.out)
  go_wp2_with fail
  refine (LS.out _ G13.out).mono ?_
  rintro e w14 ⟨rfl, hb⟩
  have G14 := hide (bstep G13.out hb)
  clear hb LS G13 b0 b1 b2 b3 b4 b5 b6 b7 d0 d1 d2 d3
  obtain ⟨b0, b1, b2, b3, b4, b5, b6, b7⟩ := at8 (heap_below G14.out K8.out)
  obtain ⟨d0, d1, d2, d3, -⟩ := at4 (heap_below G14.out KE.out)
  go_wp2_with fail
  refine (LE.out _ G14.out).mono ?_
  rintro e w15 ⟨rfl, hb⟩
  have G15 := hide (bstep G14.out hb)
  clear hb LE G14 b0 b1 b2 b3 b4 b5 b6 b7 d0 d1 d2 d3
  replace KE := hide (heap_below G15.out KE.out)
  replace GBX := hide (GBX.out.below G15.out)
  replace BB := hide (bstep BB.out G15.out)
  replace RZX := hide (RZX.out.below G15.out)
  replace RX4 := hide (RX4.out.below G15.out)
  replace RX5 := hide (RX5.out.below G15.out)
  replace RX6 := hide (RX6.out.below G15.out)
  simp only [List.append_assoc] at GBX
  have S0 : Hid (BX w w15 (w15.alloc (.cells bk0 76)) 0 (toldEs (.slice (some ⟨g, 0, none⟩) l.length c) zs ++ (toldE ⟨⟨zms, zprio, zact, zargs⟩, zma, zmc, zaa, zac⟩ ++ (toldEs (.slice a4 li c4) acc4 ++ (toldEs (.slice a5 lm c5) acc5 ++ (toldEs (.slice a6 ld c6) acc6 ++ [])))))) := ⟨_, _, by rw [List.append_nil]; exact BoG.begin BB.out GBX.out W1S.out _⟩
  have L0 : Hid (l.length ≤ 30000 ∧ li ≤ 30001 ∧ lm ≤ 30001 ∧ ld ≤ 30001) := ⟨HN.out, LI.out, LM.out, LD.out⟩
  clear GBX BB G15 K8 U4 U5 U6 V5 V6 Y8 Y9 Y10 V10 Z26 Z36 HLI HLM HLD HER HL
  have C1 := hide (S0.out.entries ZL.out RZX.out (by have := L0.out; omega))
  simp only [bk0] at C1
  go_wp2_with fail
  refine C1.out.mono ?_
  rintro e w16 ⟨rfl, h⟩
  have S1 := hide h
  obtain ⟨d0, d1, d2, d3, -⟩ := at4 (heap_below h.fg KE.out)
  have C2 := hide (h.entry (by have := L0.out; omega))
  simp only [EnL.val] at C2
  clear h C1 S0 RZX
  go_wp2_with fail
  refine C2.out.mono ?_
  rintro e w17 ⟨rfl, h⟩
  have C3 := hide (h.entries N4.out RX4.out (by have := L0.out; omega))
  clear h C2 S1 d0 d1 d2 d3
  go_wp2_with fail
  refine C3.out.mono ?_
  rintro e w18 ⟨rfl, h⟩
  have C4 := hide (h.entries N5.out RX5.out (by have := L0.out; omega))
  clear h C3
  go_wp2_with fail
  refine C4.out.mono ?_
  rintro e w19 ⟨rfl, h⟩
  have C5 := hide (h.entries N6.out RX6.out (by have := L0.out; omega))
  clear h C4
  go_wp2_with fail
  refine C5.out.mono ?_
  rintro e w20 ⟨rfl, h⟩
  have C6 := hide (h.apart HBK.out)
  clear h C5
  go_wp2_with fail
  refine C6.out.mono ?_
  rintro e w21 ⟨rfl, hb⟩
  have B21 := hide hb
  clear hb C6
  go_wp2_with fail
  refine (HLV.out _).mono ?_
  rintro e w22 ⟨rfl, hb⟩
  go_wp2
  go_ret
  exact ⟨rfl, bstep B21.out hb⟩
theorem matchChanges_any (x : TbL) (la : Option Addr) (lc : Nat) (l : List EnL) (y : EnL) (w : World) (h : CaO w x la lc l y) (hcap : l.length ≤ lc) (hLp : Lp w) : Calls Tryz.prog 3 #[.agg (caCells x la lc l y)] w fun e w' => e = .returned (.bool true) ∧ Below w.heap.size w w' := by
  by_cases hb : 30000 < caSz x l y
  · exact changes_great x la lc l y w h hb
  · exact changes_small x la lc l y w h hcap hLp (by omega)
end Go.Proofs.YteflnicgohjiiaaGreatDoor
