/- Pieces of the proof: McC, MdA. -/
import Derived.Test.YteflnicgohjiiaaGreatDoorM36
import Derived.Test.YteflnicgohjiiaaGreatDoorM16
/- package match: Modify. -/
namespace Go.Proofs.YteflnicgohjiiaaGreatDoor
open Go.RowKit

/- Three pieces beside one another, the middle one an entry of its own. -/
theorem three_pieces {W : World} {p c c3 : Nat} {a1 a3 : Option Addr} {c1 n1 n3 : Nat} {l1 l3 : List EnL} {y : EnL} (h1 : RdE W a1 l1) (hy : EnR W y) (hc : EnB W c y) (h3 : RdE W a3 l3) (e1 : n1 = l1.length) (e3 : n3 = l3.length) (hp : W.heap[p]? = some (.cells #[.slice a1 n1 c1, .slice (some ⟨c, 0, none⟩) 1 1, .slice a3 n3 c3] 26 (0, 0))) : Rd2 W p [⟨l1, a1, c1⟩, ⟨[y], some ⟨c, 0, none⟩, 1⟩, ⟨l3, a3, c3⟩] := by
  subst e1 e3
  refine ⟨lt_heap hp, fun i hi => ?_, fun x hx => ?_⟩
  · rcases (by simp at hi; omega : i = 0 ∨ i = 1 ∨ i = 2) with rfl | rfl | rfl
    · rw [cellA hp]; rfl
    · rw [cellA hp]; rfl
    · rw [cellA hp]; rfl
  · simp only [List.mem_cons, List.not_mem_nil, or_false] at hx
    rcases hx with rfl | rfl | rfl
    · exact h1
    · refine ⟨.inr ⟨c, 0, rfl, lt_heap hc, fun i hi => ?_⟩, fun x hx => ?_⟩
      · obtain rfl : i = 0 := by simp at hi; omega
        obtain ⟨h0, h1, h2, h3, -⟩ := at4 hc
        exact ⟨h0, h1, h2, h3⟩
      · have : x = y := by simpa using hx
        subst this; exact hy
    · exact h3
def chE (z y : EnL) : EnL := ⟨⟨z.e.ms, z.e.prio, y.e.act, y.e.args⟩, z.ma, z.mc, y.aa, y.ac⟩
theorem chE_r {W : World} {z y : EnL} (hz : EnR W z) (hy : EnR W y) : EnR W (chE z y) := ⟨hz.ms, hy.args, hz.mn, hy.an, hz.mr, hy.ar, hz.pr, hz.mz, hy.az⟩
set_option maxRecDepth 100000 in
set_option maxHeartbeats 8000000 in
theorem modify_yes (x : TbL) (a : Option Addr) (cap : Nat) (l : List EnL) (y : EnL) (w : World) (hx : TbR w x) (hl : RdE w a l) (hy : EnR w y) (hn : l.length ≤ 900000) (hcap : l.length ≤ cap) (k : Nat) (hk : k < l.length) (hc : thI x.t (ens l) y.e = ((k : Int), 0)) :
    Calls Tryz.prog 9 #[x.val, .slice a l.length cap, y.val] w fun e w' => ∃ v acc, e = .returned (.tuple #[v, .int .i64 0]) ∧ ens acc = (ens l).take k ++ ((chE l[k] y).e :: (ens l).drop (k + 1)) ∧ Cp w w' v acc := by
  obtain ⟨p, off, rfl, hp, hcl⟩ := hl.some (by omega)
  suffices H : ∀ Q : Ending → World → Prop, (∀ v acc W', ens acc = (ens l).take k ++ ((chE l[k] y).e :: (ens l).drop (k + 1)) → Cp w W' v acc → Q (.returned (.tuple #[v, .int .i64 0])) W') → Calls Tryz.prog 9 #[x.val, .slice (some ⟨p, off, none⟩) l.length cap, y.val] w Q from H _ (fun v acc W' h1 h2 => ⟨v, acc, rfl, h1, h2⟩)
  intro Q hQ
  obtain ⟨z, hz⟩ : ∃ z, z = l[k] := ⟨_, rfl⟩
  have hzr : EnR w z := by rw [hz]; exact hl.ok _ (List.getElem_mem hk)
  have hck := hcl k hk
  rw [← hz] at hck
  have HQ : Hid (∀ v acc W', ens acc = (ens l).take k ++ ((chE z y).e :: (ens l).drop (k + 1)) → Cp w W' v acc → Q (.returned (.tuple #[v, .int .i64 0])) W') := by rw [hz]; exact hQ
  clear hQ
  have HT : Hid (∀ W, Below w.heap.size w W → _) := fun W hb => there_any x (some ⟨p, off, none⟩) cap l y W (hx.below hb) (hl.below hb) (hy.below hb) hn
  rw [hc] at HT
  have HLK : Hid (∀ W, Below w.heap.size w W → W.cell? ⟨p, off + k * 4, none⟩ = some (.slice z.ma z.e.ms.length z.mc) ∧ W.cell? ⟨p, off + k * 4 + 1, none⟩ = some (.int .i64 z.e.prio) ∧ W.cell? ⟨p, off + k * 4 + 2, none⟩ = some (.string z.e.act) ∧ W.cell? ⟨p, off + k * 4 + 3, none⟩ = some (.slice z.aa z.e.args.length z.ac)) := fun W hb => by
    obtain ⟨h0, h1, h2, h3⟩ := hck
    exact ⟨(hb.cell (p := ⟨p, _, none⟩) hp).trans h0, (hb.cell (p := ⟨p, _, none⟩) hp).trans h1, (hb.cell (p := ⟨p, _, none⟩) hp).trans h2, (hb.cell (p := ⟨p, _, none⟩) hp).trans h3⟩
  have HCP : Hid (∀ (W : World) (q c c1 c2 n1 n2 : Nat) (a2 : Option Addr), Below w.heap.size w W → (a2 = some ⟨p, off + (k + 1) * 4, none⟩ ∨ l.drop (k + 1) = []) → n1 = (l.take k).length → n2 = (l.drop (k + 1)).length → W.heap[c]? = some (.cells #[.slice z.ma z.e.ms.length z.mc, .int .i64 z.e.prio, .string y.e.act, .slice y.aa y.e.args.length y.ac] 30 (0, 0)) → W.heap[q]? = some (.cells #[.slice (some ⟨p, off, none⟩) n1 c1, .slice (some ⟨c, 0, none⟩) 1 1, .slice a2 n2 c2] 26 (0, 0)) → Calls Tryz.prog 31 #[.slice (some ⟨q, 0, none⟩) 3 3] W fun e w' => ∃ v acc, e = .returned v ∧ ens acc = (ens l).take k ++ ((chE z y).e :: (ens l).drop (k + 1)) ∧ Cp w w' v acc) := fun W q c c1 c2 n1 n2 a2 hb ha e1 e2 hc0 hq => by
    have h2 : RdE W a2 (l.drop (k + 1)) := by
      rcases ha with rfl | h
      · exact rdE_tail (hl.below hb) (k + 1)
      · rw [h]; exact rdE_none _
    refine (copied_any q 3 _ W (three_pieces (y := chE z y) (rdE_head (hl.below hb) k) (chE_r (hzr.below hb) (hy.below hb)) hc0 h2 e1 e2 hq) (by simp) (by simp [allE, ens_len]; omega)).mono ?_
    rintro e w' ⟨v, acc, rfl, hacc, hcp⟩
    refine ⟨v, acc, rfl, ?_, hcp.from hb⟩
    rw [hacc]
    simp [allE, ens, List.map_take, List.map_drop]
  have hkI : ((k : Int) < (l.length : Int)) := by omega
  have w1 : IntKind.i64.wrap ((k : Int) + 1) = (k : Int) + 1 := by rw [IntKind.wrap_i64]; omega
  have HK1 := hide (show (l.take k).length = k by simp; omega)
  have HK2 := hide (show (l.drop (k + 1)).length = l.length - (k + 1) by simp)
  have HD : Hid (l.length ≤ k + 1 → l.drop (k + 1) = []) := fun h => List.drop_eq_nil_of_le h
  have HKL := hide hk
  have HCA := hide hcap
  clear hx hl hy hn hc hcl hz hp hzr hck
  generalize (chE z y).e = CE at *
  obtain ⟨⟨ks, ws, size⟩, ka, kc, wa, wc⟩ := x
  obtain ⟨⟨ms, prio, act, args⟩, ma, mc, aa, ac⟩ := y
  obtain ⟨⟨zms, zprio, zact, zargs⟩, zma, zmc, zaa, zac⟩ := z
  simp only [TbL.val, EnL.val] at *
  generalize l.length = n at *
  generalize ks.length = n1 at *
  generalize ws.length = n2 at *
  generalize ms.length = n3 at *
  generalize args.length = n4 at *
  generalize zms.length = n5 at *
  generalize zargs.length = n6 at *
  have l1 : ((k : Int) ≤ (cap : Int)) = True := by simp; omega
  have l2 : ((k : Int) + 1 ≤ (n : Int)) = True := by simp; omega
  have l3 : ((k : Int) < 0) = False := by simp
  have l4 : ((k : Int) + 1 < 0) = False := by simp; omega
  go_enter Tryz.func9, Tryz.ntmps9
  go_wp2_with fail
  refine (HT.out _ (below2 _ _ _)).mono ?_
  rintro e w1 ⟨rfl, hb⟩
  have B1 := hide (bstep (below2 _ _ _) hb)
  have E1 := hide (heap_below hb (heap_snd w _ _ _))
  obtain ⟨c0, c1, c2, c3⟩ := HLK.out _ B1.out
  have E2 := hide (heap_past (.cells #[.slice zma n5 zmc, .int .i64 zprio, .string zact, .slice zaa n6 zac] 30) E1.out)
  obtain ⟨b0, b1, b2, b3, -⟩ := at4 E2.out
  obtain ⟨-, -, d2, d3, -⟩ := at4 (heap_past (.cells #[.slice zma n5 zmc, .int .i64 zprio, .string act, .slice zaa n6 zac] 30) E1.out)
  obtain ⟨-, -, f2, f3, -⟩ := at4 (heap_past (.cells #[.slice zma n5 zmc, .int .i64 zprio, .string zact, .slice aa n4 ac] 30) E1.out)
  clear hb hcap hk
  go_wp2
  go_region
  all_goals
    clear c0 c1 c2 c3 b0 b1 b2 b3 d2 d3 f2 f3
    go_wp2
    by_cases hcc : cap = k + 1
    · have g1 : (cap = k + 1) = True := by simp [hcc]
      have g2 := HCA.out
      have g3 := HKL.out
      go_region_with (go_at_call 31; refine (HCP.out _ _ _ _ _ _ _ _ ((bstep B1.out (below3 w1 (.cells #[.slice zma n5 zmc, .int .i64 zprio, .string act, .slice aa n4 ac] 30) (.cells #[.slice zma n5 zmc, .int .i64 zprio, .string act, .slice aa n4 ac] 30) _)).drew).drew (by first | exact .inl rfl | exact .inr (HD.out (by have := HCA.out; omega))) HK1.out.symm (by rw [HK2.out]; try omega) (heap_past _ (heap_snd w1 _ _ _)) (heap_trd w1 _ _ _ _)).mono ?_; rintro e w5 ⟨v, acc, rfl, hacc, hcp⟩; have HAC := hide hacc; have HC5 := hide hcp; clear hacc hcp)
      all_goals
        go_wp2
        refine bodyPost_ret (v := .tuple #[v, .int .i64 0]) (by simp [results, Tryz.results9, go_sem, Act.put]) rfl ?_
        exact HQ.out _ _ _ HAC.out HC5.out
    · have g1 : (cap = k + 1) = False := by simp [hcc]
      go_region_with (go_at_call 31; refine (HCP.out _ _ _ _ _ _ _ _ ((bstep B1.out (below3 w1 (.cells #[.slice zma n5 zmc, .int .i64 zprio, .string act, .slice aa n4 ac] 30) (.cells #[.slice zma n5 zmc, .int .i64 zprio, .string act, .slice aa n4 ac] 30) _)).drew).drew (by first | exact .inl rfl | exact .inr (HD.out (by have := HCA.out; omega))) HK1.out.symm (by rw [HK2.out]; try omega) (heap_past _ (heap_snd w1 _ _ _)) (heap_trd w1 _ _ _ _)).mono ?_; rintro e w5 ⟨v, acc, rfl, hacc, hcp⟩; have HAC := hide hacc; have HC5 := hide hcp; clear hacc hcp)
      all_goals
        go_wp2
        refine bodyPost_ret (v := .tuple #[v, .int .i64 0]) (by simp [results, Tryz.results9, go_sem, Act.put]) rfl ?_
        exact HQ.out _ _ _ HAC.out HC5.out
end Go.Proofs.YteflnicgohjiiaaGreatDoor
/- package match: Modify's refusal; Modify and Delete, each with one answer for all cases. -/
namespace Go.Proofs.YteflnicgohjiiaaGreatDoor
open Go.RowKit

set_option maxRecDepth 100000 in
theorem modify_no (x : TbL) (a : Option Addr) (cap : Nat) (l : List EnL) (y : EnL) (w : World) (hx : TbR w x) (hl : RdE w a l) (hy : EnR w y) (hn : l.length ≤ 900000) (c : Int) (hc : (thI x.t (ens l) y.e).2 = c) (h0 : c ≠ 0) :
    Calls Tryz.prog 9 #[x.val, .slice a l.length cap, y.val] w fun e w' => e = .returned (.tuple #[.slice none 0 0, .int .i64 c]) ∧ Below w.heap.size w w' := by
  have HT : Hid (∀ W, Below w.heap.size w W → _) := fun W hb => there_any x a cap l y W (hx.below hb) (hl.below hb) (hy.below hb) hn
  rw [hc] at HT
  have f1 : (c == 0) = false := by simp [h0]
  have f2 : (c = 0) = False := by simp [h0]
  generalize (thI x.t (ens l) y.e).1 = r at *
  clear hx hl hy hn hc h0
  obtain ⟨⟨ks, ws, size⟩, ka, kc, wa, wc⟩ := x
  obtain ⟨⟨ms, prio, act, args⟩, ma, mc, aa, ac⟩ := y
  simp only [TbL.val, EnL.val] at *
  generalize l.length = n at *
  generalize ks.length = n1 at *
  generalize ws.length = n2 at *
  generalize ms.length = n3 at *
  generalize args.length = n4 at *
  go_enter Tryz.func9, Tryz.ntmps9
  go_wp2_with fail
  refine (HT.out _ (below2 _ _ _)).mono ?_
  rintro e w1 ⟨rfl, hb⟩
  go_wp2
  refine bodyPost_ret (v := .tuple #[.slice none 0 0, .int .i64 c]) (by simp [results, Tryz.results9, go_sem]) rfl ⟨rfl, ?_⟩
  exact bstep (below2 _ _ _) hb
/- What Modify and Delete leave, by the data alone. -/
def modL (t : Tb) (l : List En) (e : En) : List En := if (thI t l e).2 = 0 then l.take (hereI l e).toNat ++ (⟨(l.getD (hereI l e).toNat e).ms, (l.getD (hereI l e).toNat e).prio, e.act, e.args⟩ :: l.drop ((hereI l e).toNat + 1)) else []
def delL (t : Tb) (l : List En) (e : En) : List En := if (thI t l e).2 = 0 then l.take (hereI l e).toNat ++ l.drop ((hereI l e).toNat + 1) else []
theorem thI_yes {t : Tb} {l : List En} {e : En} (h : (thI t l e).2 = 0) : ∃ k : Nat, k < l.length ∧ hereI l e = k ∧ thI t l e = ((k : Int), 0) ∧ chkB t e = true := by
  unfold thI at h ⊢
  split at h
  · rename_i h1
    rw [if_pos h1]
    split at h
    · rename_i h2
      rw [if_pos h2]
      have h3 := firstI_lt (fun x => sameP x e) l
      unfold hereI at h2 ⊢
      refine ⟨(firstI (fun x => sameP x e) l).toNat, by omega, by omega, ?_, h1⟩
      rw [Int.toNat_of_nonneg h2]
    · cases h
  · cases h
theorem modify_any (x : TbL) (a : Option Addr) (cap : Nat) (l : List EnL) (y : EnL) (w : World) (hx : TbR w x) (hl : RdE w a l) (hy : EnR w y) (hn : l.length ≤ 900000) (hcap : l.length ≤ cap) :
    Calls Tryz.prog 9 #[x.val, .slice a l.length cap, y.val] w fun e w' => ∃ v acc, e = .returned (.tuple #[v, .int .i64 (thI x.t (ens l) y.e).2]) ∧ ens acc = modL x.t (ens l) y.e ∧ Cp w w' v acc := by
  unfold modL
  by_cases h : (thI x.t (ens l) y.e).2 = 0
  · rw [if_pos h]
    obtain ⟨k, h1, h2, h3, -⟩ := thI_yes h
    rw [h2, Int.toNat_natCast]
    have hk : k < l.length := by rw [ens_len] at h1; exact h1
    refine (modify_yes x a cap l y w hx hl hy hn hcap k hk h3).mono ?_
    rintro e w' ⟨v, acc, rfl, h4, h5⟩
    refine ⟨v, acc, by rw [h], h4.trans ?_, h5⟩
    have e2 : (ens l).getD k y.e = l[k].e := by
      rw [List.getD_eq_getElem?_getD, List.getElem?_eq_getElem h1, Option.getD_some]
      simp [ens]
    rw [e2]; rfl
  · rw [if_neg h]
    refine (modify_no x a cap l y w hx hl hy hn _ rfl h).mono ?_
    rintro e w' ⟨rfl, h2⟩
    exact ⟨_, [], rfl, rfl, Cp.none h2⟩
theorem delete_any (x : TbL) (a : Option Addr) (cap : Nat) (l : List EnL) (y : EnL) (w : World) (hx : TbR w x) (hl : RdE w a l) (hy : EnR w y) (hn : l.length ≤ 900000) (hcap : l.length ≤ cap) :
    Calls Tryz.prog 10 #[x.val, .slice a l.length cap, y.val] w fun e w' => ∃ v acc, e = .returned (.tuple #[v, .int .i64 (thI x.t (ens l) y.e).2]) ∧ ens acc = delL x.t (ens l) y.e ∧ Cp w w' v acc := by
  unfold delL
  by_cases h : (thI x.t (ens l) y.e).2 = 0
  · rw [if_pos h]
    obtain ⟨k, h1, h2, h3, -⟩ := thI_yes h
    rw [h2, Int.toNat_natCast]
    have hk : k < l.length := by rw [ens_len] at h1; exact h1
    refine (delete_yes x a cap l y w hx hl hy hn hcap k hk h3).mono ?_
    rintro e w' ⟨v, acc, rfl, h4, h5⟩
    exact ⟨v, acc, by rw [h], h4, h5⟩
  · rw [if_neg h]
    refine (delete_no x a cap l y w hx hl hy hn _ rfl h).mono ?_
    rintro e w' ⟨rfl, h2⟩
    exact ⟨_, [], rfl, rfl, Cp.none h2⟩
end Go.Proofs.YteflnicgohjiiaaGreatDoor
