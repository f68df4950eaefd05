/- Pieces of the proof: McA, McB. -/
import Derived.Test.YteflnicgohjiiaaGreatDoorM11
import Derived.Test.YteflnicgohjiiaaGreatDoorM35
import Derived.RegionTactic
/- The law's helpers: lists of entries that are the same are told to be so. -/
namespace Go.Proofs.YteflnicgohjiiaaGreatDoor
open Go.RowKit

set_option maxRecDepth 100000 in
set_option maxHeartbeats 4000000 in
theorem sameX_any (a b : Option Addr) (ca cb : Nat) (l : List Mx) (w : World) (h1 : RdX w a l) (h2 : RdX w b l) (hl : l.length ≤ 1000000) : Calls Tryz.prog 147 #[.slice a l.length ca, .slice b l.length cb] w fun e w' => e = .returned (.bool true) ∧ Below w.heap.size w w' := by
  have H1 := hide h1
  have H2 := hide h2
  clear h1 h2
  go_enter Tryz.func147, Tryz.ntmps147
  go_wp2
  go_loopw [5] (fun i wr => ∃ k : Nat, k ≤ l.length ∧ i = .int .i64 k ∧ Below w.heap.size w wr) (fun i _ => l.length - (intOf i).toNat)
  case atStart => exact ⟨0, by omega, rfl, Below.refl _ _⟩
  case round =>
    obtain ⟨k, hk, rfl, hb⟩ := hrel
    have HB := hide hb
    clear hb
    by_cases hlt : k < l.length
    · obtain ⟨p, off, rfl, _, hcl⟩ := (H1.out.below HB.out).some (by omega)
      obtain ⟨q, off2, rfl, _, hdl⟩ := (H2.out.below HB.out).some (by omega)
      obtain ⟨c0, c1, c2, c3, c4, c5, c6⟩ := hcl k hlt
      obtain ⟨d0, d1, d2, d3, d4, d5, d6⟩ := hdl k hlt
      have hlI : ((k : Int) < (l.length : Int)) := by omega
      clear hcl hdl
      generalize l[k] = y at *
      obtain ⟨⟨vw, vh, vl⟩, ⟨mw, mh, ml⟩, len⟩ := y
      simp only at c0 c1 c2 c3 c4 c5 c6 d0 d1 d2 d3 d4 d5 d6
      go_wp2
      go_region
      go_wp2
      go_roundw
      case rel => exact ⟨k + 1, by omega, by go_num, HB.out.drew⟩
      case measure => simp [intOf]; omega
    · obtain rfl : k = l.length := by omega
      go_wp2
      go_ret
      exact ⟨rfl, HB.out⟩
set_option maxRecDepth 100000 in
set_option maxHeartbeats 4000000 in
theorem sameEn_any (x y : EnL) (w : World) (he : x.e = y.e) (hx : EnR w x) (hy : EnR w y) : Calls Tryz.prog 35 #[x.val, y.val] w fun e w' => e = .returned (.bool true) ∧ Below w.heap.size w w' := by
  obtain ⟨⟨ms, prio, act, args⟩, ma, mc, aa, ac⟩ := x
  obtain ⟨ye, ma2, mc2, aa2, ac2⟩ := y
  simp only at he
  subst he
  have HN : Hid (∀ W, Below w.heap.size w W → _) := fun W hb => sameX_any ma ma2 mc mc2 ms W (hx.ms.below hb) (hy.ms.below hb) hx.mn
  have HI : Hid (∀ W, Below w.heap.size w W → _) := fun W hb => sameN_any aa aa2 ac ac2 args W (hx.args.below hb) (hy.args.below hb) (Nat.le_trans hx.an (by decide))
  clear hx hy
  simp only [EnL.val] at *
  generalize ms.length = n1 at *
  generalize args.length = n2 at *
  go_enter Tryz.func35, Tryz.ntmps35
  go_wp2_with fail
  refine (HN.out _ (below2 _ _ _)).mono ?_
  rintro e w1 ⟨rfl, hb⟩
  obtain ⟨p0, p1, p2, p3, -⟩ := at4 (heap_below hb (heap_past _ (heap_alloc_new w _)))
  obtain ⟨q0, q1, q2, q3, -⟩ := at4 (heap_below hb (heap_snd w _ _ _))
  have BB := hide (bstep (below2 _ _ _) hb)
  clear hb
  go_wp2_with fail
  refine (HI.out _ BB.out).mono ?_
  rintro e w2 ⟨rfl, hb⟩
  go_wp2
  go_ret
  exact ⟨rfl, bstep BB.out hb⟩
set_option maxRecDepth 100000 in
set_option maxHeartbeats 4000000 in
theorem sameEs_any (a b : Option Addr) (ca cb n : Nat) (l m : List EnL) (w : World) (h1 : RdE w a l) (h2 : RdE w b m) (hl : l.length = n) (hm : m.length = n) (he : ens l = ens m) (hn : n ≤ 1000000) : Calls Tryz.prog 15 #[.slice a n ca, .slice b n cb] w fun e w' => e = .returned (.bool true) ∧ Below w.heap.size w w' := by
  have H1 := hide h1
  have H2 := hide h2
  have HS : Hid (∀ i (h : i < l.length) (h' : i < m.length) W, Below w.heap.size w W → _) := fun i h h' W hb => sameEn_any l[i] m[i] W (by
    have h3 : (ens l)[i]'(by rw [ens_len]; exact h) = l[i].e := by simp [ens]
    have h4 : (ens m)[i]'(by rw [ens_len]; exact h') = m[i].e := by simp [ens]
    rw [← h3, ← h4]
    simp only [he]) ((h1.ok _ (List.getElem_mem h)).below hb) ((h2.ok _ (List.getElem_mem h')).below hb)
  have HL := hide hl
  have HM := hide hm
  clear h1 h2 he hl hm
  go_enter Tryz.func15, Tryz.ntmps15
  go_wp2
  go_loopw [5] (fun i wr => ∃ k : Nat, k ≤ n ∧ i = .int .i64 k ∧ Below w.heap.size w wr) (fun i _ => n - (intOf i).toNat)
  case atStart => exact ⟨0, by omega, rfl, Below.refl _ _⟩
  case round =>
    obtain ⟨k, hk, rfl, hb⟩ := hrel
    have HB := hide hb
    clear hb
    by_cases hlt : k < n
    · have hkl : k < l.length := by have := HL.out; omega
      have hkm : k < m.length := by have := HM.out; omega
      obtain ⟨p, off, rfl, _, hcl⟩ := (H1.out.below HB.out).some (by omega)
      obtain ⟨q, off2, rfl, _, hdl⟩ := (H2.out.below HB.out).some (by omega)
      obtain ⟨c0, c1, c2, c3⟩ := hcl k hkl
      obtain ⟨d0, d1, d2, d3⟩ := hdl k hkm
      have hlI : ((k : Int) < (n : Int)) := by omega
      have HC : Hid (∀ W, Below w.heap.size w W → _) := fun W hb => HS.out k hkl hkm W hb
      clear hcl hdl
      generalize l[k] = x at *
      generalize m[k] = y at *
      obtain ⟨⟨ms, prio, act, args⟩, ma, mc, aa, ac⟩ := x
      obtain ⟨⟨ms2, prio2, act2, args2⟩, ma2, mc2, aa2, ac2⟩ := y
      simp only [EnL.val] at *
      generalize ms.length = n1 at *
      generalize args.length = n2 at *
      generalize ms2.length = n3 at *
      generalize args2.length = n4 at *
      go_wp2
      go_region_with (go_at_call 35; refine (HC.out _ HB.out.drew).mono ?_; rintro e w5 ⟨rfl, hb5⟩; have B5 := hide (bstep HB.out.drew hb5); clear hb5)
      all_goals
        go_wp2
        go_roundw
        case rel => exact ⟨k + 1, by omega, by go_num, B5.out⟩
        case measure => simp [intOf]; omega
    · obtain rfl : k = n := by omega
      go_wp2
      go_ret
      exact ⟨rfl, HB.out⟩
def thI (t : Tb) (l : List En) (e : En) : Int × Int := if chkB t e then (if 0 ≤ hereI l e then (hereI l e, 0) else (-1, 11)) else (-1, 1)
set_option maxHeartbeats 2000000 in
theorem there_any (x : TbL) (a : Option Addr) (cap : Nat) (l : List EnL) (y : EnL) (w : World) (hx : TbR w x) (hl : RdE w a l) (hy : EnR w y) (hn : l.length ≤ 900000) :
    Calls Tryz.prog 32 #[x.val, .slice a l.length cap, y.val] w fun e w' => e = .returned (.tuple #[.int .i64 (thI x.t (ens l) y.e).1, .int .i64 (thI x.t (ens l) y.e).2]) ∧ Below w.heap.size w w' := by
  have HC : Hid (∀ W, Below w.heap.size w W → _) := fun W hb => check13_any x y W (hx.below hb) (hy.below hb)
  have HP : Hid (∀ W, Below w.heap.size w W → _) := fun W hb => placeOf_any a cap l y W (hl.below hb) (by omega) (hy.below hb)
  have HH : Hid (firstI (fun x : EnL => sameP x.e y.e) l = hereI (ens l) y.e) := firstI_ens (fun x => sameP x y.e) l
  rw [HH.out] at HP
  have HS : Hid (-1 ≤ hereI (ens l) y.e) := by
    have := firstI_lt (fun x => sameP x y.e) (ens l)
    unfold hereI
    show _ ≤ _
    omega
  unfold thI chkI at *
  clear hx hl hy hn HH
  generalize hereI (ens l) y.e = r at *
  generalize chkB x.t y.e = t at *
  obtain ⟨⟨ks, ws, size⟩, ka, kc, wa, wc⟩ := x
  obtain ⟨⟨ms, prio, act, args⟩, ma, mc, aa, ac⟩ := y
  simp only [TbL.val, EnL.val] at *
  generalize l.length = n at *
  generalize ks.length = n1 at *
  generalize ws.length = n2 at *
  generalize ms.length = n3 at *
  generalize args.length = n4 at *
  cases t
  · simp only [Bool.false_eq_true, if_false] at HC ⊢
    go_enter Tryz.func32, Tryz.ntmps32
    go_wp2_with fail
    refine (HC.out _ (below2 _ _ _)).mono ?_
    rintro e w1 ⟨rfl, hb⟩
    go_wp2
    refine bodyPost_ret (v := .tuple #[.int .i64 (-1), .int .i64 1]) (by simp [results, Tryz.results32, go_sem]) rfl ⟨rfl, ?_⟩
    exact bstep (below2 _ _ _) hb
  · simp only [if_true] at HC ⊢
    by_cases h1 : 0 ≤ r
    · rw [if_pos h1]
      have f1 : (r == -1) = false := by simp; omega
      have f2 : (r = -1) = False := by simp; omega
      clear HS h1
      go_enter Tryz.func32, Tryz.ntmps32
      go_wp2_with fail
      refine (HC.out _ (below2 _ _ _)).mono ?_
      rintro e w1 ⟨rfl, hb⟩
      have B1 := hide (bstep (below2 _ _ _) hb)
      obtain ⟨b0, b1, b2, b3, -⟩ := at4 (heap_below hb (heap_snd _ _ _ _))
      clear hb
      go_wp2_with fail
      refine (HP.out _ B1.out).mono ?_
      rintro e w2 ⟨rfl, hb2⟩
      go_wp2
      refine bodyPost_ret (v := .tuple #[.int .i64 r, .int .i64 0]) (by simp [results, Tryz.results32, go_sem]) rfl ⟨rfl, ?_⟩
      exact bstep B1.out hb2
    · rw [if_neg h1]
      obtain rfl : r = -1 := by have := HS.out; omega
      clear HS h1
      go_enter Tryz.func32, Tryz.ntmps32
      go_wp2_with fail
      refine (HC.out _ (below2 _ _ _)).mono ?_
      rintro e w1 ⟨rfl, hb⟩
      have B1 := hide (bstep (below2 _ _ _) hb)
      obtain ⟨b0, b1, b2, b3, -⟩ := at4 (heap_below hb (heap_snd _ _ _ _))
      clear hb
      go_wp2_with fail
      refine (HP.out _ B1.out).mono ?_
      rintro e w2 ⟨rfl, hb2⟩
      go_wp2
      refine bodyPost_ret (v := .tuple #[.int .i64 (-1), .int .i64 11]) (by simp [results, Tryz.results32, go_sem]) rfl ⟨rfl, ?_⟩
      exact bstep B1.out hb2
end Go.Proofs.YteflnicgohjiiaaGreatDoor
/- package match: Delete. -/
namespace Go.Proofs.YteflnicgohjiiaaGreatDoor
open Go.RowKit

theorem rdE_piece {W : World} {p off : Nat} {l : List EnL} (h : RdE W (some ⟨p, off, none⟩) l) (i n : Nat) : RdE W (some ⟨p, off + i * 4, none⟩) ((l.drop i).take n) := by
  refine ⟨?_, fun x hx => h.ok x (List.mem_of_mem_drop (List.mem_of_mem_take hx))⟩
  rcases h.rd with rfl | ⟨p', off', e, hp, hc⟩
  · exact .inl (by simp)
  · injection e with e
    injection e with e1 e2
    subst e1 e2
    refine .inr ⟨p, off + i * 4, rfl, hp, fun k hk => ?_⟩
    have hk' : i + k < l.length := by simp at hk; omega
    have e : ((l.drop i).take n)[k] = l[i + k] := by simp
    have := hc (i + k) hk'
    rw [e, show off + i * 4 + k * 4 = off + (i + k) * 4 by omega]
    exact this
theorem rdE_head {W : World} {p off : Nat} {l : List EnL} (h : RdE W (some ⟨p, off, none⟩) l) (i : Nat) : RdE W (some ⟨p, off, none⟩) (l.take i) := by
  have := rdE_piece h 0 i
  rw [Nat.zero_mul, Nat.add_zero, List.drop_zero] at this
  exact this
theorem rdE_tail {W : World} {p off : Nat} {l : List EnL} (h : RdE W (some ⟨p, off, none⟩) l) (i : Nat) : RdE W (some ⟨p, off + i * 4, none⟩) (l.drop i) := by
  have := rdE_piece h i l.length
  rw [List.take_of_length_le (by simp)] at this
  exact this
theorem rdE_none {W : World} (a : Option Addr) : RdE W a [] := ⟨.inl rfl, fun x hx => absurd hx (by simp)⟩
/- Two pieces beside one another. -/
theorem two_pieces {W : World} {p c2 : Nat} {a1 a2 : Option Addr} {c1 n1 n2 : Nat} {l1 l2 : List EnL} (h1 : RdE W a1 l1) (h2 : RdE W a2 l2) (e1 : n1 = l1.length) (e2 : n2 = l2.length) (hp : W.heap[p]? = some (.cells #[.slice a1 n1 c1, .slice a2 n2 c2] 26 (0, 0))) : Rd2 W p [⟨l1, a1, c1⟩, ⟨l2, a2, c2⟩] := by
  subst e1 e2
  refine ⟨lt_heap hp, fun i hi => ?_, fun x hx => ?_⟩
  · rcases (by simp at hi; omega : i = 0 ∨ i = 1) with rfl | rfl
    · rw [cellA hp]; rfl
    · rw [cellA hp]; rfl
  · simp only [List.mem_cons, List.not_mem_nil, or_false] at hx
    rcases hx with rfl | rfl
    · exact h1
    · exact h2
set_option maxRecDepth 100000 in
set_option maxHeartbeats 4000000 in
theorem delete_no (x : TbL) (a : Option Addr) (cap : Nat) (l : List EnL) (y : EnL) (w : World) (hx : TbR w x) (hl : RdE w a l) (hy : EnR w y) (hn : l.length ≤ 900000) (c : Int) (hc : (thI x.t (ens l) y.e).2 = c) (h0 : c ≠ 0) :
    Calls Tryz.prog 10 #[x.val, .slice a l.length cap, y.val] w fun e w' => e = .returned (.tuple #[.slice none 0 0, .int .i64 c]) ∧ Below w.heap.size w w' := by
  have HT : Hid (∀ W, Below w.heap.size w W → _) := fun W hb => there_any x a cap l y W (hx.below hb) (hl.below hb) (hy.below hb) hn
  rw [hc] at HT
  have f1 : (c == 0) = false := by simp [h0]
  have f2 : (c = 0) = False := by simp [h0]
  generalize (thI x.t (ens l) y.e).1 = r at *
  clear hx hl hy hn hc h0
  obtain ⟨⟨ks, ws, size⟩, ka, kc, wa, wc⟩ := x
  obtain ⟨⟨ms, prio, act, args⟩, ma, mc, aa, ac⟩ := y
  simp only [TbL.val, EnL.val] at *
  generalize l.length = n at *
  generalize ks.length = n1 at *
  generalize ws.length = n2 at *
  generalize ms.length = n3 at *
  generalize args.length = n4 at *
  go_enter Tryz.func10, Tryz.ntmps10
  go_wp2_with fail
  refine (HT.out _ (below2 _ _ _)).mono ?_
  rintro e w1 ⟨rfl, hb⟩
  go_wp2
  refine bodyPost_ret (v := .tuple #[.slice none 0 0, .int .i64 c]) (by simp [results, Tryz.results10, go_sem]) rfl ⟨rfl, ?_⟩
  exact bstep (below2 _ _ _) hb
set_option maxRecDepth 100000 in
set_option maxHeartbeats 8000000 in
theorem delete_yes (x : TbL) (a : Option Addr) (cap : Nat) (l : List EnL) (y : EnL) (w : World) (hx : TbR w x) (hl : RdE w a l) (hy : EnR w y) (hn : l.length ≤ 900000) (hcap : l.length ≤ cap) (k : Nat) (hk : k < l.length) (hc : thI x.t (ens l) y.e = ((k : Int), 0)) :
    Calls Tryz.prog 10 #[x.val, .slice a l.length cap, y.val] w fun e w' => ∃ v acc, e = .returned (.tuple #[v, .int .i64 0]) ∧ ens acc = (ens l).take k ++ (ens l).drop (k + 1) ∧ Cp w w' v acc := by
  obtain ⟨p, off, rfl, -, -⟩ := hl.some (by omega)
  suffices H : ∀ Q : Ending → World → Prop, (∀ v acc W', ens acc = (ens l).take k ++ (ens l).drop (k + 1) → Cp w W' v acc → Q (.returned (.tuple #[v, .int .i64 0])) W') → Calls Tryz.prog 10 #[x.val, .slice (some ⟨p, off, none⟩) l.length cap, y.val] w Q from H _ (fun v acc W' h1 h2 => ⟨v, acc, rfl, h1, h2⟩)
  intro Q hQ
  have HQ := hide hQ
  clear hQ
  have HT : Hid (∀ W, Below w.heap.size w W → _) := fun W hb => there_any x (some ⟨p, off, none⟩) cap l y W (hx.below hb) (hl.below hb) (hy.below hb) hn
  rw [hc] at HT
  have HCP : Hid (∀ (W : World) (q c1 c2 n1 n2 : Nat) (a2 : Option Addr), Below w.heap.size w W → (a2 = some ⟨p, off + (k + 1) * 4, none⟩ ∨ l.drop (k + 1) = []) → n1 = (l.take k).length → n2 = (l.drop (k + 1)).length → W.heap[q]? = some (.cells #[.slice (some ⟨p, off, none⟩) n1 c1, .slice a2 n2 c2] 26 (0, 0)) → Calls Tryz.prog 31 #[.slice (some ⟨q, 0, none⟩) 2 2] W fun e w' => ∃ v acc, e = .returned v ∧ ens acc = (ens l).take k ++ (ens l).drop (k + 1) ∧ Cp w w' v acc) := fun W q c1 c2 n1 n2 a2 hb ha e1 e2 hq => by
    have h2 : RdE W a2 (l.drop (k + 1)) := by
      rcases ha with rfl | h
      · exact rdE_tail (hl.below hb) (k + 1)
      · rw [h]; exact rdE_none _
    refine (copied_any q 2 _ W (two_pieces (rdE_head (hl.below hb) k) h2 e1 e2 hq) (by simp) (by simp [allE, ens_len]; omega)).mono ?_
    rintro e w' ⟨v, acc, rfl, hacc, hcp⟩
    refine ⟨v, acc, rfl, ?_, hcp.from hb⟩
    rw [hacc]
    simp [allE, ens, List.map_take, List.map_drop]
  have hkI : ((k : Int) < (l.length : Int)) := by omega
  have w1 : IntKind.i64.wrap ((k : Int) + 1) = (k : Int) + 1 := by rw [IntKind.wrap_i64]; omega
  have HK1 := hide (show (l.take k).length = k by simp; omega)
  have HK2 := hide (show (l.drop (k + 1)).length = l.length - (k + 1) by simp)
  have HD : Hid (l.length ≤ k + 1 → l.drop (k + 1) = []) := fun h => List.drop_eq_nil_of_le h
  have HKL := hide hk
  have HCA := hide hcap
  clear hx hl hy hn hc
  obtain ⟨⟨ks, ws, size⟩, ka, kc, wa, wc⟩ := x
  obtain ⟨⟨ms, prio, act, args⟩, ma, mc, aa, ac⟩ := y
  simp only [TbL.val, EnL.val] at *
  generalize l.length = n at *
  generalize ks.length = n1 at *
  generalize ws.length = n2 at *
  generalize ms.length = n3 at *
  generalize args.length = n4 at *
  have l1 : ((k : Int) ≤ (cap : Int)) = True := by simp; omega
  have l2 : ((k : Int) + 1 ≤ (n : Int)) = True := by simp; omega
  have l3 : ((k : Int) < 0) = False := by simp
  have l4 : ((k : Int) + 1 < 0) = False := by simp; omega
  go_enter Tryz.func10, Tryz.ntmps10
  go_wp2_with fail
  refine (HT.out _ (below2 _ _ _)).mono ?_
  rintro e w1 ⟨rfl, hb⟩
  have B1 := hide (bstep (below2 _ _ _) hb)
  clear hb hcap hk
  go_wp2
  by_cases hcc : cap = k + 1
  · have g1 : (cap = k + 1) = True := by simp [hcc]
    have g2 := HCA.out
    have g3 := HKL.out
    go_region_with (go_at_call 31; refine (HCP.out _ _ _ _ _ _ _ (bstep B1.out (below1 _ _)).drew (by first | exact .inl rfl | exact .inr (HD.out (by have := HCA.out; omega))) HK1.out.symm (by rw [HK2.out]; try omega) (heap_alloc_new w1 _)).mono ?_; rintro e w5 ⟨v, acc, rfl, hacc, hcp⟩; have HAC := hide hacc; have HC5 := hide hcp; clear hacc hcp)
    all_goals
      go_wp2
      refine bodyPost_ret (v := .tuple #[v, .int .i64 0]) (by simp [results, Tryz.results10, go_sem, Act.put]) rfl ?_
      exact HQ.out _ _ _ HAC.out HC5.out
  · have g1 : (cap = k + 1) = False := by simp [hcc]
    go_region_with (go_at_call 31; refine (HCP.out _ _ _ _ _ _ _ (bstep B1.out (below1 _ _)).drew (by first | exact .inl rfl | exact .inr (HD.out (by have := HCA.out; omega))) HK1.out.symm (by rw [HK2.out]; try omega) (heap_alloc_new w1 _)).mono ?_; rintro e w5 ⟨v, acc, rfl, hacc, hcp⟩; have HAC := hide hacc; have HC5 := hide hcp; clear hacc hcp)
    all_goals
      go_wp2
      refine bodyPost_ret (v := .tuple #[v, .int .i64 0]) (by simp [results, Tryz.results10, go_sem, Act.put]) rfl ?_
      exact HQ.out _ _ _ HAC.out HC5.out
end Go.Proofs.YteflnicgohjiiaaGreatDoor
