/- Pieces of the proof: MtQc, SmN. -/
import Derived.Test.YteflnicgohjiiaaGreatDoorM34
import Derived.Test.YteflnicgohjiiaaGreatDoorM2
import Derived.RegionTactic
/- package match: copied, list within list of one's own. -/
namespace Go.Proofs.YteflnicgohjiiaaGreatDoor
open Go.RowKit

theorem wpList_copyXq {w : World} {ops : Array Oper} {rest : List Oper} {o : Oper} {a : Act} {Q : Exit → Act → World → Prop} (hgd : o.guard = none) (s x : Operand) (ho : o.op = .call { callee := .builtin .append, args := #[s, x], argTypes := #[27, 27] })
    (hs : a.eval s = .slice none 0 0) (sa : Option Addr) (cap : Nat) (l : List Mx) (hx : a.eval x = .slice sa l.length cap) (hr : RdX w sa l) (hn : sa = none → cap = 0) (hl : l.length ≤ 1000000)
    (h : ∀ a' cap' w', RdX w' a' l → (a' = none → cap' = 0) → (∀ q, a' = some q → w.heap.size ≤ q.block ∧ q.block < w'.heap.size) → Below w.heap.size w w' → w'.ownsRow w.heap.size 105 7 (.slice a' l.length cap') l.length (flat Mx.cells l) → wpList Tryz.prog ops Q rest (a.put o.dst (.slice a' l.length cap')) w') :
    wpList Tryz.prog ops Q (o :: rest) a w := by
  obtain ⟨i0, hi0, hz0, hz1, hz2⟩ := info_parts Tryz.infoMt
  have key : ∀ (ad : Addr) (hsrc : ∀ j u, (flat Mx.cells l)[j]? = some u → w.cell? (ad.add j) = some u), a.eval x = .slice (some ad) l.length cap → wpList Tryz.prog ops Q (o :: rest) a w := fun ad hsrc hx' => by
    refine wpList_append_own_at w hgd s x 27 ho w.heap.size 105 i0 _ 7 56 Tryz.underlying27 hi0 hz0 hz1 hz2 rfl (by decide) _ 0 [] hs (World.ownsRow_nil _ _ _ _) ad l.length cap (flat Mx.cells l) hx' (flat_length mx_len l) hsrc (flat_one mx_one l) (by unfold maxLen; omega) (by omega) (Nat.le_refl _) ?_
    intro v' w' h1 h2 _ _
    rw [List.nil_append, Nat.zero_add] at h1
    obtain ⟨a1, c1, rfl⟩ := owR_shape h1
    obtain ⟨e1, e2, e3, e4⟩ := rdX_own h1
    exact h _ _ w' e2 e3 e4 ((Below.refl _ _).grown h2 (Nat.le_refl _) (fun k e => by cases e)) h1
  rcases hr with rfl | ⟨p, off, rfl, hp, hc⟩
  · cases sa with
    | none =>
      have hx2 : a.eval x = .slice none 0 0 := by rw [hx, hn rfl]; rfl
      refine wpList_append_own_none hgd s x 27 ho w.heap.size 105 i0 7 Tryz.underlying27 hi0 _ 0 [] hs (World.ownsRow_nil _ _ _ _) hx2 ?_
      exact h none 0 w (.inl rfl) (fun _ => rfl) (fun q e => by cases e) (Below.refl _ _) (World.ownsRow_nil _ _ _ _)
    | some q => exact key q (fun j u hu => by simp [flat] at hu) hx
  · exact key _ (mx_src hc) hx
/- One entry is laid anew, and can be put behind the others. -/
structure CqF (w wr W : World) (v : Value) (acc : List EnL) (y : EnL) (c : Nat) : Prop where
  own : W.ownsRow w.heap.size 30 4 v acc.length (flat EnL.cells acc)
  bd : EnB W c y
  sz : w.heap.size ≤ W.heap.size
  push : ∀ {v' : Value} {W2 : World}, W2.ownsRow w.heap.size 30 4 v' (acc.length + 1) (flat EnL.cells acc ++ y.cells) → W.grownBy W2 v.ownBlock → (v'.ownBlock = v.ownBlock ∨ v'.ownBlock = some W.heap.size) → Cq w W2 v' (acc ++ [y])
theorem cq_fin {w wr S1 w2 : World} {v : Value} {acc : List EnL} {ms : List Mx} {prio : Int} {act : ByteArray} {args : List Nb} {ma aa a1 a2 : Option Addr} {mc ac c1 c2 : Nat} (hc : Cq w wr v acc) (hx : EnR wr ⟨⟨ms, prio, act, args⟩, ma, mc, aa, ac⟩) (hb : Below wr.heap.size wr S1)
    (g1 : RdX S1 a1 ms) (g2 : a1 = none → c1 = 0) (g3 : ∀ q, a1 = some q → wr.heap.size < q.block ∧ q.block < S1.heap.size) (h1 : RdN w2 a2 args) (h2 : a2 = none → c2 = 0) (h3 : ∀ q, a2 = some q → S1.heap.size ≤ q.block ∧ q.block < w2.heap.size) (h4 : Below S1.heap.size S1 w2) (o1 : S1.ownsRow w.heap.size 105 7 (.slice a1 ms.length c1) ms.length (flat Mx.cells ms)) (o2 : w2.ownsRow w.heap.size 86 3 (.slice a2 args.length c2) args.length (flat Nb.cells args)) (hz : wr.heap.size < S1.heap.size := by omega) :
    CqF w wr ((w2.setCell ⟨wr.heap.size, 3, none⟩ (.slice a2 args.length c2)).alloc (.cells #[.slice a1 ms.length c1, .int .i64 prio, .string act, .slice a2 args.length c2] 30)) v acc ⟨⟨ms, prio, act, args⟩, a1, c1, a2, c2⟩ w2.heap.size := by
  have b2 : Below wr.heap.size wr w2 := bstep hb h4
  have bS : Below wr.heap.size wr ((w2.setCell ⟨wr.heap.size, 3, none⟩ (.slice a2 args.length c2)).alloc (.cells #[.slice a1 ms.length c1, .int .i64 prio, .string act, .slice a2 args.length c2] 30)) := (b2.setCell (Nat.le_refl _) _).alloc (by rw [World.size_setCell]; exact b2.size) _
  have r1 : RdX ((w2.setCell ⟨wr.heap.size, 3, none⟩ (.slice a2 args.length c2)).alloc (.cells #[.slice a1 ms.length c1, .int .i64 prio, .string act, .slice a2 args.length c2] 30)) a1 ms := (rdX_setc (g1.below h4) _ _ (fun q e => by have := (g3 q e).1; simp only; omega)).below (below1 _ _)
  have r2 : RdN ((w2.setCell ⟨wr.heap.size, 3, none⟩ (.slice a2 args.length c2)).alloc (.cells #[.slice a1 ms.length c1, .int .i64 prio, .string act, .slice a2 args.length c2] 30)) a2 args := (rdN_setc h1 _ _ (fun q e => by have := (h3 q e).1; simp only; omega)).below (below1 _ _)
  have hsz : w2.heap.size ≤ ((w2.setCell ⟨wr.heap.size, 3, none⟩ (.slice a2 args.length c2)).alloc (.cells #[.slice a1 ms.length c1, .int .i64 prio, .string act, .slice a2 args.length c2] 30)).heap.size := by rw [World.size_alloc, World.size_setCell]; omega
  have hlt : w2.heap.size < ((w2.setCell ⟨wr.heap.size, 3, none⟩ (.slice a2 args.length c2)).alloc (.cells #[.slice a1 ms.length c1, .int .i64 prio, .string act, .slice a2 args.length c2] 30)).heap.size := by rw [World.size_alloc, World.size_setCell]; omega
  have er : EnR _ ⟨⟨ms, prio, act, args⟩, a1, c1, a2, c2⟩ := ⟨r1, r2, hx.mn, hx.an, hx.mr, hx.ar, hx.pr, g2, h2⟩
  have hfs : Fr (fun b => b = wr.heap.size) w2 ((w2.setCell ⟨wr.heap.size, 3, none⟩ (.slice a2 args.length c2)).alloc (.cells #[.slice a1 ms.length c1, .int .i64 prio, .string act, .slice a2 args.length c2] 30)) := ((Fr.refl (fun b => b = wr.heap.size) w2).set ⟨wr.heap.size, 3, none⟩ _ rfl).alloc _
  have p1 := owR_fr (owR_below o1 h4) hfs (fun b e hb' => by
    cases a1 with
    | none => cases e
    | some ad => have := (g3 ad rfl).1; have e' : ad.block = b := by injection e
                 omega)
  have p2 := owR_fr o2 hfs (fun b e hb' => by
    cases a2 with
    | none => cases e
    | some ad => have := (h3 ad rfl).1; have e' : ad.block = b := by injection e
                 omega)
  refine ⟨own_below hc.cp.own bS, ?_, Nat.le_trans hc.cp.bl.size bS.size, fun k1 k2 k3 => hc.push bS er (fun q e => ?_) (fun q e => ?_) p1 p2 k1 k2 k3⟩
  · have := heap_build (w2.setCell ⟨wr.heap.size, 3, none⟩ (.slice a2 args.length c2)) ⟨⟨ms, prio, act, args⟩, a1, c1, a2, c2⟩
    rw [World.size_setCell] at this
    exact this
  · have := g3 q e
    have := h4.size
    omega
  · have := h3 q e
    omega
set_option maxRecDepth 100000 in
set_option maxHeartbeats 8000000 in
theorem copiedQ_any (p cap : Nat) (L : List LsL) (w : World) (hr : Rd2 w p L) (hL : L.length ≤ 1000) (hl : (allE L).length ≤ 1000000) :
    Calls Tryz.prog 31 #[.slice (some ⟨p, 0, none⟩) L.length cap] w fun e w' => ∃ v acc, e = .returned v ∧ ens acc = allE L ∧ Cq w w' v acc := by
  have HR := hide hr
  have HL := hide hl
  clear hr hl
  go_enter Tryz.func31, Tryz.ntmps31
  go_wp2
  go_loopw [3, 10] (fun v i wr => ∃ (k : Nat) (acc : List EnL), k ≤ L.length ∧ i = .int .i64 k ∧ ens acc = allE (L.take k) ∧ Cq w wr v acc) (fun _ i _ => L.length - (intOf i).toNat)
  case atStart => exact ⟨0, [], by omega, rfl, by simp [ens, allE], Cq.start w⟩
  case round =>
    obtain ⟨k, acc, hk, rfl, hacc, hcp⟩ := hrel
    have HA := hide hacc
    have HC := hide hcp
    clear hacc hcp
    by_cases hlt : k < L.length
    · have R1 := HR.out.below HC.out.cp.bl
      have q0 := R1.rd k hlt
      have HE := hide (HR.out.ok _ (List.getElem_mem hlt))
      have HT := hide (allE_take L k hlt)
      have hlI : (k : Int) < (L.length : Int) := by omega
      have HLn : Hid ((allE (L.take k)).length + L[k].l.length ≤ 1000000) := by
        have h1 := allE_len L (k + 1)
        rw [HT.out, List.length_append] at h1
        have h2 : (ens L[k].l).length = L[k].l.length := by simp [ens]
        have := HL.out
        show _ ≤ _
        omega
      clear R1
      generalize L[k] = X at *
      obtain ⟨l, la, lc⟩ := X
      simp only at q0 HE HT HLn
      have HK := hide hk
      go_wp2
      go_loopw [3, 16] (fun v i wi => ∃ (j : Nat) (acc' : List EnL), j ≤ l.length ∧ i = .int .i64 j ∧ ens acc' = allE (L.take k) ++ ens (l.take j) ∧ Cq w wi v acc') (fun _ i _ => l.length - (intOf i).toNat)
      case atStart => exact ⟨0, acc, by omega, rfl, by rw [HA.out]; simp [ens], HC.out⟩
      case round =>
        obtain ⟨j, acc2, hj, rfl, hacc2, hcp2⟩ := hrel
        have HA2 := hide hacc2
        have HC2 := hide hcp2
        clear hacc2 hcp2 HA HC q0
        by_cases hjt : j < l.length
        · obtain ⟨b, off, rfl, hb, hcl⟩ := (HE.out.below HC2.out.cp.bl).some (by omega)
          obtain ⟨q0, q1, q2, q3⟩ := hcl j hjt
          have HX := hide ((HE.out.ok _ (List.getElem_mem hjt)).below HC2.out.cp.bl)
          have HT2 := hide (ens_take l j hjt)
          have hjI : (j : Int) < (l.length : Int) := by omega
          have HN2 : Hid (acc2.length ≤ 1000000) := by
            have h1 := congrArg List.length HA2.out
            rw [List.length_append] at h1
            have h2 : (ens acc2).length = acc2.length := by simp [ens]
            have h3 : (ens (l.take j)).length ≤ l.length := by simp [ens]; omega
            have := HLn.out
            show _ ≤ _
            omega
          have hjb : j < 1000000 := by have := HLn.out; omega
          clear hcl hb
          generalize l[j] = x at *
          obtain ⟨⟨ms, prio, act, args⟩, ma, mc, aa, ac⟩ := x
          simp only at q0 q1 q2 q3 HT2
          have r1 : RdX (wr.alloc (.cells #[.slice ma ms.length mc, .int .i64 prio, .string act, .slice aa args.length ac] 30)) ma ms := HX.out.ms.below (below1 _ _)
          have R1 := hide r1
          have HMZ : Hid (ma = none → mc = 0) := HX.out.mz
          have HAZ : Hid (aa = none → ac = 0) := HX.out.az
          have HMN : Hid (ms.length ≤ 1000000) := HX.out.mn
          have HAN : Hid (args.length ≤ 1000000) := HX.out.an
          have HB := hide (heap_alloc_new wr (.cells #[.slice ma ms.length mc, .int .i64 prio, .string act, .slice aa args.length ac] 30))
          clear r1
          go_wp2_with (at_builtin; first
            | (refine wpList_copyXq rfl _ _ rfl rfl ma mc ms rfl R1.out HMZ.out HMN.out ?_; intro a1 c1 w1 g1 g2 g3 g4 g5; obtain ⟨b0, b1, b2, b3, bf⟩ := at4 (heap_below g4 HB.out); have HB1 := hide (heap_set0 (v := .slice a1 ms.length c1) (heap_below g4 HB.out)); have BS1 : Hid (Below wr.heap.size wr (w1.setCell ⟨wr.heap.size, 0, none⟩ (.slice a1 ms.length c1))) := Below.setCell (bstep (below1 _ _) g4) (Nat.le_refl _) _; have RN1 := hide (HX.out.args.below BS1.out); have G1 : Hid (RdX (w1.setCell ⟨wr.heap.size, 0, none⟩ (.slice a1 ms.length c1)) a1 ms) := rdX_setc g1 _ _ (fun q e => by have := (g3 q e).1; rw [World.size_alloc] at this; simp only; omega); have G2 := hide g2; have G3 : Hid (∀ q, a1 = some q → wr.heap.size < q.block ∧ q.block < (w1.setCell ⟨wr.heap.size, 0, none⟩ (.slice a1 ms.length c1)).heap.size) := (fun q e => by have := g3 q e; rw [World.size_alloc] at this; simp only [World.size_setCell]; omega); have G5 : Hid ((w1.setCell ⟨wr.heap.size, 0, none⟩ (.slice a1 ms.length c1)).ownsRow w.heap.size 105 7 (.slice a1 ms.length c1) ms.length (flat Mx.cells ms)) := (owR_lower (owR_fr g5 ((Fr.refl (fun b => b = wr.heap.size) w1).set _ _ rfl) (fun b e hb' => by have := (World.ownsRow.lt g5 b e).1; rw [World.size_alloc] at this; omega)) (by have := HC2.out.cp.bl.size; rw [World.size_alloc]; omega)); clear g1 g2 g3 g4 g5)
            | (refine wpList_copyNq rfl _ _ rfl rfl aa ac args rfl RN1.out HAZ.out HAN.out ?_; intro a2 c2 w2 h1 h2 h3 h4 h5; obtain ⟨d0, d1, d2, d3, df⟩ := at4 (heap_below h4 HB1.out); have FX := hide (cq_fin HC2.out HX.out BS1.out G1.out G2.out G3.out h1 h2 h3 h4 G5.out (owR_lower h5 (Nat.le_trans HC2.out.cp.bl.size BS1.out.size)) (lt_heap HB1.out)); clear h1 h2 h3 h4 h5 b0 b1 b2 b3 bf)
            | (refine wpList_appEn rfl _ _ rfl w.heap.size u3 acc2 ⟨⟨ms, prio, act, args⟩, a1, c1, a2, c2⟩ rfl FX.out.own w2.heap.size rfl FX.out.bd HN2.out FX.out.sz ?_; intro v4 w4 k1 k2 k3; have HC4 := hide (FX.out.push k1 k2 k3); clear k1 k2 k3))
          go_roundw
          case rel => exact ⟨j + 1, acc2 ++ [⟨⟨ms, prio, act, args⟩, a1, c1, a2, c2⟩], by omega, by go_num, by rw [HT2.out, ← List.append_assoc, ← HA2.out]; simp [ens], HC4.out⟩
          case measure => simp [intOf]; omega
        · obtain rfl : j = l.length := by omega
          have HA3 := hide (by have := HA2.out; rw [List.take_length] at this; exact this : ens acc2 = allE (L.take k) ++ ens l)
          go_wp2
          go_roundw
          case rel => exact ⟨k + 1, acc2, by omega, by go_num, by rw [HA3.out, HT.out], HC2.out⟩
          case measure => simp [intOf]; omega
    · obtain rfl : k = L.length := by omega
      have HA' := hide (by have := HA.out; rw [List.take_length] at this; exact this : ens acc = allE L)
      go_wp2
      go_ret
      exact ⟨_, acc, rfl, HA'.out, HC.out⟩
end Go.Proofs.YteflnicgohjiiaaGreatDoor
/- Two lists of numbers that are the same are told to be so. -/
namespace Go.Proofs.YteflnicgohjiiaaGreatDoor
open Go.RowKit

set_option maxRecDepth 100000 in
set_option maxHeartbeats 4000000 in
theorem sameN_any (a b : Option Addr) (ca cb : Nat) (l : List Nb) (w : World) (h1 : RdN w a l) (h2 : RdN w b l) (hl : l.length ≤ 140737488355328) : Calls Tryz.prog 148 #[.slice a l.length ca, .slice b l.length cb] w fun e w' => e = .returned (.bool true) ∧ Below w.heap.size w w' := by
  have H1 := hide h1
  have H2 := hide h2
  clear h1 h2
  go_enter Tryz.func148, Tryz.ntmps148
  go_wp2
  go_loopw [5] (fun i wr => ∃ k : Nat, k ≤ l.length ∧ i = .int .i64 k ∧ Below w.heap.size w wr) (fun i _ => l.length - (intOf i).toNat)
  case atStart => exact ⟨0, by omega, rfl, Below.refl _ _⟩
  case round =>
    obtain ⟨k, hk, rfl, hb⟩ := hrel
    have HB := hide hb
    clear hb
    by_cases hlt : k < l.length
    · obtain ⟨p, off, rfl, _, hcl⟩ := (H1.out.below HB.out).some (by omega)
      obtain ⟨q, off2, rfl, _, hdl⟩ := (H2.out.below HB.out).some (by omega)
      obtain ⟨c0, c1, c2⟩ := hcl k hlt
      obtain ⟨d0, d1, d2⟩ := hdl k hlt
      have hlI : ((k : Int) < (l.length : Int)) := by omega
      clear hcl hdl
      generalize l[k] = y at *
      obtain ⟨yw, yh, yl⟩ := y
      simp only at c0 c1 c2 d0 d1 d2
      go_wp2
      go_region
      go_wp2
      go_roundw
      case rel => exact ⟨k + 1, by omega, by go_num, HB.out.drew⟩
      case measure => simp [intOf]; omega
    · obtain rfl : k = l.length := by omega
      go_wp2
      go_ret
      exact ⟨rfl, HB.out⟩
end Go.Proofs.YteflnicgohjiiaaGreatDoor
