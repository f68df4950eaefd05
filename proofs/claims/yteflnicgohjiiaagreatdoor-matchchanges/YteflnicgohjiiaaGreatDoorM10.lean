/- Pieces of the proof: MtN. -/
import Derived.Test.YteflnicgohjiiaaGreatDoorM9
/- package match: copied. -/
namespace Go.Proofs.YteflnicgohjiiaaGreatDoor
open Go.RowKit

theorem own_below {W W' : World} {B c n : Nat} {e : TypeId} {v : Value} {xs : List Value} (h : W.ownsRow B e c v n xs) (hb : Below W.heap.size W W') : W'.ownsRow B e c v n xs := by
  refine ⟨h.1, ?_⟩
  rcases h.2 with h0 | ⟨gr, cap, cur, rfl, hg, hcur, rest⟩
  · exact .inl h0
  · exact .inr ⟨gr, cap, cur, rfl, hg, (hb.block _ (Array.getElem?_eq_some_iff.1 hcur).1).trans hcur, rest⟩
structure Cp (w W : World) (v : Value) (acc : List EnL) : Prop where
  bl : Below w.heap.size w W
  own : W.ownsRow w.heap.size 30 4 v acc.length (flat EnL.cells acc)
  ok : ∀ x ∈ acc, EnR W x ∧ (∀ q, x.ma = some q → q.block < W.heap.size ∧ v.ownBlock ≠ some q.block) ∧ (∀ q, x.aa = some q → q.block < W.heap.size ∧ v.ownBlock ≠ some q.block)
theorem Cp.start (w : World) : Cp w w (.slice none 0 0) [] := ⟨Below.refl _ _, World.ownsRow_nil _ _ _ _, fun x h => absurd h (by simp)⟩
theorem Cp.below {w W W' : World} {v : Value} {acc : List EnL} (h : Cp w W v acc) (hb : Below W.heap.size W W') : Cp w W' v acc :=
  ⟨bstep h.bl hb, own_below h.own hb, fun x hx => ⟨(h.ok x hx).1.below hb, fun q e => ⟨Nat.lt_of_lt_of_le ((h.ok x hx).2.1 q e).1 hb.size, ((h.ok x hx).2.1 q e).2⟩, fun q e => ⟨Nat.lt_of_lt_of_le ((h.ok x hx).2.2 q e).1 hb.size, ((h.ok x hx).2.2 q e).2⟩⟩⟩
theorem EnR.kept {W W' : World} {x : EnL} {row : Option Nat} (h : EnR W x) (hg : W.grownBy W' row) (h1 : ∀ q, x.ma = some q → row ≠ some q.block) (h2 : ∀ q, x.aa = some q → row ≠ some q.block) : EnR W' x :=
  ⟨rdX_kept h.ms hg h1, rdN_kept h.args hg h2, h.mn, h.an, h.mr, h.ar, h.pr, h.mz, h.az⟩
theorem Cp.push {w W W1 W2 : World} {v v' : Value} {acc : List EnL} {x : EnL} (h : Cp w W v acc) (hb : Below W.heap.size W W1) (hx : EnR W1 x) (x1 : ∀ q, x.ma = some q → W.heap.size ≤ q.block ∧ q.block < W1.heap.size) (x2 : ∀ q, x.aa = some q → W.heap.size ≤ q.block ∧ q.block < W1.heap.size)
    (ho : W2.ownsRow w.heap.size 30 4 v' (acc.length + 1) (flat EnL.cells acc ++ x.cells)) (hg : W1.grownBy W2 v.ownBlock) (hv : v'.ownBlock = v.ownBlock ∨ v'.ownBlock = some W1.heap.size) : Cp w W2 v' (acc ++ [x]) := by
  have hlt := h.own.lt
  have key : ∀ b, b < W1.heap.size → v.ownBlock ≠ some b → b < W2.heap.size ∧ v'.ownBlock ≠ some b := fun b hb hn => by
    refine ⟨Nat.lt_of_lt_of_le hb hg.size, fun e => ?_⟩
    rcases hv with h1 | h1
    · exact hn (h1 ▸ e)
    · rw [h1] at e; injection e with e; omega
  have nv : ∀ b, W.heap.size ≤ b → v.ownBlock ≠ some b := fun b hb e => by have := (hlt b e).2; omega
  refine ⟨(h.bl.trans (hb.mono h.bl.size)).grown hg (Nat.le_trans h.bl.size hb.size) (fun k e => (hlt k e).1), ?_, fun y hy => ?_⟩
  · rw [List.length_append, flat_append]
    have : flat EnL.cells [x] = x.cells := by simp [flat]
    rw [this]; exact ho
  · rcases List.mem_append.1 hy with hy | hy
    · obtain ⟨h1, h2, h3⟩ := h.ok y hy
      refine ⟨(h1.below hb).kept hg (fun q e => (h2 q e).2) (fun q e => (h3 q e).2), fun q e => key _ (Nat.lt_of_lt_of_le (h2 q e).1 hb.size) (h2 q e).2, fun q e => key _ (Nat.lt_of_lt_of_le (h3 q e).1 hb.size) (h3 q e).2⟩
    · have hy' : y = x := by simpa using hy
      subst hy'
      exact ⟨hx.kept hg (fun q e => nv _ (x1 q e).1) (fun q e => nv _ (x2 q e).1), fun q e => key _ (x1 q e).2 (nv _ (x1 q e).1), fun q e => key _ (x2 q e).2 (nv _ (x2 q e).1)⟩
theorem wpList_appEn {w : World} {ops : Array Oper} {rest : List Oper} {o : Oper} {a : Act} {Q : Exit → Act → World → Prop} (hgd : o.guard = none) (s x : Operand) (ho : o.op = .call { callee := .builtin .append, args := #[s, x], argTypes := #[26, 26] })
    (B : Nat) (v : Value) (acc : List EnL) (y : EnL) (hs : a.eval s = v) (hown : w.ownsRow B 30 4 v acc.length (flat EnL.cells acc)) (p : Nat) (hx : a.eval x = .slice (some ⟨p, 0, none⟩) 1 1) (hB : EnB w p y) (hl : acc.length ≤ 1000000) (hb : B ≤ w.heap.size)
    (h : ∀ v' w', w'.ownsRow B 30 4 v' (acc.length + 1) (flat EnL.cells acc ++ y.cells) → w.grownBy w' v.ownBlock → (v'.ownBlock = v.ownBlock ∨ v'.ownBlock = some w.heap.size) → wpList Tryz.prog ops Q rest (a.put o.dst v') w') :
    wpList Tryz.prog ops Q (o :: rest) a w := by
  obtain ⟨i0, hi0, hz0, hz1, hz2⟩ := info_parts Tryz.infoEn
  refine wpList_append_own_at w hgd s x 26 ho B 30 i0 _ 4 72 Tryz.underlying26 hi0 hz0 hz1 hz2 rfl (by decide) v acc.length (flat EnL.cells acc) hs hown ⟨p, 0, none⟩ 1 1 y.cells hx rfl (fun j u hu => ?_) (en_one y) (by unfold maxLen; omega) (by omega) hb ?_
  · rw [add0, cellA hB j]
    simpa [EnL.cells] using hu
  · intro v' w' h1 h2 _ h4
    exact h v' w' h1 h2 h4
/- Lists of entries, one of them after the other. -/
structure LsL where
  l : List EnL
  a : Option Addr
  cap : Nat
structure Rd2 (W : World) (p : Nat) (L : List LsL) : Prop where
  pl : p < W.heap.size
  rd : ∀ i (h : i < L.length), W.cell? ⟨p, i, none⟩ = some (.slice L[i].a L[i].l.length L[i].cap)
  ok : ∀ x ∈ L, RdE W x.a x.l
theorem Rd2.below {W W' : World} {p : Nat} {L : List LsL} (h : Rd2 W p L) (hb : Below W.heap.size W W') : Rd2 W' p L := ⟨Nat.lt_of_lt_of_le h.pl hb.size, fun i hi => (hb.cell (p := ⟨p, i, none⟩) h.pl).trans (h.rd i hi), fun x hx => (h.ok x hx).below hb⟩
def ens (l : List EnL) : List En := l.map (·.e)
def allE (L : List LsL) : List En := L.flatMap (fun x => ens x.l)
theorem ens_take (l : List EnL) (k : Nat) (h : k < l.length) : ens (l.take (k + 1)) = ens (l.take k) ++ [l[k].e] := by
  unfold ens; rw [List.take_succ_eq_append_getElem h, List.map_append]; rfl
theorem allE_take (L : List LsL) (k : Nat) (h : k < L.length) : allE (L.take (k + 1)) = allE (L.take k) ++ ens L[k].l := by
  unfold allE; rw [List.take_succ_eq_append_getElem h, List.flatMap_append]; simp
theorem allE_len (L : List LsL) (k : Nat) : (allE (L.take k)).length ≤ (allE L).length := by
  conv => rhs; rw [← List.take_append_drop k L]
  unfold allE; rw [List.flatMap_append, List.length_append]; omega
theorem heap_set0 {W : World} {b : Nat} {x y z u v : Value} {t : TypeId} (h : W.heap[b]? = some (.cells #[x, y, z, u] t (0, 0))) : (W.setCell ⟨b, 0, none⟩ v).heap[b]? = some (.cells #[v, y, z, u] t (0, 0)) := heap_setCell_same h v
theorem heap_set3 {W : World} {b : Nat} {x y z u v : Value} {t : TypeId} (h : W.heap[b]? = some (.cells #[x, y, z, u] t (0, 0))) : (W.setCell ⟨b, 3, none⟩ v).heap[b]? = some (.cells #[x, y, z, v] t (0, 0)) := heap_setCell_same h v
theorem heap_build (W : World) (x : EnL) : EnB (W.alloc (.cells #[.slice x.ma x.e.ms.length x.mc, .int .i64 x.e.prio, .string x.e.act, .slice x.aa x.e.args.length x.ac] 30)) W.heap.size x := heap_alloc_new _ _
/- One entry is laid anew, and can be put behind the others. -/
structure CpF (w wr W : World) (v : Value) (acc : List EnL) (y : EnL) (c : Nat) : Prop where
  own : W.ownsRow w.heap.size 30 4 v acc.length (flat EnL.cells acc)
  bd : EnB W c y
  sz : w.heap.size ≤ W.heap.size
  push : ∀ {v' : Value} {W2 : World}, W2.ownsRow w.heap.size 30 4 v' (acc.length + 1) (flat EnL.cells acc ++ y.cells) → W.grownBy W2 v.ownBlock → (v'.ownBlock = v.ownBlock ∨ v'.ownBlock = some W.heap.size) → Cp w W2 v' (acc ++ [y])
theorem cp_fin {w wr S1 w2 : World} {v : Value} {acc : List EnL} {ms : List Mx} {prio : Int} {act : ByteArray} {args : List Nb} {ma aa a1 a2 : Option Addr} {mc ac c1 c2 : Nat} (hc : Cp w wr v acc) (hx : EnR wr ⟨⟨ms, prio, act, args⟩, ma, mc, aa, ac⟩) (hb : Below wr.heap.size wr S1)
    (g1 : RdX S1 a1 ms) (g2 : a1 = none → c1 = 0) (g3 : ∀ q, a1 = some q → wr.heap.size < q.block ∧ q.block < S1.heap.size) (h1 : RdN w2 a2 args) (h2 : a2 = none → c2 = 0) (h3 : ∀ q, a2 = some q → S1.heap.size ≤ q.block ∧ q.block < w2.heap.size) (h4 : Below S1.heap.size S1 w2) (hz : wr.heap.size < S1.heap.size := by omega) :
    CpF w wr ((w2.setCell ⟨wr.heap.size, 3, none⟩ (.slice a2 args.length c2)).alloc (.cells #[.slice a1 ms.length c1, .int .i64 prio, .string act, .slice a2 args.length c2] 30)) v acc ⟨⟨ms, prio, act, args⟩, a1, c1, a2, c2⟩ w2.heap.size := by
  have b2 : Below wr.heap.size wr w2 := bstep hb h4
  have bS : Below wr.heap.size wr ((w2.setCell ⟨wr.heap.size, 3, none⟩ (.slice a2 args.length c2)).alloc (.cells #[.slice a1 ms.length c1, .int .i64 prio, .string act, .slice a2 args.length c2] 30)) := (b2.setCell (Nat.le_refl _) _).alloc (by rw [World.size_setCell]; exact b2.size) _
  have r1 : RdX ((w2.setCell ⟨wr.heap.size, 3, none⟩ (.slice a2 args.length c2)).alloc (.cells #[.slice a1 ms.length c1, .int .i64 prio, .string act, .slice a2 args.length c2] 30)) a1 ms := (rdX_setc (g1.below h4) _ _ (fun q e => by have := (g3 q e).1; simp only; omega)).below (below1 _ _)
  have r2 : RdN ((w2.setCell ⟨wr.heap.size, 3, none⟩ (.slice a2 args.length c2)).alloc (.cells #[.slice a1 ms.length c1, .int .i64 prio, .string act, .slice a2 args.length c2] 30)) a2 args := (rdN_setc h1 _ _ (fun q e => by have := (h3 q e).1; simp only; omega)).below (below1 _ _)
  have hsz : w2.heap.size ≤ ((w2.setCell ⟨wr.heap.size, 3, none⟩ (.slice a2 args.length c2)).alloc (.cells #[.slice a1 ms.length c1, .int .i64 prio, .string act, .slice a2 args.length c2] 30)).heap.size := by rw [World.size_alloc, World.size_setCell]; omega
  have hlt : w2.heap.size < ((w2.setCell ⟨wr.heap.size, 3, none⟩ (.slice a2 args.length c2)).alloc (.cells #[.slice a1 ms.length c1, .int .i64 prio, .string act, .slice a2 args.length c2] 30)).heap.size := by rw [World.size_alloc, World.size_setCell]; omega
  have er : EnR _ ⟨⟨ms, prio, act, args⟩, a1, c1, a2, c2⟩ := ⟨r1, r2, hx.mn, hx.an, hx.mr, hx.ar, hx.pr, g2, h2⟩
  refine ⟨own_below hc.own bS, ?_, Nat.le_trans hc.bl.size bS.size, fun k1 k2 k3 => hc.push bS er (fun q e => ?_) (fun q e => ?_) k1 k2 k3⟩
  · have := heap_build (w2.setCell ⟨wr.heap.size, 3, none⟩ (.slice a2 args.length c2)) ⟨⟨ms, prio, act, args⟩, a1, c1, a2, c2⟩
    rw [World.size_setCell] at this
    exact this
  · have := g3 q e
    have := h4.size
    omega
  · have := h3 q e
    omega
set_option maxRecDepth 100000 in
set_option maxHeartbeats 8000000 in
theorem copied_any (p cap : Nat) (L : List LsL) (w : World) (hr : Rd2 w p L) (hL : L.length ≤ 1000) (hl : (allE L).length ≤ 1000000) :
    Calls Tryz.prog 31 #[.slice (some ⟨p, 0, none⟩) L.length cap] w fun e w' => ∃ v acc, e = .returned v ∧ ens acc = allE L ∧ Cp w w' v acc := by
  have HR := hide hr
  have HL := hide hl
  clear hr hl
  go_enter Tryz.func31, Tryz.ntmps31
  go_wp2
  go_loopw [3, 10] (fun v i wr => ∃ (k : Nat) (acc : List EnL), k ≤ L.length ∧ i = .int .i64 k ∧ ens acc = allE (L.take k) ∧ Cp w wr v acc) (fun _ i _ => L.length - (intOf i).toNat)
  case atStart => exact ⟨0, [], by omega, rfl, by simp [ens, allE], Cp.start w⟩
  case round =>
    obtain ⟨k, acc, hk, rfl, hacc, hcp⟩ := hrel
    have HA := hide hacc
    have HC := hide hcp
    clear hacc hcp
    by_cases hlt : k < L.length
    · have R1 := HR.out.below HC.out.bl
      have q0 := R1.rd k hlt
      have HE := hide (HR.out.ok _ (List.getElem_mem hlt))
      have HT := hide (allE_take L k hlt)
      have hlI : (k : Int) < (L.length : Int) := by omega
      have HLn : Hid ((allE (L.take k)).length + L[k].l.length ≤ 1000000) := by
        have h1 := allE_len L (k + 1)
        rw [HT.out, List.length_append] at h1
        have h2 : (ens L[k].l).length = L[k].l.length := by simp [ens]
        have := HL.out
        show _ ≤ _
        omega
      clear R1
      generalize L[k] = X at *
      obtain ⟨l, la, lc⟩ := X
      simp only at q0 HE HT HLn
      have HK := hide hk
      go_wp2
      go_loopw [3, 16] (fun v i wi => ∃ (j : Nat) (acc' : List EnL), j ≤ l.length ∧ i = .int .i64 j ∧ ens acc' = allE (L.take k) ++ ens (l.take j) ∧ Cp w wi v acc') (fun _ i _ => l.length - (intOf i).toNat)
      case atStart => exact ⟨0, acc, by omega, rfl, by rw [HA.out]; simp [ens], HC.out⟩
      case round =>
        obtain ⟨j, acc2, hj, rfl, hacc2, hcp2⟩ := hrel
        have HA2 := hide hacc2
        have HC2 := hide hcp2
        clear hacc2 hcp2 HA HC q0
        by_cases hjt : j < l.length
        · obtain ⟨b, off, rfl, hb, hcl⟩ := (HE.out.below HC2.out.bl).some (by omega)
          obtain ⟨q0, q1, q2, q3⟩ := hcl j hjt
          have HX := hide ((HE.out.ok _ (List.getElem_mem hjt)).below HC2.out.bl)
          have HT2 := hide (ens_take l j hjt)
          have hjI : (j : Int) < (l.length : Int) := by omega
          have HN2 : Hid (acc2.length ≤ 1000000) := by
            have h1 := congrArg List.length HA2.out
            rw [List.length_append] at h1
            have h2 : (ens acc2).length = acc2.length := by simp [ens]
            have h3 : (ens (l.take j)).length ≤ l.length := by simp [ens]; omega
            have := HLn.out
            show _ ≤ _
            omega
          have hjb : j < 1000000 := by have := HLn.out; omega
          clear hcl hb
          generalize l[j] = x at *
          obtain ⟨⟨ms, prio, act, args⟩, ma, mc, aa, ac⟩ := x
          simp only at q0 q1 q2 q3 HT2
          have r1 : RdX (wr.alloc (.cells #[.slice ma ms.length mc, .int .i64 prio, .string act, .slice aa args.length ac] 30)) ma ms := HX.out.ms.below (below1 _ _)
          have R1 := hide r1
          have HMZ : Hid (ma = none → mc = 0) := HX.out.mz
          have HAZ : Hid (aa = none → ac = 0) := HX.out.az
          have HMN : Hid (ms.length ≤ 1000000) := HX.out.mn
          have HAN : Hid (args.length ≤ 1000000) := HX.out.an
          have HB := hide (heap_alloc_new wr (.cells #[.slice ma ms.length mc, .int .i64 prio, .string act, .slice aa args.length ac] 30))
          clear r1
          go_wp2_with (at_builtin; first
            | (refine wpList_copyX rfl _ _ rfl rfl ma mc ms rfl R1.out HMZ.out HMN.out ?_; intro a1 c1 w1 g1 g2 g3 g4; obtain ⟨b0, b1, b2, b3, bf⟩ := at4 (heap_below g4 HB.out); have HB1 := hide (heap_set0 (v := .slice a1 ms.length c1) (heap_below g4 HB.out)); have BS1 : Hid (Below wr.heap.size wr (w1.setCell ⟨wr.heap.size, 0, none⟩ (.slice a1 ms.length c1))) := Below.setCell (bstep (below1 _ _) g4) (Nat.le_refl _) _; have RN1 := hide (HX.out.args.below BS1.out); have G1 : Hid (RdX (w1.setCell ⟨wr.heap.size, 0, none⟩ (.slice a1 ms.length c1)) a1 ms) := rdX_setc g1 _ _ (fun q e => by have := (g3 q e).1; rw [World.size_alloc] at this; simp only; omega); have G2 := hide g2; have G3 : Hid (∀ q, a1 = some q → wr.heap.size < q.block ∧ q.block < (w1.setCell ⟨wr.heap.size, 0, none⟩ (.slice a1 ms.length c1)).heap.size) := (fun q e => by have := g3 q e; rw [World.size_alloc] at this; simp only [World.size_setCell]; omega); clear g1 g2 g3 g4)
            | (refine wpList_copyN rfl _ _ rfl rfl aa ac args rfl RN1.out HAZ.out HAN.out ?_; intro a2 c2 w2 h1 h2 h3 h4; obtain ⟨d0, d1, d2, d3, df⟩ := at4 (heap_below h4 HB1.out); have FX := hide (cp_fin HC2.out HX.out BS1.out G1.out G2.out G3.out h1 h2 h3 h4 (lt_heap HB1.out)); clear h1 h2 h3 h4 b0 b1 b2 b3 bf)
            | (refine wpList_appEn rfl _ _ rfl w.heap.size u3 acc2 ⟨⟨ms, prio, act, args⟩, a1, c1, a2, c2⟩ rfl FX.out.own w2.heap.size rfl FX.out.bd HN2.out FX.out.sz ?_; intro v4 w4 k1 k2 k3; have HC4 := hide (FX.out.push k1 k2 k3); clear k1 k2 k3))
          go_roundw
          case rel => exact ⟨j + 1, acc2 ++ [⟨⟨ms, prio, act, args⟩, a1, c1, a2, c2⟩], by omega, by go_num, by rw [HT2.out, ← List.append_assoc, ← HA2.out]; simp [ens], HC4.out⟩
          case measure => simp [intOf]; omega
        · obtain rfl : j = l.length := by omega
          have HA3 := hide (by have := HA2.out; rw [List.take_length] at this; exact this : ens acc2 = allE (L.take k) ++ ens l)
          go_wp2
          go_roundw
          case rel => exact ⟨k + 1, acc2, by omega, by go_num, by rw [HA3.out, HT.out], HC2.out⟩
          case measure => simp [intOf]; omega
    · obtain rfl : k = L.length := by omega
      have HA' := hide (by have := HA.out; rw [List.take_length] at this; exact this : ens acc = allE L)
      go_wp2
      go_ret
      exact ⟨_, acc, rfl, HA'.out, HC.out⟩
end Go.Proofs.YteflnicgohjiiaaGreatDoor
