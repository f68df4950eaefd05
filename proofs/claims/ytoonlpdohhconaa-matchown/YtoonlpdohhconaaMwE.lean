/- MatchOwn, walked for every case. -/
import Derived.Test.YtoonlpdohhconaaMwD
namespace Go.Proofs.Ytoonlpdohhconaa
open Go.RowKit

theorem wpList_appNb {w : World} {ops : Array Oper} {rest : List Oper} {o : Oper} {a : Act} {Q : Exit → Act → World → Prop} (hgd : o.guard = none) (s x : Operand) (ho : o.op = .call { callee := .builtin .append, args := #[s, x], argTypes := #[28, 28] })
    (B : Nat) (v : Value) (n : Nat) (acc : List Nb) (y : Nb) (hs : a.eval s = v) (hown : w.ownsRow B 47 3 v n (flat Nb.cells acc)) (p : Nat) (hx : a.eval x = .slice (some ⟨p, 0, none⟩) 1 1) (hB : w.heap[p]? = some (.cells #[.int .i64 y.w, .int .u64 y.hi, .int .u64 y.lo] 47 (0, 0))) (hl : n ≤ 1000000) (hb : B ≤ w.heap.size)
    (h : ∀ a' c' w', w'.ownsRow B 47 3 (.slice a' (n + 1) c') (n + 1) (flat Nb.cells (acc ++ [y])) → Below B w w' → wpList Try.prog ops Q rest (a.put o.dst (.slice a' (n + 1) c')) w') :
    wpList Try.prog ops Q (o :: rest) a w := by
  obtain ⟨i0, hi0, hz0, hz1, hz2⟩ := info_parts Try.infoNb
  refine wpList_append_own_at w hgd s x 28 ho B 47 i0 _ 3 24 Try.underlying28 hi0 hz0 hz1 hz2 rfl (by decide) v n (flat Nb.cells acc) hs hown ⟨p, 0, none⟩ 1 1 y.cells hx rfl (fun j u hu => ?_) (nb_one y) (by unfold maxLen; omega) (by omega) hb ?_
  · rw [add0, cellA hB j]
    simpa [Nb.cells] using hu
  · intro v' w' h1 h2 _ _
    have e9 : flat Nb.cells (acc ++ [y]) = flat Nb.cells acc ++ y.cells := by rw [flat_append]; simp [flat]
    rw [← e9] at h1
    have hb9 : Below B w w' := (Below.refl _ _).grown h2 hb (fun k e => (hown.lt k e).1)
    rcases own_form h1 with ⟨_, hn0⟩ | ⟨g, cap, rfl, _⟩
    · omega
    · exact h _ _ w' h1 hb9
theorem rdE_one {W : World} {b : Nat} {y : EnL} (hb : EnB W b y) (hy : EnR W y) : RdE W (some ⟨b, 0, none⟩) [y] := by
  refine ⟨.inr ⟨b, 0, rfl, lt_heap hb, fun i hi => ?_⟩, fun x hx => ?_⟩
  · obtain rfl : i = 0 := by simp at hi; omega
    obtain ⟨h0, h1, h2, h3, -⟩ := at4 hb
    exact ⟨h0, h1, h2, h3⟩
  · have : x = y := by simpa using hx
    rw [this]; exact hy
theorem take_vals (ms : List Mx) (k : Nat) (h : k < ms.length) : (ms.take (k + 1)).map (·.v) = (ms.take k).map (·.v) ++ [ms[k].v] := by
  rw [List.take_succ_eq_append_getElem h, List.map_append]; rfl
set_option maxRecDepth 100000 in
set_option maxHeartbeats 8000000 in
theorem matchOwn_any (x : TbL) (la : Option Addr) (lc : Nat) (l : List EnL) (y : EnL) (w : World) (h : CaO w x la lc l y) : Calls Try.prog 5 #[.agg (caCells x la lc l y)] w fun e w' => e = .returned (.bool true) ∧ Below w.heap.size w w' := by
  have HLV : Hid (Pure _ _ _) := lives_any
  have HBY : Hid (∀ W, Below w.heap.size w W → _) := fun W hb => beyond_any x la lc l y W ⟨h.t.below hb, h.es.below hb, h.ln, h.lz, h.e.below hb⟩
  by_cases hbig : 30000 < caSz x l y
  · have ed : decide (30000 < caSz x l y) = true := by simp [hbig]
    rw [ed] at HBY
    clear ed hbig h
    obtain ⟨⟨ks, ws, size⟩, ka, kc, wa, wc⟩ := x
    obtain ⟨⟨ms, prio, act, args⟩, ma, mc, aa, ac⟩ := y
    simp only [caCells] at *
    go_enter Try.func5, Try.ntmps5
    go_wp2_with fail
    refine (HBY.out _ (below1 _ _)).mono ?_
    rintro e w1 ⟨rfl, hb⟩
    go_wp2_with fail
    refine (HLV.out _).mono ?_
    rintro e w2 ⟨rfl, hb2⟩
    go_wp2
    go_ret
    exact ⟨rfl, bstep (bstep (below1 _ _) hb) hb2⟩
  have ed : decide (30000 < caSz x l y) = false := by simp; omega
  rw [ed] at HBY
  have hsz : caSz x l y ≤ 30000 := by omega
  unfold caSz at hsz
  have hE : EnR w y := h.e.small (by omega)
  have hL : RdE w la l := h.es.small (fun z hz => by
    have := szF_mem (ens l) (ens l).length (by unfold esz at hsz; omega) z.e (List.mem_map.2 ⟨z, hz, rfl⟩)
    unfold esz at hsz; omega)
  have hln : l.length ≤ 30000 := by
    have := szF_le (ens l) (ens l).length
    rw [ens_len] at this
    unfold esz at hsz
    rw [ens_len] at hsz
    omega
  have HE := hide hE
  have HL := hide hL
  have HN := hide hln
  have HT := hide h.t
  have hmsn : y.e.ms.length ≤ 30000 := (szE_small (by omega : szE y.e ≤ 30000)).2.1
  have HMS := hide hmsn
  have HIN : Hid (∀ W, Below w.heap.size w W → _) := fun W hb => insert_any x la lc l y W (HT.out.below hb) (HL.out.below hb) (HE.out.below hb) (by have := HN.out; omega)
  clear ed hbig hsz hE hL hln h hmsn
  have HVR : Hid (∀ b ∈ vals13 y.e, NbR b) := fun b hb => by
    obtain ⟨m, hm, rfl⟩ := List.mem_map.1 hb
    exact (HE.out.mr m hm).v
  have HVN : Hid ((vals13 y.e).length = y.e.ms.length) := by show _ = _; simp [vals13]
  obtain ⟨X, hX⟩ : ∃ X, X = x := ⟨_, rfl⟩
  obtain ⟨Y, hY⟩ : ∃ Y, Y = y := ⟨_, rfl⟩
  rw [← hX, ← hY] at HIN HBY
  rw [← hY] at HVR HVN HE HMS
  rw [← hX] at HT
  have HYV : Hid (Y.val = .agg #[.slice y.ma y.e.ms.length y.mc, .int .i64 y.e.prio, .string y.e.act, .slice y.aa y.e.args.length y.ac]) := by rw [hY]; rfl
  have HXV : Hid (X.val = .agg #[.slice x.ka x.t.ks.length x.kc, .slice x.wa x.t.ws.length x.wc, .int .i64 x.t.size]) := by rw [hX]; rfl
  have HCC : Hid (caCells X la lc l Y = caCells x la lc l y) := by show _ = _; rw [hX, hY]
  have HMX : Hid (Y.e.ms = y.e.ms ∧ Y.ma = y.ma) := by rw [hY]; exact ⟨rfl, rfl⟩
  rw [HCC.out] at HBY
  rw [HXV.out, HYV.out] at HIN
  have HEB : Hid (∀ W b, W.heap[b]? = some (.cells #[.slice y.ma y.e.ms.length y.mc, .int .i64 y.e.prio, .string y.e.act, .slice y.aa y.e.args.length y.ac] 30 (0, 0)) → EnB W b Y) := fun W b hb => by rw [hY]; exact hb
  have HFD : Hid (∀ (W : World) (es : List EnL) (fa : Option Addr) (fc : Nat) (ka' : Option Addr) (kc' : Nat), Below w.heap.size w W → RdE W fa es → es.length ≤ 900000 → RdN W ka' (vals13 Y.e) → Calls Try.prog 20 #[.agg #[.slice x.ka x.t.ks.length x.kc, .slice x.wa x.t.ws.length x.wc, .int .i64 x.t.size], .slice fa es.length fc, .slice ka' (vals13 Y.e).length kc'] W fun e w' => e = .returned (.int .i64 (findE X.t (ens es) (vals13 Y.e))) ∧ Below W.heap.size W w') := fun W es fa fc ka' kc' hb hr hn hk => by
    have := find_is X fa fc es.length (vals13 Y.e).length es ka' kc' (vals13 Y.e) W (HT.out.below hb) hr (by omega) rfl hk HVR.out (by have := HVN.out; have := HMS.out; omega) rfl _ rfl
    rw [HXV.out] at this
    exact this
  clear hX hY
  obtain ⟨⟨ks, ws, size⟩, ka, kc, wa, wc⟩ := x
  obtain ⟨⟨ms, prio, act, args⟩, ma, mc, aa, ac⟩ := y
  simp only [caCells] at HBY HIN HEB HFD HMX ⊢
  have HMM := HMS
  by_cases hc : insI X.t (ens l) Y.e = 0
  · have HOW := hide (own_all HE.out.mr (ins_ok hc))
    rw [hc, if_pos rfl] at HIN
    clear hc
    have HRX : Hid (RdX w ma ms) := by have h1 := HE.out.ms; rw [HMX.out.1, HMX.out.2] at h1; exact h1
    have HVM : Hid (vals13 Y.e = ms.map (·.v)) := by show _ = _; unfold vals13; rw [HMX.out.1]
    have HM3 : Hid (ms.length ≤ 30000) := by have h1 := HMS.out; rw [HMX.out.1] at h1; exact h1
    go_enter Try.func5, Try.ntmps5
    go_wp2_with fail
    refine (HBY.out _ (below1 _ _)).mono ?_
    rintro e w1 ⟨rfl, hb⟩
    have B1 := hide (bstep (below1 _ _) hb)
    have H8 := hide (heap_below hb (heap_alloc_new _ _))
    obtain ⟨b0, b1, b2, b3, b4, b5, b6, b7⟩ := at8 H8.out
    clear hb
    go_wp2_with fail
    refine (HIN.out _ B1.out).mono ?_
    rintro e w2 ⟨v, acc, rfl, hacc, hcp⟩
    obtain ⟨va, vcap, rfl, hr, -, -, -⟩ := hcp.rd
    have B2 := hide (bstep B1.out hcp.bl)
    have H82 := hide (heap_below hcp.bl H8.out)
    have HRA := hide hr
    have HAC := hide hacc
    have HAL : Hid (acc.length = l.length + 1) := by have h1 := congrArg List.length hacc; rw [ens_len, List.length_append, ens_len] at h1; exact h1
    clear hcp hr hacc b0 b1 b2 b3 b4 b5 b6 b7 HIN HBY H8
    go_wp2
    go_loopw [5, 6] (fun v5 i wr => ∃ (k : Nat) (ka5 : Option Addr) (kc5 : Nat), k ≤ ms.length ∧ i = .int .i64 k ∧ v5 = .slice ka5 k kc5 ∧ wr.ownsRow w2.heap.size 47 3 (.slice ka5 k kc5) k (flat Nb.cells ((ms.take k).map (·.v))) ∧ Below w2.heap.size w2 wr) (fun _ i _ => ms.length - (intOf i).toNat)
    case atStart => exact ⟨0, none, 0, by omega, rfl, rfl, World.ownsRow_nil _ _ _ _, Below.refl _ _⟩
    case round =>
      obtain ⟨k, ka5, kc5, hk, rfl, rfl, hown, hbr⟩ := hrel
      have HO := hide hown
      have HB := hide hbr
      have H83 := hide (heap_below hbr H82.out)
      obtain ⟨b0, b1, b2, b3, b4, b5, b6, b7⟩ := at8 H83.out
      clear hown hbr
      by_cases hlt : k < ms.length
      · have hlI : (k : Int) < (ms.length : Int) := by omega
        obtain ⟨p, off, rfl, hp, hcl⟩ := (HRX.out.below (bstep B2.out HB.out)).some (by omega)
        obtain ⟨q0, q1, q2, -⟩ := hcl k hlt
        have HTV := hide (take_vals ms k hlt)
        have hkb : k < 30000 := by have := HM3.out; omega
        clear hcl hp
        generalize ms[k].v = z at *
        obtain ⟨zw, zh, zl⟩ := z
        simp only at q0 q1 q2
        have HO2 := hide (own_below HO.out (below1 wr (.cells #[.int .i64 zw, .int .u64 zh, .int .u64 zl] 47)))
        have HNB := hide (heap_alloc_new wr (.cells #[.int .i64 zw, .int .u64 zh, .int .u64 zl] 47))
        have HB2 := hide (bstep HB.out (below1 wr (.cells #[.int .i64 zw, .int .u64 zh, .int .u64 zl] 47)))
        go_wp2_with (at_builtin; refine wpList_appNb rfl _ _ rfl w2.heap.size (.slice ka5 k kc5) k ((ms.take k).map (·.v)) ⟨zw, zh, zl⟩ rfl HO2.out wr.heap.size rfl HNB.out (by omega) HB2.out.size ?_; intro a6 c6 w6 o6 b6'; have HO6 := hide o6; have HB6 := hide (HB2.out.trans b6'); clear o6 b6')
        go_roundw
        case rel => exact ⟨k + 1, a6, c6, by omega, by go_num, rfl, by rw [HTV.out]; exact HO6.out, HB6.out⟩
        case measure => simp [intOf]; omega
      · obtain rfl : k = ms.length := by omega
        have HO7 : Hid (wr.ownsRow w2.heap.size 47 3 (.slice ka5 ms.length kc5) ms.length (flat Nb.cells (vals13 Y.e))) := by have h1 := HO.out; rw [List.take_length] at h1; rw [HVM.out]; exact h1
        have HRN := hide (rdN_own HO7.out).2.1
        have HVL : Hid ((vals13 Y.e).length = ms.length) := by show _ = _; rw [HVM.out, List.length_map]
        have BW := hide (bstep B2.out HB.out)
        have HF1 := hide (HFD.out wr acc va vcap ka5 kc5 BW.out (HRA.out.below HB.out) (by have := HAL.out; have := HN.out; omega) HRN.out)
        rw [HVL.out] at HF1
        have HRG := hide (find_range HOW.out.1 Y.e (es := ens acc) (by rw [HAC.out]; simp) HOW.out.2)
        have HF2 : Hid (∀ W, Below wr.heap.size wr W → ∀ fa, EnB W fa Y → Calls Try.prog 20 #[.agg #[.slice ka ks.length kc, .slice wa ws.length wc, .int .i64 size], .slice (some ⟨fa, 0, none⟩) 1 1, .slice ka5 ms.length kc5] W fun e w' => e = .returned (.int .i64 0) ∧ Below W.heap.size W w') := fun W hb fa hB => by
          have h1 := HFD.out W [Y] (some ⟨fa, 0, none⟩) 1 ka5 kc5 (bstep BW.out hb) (rdE_one hB (HE.out.below (bstep BW.out hb))) (by simp) (HRN.out.below hb)
          rw [HVL.out] at h1
          have h2 : findE X.t (ens [Y]) (vals13 Y.e) = 0 := find_alone HOW.out.1 Y.e HOW.out.2
          rw [h2] at h1
          exact h1
        rw [ens_len] at HRG
        generalize findE X.t (ens acc) (vals13 Y.e) = r at *
        have f1 : (r < 0) = False := by have := HRG.out; simp; omega
        have f2 : (r ≥ (acc.length : Int)) = False := by have := HRG.out; simp; omega
        have f3 : ((acc.length : Int) ≤ r) = False := by have := HRG.out; simp; omega
        clear HO HO7 HFD
        go_wp2_with fail
        refine HF1.out.mono ?_
        rintro e w7 ⟨rfl, hb7⟩
        have H87 := hide (heap_below hb7 H83.out)
        obtain ⟨g0, g1, g2, g3, g4, g5, g6, g7⟩ := at8 H87.out
        have HB7 := hide hb7
        clear hb7 b0 b1 b2 b3 b4 b5 b6 b7
        have HEN := hide (HEB.out _ _ (heap_alloc_new w7 (.cells #[.slice ma ms.length mc, .int .i64 prio, .string act, .slice aa args.length ac] 30)))
        have HB8 := hide (bstep HB7.out (below1 w7 (.cells #[.slice ma ms.length mc, .int .i64 prio, .string act, .slice aa args.length ac] 30)))
        go_wp2_with fail
        refine (HF2.out _ HB8.out _ HEN.out).mono ?_
        rintro e w9 ⟨rfl, hb9⟩
        have B9 := hide (bstep (bstep BW.out HB8.out) hb9)
        clear hb9
        go_wp2_with fail
        refine (HLV.out _).mono ?_
        rintro e w10 ⟨rfl, hb10⟩
        go_wp2
        go_ret
        exact ⟨rfl, bstep B9.out hb10⟩
  · rw [if_neg hc] at HIN
    generalize insI X.t (ens l) Y.e = c at *
    have f1 : (c == 0) = false := by simp [hc]
    have f2 : (c = 0) = False := by simp [hc]
    clear HFD HEB
    go_enter Try.func5, Try.ntmps5
    go_wp2_with fail
    refine (HBY.out _ (below1 _ _)).mono ?_
    rintro e w1 ⟨rfl, hb⟩
    have B1 := hide (bstep (below1 _ _) hb)
    obtain ⟨b0, b1, b2, b3, b4, b5, b6, b7⟩ := at8 (heap_below hb (heap_alloc_new _ _))
    clear hb
    go_wp2_with fail
    refine (HIN.out _ B1.out).mono ?_
    rintro e w2 ⟨v, acc, rfl, -, hcp⟩
    have B2 := hide (bstep B1.out hcp.bl)
    clear hcp
    go_wp2_with fail
    refine (HLV.out _).mono ?_
    rintro e w3 ⟨rfl, hb3⟩
    go_wp2
    go_ret
    exact ⟨rfl, bstep B2.out hb3⟩
end Go.Proofs.Ytoonlpdohhconaa
