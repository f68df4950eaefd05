/- Pieces of the proof: TqLInses, TqNode, TqLNodes, TqAct. -/
import Derived.Test.YtlipcmonlhdgfaaGreatM6
import Derived.Deep.LoopGhost
/- TwinInses. -/
namespace Go.Proofs.YtlipcmonlhdgfaaGreat
open Go.RowKit

theorem info_qInses : (Tryz.prog.info? 59).map (fun i => (i.zero, i.size, i.bytes)) = some (some (.agg #[.int .u8 0, .int .i64 0, .int .i64 0, .int .i64 0, .int .i64 0, .int .i64 0, .slice none 0 0, .int .i64 0, .int .u64 0, .int .u64 0, .int .u8 0]), 11, 104) := by kernel_rfl
theorem len_qInses (x : InL) : x.cells.length = 11 := rfl
theorem one_qInses (g : InL) : ∀ u ∈ g.cells, u.oneCell' = true := fun u hu => by
  simp only [InL.cells, List.mem_cons, List.not_mem_nil, or_false] at hu
  rcases hu with rfl | rfl | rfl | rfl | rfl | rfl | rfl | rfl | rfl | rfl | rfl <;> rfl
set_option maxRecDepth 100000 in
theorem szqInses : ∀ w : World, (sizeOf 59).run Tryz.prog w = .ok 11 w := fun w => by rfl
set_option maxRecDepth 100000 in
theorem agqInses : ∀ w : World, (isAgg 59).run Tryz.prog w = .ok true w := fun w => by rfl
set_option maxRecDepth 100000 in
set_option maxHeartbeats 4000000 in
theorem tqInses_any (a : Option Addr) (cap : Nat) (l : List InL) (w : World) (hr : InsR w a l) :
    Calls Tryz.prog 22 #[.slice a l.length cap] w fun e w' => ∃ g c zs, e = .returned (.slice (some ⟨g, 0, none⟩) l.length c) ∧ zs.map bIn = l.map bIn ∧ iT w' w.heap.size (some ⟨g, 0, none⟩) c zs ∧ Below w.heap.size w w' := by
  have HR := hide hr.rd
  have hl := hr.ln
  have HTW : Hid (∀ k (h : k < l.length) W, Below w.heap.size w W → _) := fun k h W hb => tqIns_any l[k] W ((hr.ok _ (List.getElem_mem h)).below hb)
  obtain ⟨i0, hi0, hz0, hz1, hz2⟩ := info_parts info_qInses
  clear hr
  go_enter Tryz.func22, Tryz.ntmps22
  go_wp2_with (first
    | (refine wpList_make_own _ rfl _ _ 25 rfl w.heap.size 59 i0 _ 11 Tryz.underlying25 hi0 hz0 hz1 .i64 .i64 _ (l.length + 1) rfl rfl (by simp) (by rw [hz2]; omega) (by unfold maxLen; omega) (Nat.le_refl _) ?_; intro w1 O1 G1; have S1 : Hid (Tg 59 11 InL.cells kIn w w1 (.slice (some ⟨w.heap.size, 0, none⟩) 0 (l.length + 1)) []) := ⟨(Below.refl _ w).grown G1 (Nat.le_refl _) (fun k e => by cases e), O1, fun x hx => by simp at hx⟩; clear O1 G1))
  go_loopg [3, 4] l.length (fun gk t i wr => ∃ (k : Nat) (zs : List InL), k + gk = l.length ∧ i = .int .i64 k ∧ zs.length = k ∧ zs.map bIn = (l.take k).map bIn ∧ Tg 59 11 InL.cells kIn w wr t zs)
  case atStart => exact ⟨0, [], by omega, rfl, rfl, rfl, S1.out⟩
  case round =>
    obtain ⟨k, zs, hk, rfl, hzl, hmp, hs⟩ := hrel
    have SS := hide hs
    have HK := hide hk
    have HZL := hide hzl
    have HMP := hide hmp
    clear hs hzl S1 hk hmp
    by_cases hlt : k < l.length
    · have hkI : (k : Int) < (l.length : Int) := by omega
      have dk : decide (k < l.length) = true := by simp; omega
      obtain ⟨b, off, rfl, _, hc⟩ := (HR.out.below SS.out.bl).some (by omega)
      have hc := hc k hlt
      have HT := hide (HTW.out k hlt _ SS.out.bl)
      have HPUT := hide (fun (W7 w8 : World) (v' : Value) (z : InL) => Tg.put (W7 := W7) (w8 := w8) (v' := v') (z := z) kpIn (by simp [tsI]) SS.out)
      have HTK := hide (List.take_succ_eq_append_getElem hlt)
      clear HR HTW
      generalize hx : l[k] = x at *
      clear hx
      have HLN : Hid (x.cells.length = 11) := rfl
      have HC := hide hc
      clear hc
      generalize hcs : x.cells = cs at *
      clear hcs
      go_wp2_with (first
        | (refine wpList_loadW rfl 59 _ rfl b (off + k * 11) cs rfl agqInses (by rw [HLN.out]; exact szqInses) HC.out ?_)
        | (go_at_call 48; refine HT.out.mono ?_; rintro e w1 ⟨z, rfl, hbz, htw, hb⟩; have TZ := hide htw; have BZ := hide hbz; have B1 := hide hb; clear htw hb hbz; obtain ⟨zc, hzc⟩ : ∃ zc, zc = z.cells := ⟨_, rfl⟩; have ZO := hide (one_qInses z); have ZL : Hid (z.cells.length = 11) := rfl; rw [← hzc] at ZO ZL ⊢; have ZC := hide hzc; have zl : zc.length = 11 := ZL.out; clear hzc)
        | (at_builtin; refine wpList_append_own_at _ rfl _ _ 25 rfl w.heap.size 59 i0 _ 11 104 Tryz.underlying25 hi0 hz0 hz1 hz2 rfl (by decide) _ k (flat InL.cells zs) rfl (by have := SS.out.own; rw [HZL.out] at this; exact owR_below (owR_below this B1.out) (below1 _ _)) ⟨w1.heap.size, 0, none⟩ 1 1 zc rfl (by first | rfl | (rw [ZL.out])) (cells_newG _ _ _ _ ZL.out.symm) ZO.out (by unfold maxLen; omega) (by omega) (by have := SS.out.bl.size; have := B1.out.size; simp; omega) ?_; intro v7 w7 O7 G7 _ K7; have SN : Hid (Tg 59 11 InL.cells kIn w w7 v7 (zs ++ [z])) := HPUT.out _ _ _ z (bstep B1.out (below1 w1 _)) ((kpIn).below TZ.out (below1 w1 _)) (by rw [HZL.out, ← ZC.out]; exact O7) G7; clear O7 G7 K7))
      go_roundg (gk - 1)
      case measure => have := HK.out; omega
      case rel => exact ⟨k + 1, zs ++ [z], by have := HK.out; omega, by go_num, by simp; exact HZL.out, by rw [HTK.out, List.map_append, List.map_append, HMP.out, List.map_singleton, List.map_singleton, BZ.out], SN.out⟩
    · obtain rfl : k = l.length := by have := HK.out; omega
      have dk : decide (l.length < l.length) = false := by simp
      have HMQ : Hid (zs.map bIn = l.map bIn) := by show _ = _; rw [HMP.out, List.take_length]
      clear HR HTW HMP
      go_wp2_with (at_builtin; go_loud (refine wpList_append_own_at _ rfl _ _ 25 rfl w.heap.size 59 i0 _ 11 104 Tryz.underlying25 hi0 hz0 hz1 hz2 rfl (by decide) _ l.length (flat InL.cells zs) rfl (by have := SS.out.own; rw [HZL.out] at this; exact own_allocD this _) ⟨wr.heap.size, 0, none⟩ 1 1 [.int .u8 0, .int .i64 77, .int .i64 0, .int .i64 0, .int .i64 0, .int .i64 0, .slice none 0 0, .int .i64 0, .int .u64 0, .int .u64 0, .int .u8 0] rfl rfl (cells_newD _ _ _) (by simp [Value.oneCell']) (by unfold maxLen; omega) (by omega) (by have := SS.out.bl.size; simp; omega) ?_; intro v7 w7 O7 G7 _ K7; obtain ⟨g, c, hv7, hgc, hgB, hgl, hcm⟩ := own_someD O7 (by omega); subst hv7; have SN := hide (Tg.done (s := [.int .u8 0, .int .i64 77, .int .i64 0, .int .i64 0, .int .i64 0, .int .i64 0, .slice none 0 0, .int .i64 0, .int .u64 0, .int .u64 0, .int .u8 0]) kpIn (by simp [tsI]) SS.out (below1 wr _) (by rw [HZL.out]; exact O7) G7 (by rw [HZL.out]; exact hgc) hcm); have hcI : (l.length : Int) ≤ (c : Int) := (by omega); clear O7 G7 K7 hgB hgl hgc hcm))
      go_ret
      exact ⟨g, c, zs, rfl, HMQ.out, SN.out.2, SN.out.1⟩
end Go.Proofs.YtlipcmonlhdgfaaGreat
/- TwinNode. -/
namespace Go.Proofs.YtlipcmonlhdgfaaGreat
open Go.RowKit

set_option maxRecDepth 100000 in
theorem sz_qNode : ∀ w : World, (sizeOf 79).run Tryz.prog w = .ok 5 w := fun w => by rfl
set_option maxRecDepth 100000 in
theorem ag_qNode : ∀ w : World, (isAgg 79).run Tryz.prog w = .ok true w := fun w => by rfl
set_option maxRecDepth 100000 in
set_option maxHeartbeats 16000000 in
theorem tqNode_any (y : NdL) (W : World) (hy : NdR W y) : Calls Tryz.prog 47 #[.agg y.cells.toArray] W fun e w' => ∃ z : NdL, e = .returned (.agg z.cells.toArray) ∧ bNd z = bNd y ∧ kNd w' W.heap.size z ∧ Below W.heap.size W w' := by
  have HC0 : Hid (∀ W', Below W.heap.size W W' → _) := fun W' hb => tqInts_any y.ha y.hc y.hs W' hy.hs.ln (liZ (hy.hs.rd.below hb))
  have HC1 : Hid (∀ W', Below W.heap.size W W' → _) := fun W' hb => tqInses_any y.ca y.cc y.cd W' (hy.cd.below hb)
  have HC2 : Hid (∀ W', Below W.heap.size W W' → _) := fun W' hb => tqJumps_any y.ja y.jc y.js W' hy.js.ln (hy.js.rd.below hb)
  clear hy
  obtain ⟨hs, ha, hc, cd, ca, cc, slot, js, ja, jc, to⟩ := y
  simp only [NdL.cells] at *
  go_enter Tryz.func47, Tryz.ntmps47
  go_wp2
  have hS0 : TwX W 79 5 #[.slice ha hs.length hc, .slice ca cd.length cc, .int .i64 slot, .slice ja js.length jc, .int .i64 to] ((W.alloc (.cells #[.slice ha hs.length hc, .slice ca cd.length cc, .int .i64 slot, .slice ja js.length jc, .int .i64 to] 79)).alloc (.cells #[.slice none 0 0, .slice none 0 0, .int .i64 0, .slice none 0 0, .int .i64 0] 79)).drew := TwX.start rfl
  generalize (W.alloc (.cells #[.slice ha hs.length hc, .slice ca cd.length cc, .int .i64 slot, .slice ja js.length jc, .int .i64 to] 79)).alloc (.cells #[.slice none 0 0, .slice none 0 0, .int .i64 0, .slice none 0 0, .int .i64 0] 79) = w1 at *
  refine wp_region_noPanic ?_
  refine wp_region_held_drew (S := TwX W 79 5 #[.slice ha hs.length hc, .slice ca cd.length cc, .int .i64 slot, .slice ja js.length jc, .int .i64 to]) (by kernel_rfl) hS0 (fun hHeld => ?_)
  clear hS0
  generalize w1.drew = yw at *
  refine wpAnyH_take (i := 0) (v := ?_) rfl (by kernel_rfl) (by kernel_rfl) (by kernel_rfl) (fun _ _ _ h => h) (Or.inl ⟨by kernel_rfl, ?_⟩) hHeld ?_
  rotate_left
  · (intro w hSw; clear hSw; go_simp; try (with_reducible rfl))
  refine wpAnyH_take (i := 1) (v := ?_) rfl (by kernel_rfl) (by kernel_rfl) (by kernel_rfl) (fun _ _ _ h => h) (Or.inl ⟨by kernel_rfl, ?_⟩) hHeld ?_
  rotate_left
  · (intro w hSw; have hc0 := cel_of hSw.2.1 0 rfl; clear hSw; go_simp; try (with_reducible rfl))
  refine wpAnyH_take (i := 3) (v := ?_) rfl (by kernel_rfl) (by kernel_rfl) (by kernel_rfl) (fun _ _ _ h => h) (Or.inl ⟨by kernel_rfl, ?_⟩) hHeld ?_
  rotate_left
  · (intro w hSw; clear hSw; go_simp; try (with_reducible rfl))
  refine wpAnyH_take (i := 4) (v := ?_) rfl (by kernel_rfl) (by kernel_rfl) (by kernel_rfl) (fun _ _ _ h => h) (Or.inl ⟨by kernel_rfl, ?_⟩) hHeld ?_
  rotate_left
  · (intro w hSw; have hc1 := cel_of hSw.2.1 1 rfl; clear hSw; go_simp; try (with_reducible rfl))
  refine wpAnyH_take (i := 6) (v := ?_) rfl (by kernel_rfl) (by kernel_rfl) (by kernel_rfl) (fun _ _ _ h => h) (Or.inl ⟨by kernel_rfl, ?_⟩) hHeld ?_
  rotate_left
  · (intro w hSw; clear hSw; go_simp; try (with_reducible rfl))
  refine wpAnyH_take (i := 7) (v := ?_) rfl (by kernel_rfl) (by kernel_rfl) (by kernel_rfl) (fun _ _ _ h => h) (Or.inl ⟨by kernel_rfl, ?_⟩) hHeld ?_
  rotate_left
  · (intro w hSw; have hc2 := cel_of hSw.2.1 2 rfl; clear hSw; go_simp; try (with_reducible rfl))
  refine wpAnyH_take (i := 8) (v := ?_) rfl (by kernel_rfl) (by kernel_rfl) (by kernel_rfl) (fun _ _ _ h => h) (Or.inl ⟨by kernel_rfl, ?_⟩) hHeld ?_
  rotate_left
  · (intro w hSw; clear hSw; go_simp; try (with_reducible rfl))
  refine wpAnyH_take (i := 9) (v := ?_) rfl (by kernel_rfl) (by kernel_rfl) (by kernel_rfl) (fun _ _ _ h => h) (Or.inl ⟨by kernel_rfl, ?_⟩) hHeld ?_
  rotate_left
  · (intro w hSw; have hc3 := cel_of hSw.2.1 3 rfl; clear hSw; go_simp; try (with_reducible rfl))
  refine wpAnyH_take (i := 11) (v := ?_) rfl (by kernel_rfl) (by kernel_rfl) (by kernel_rfl) (fun _ _ _ h => h) (Or.inl ⟨by kernel_rfl, ?_⟩) hHeld ?_
  rotate_left
  · (intro w hSw; clear hSw; go_simp; try (with_reducible rfl))
  refine wpAnyH_take (i := 12) (v := ?_) rfl (by kernel_rfl) (by kernel_rfl) (by kernel_rfl) (fun _ _ _ h => h) (Or.inl ⟨by kernel_rfl, ?_⟩) hHeld ?_
  rotate_left
  · (intro w hSw; have hc4 := cel_of hSw.2.1 4 rfl; clear hSw; go_simp; try (with_reducible rfl))
  refine wpAnyH_ready (rs := [2]) (by kernel_rfl) (by simp) ?_
  refine AllReadyH.cons rfl (fun K hK => ?_) AllReadyH.nil
  go_simp
  refine (HC0.out _ hHeld.1).mono ?_
  rintro e y0 ⟨g0, d0, rfl, k0, b0⟩
  have K0 : Hid (zT y0 yw.heap.size (some ⟨g0, 0, none⟩) d0 hs) := k0
  have Z0 : Hid (W.heap.size + 2 ≤ yw.heap.size) := hHeld.2.2.2
  replace hHeld := hHeld.next b0
  clear k0 b0
  go_wp2_with fail
  refine hK.out _ _ hHeld (fun _ => ?_)
  clear hK K
  refine wpAnyH_ready (rs := [5]) (by kernel_rfl) (by simp) ?_
  refine AllReadyH.cons rfl (fun K hK => ?_) AllReadyH.nil
  go_simp
  refine (HC1.out _ hHeld.1).mono ?_
  rintro e y1 ⟨g1, d1, x1, rfl, m1, k1, b1⟩
  have M1 := hide m1
  clear m1
  have K1 : Hid (iT y1 y0.heap.size (some ⟨g1, 0, none⟩) d1 x1) := k1
  have Z1 : Hid (W.heap.size + 2 ≤ y0.heap.size) := hHeld.2.2.2
  have K0 := hide (zT.fr (us := tsU) (by simp [tsU]) K0.out (E := fun _ => False) (Fr.ofBelow b1) (fun _ e => e.elim))
  replace hHeld := hHeld.next b1
  clear k1 b1
  go_wp2_with fail
  refine hK.out _ _ hHeld (fun _ => ?_)
  clear hK K
  refine wpAnyH_ready (rs := [10]) (by kernel_rfl) (by simp) ?_
  refine AllReadyH.cons rfl (fun K hK => ?_) AllReadyH.nil
  go_simp
  refine (HC2.out _ hHeld.1).mono ?_
  rintro e y2 ⟨g2, d2, rfl, k2, b2⟩
  have K2 : Hid (jT y2 y1.heap.size (some ⟨g2, 0, none⟩) d2 js) := k2
  have Z2 : Hid (W.heap.size + 2 ≤ y1.heap.size) := hHeld.2.2.2
  have K0 := hide (zT.fr (us := tsU) (by simp [tsU]) K0.out (E := fun _ => False) (Fr.ofBelow b2) (fun _ e => e.elim))
  have K1 := hide (iT.fr (us := tsU) (by simp [tsU]) (by simp [tsU]) K1.out (E := fun _ => False) (Fr.ofBelow b2) (fun _ e => e.elim))
  replace hHeld := hHeld.next b2
  clear k2 b2
  go_wp2_with fail
  refine hK.out _ _ hHeld (fun _ => ?_)
  clear hK K
  refine wpAnyH_take (i := 13) (v := ?_) rfl (by kernel_rfl) (by kernel_rfl) (by kernel_rfl) (fun _ _ _ h => h) (Or.inl ⟨by kernel_rfl, ?_⟩) hHeld ?_
  rotate_left
  · (intro w hSw; clear hSw; go_simp; try (with_reducible rfl))
  obtain ⟨cur, hcur, hcs⟩ := hHeld.2.2.1
  refine wpAnyH_ready (rs := [14]) (by kernel_rfl) (by simp) ?_
  refine AllReadyH.cons rfl (fun K hK => ?_) AllReadyH.nil
  refine step_storeA rfl 79 _ _ rfl (W.heap.size + 1) [.slice (some ⟨g0, 0, none⟩) hs.length d0, .slice (some ⟨g1, 0, none⟩) cd.length d1, .int .i64 slot, .slice (some ⟨g2, 0, none⟩) js.length d2, .int .i64 to] cur 79 rfl rfl (fun w => by rfl) hcur hcs (by simp [Value.oneCell']) ?_
  intro w9 hw9
  have hfr : Fr (· = W.heap.size + 1) y2 w9 := by rw [hw9]; exact fr_all _ _ _ _
  have h9 := hHeld.store (cs := [.slice (some ⟨g0, 0, none⟩) hs.length d0, .slice (some ⟨g1, 0, none⟩) cd.length d1, .int .i64 slot, .slice (some ⟨g2, 0, none⟩) js.length d2, .int .i64 to]) rfl hw9
  refine hK.out _ _ h9.1 (fun _ => ?_)
  clear hK K
  refine wpAnyH_done (by kernel_rfl) ?_ _
  refine NoPanic.normal ?_
  have H1 := hide h9.1.1; have H2 := hide h9.2.1
  have P0 := hide ((zT.fr (us := tsU) (by simp [tsU]) K0.out hfr (fun b e => .inl (by have := Z0.out; omega))).lower (B' := W.heap.size) (by have := Z0.out; omega))
  have P1 := hide ((iT.fr (us := tsU) (by simp [tsU]) (by simp [tsU]) K1.out hfr (fun b e => .inl (by have := Z1.out; omega))).lower (B' := W.heap.size) (by have := Z1.out; omega))
  have L1 : Hid (cd.length = x1.length) := by show _ = _; have := congrArg List.length M1.out; simpa using this.symm
  have P2 := hide ((jT.fr (us := tsU) (by simp [tsU]) K2.out hfr (fun b e => .inl (by have := Z2.out; omega))).lower (B' := W.heap.size) (by have := Z2.out; omega))
  clear hw9 h9 hHeld hcur hcs hfr
  go_wp2
  exact bodyPost_ret (res_cell (cs := [.slice (some ⟨g0, 0, none⟩) hs.length d0, .slice (some ⟨g1, 0, none⟩) cd.length d1, .int .i64 slot, .slice (some ⟨g2, 0, none⟩) js.length d2, .int .i64 to]) (e := 79) Tryz.results47 rfl ag_qNode sz_qNode H2.out) rfl ⟨⟨hs, some ⟨g0, 0, none⟩, d0, x1, some ⟨g1, 0, none⟩, d1, slot, js, some ⟨g2, 0, none⟩, d2, to⟩, by simp only [L1.out], by simp only [bNd, M1.out], ⟨P0.out, P1.out, P2.out⟩, H1.out⟩
end Go.Proofs.YtlipcmonlhdgfaaGreat
/- TwinNodes. -/
namespace Go.Proofs.YtlipcmonlhdgfaaGreat
open Go.RowKit

theorem info_qNodes : (Tryz.prog.info? 79).map (fun i => (i.zero, i.size, i.bytes)) = some (some (.agg #[.slice none 0 0, .slice none 0 0, .int .i64 0, .slice none 0 0, .int .i64 0]), 5, 88) := by kernel_rfl
theorem len_qNodes (x : NdL) : x.cells.length = 5 := rfl
theorem one_qNodes (g : NdL) : ∀ u ∈ g.cells, u.oneCell' = true := fun u hu => by
  simp only [NdL.cells, List.mem_cons, List.not_mem_nil, or_false] at hu
  rcases hu with rfl | rfl | rfl | rfl | rfl <;> rfl
set_option maxRecDepth 100000 in
theorem szqNodes : ∀ w : World, (sizeOf 79).run Tryz.prog w = .ok 5 w := fun w => by rfl
set_option maxRecDepth 100000 in
theorem agqNodes : ∀ w : World, (isAgg 79).run Tryz.prog w = .ok true w := fun w => by rfl
set_option maxRecDepth 100000 in
set_option maxHeartbeats 4000000 in
theorem tqNodes_any (a : Option Addr) (cap : Nat) (l : List NdL) (w : World) (hr : NdsR w a l) :
    Calls Tryz.prog 21 #[.slice a l.length cap] w fun e w' => ∃ g c zs, e = .returned (.slice (some ⟨g, 0, none⟩) l.length c) ∧ zs.map bNd = l.map bNd ∧ dT w' w.heap.size (some ⟨g, 0, none⟩) c zs ∧ Below w.heap.size w w' := by
  have HR := hide hr.rd
  have hl := hr.ln
  have HTW : Hid (∀ k (h : k < l.length) W, Below w.heap.size w W → _) := fun k h W hb => tqNode_any l[k] W ((hr.ok _ (List.getElem_mem h)).below hb)
  obtain ⟨i0, hi0, hz0, hz1, hz2⟩ := info_parts info_qNodes
  clear hr
  go_enter Tryz.func21, Tryz.ntmps21
  go_wp2_with (first
    | (refine wpList_make_own _ rfl _ _ 24 rfl w.heap.size 79 i0 _ 5 Tryz.underlying24 hi0 hz0 hz1 .i64 .i64 _ (l.length + 1) rfl rfl (by simp) (by rw [hz2]; omega) (by unfold maxLen; omega) (Nat.le_refl _) ?_; intro w1 O1 G1; have S1 : Hid (Tg 79 5 NdL.cells kNd w w1 (.slice (some ⟨w.heap.size, 0, none⟩) 0 (l.length + 1)) []) := ⟨(Below.refl _ w).grown G1 (Nat.le_refl _) (fun k e => by cases e), O1, fun x hx => by simp at hx⟩; clear O1 G1))
  go_loopg [3, 4] l.length (fun gk t i wr => ∃ (k : Nat) (zs : List NdL), k + gk = l.length ∧ i = .int .i64 k ∧ zs.length = k ∧ zs.map bNd = (l.take k).map bNd ∧ Tg 79 5 NdL.cells kNd w wr t zs)
  case atStart => exact ⟨0, [], by omega, rfl, rfl, rfl, S1.out⟩
  case round =>
    obtain ⟨k, zs, hk, rfl, hzl, hmp, hs⟩ := hrel
    have SS := hide hs
    have HK := hide hk
    have HZL := hide hzl
    have HMP := hide hmp
    clear hs hzl S1 hk hmp
    by_cases hlt : k < l.length
    · have hkI : (k : Int) < (l.length : Int) := by omega
      have dk : decide (k < l.length) = true := by simp; omega
      obtain ⟨b, off, rfl, _, hc⟩ := (HR.out.below SS.out.bl).some (by omega)
      have hc := hc k hlt
      have HT := hide (HTW.out k hlt _ SS.out.bl)
      have HPUT := hide (fun (W7 w8 : World) (v' : Value) (z : NdL) => Tg.put (W7 := W7) (w8 := w8) (v' := v') (z := z) kpNd (by simp [tsA]) SS.out)
      have HTK := hide (List.take_succ_eq_append_getElem hlt)
      clear HR HTW
      generalize hx : l[k] = x at *
      clear hx
      have HLN : Hid (x.cells.length = 5) := rfl
      have HC := hide hc
      clear hc
      generalize hcs : x.cells = cs at *
      clear hcs
      go_wp2_with (first
        | (refine wpList_loadW rfl 79 _ rfl b (off + k * 5) cs rfl agqNodes (by rw [HLN.out]; exact szqNodes) HC.out ?_)
        | (go_at_call 47; refine HT.out.mono ?_; rintro e w1 ⟨z, rfl, hbz, htw, hb⟩; have TZ := hide htw; have BZ := hide hbz; have B1 := hide hb; clear htw hb hbz; obtain ⟨zc, hzc⟩ : ∃ zc, zc = z.cells := ⟨_, rfl⟩; have ZO := hide (one_qNodes z); have ZL : Hid (z.cells.length = 5) := rfl; rw [← hzc] at ZO ZL ⊢; have ZC := hide hzc; have zl : zc.length = 5 := ZL.out; clear hzc)
        | (at_builtin; refine wpList_append_own_at _ rfl _ _ 24 rfl w.heap.size 79 i0 _ 5 88 Tryz.underlying24 hi0 hz0 hz1 hz2 rfl (by decide) _ k (flat NdL.cells zs) rfl (by have := SS.out.own; rw [HZL.out] at this; exact owR_below (owR_below this B1.out) (below1 _ _)) ⟨w1.heap.size, 0, none⟩ 1 1 zc rfl (by first | rfl | (rw [ZL.out])) (cells_newG _ _ _ _ ZL.out.symm) ZO.out (by unfold maxLen; omega) (by omega) (by have := SS.out.bl.size; have := B1.out.size; simp; omega) ?_; intro v7 w7 O7 G7 _ K7; have SN : Hid (Tg 79 5 NdL.cells kNd w w7 v7 (zs ++ [z])) := HPUT.out _ _ _ z (bstep B1.out (below1 w1 _)) ((kpNd).below TZ.out (below1 w1 _)) (by rw [HZL.out, ← ZC.out]; exact O7) G7; clear O7 G7 K7))
      go_roundg (gk - 1)
      case measure => have := HK.out; omega
      case rel => exact ⟨k + 1, zs ++ [z], by have := HK.out; omega, by go_num, by simp; exact HZL.out, by rw [HTK.out, List.map_append, List.map_append, HMP.out, List.map_singleton, List.map_singleton, BZ.out], SN.out⟩
    · obtain rfl : k = l.length := by have := HK.out; omega
      have dk : decide (l.length < l.length) = false := by simp
      have HMQ : Hid (zs.map bNd = l.map bNd) := by show _ = _; rw [HMP.out, List.take_length]
      clear HR HTW HMP
      go_wp2_with (at_builtin; go_loud (refine wpList_append_own_at _ rfl _ _ 24 rfl w.heap.size 79 i0 _ 5 88 Tryz.underlying24 hi0 hz0 hz1 hz2 rfl (by decide) _ l.length (flat NdL.cells zs) rfl (by have := SS.out.own; rw [HZL.out] at this; exact own_allocD this _) ⟨wr.heap.size, 0, none⟩ 1 1 [.slice none 0 0, .slice none 0 0, .int .i64 77, .slice none 0 0, .int .i64 0] rfl rfl (cells_newD _ _ _) (by simp [Value.oneCell']) (by unfold maxLen; omega) (by omega) (by have := SS.out.bl.size; simp; omega) ?_; intro v7 w7 O7 G7 _ K7; obtain ⟨g, c, hv7, hgc, hgB, hgl, hcm⟩ := own_someD O7 (by omega); subst hv7; have SN := hide (Tg.done (s := [.slice none 0 0, .slice none 0 0, .int .i64 77, .slice none 0 0, .int .i64 0]) kpNd (by simp [tsA]) SS.out (below1 wr _) (by rw [HZL.out]; exact O7) G7 (by rw [HZL.out]; exact hgc) hcm); have hcI : (l.length : Int) ≤ (c : Int) := (by omega); clear O7 G7 K7 hgB hgl hgc hcm))
      go_ret
      exact ⟨g, c, zs, rfl, HMQ.out, ⟨_, SN.out.2⟩, SN.out.1⟩
end Go.Proofs.YtlipcmonlhdgfaaGreat
/- TwinAct. -/
namespace Go.Proofs.YtlipcmonlhdgfaaGreat
open Go.RowKit

set_option maxRecDepth 100000 in
theorem sz_qAct : ∀ w : World, (sizeOf 43).run Tryz.prog w = .ok 3 w := fun w => by rfl
set_option maxRecDepth 100000 in
theorem ag_qAct : ∀ w : World, (isAgg 43).run Tryz.prog w = .ok true w := fun w => by rfl
set_option maxRecDepth 100000 in
set_option maxHeartbeats 16000000 in
theorem tqAct_any (y : AcL) (W : World) (hy : AcR W y) : Calls Tryz.prog 49 #[.agg y.cells.toArray] W fun e w' => ∃ z : AcL, e = .returned (.agg z.cells.toArray) ∧ bAc z = bAc y ∧ kAc w' W.heap.size z ∧ Below W.heap.size W w' := by
  have HC0 : Hid (∀ W', Below W.heap.size W W' → _) := fun W' hb => tqInts_any y.pa y.pc y.ps W' hy.ps.ln (liZ (hy.ps.rd.below hb))
  have HC1 : Hid (∀ W', Below W.heap.size W W' → _) := fun W' hb => tqInses_any y.ca y.cc y.cd W' (hy.cd.below hb)
  clear hy
  obtain ⟨name, ps, pa, pc, cd, ca, cc⟩ := y
  simp only [AcL.cells] at *
  go_enter Tryz.func49, Tryz.ntmps49
  go_wp2
  have hS0 : TwX W 43 3 #[.string name, .slice pa ps.length pc, .slice ca cd.length cc] ((W.alloc (.cells #[.string name, .slice pa ps.length pc, .slice ca cd.length cc] 43)).alloc (.cells #[.string ⟨#[]⟩, .slice none 0 0, .slice none 0 0] 43)).drew := TwX.start rfl
  generalize (W.alloc (.cells #[.string name, .slice pa ps.length pc, .slice ca cd.length cc] 43)).alloc (.cells #[.string ⟨#[]⟩, .slice none 0 0, .slice none 0 0] 43) = w1 at *
  refine wp_region_noPanic ?_
  refine wp_region_held_drew (S := TwX W 43 3 #[.string name, .slice pa ps.length pc, .slice ca cd.length cc]) (by kernel_rfl) hS0 (fun hHeld => ?_)
  clear hS0
  generalize w1.drew = yw at *
  refine wpAnyH_take (i := 0) (v := ?_) rfl (by kernel_rfl) (by kernel_rfl) (by kernel_rfl) (fun _ _ _ h => h) (Or.inl ⟨by kernel_rfl, ?_⟩) hHeld ?_
  rotate_left
  · (intro w hSw; clear hSw; go_simp; try (with_reducible rfl))
  refine wpAnyH_take (i := 1) (v := ?_) rfl (by kernel_rfl) (by kernel_rfl) (by kernel_rfl) (fun _ _ _ h => h) (Or.inl ⟨by kernel_rfl, ?_⟩) hHeld ?_
  rotate_left
  · (intro w hSw; have hc0 := cel_of hSw.2.1 0 rfl; clear hSw; go_simp; try (with_reducible rfl))
  refine wpAnyH_take (i := 2) (v := ?_) rfl (by kernel_rfl) (by kernel_rfl) (by kernel_rfl) (fun _ _ _ h => h) (Or.inl ⟨by kernel_rfl, ?_⟩) hHeld ?_
  rotate_left
  · (intro w hSw; clear hSw; go_simp; try (with_reducible rfl))
  refine wpAnyH_take (i := 3) (v := ?_) rfl (by kernel_rfl) (by kernel_rfl) (by kernel_rfl) (fun _ _ _ h => h) (Or.inl ⟨by kernel_rfl, ?_⟩) hHeld ?_
  rotate_left
  · (intro w hSw; have hc1 := cel_of hSw.2.1 1 rfl; clear hSw; go_simp; try (with_reducible rfl))
  refine wpAnyH_take (i := 5) (v := ?_) rfl (by kernel_rfl) (by kernel_rfl) (by kernel_rfl) (fun _ _ _ h => h) (Or.inl ⟨by kernel_rfl, ?_⟩) hHeld ?_
  rotate_left
  · (intro w hSw; clear hSw; go_simp; try (with_reducible rfl))
  refine wpAnyH_take (i := 6) (v := ?_) rfl (by kernel_rfl) (by kernel_rfl) (by kernel_rfl) (fun _ _ _ h => h) (Or.inl ⟨by kernel_rfl, ?_⟩) hHeld ?_
  rotate_left
  · (intro w hSw; have hc2 := cel_of hSw.2.1 2 rfl; clear hSw; go_simp; try (with_reducible rfl))
  refine wpAnyH_ready (rs := [4]) (by kernel_rfl) (by simp) ?_
  refine AllReadyH.cons rfl (fun K hK => ?_) AllReadyH.nil
  go_simp
  refine (HC0.out _ hHeld.1).mono ?_
  rintro e y0 ⟨g0, d0, rfl, k0, b0⟩
  have K0 : Hid (zT y0 yw.heap.size (some ⟨g0, 0, none⟩) d0 ps) := k0
  have Z0 : Hid (W.heap.size + 2 ≤ yw.heap.size) := hHeld.2.2.2
  replace hHeld := hHeld.next b0
  clear k0 b0
  go_wp2_with fail
  refine hK.out _ _ hHeld (fun _ => ?_)
  clear hK K
  refine wpAnyH_ready (rs := [7]) (by kernel_rfl) (by simp) ?_
  refine AllReadyH.cons rfl (fun K hK => ?_) AllReadyH.nil
  go_simp
  refine (HC1.out _ hHeld.1).mono ?_
  rintro e y1 ⟨g1, d1, x1, rfl, m1, k1, b1⟩
  have M1 := hide m1
  clear m1
  have K1 : Hid (iT y1 y0.heap.size (some ⟨g1, 0, none⟩) d1 x1) := k1
  have Z1 : Hid (W.heap.size + 2 ≤ y0.heap.size) := hHeld.2.2.2
  have K0 := hide (zT.fr (us := tsU) (by simp [tsU]) K0.out (E := fun _ => False) (Fr.ofBelow b1) (fun _ e => e.elim))
  replace hHeld := hHeld.next b1
  clear k1 b1
  go_wp2_with fail
  refine hK.out _ _ hHeld (fun _ => ?_)
  clear hK K
  refine wpAnyH_take (i := 8) (v := ?_) rfl (by kernel_rfl) (by kernel_rfl) (by kernel_rfl) (fun _ _ _ h => h) (Or.inl ⟨by kernel_rfl, ?_⟩) hHeld ?_
  rotate_left
  · (intro w hSw; clear hSw; go_simp; try (with_reducible rfl))
  obtain ⟨cur, hcur, hcs⟩ := hHeld.2.2.1
  refine wpAnyH_ready (rs := [9]) (by kernel_rfl) (by simp) ?_
  refine AllReadyH.cons rfl (fun K hK => ?_) AllReadyH.nil
  refine step_storeA rfl 43 _ _ rfl (W.heap.size + 1) [.string name, .slice (some ⟨g0, 0, none⟩) ps.length d0, .slice (some ⟨g1, 0, none⟩) cd.length d1] cur 43 rfl rfl (fun w => by rfl) hcur hcs (by simp [Value.oneCell']) ?_
  intro w9 hw9
  have hfr : Fr (· = W.heap.size + 1) y1 w9 := by rw [hw9]; exact fr_all _ _ _ _
  have h9 := hHeld.store (cs := [.string name, .slice (some ⟨g0, 0, none⟩) ps.length d0, .slice (some ⟨g1, 0, none⟩) cd.length d1]) rfl hw9
  refine hK.out _ _ h9.1 (fun _ => ?_)
  clear hK K
  refine wpAnyH_done (by kernel_rfl) ?_ _
  refine NoPanic.normal ?_
  have H1 := hide h9.1.1; have H2 := hide h9.2.1
  have P0 := hide ((zT.fr (us := tsU) (by simp [tsU]) K0.out hfr (fun b e => .inl (by have := Z0.out; omega))).lower (B' := W.heap.size) (by have := Z0.out; omega))
  have P1 := hide ((iT.fr (us := tsU) (by simp [tsU]) (by simp [tsU]) K1.out hfr (fun b e => .inl (by have := Z1.out; omega))).lower (B' := W.heap.size) (by have := Z1.out; omega))
  have L1 : Hid (cd.length = x1.length) := by show _ = _; have := congrArg List.length M1.out; simpa using this.symm
  clear hw9 h9 hHeld hcur hcs hfr
  go_wp2
  exact bodyPost_ret (res_cell (cs := [.string name, .slice (some ⟨g0, 0, none⟩) ps.length d0, .slice (some ⟨g1, 0, none⟩) cd.length d1]) (e := 43) Tryz.results49 rfl ag_qAct sz_qAct H2.out) rfl ⟨⟨name, ps, some ⟨g0, 0, none⟩, d0, x1, some ⟨g1, 0, none⟩, d1⟩, by simp only [L1.out], by simp only [bAc, M1.out], ⟨P0.out, P1.out⟩, H1.out⟩
end Go.Proofs.YtlipcmonlhdgfaaGreat
