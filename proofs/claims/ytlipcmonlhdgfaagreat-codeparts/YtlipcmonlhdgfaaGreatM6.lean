/- Pieces of the proof: TqFInts, TqHead, TqLHeads, TqFJumps, TqIns. -/
import Derived.Test.YtlipcmonlhdgfaaGreatM5
import Derived.Deep.LoopGhost
/- TwinInts, as a twin's list. -/
namespace Go.Proofs.YtlipcmonlhdgfaaGreat
open Go.RowKit

theorem info_qInts : (Tryz.prog.info? 3).map (fun i => (i.zero, i.size, i.bytes)) = some (some (.int .i64 0), 1, 8) := by kernel_rfl
set_option maxRecDepth 100000 in
set_option maxHeartbeats 4000000 in
theorem tqInts_any (a : Option Addr) (cap : Nat) (L : List Int) (w : World) (hl : L.length ≤ 1000000) (hr : LiR w 1 intC a L) :
    Calls Tryz.prog 19 #[.slice a L.length cap] w fun e w' => ∃ g c, e = .returned (.slice (some ⟨g, 0, none⟩) L.length c) ∧ Tl 3 1 intC (fun _ _ _ => True) [.int .i64 77] w' w.heap.size (some ⟨g, 0, none⟩) c L ∧ Below w.heap.size w w' := by
  have HR := hide hr
  obtain ⟨i0, hi0, hz0, hz1, hz2⟩ := info_parts info_qInts
  clear hr
  go_enter Tryz.func19, Tryz.ntmps19
  go_wp2_with (first
    | (refine wpList_make_own _ rfl _ _ 22 rfl w.heap.size 3 i0 (.int .i64 0) 1 Tryz.underlying22 hi0 hz0 hz1 .i64 .i64 _ (L.length + 1) rfl rfl (by simp) (by rw [hz2]; omega) (by unfold maxLen; omega) (Nat.le_refl _) ?_; intro w1 O1 G1; have S1 : Hid (Tg 3 1 intC (fun _ _ _ => True) w w1 (.slice (some ⟨w.heap.size, 0, none⟩) 0 (L.length + 1)) (L.take 0)) := ⟨(Below.refl _ w).grown G1 (Nat.le_refl _) (fun k e => by cases e), O1, fun x hx => trivial⟩; clear O1 G1))
  go_loopw [3, 4] (fun t i wr => ∃ k : Nat, k ≤ L.length ∧ i = .int .i64 k ∧ Tg 3 1 intC (fun _ _ _ => True) w wr t (L.take k)) (fun _ i _ => L.length - (intOf i).toNat)
  case atStart => exact ⟨0, by omega, rfl, S1.out⟩
  case round =>
    obtain ⟨k, hk, rfl, hs⟩ := hrel
    have SS := hide hs
    have LK : Hid ((L.take k).length = k) := by show _ = _; rw [List.length_take]; omega
    clear hs S1
    by_cases hlt : k < L.length
    · obtain ⟨b, off, rfl, _, hc⟩ := (HR.out.below SS.out.bl).some (by omega)
      obtain ⟨x, hx⟩ : ∃ x, L[k] = x := ⟨_, rfl⟩
      have c0 := hc k hlt 0 (.int .i64 x) (by rw [hx]; rfl)
      rw [Nat.add_zero] at c0
      rw [Nat.mul_one] at c0
      have hkI : (k : Int) < (L.length : Int) := by omega
      have HT : Hid (L.take (k + 1) = L.take k ++ [x]) := by show _ = _; rw [List.take_succ_eq_append_getElem hlt, hx]
      clear hc hx HR
      go_wp2_with (at_builtin; refine wpList_append_own_at _ rfl _ _ 22 rfl w.heap.size 3 i0 (.int .i64 0) 1 8 Tryz.underlying22 hi0 hz0 hz1 hz2 rfl (by decide) _ k (flat intC (L.take k)) rfl (own_allocD (by have := SS.out.own; rw [LK.out] at this; exact this) _) ⟨wr.heap.size, 0, none⟩ 1 1 [.int .i64 x] rfl rfl (cells_newD _ _ _) (by simp [Value.oneCell']) (by unfold maxLen; omega) (by omega) (by have := SS.out.bl.size; simp; omega) ?_; intro v7 w7 O7 G7 _ K7; have SN : Hid (Tg 3 1 intC (fun _ _ _ => True) w w7 v7 (L.take (k + 1))) := (by rw [HT.out]; exact Tg.put Kp.none (by simp) SS.out (below1 wr _) trivial (by rw [LK.out]; exact O7) G7); clear O7 G7 K7)
      go_roundw
      case rel => exact ⟨k + 1, by omega, by go_num, SN.out⟩
      case measure => simp [intOf]; omega
    · obtain rfl : k = L.length := by omega
      have HX : Hid (L.take L.length = L) := List.take_length ..
      have SF := SS.out
      rw [HX.out] at SF
      have SE := hide SF
      clear SF SS HR LK
      go_wp2_with (at_builtin; refine wpList_append_own_at _ rfl _ _ 22 rfl w.heap.size 3 i0 (.int .i64 0) 1 8 Tryz.underlying22 hi0 hz0 hz1 hz2 rfl (by decide) _ L.length (flat intC L) rfl (own_allocD SE.out.own _) ⟨wr.heap.size, 0, none⟩ 1 1 [.int .i64 77] rfl rfl (cells_newD _ _ _) (by simp [Value.oneCell']) (by unfold maxLen; omega) (by omega) (by have := SE.out.bl.size; simp; omega) ?_; intro v7 w7 O7 G7 _ K7; obtain ⟨g, c, rfl, hgc, hgB, hgl, hcm⟩ := own_someD O7 (by omega); have SN := hide (Tg.done Kp.none (by simp) SE.out (below1 wr _) O7 G7 hgc hcm); have hcI : (L.length : Int) ≤ (c : Int) := (by omega); clear O7 G7 K7)
      go_ret
      exact ⟨g, c, rfl, SN.out.2, SN.out.1⟩
end Go.Proofs.YtlipcmonlhdgfaaGreat
/- TwinHead. -/
namespace Go.Proofs.YtlipcmonlhdgfaaGreat
open Go.RowKit

theorem sz_qHead : ∀ w : World, (sizeOf 91).run Tryz.prog w = .ok 1 w := fun w => by kernel_rfl
theorem ag_qHead : ∀ w : World, (isAgg 91).run Tryz.prog w = .ok true w := fun w => by kernel_rfl
theorem tqHead_any (y : HdL) (W : World) (hy : IsR W y.a y.l) : Calls Tryz.prog 46 #[.agg y.cells.toArray] W fun e w' => ∃ z : HdL, e = .returned (.agg z.cells.toArray) ∧ bHd z = bHd y ∧ kHd w' W.heap.size z ∧ Below W.heap.size W w' := by
  have HC0 : Hid (∀ W', Below W.heap.size W W' → _) := fun W' hb => tqInts_any y.a y.c y.l W' hy.ln (liZ (hy.rd.below hb))
  clear hy
  obtain ⟨l, ya, yc⟩ := y
  simp only [HdL.cells] at *
  go_enter Tryz.func46, Tryz.ntmps46
  go_wp2_with fail
  refine (HC0.out _ (below2 _ _ _)).mono ?_
  rintro e w1 ⟨g, c, rfl, hk, hb⟩
  have h2 := heap_below hb (heap_snd W (.cells #[.slice ya l.length yc] 91) #[.slice none 0 0] 91)
  have hsz : (W.alloc (.cells #[.slice ya l.length yc] 91)).heap.size + 1 ≤ w1.heap.size := by have := hb.size; simp at this ⊢; omega
  have p0 : w1.cell? ⟨W.heap.size + 1, 0, none⟩ = some (.slice none 0 0) := cellA h2 0
  have s0 : w1.frozen? ⟨W.heap.size + 1, 0, none⟩ = false := softA h2 0
  have BB : Hid (Below W.heap.size W w1) := bstep (below2 _ _ _) hb
  have TZ : Hid (kHd (w1.setCell ⟨W.heap.size + 1, 0, none⟩ (.slice (some ⟨g, 0, none⟩) l.length c)) W.heap.size ⟨l, some ⟨g, 0, none⟩, c⟩) := by
    refine (zT.fr (us := tsI) (by simp [tsI]) hk (E := fun b => b = W.heap.size + 1) ((Fr.refl _ w1).set _ _ rfl) (fun b e => .inl ?_)).lower (by simp; omega)
    simp; omega
  have H2 : Hid ((w1.setCell ⟨W.heap.size + 1, 0, none⟩ (.slice (some ⟨g, 0, none⟩) l.length c)).heap[W.heap.size + 1]? = some (.cells ([.slice (some ⟨g, 0, none⟩) l.length c] : List Value).toArray 91 (0, 0))) := heap_setCell_same h2 _
  have q0 : (w1.setCell ⟨W.heap.size + 1, 0, none⟩ (.slice (some ⟨g, 0, none⟩) l.length c)).cell? ⟨W.heap.size + 1, 0, none⟩ = some (.slice (some ⟨g, 0, none⟩) l.length c) := World.cell?_setCell_same' _ _ _ (by rw [p0]; rfl)
  have B2 : Hid (Below W.heap.size W (w1.setCell ⟨W.heap.size + 1, 0, none⟩ (.slice (some ⟨g, 0, none⟩) l.length c))) := ((Fr.ofBelow (E := fun b => b = W.heap.size + 1) BB.out).set _ _ rfl).below (fun b e => by omega) (Nat.le_refl _)
  clear hk hb h2 hsz
  go_wp2
  exact bodyPost_ret (res_cell (cs := [.slice (some ⟨g, 0, none⟩) l.length c]) (e := 91) Tryz.results46 rfl ag_qHead sz_qHead H2.out) rfl ⟨⟨l, some ⟨g, 0, none⟩, c⟩, rfl, rfl, TZ.out, B2.out⟩
end Go.Proofs.YtlipcmonlhdgfaaGreat
/- TwinHeads. -/
namespace Go.Proofs.YtlipcmonlhdgfaaGreat
open Go.RowKit

theorem info_qHeads : (Tryz.prog.info? 91).map (fun i => (i.zero, i.size, i.bytes)) = some (some (.agg #[.slice none 0 0]), 1, 24) := by kernel_rfl
theorem len_qHeads (x : HdL) : x.cells.length = 1 := rfl
theorem one_qHeads (g : HdL) : ∀ u ∈ g.cells, u.oneCell' = true := fun u hu => by
  simp only [HdL.cells, List.mem_cons, List.not_mem_nil, or_false] at hu
  rcases hu with rfl <;> rfl
set_option maxRecDepth 100000 in
theorem szqHeads : ∀ w : World, (sizeOf 91).run Tryz.prog w = .ok 1 w := fun w => by rfl
set_option maxRecDepth 100000 in
theorem agqHeads : ∀ w : World, (isAgg 91).run Tryz.prog w = .ok true w := fun w => by rfl
set_option maxRecDepth 100000 in
set_option maxHeartbeats 4000000 in
theorem tqHeads_any (a : Option Addr) (cap : Nat) (l : List HdL) (w : World) (hr : HdsR w a l) :
    Calls Tryz.prog 20 #[.slice a l.length cap] w fun e w' => ∃ g c zs, e = .returned (.slice (some ⟨g, 0, none⟩) l.length c) ∧ zs.map bHd = l.map bHd ∧ hT w' w.heap.size (some ⟨g, 0, none⟩) c zs ∧ Below w.heap.size w w' := by
  have HR := hide hr.rd
  have hl := hr.ln
  have HTW : Hid (∀ k (h : k < l.length) W, Below w.heap.size w W → _) := fun k h W hb => tqHead_any l[k] W ((hr.ok _ (List.getElem_mem h)).below hb)
  obtain ⟨i0, hi0, hz0, hz1, hz2⟩ := info_parts info_qHeads
  clear hr
  go_enter Tryz.func20, Tryz.ntmps20
  go_wp2_with (first
    | (refine wpList_make_own _ rfl _ _ 23 rfl w.heap.size 91 i0 _ 1 Tryz.underlying23 hi0 hz0 hz1 .i64 .i64 _ (l.length + 1) rfl rfl (by simp) (by rw [hz2]; omega) (by unfold maxLen; omega) (Nat.le_refl _) ?_; intro w1 O1 G1; have S1 : Hid (Tg 91 1 HdL.cells kHd w w1 (.slice (some ⟨w.heap.size, 0, none⟩) 0 (l.length + 1)) []) := ⟨(Below.refl _ w).grown G1 (Nat.le_refl _) (fun k e => by cases e), O1, fun x hx => by simp at hx⟩; clear O1 G1))
  go_loopg [3, 4] l.length (fun gk t i wr => ∃ (k : Nat) (zs : List HdL), k + gk = l.length ∧ i = .int .i64 k ∧ zs.length = k ∧ zs.map bHd = (l.take k).map bHd ∧ Tg 91 1 HdL.cells kHd w wr t zs)
  case atStart => exact ⟨0, [], by omega, rfl, rfl, rfl, S1.out⟩
  case round =>
    obtain ⟨k, zs, hk, rfl, hzl, hmp, hs⟩ := hrel
    have SS := hide hs
    have HK := hide hk
    have HZL := hide hzl
    have HMP := hide hmp
    clear hs hzl S1 hk hmp
    by_cases hlt : k < l.length
    · have hkI : (k : Int) < (l.length : Int) := by omega
      have dk : decide (k < l.length) = true := by simp; omega
      obtain ⟨b, off, rfl, _, hc⟩ := (HR.out.below SS.out.bl).some (by omega)
      have hc := hc k hlt
      simp only [Nat.mul_one] at hc
      have HT := hide (HTW.out k hlt _ SS.out.bl)
      have HPUT := hide (fun (W7 w8 : World) (v' : Value) (z : HdL) => Tg.put (W7 := W7) (w8 := w8) (v' := v') (z := z) kpHd (by simp [tsI]) SS.out)
      have HTK := hide (List.take_succ_eq_append_getElem hlt)
      clear HR HTW
      generalize hx : l[k] = x at *
      clear hx
      have HLN : Hid (x.cells.length = 1) := rfl
      have HC := hide hc
      clear hc
      generalize hcs : x.cells = cs at *
      clear hcs
      go_wp2_with (first
        | (refine wpList_loadW rfl 91 _ rfl b (off + k) cs rfl agqHeads (by rw [HLN.out]; exact szqHeads) HC.out ?_)
        | (go_at_call 46; refine HT.out.mono ?_; rintro e w1 ⟨z, rfl, hbz, htw, hb⟩; have TZ := hide htw; have BZ := hide hbz; have B1 := hide hb; clear htw hb hbz; obtain ⟨zc, hzc⟩ : ∃ zc, zc = z.cells := ⟨_, rfl⟩; have ZO := hide (one_qHeads z); have ZL : Hid (z.cells.length = 1) := rfl; rw [← hzc] at ZO ZL ⊢; have ZC := hide hzc; have zl : zc.length = 1 := ZL.out; clear hzc)
        | (at_builtin; refine wpList_append_own_at _ rfl _ _ 23 rfl w.heap.size 91 i0 _ 1 24 Tryz.underlying23 hi0 hz0 hz1 hz2 rfl (by decide) _ k (flat HdL.cells zs) rfl (by have := SS.out.own; rw [HZL.out] at this; exact owR_below (owR_below this B1.out) (below1 _ _)) ⟨w1.heap.size, 0, none⟩ 1 1 zc rfl (by first | rfl | (rw [ZL.out])) (cells_newG _ _ _ _ ZL.out.symm) ZO.out (by unfold maxLen; omega) (by omega) (by have := SS.out.bl.size; have := B1.out.size; simp; omega) ?_; intro v7 w7 O7 G7 _ K7; have SN : Hid (Tg 91 1 HdL.cells kHd w w7 v7 (zs ++ [z])) := HPUT.out _ _ _ z (bstep B1.out (below1 w1 _)) ((kpHd).below TZ.out (below1 w1 _)) (by rw [HZL.out, ← ZC.out]; exact O7) G7; clear O7 G7 K7))
      go_roundg (gk - 1)
      case measure => have := HK.out; omega
      case rel => exact ⟨k + 1, zs ++ [z], by have := HK.out; omega, by go_num, by simp; exact HZL.out, by rw [HTK.out, List.map_append, List.map_append, HMP.out, List.map_singleton, List.map_singleton, BZ.out], SN.out⟩
    · obtain rfl : k = l.length := by have := HK.out; omega
      have dk : decide (l.length < l.length) = false := by simp
      have HMQ : Hid (zs.map bHd = l.map bHd) := by show _ = _; rw [HMP.out, List.take_length]
      clear HR HTW HMP
      go_wp2_with (at_builtin; go_loud (refine wpList_append_own_at _ rfl _ _ 23 rfl w.heap.size 91 i0 _ 1 24 Tryz.underlying23 hi0 hz0 hz1 hz2 rfl (by decide) _ l.length (flat HdL.cells zs) rfl (by have := SS.out.own; rw [HZL.out] at this; exact own_allocD (own_allocD this _) _) ⟨wr.heap.size + 1, 0, none⟩ 1 1 [.slice (some ⟨wr.heap.size, 0, none⟩) 1 1] rfl rfl (fun j u hu => by rw [Addr.add_mid, Nat.zero_add]; exact (cellA (heap_snd wr _ _ _) j).trans (by rw [← hu]; simp)) (by simp [Value.oneCell']) (by unfold maxLen; omega) (by omega) (by have := SS.out.bl.size; simp; omega) ?_; intro v7 w7 O7 G7 _ K7; obtain ⟨g, c, hv7, hgc, hgB, hgl, hcm⟩ := own_someD O7 (by omega); subst hv7; have SN := hide (Tg.done (s := [.slice (some ⟨wr.heap.size, 0, none⟩) 1 1]) kpHd (by simp [tsI]) SS.out (below2 wr _ _) (by rw [HZL.out]; exact O7) G7 (by rw [HZL.out]; exact hgc) hcm); have hcI : (l.length : Int) ≤ (c : Int) := (by omega); clear O7 G7 K7 hgB hgl hgc hcm))
      go_ret
      exact ⟨g, c, zs, rfl, HMQ.out, ⟨_, SN.out.2⟩, SN.out.1⟩
end Go.Proofs.YtlipcmonlhdgfaaGreat
/- TwinJumps, as a twin's list. -/
namespace Go.Proofs.YtlipcmonlhdgfaaGreat
open Go.RowKit

theorem info_qJumps : (Tryz.prog.info? 129).map (fun i => (i.zero, i.size, i.bytes)) = some (some (.agg #[.int .i64 0, .int .u64 0, .int .u64 0, .int .i64 0, .int .u64 0, .int .u64 0, .int .i64 0]), 7, 56) := by kernel_rfl
set_option maxRecDepth 100000 in
set_option maxHeartbeats 4000000 in
theorem tqJumps_any (a : Option Addr) (cap : Nat) (L : List Jp) (w : World) (hl : L.length ≤ 1000000) (hr : LiR w 7 Jp.cells a L) :
    Calls Tryz.prog 105 #[.slice a L.length cap] w fun e w' => ∃ g c, e = .returned (.slice (some ⟨g, 0, none⟩) L.length c) ∧ Tl 129 7 Jp.cells (fun _ _ _ => True) [.int .i64 0, .int .u64 0, .int .u64 0, .int .i64 0, .int .u64 0, .int .u64 0, .int .i64 77] w' w.heap.size (some ⟨g, 0, none⟩) c L ∧ Below w.heap.size w w' := by
  have HR := hide hr
  obtain ⟨i0, hi0, hz0, hz1, hz2⟩ := info_parts info_qJumps
  clear hr
  go_enter Tryz.func105, Tryz.ntmps105
  go_wp2_with (first
    | (refine wpList_make_own _ rfl _ _ 77 rfl w.heap.size 129 i0 (.agg #[.int .i64 0, .int .u64 0, .int .u64 0, .int .i64 0, .int .u64 0, .int .u64 0, .int .i64 0]) 7 Tryz.underlying77 hi0 hz0 hz1 .i64 .i64 _ (L.length + 1) rfl rfl (by simp) (by rw [hz2]; omega) (by unfold maxLen; omega) (Nat.le_refl _) ?_; intro w1 O1 G1; have S1 : Hid (Tg 129 7 Jp.cells (fun _ _ _ => True) w w1 (.slice (some ⟨w.heap.size, 0, none⟩) 0 (L.length + 1)) (L.take 0)) := ⟨(Below.refl _ w).grown G1 (Nat.le_refl _) (fun k e => by cases e), O1, fun x hx => trivial⟩; clear O1 G1))
  go_loopw [3, 4] (fun t i wr => ∃ k : Nat, k ≤ L.length ∧ i = .int .i64 k ∧ Tg 129 7 Jp.cells (fun _ _ _ => True) w wr t (L.take k)) (fun _ i _ => L.length - (intOf i).toNat)
  case atStart => exact ⟨0, by omega, rfl, S1.out⟩
  case round =>
    obtain ⟨k, hk, rfl, hs⟩ := hrel
    have SS := hide hs
    have LK : Hid ((L.take k).length = k) := by show _ = _; rw [List.length_take]; omega
    clear hs S1
    by_cases hlt : k < L.length
    · obtain ⟨b, off, rfl, _, hc⟩ := (HR.out.below SS.out.bl).some (by omega)
      obtain ⟨x, hx⟩ : ∃ x, L[k] = x := ⟨_, rfl⟩
      obtain ⟨⟨n, h, l⟩, ⟨n2, h2, l2⟩, to⟩ := x
      have c0 := hc k hlt 0 (.int .i64 n) (by rw [hx]; rfl)
      have c1 := hc k hlt 1 (.int .u64 h) (by rw [hx]; rfl)
      have c2 := hc k hlt 2 (.int .u64 l) (by rw [hx]; rfl)
      have c3 := hc k hlt 3 (.int .i64 n2) (by rw [hx]; rfl)
      have c4 := hc k hlt 4 (.int .u64 h2) (by rw [hx]; rfl)
      have c5 := hc k hlt 5 (.int .u64 l2) (by rw [hx]; rfl)
      have c6 := hc k hlt 6 (.int .i64 to) (by rw [hx]; rfl)
      rw [Nat.add_zero] at c0
      have hkI : (k : Int) < (L.length : Int) := by omega
      have HT : Hid (L.take (k + 1) = L.take k ++ [⟨⟨n, h, l⟩, ⟨n2, h2, l2⟩, to⟩]) := by show _ = _; rw [List.take_succ_eq_append_getElem hlt, hx]
      clear hc hx HR
      go_wp2_with (at_builtin; refine wpList_append_own_at _ rfl _ _ 77 rfl w.heap.size 129 i0 (.agg #[.int .i64 0, .int .u64 0, .int .u64 0, .int .i64 0, .int .u64 0, .int .u64 0, .int .i64 0]) 7 56 Tryz.underlying77 hi0 hz0 hz1 hz2 rfl (by decide) _ k (flat Jp.cells (L.take k)) rfl (own_allocD (by have := SS.out.own; rw [LK.out] at this; exact this) _) ⟨wr.heap.size, 0, none⟩ 1 1 [.int .i64 n, .int .u64 h, .int .u64 l, .int .i64 n2, .int .u64 h2, .int .u64 l2, .int .i64 to] rfl rfl (cells_newD _ _ _) (by simp [Value.oneCell']) (by unfold maxLen; omega) (by omega) (by have := SS.out.bl.size; simp; omega) ?_; intro v7 w7 O7 G7 _ K7; have SN : Hid (Tg 129 7 Jp.cells (fun _ _ _ => True) w w7 v7 (L.take (k + 1))) := (by rw [HT.out]; exact Tg.put Kp.none (by simp) SS.out (below1 wr _) trivial (by rw [LK.out]; exact O7) G7); clear O7 G7 K7)
      go_roundw
      case rel => exact ⟨k + 1, by omega, by go_num, SN.out⟩
      case measure => simp [intOf]; omega
    · obtain rfl : k = L.length := by omega
      have HX : Hid (L.take L.length = L) := List.take_length ..
      have SF := SS.out
      rw [HX.out] at SF
      have SE := hide SF
      clear SF SS HR LK
      go_wp2_with (at_builtin; refine wpList_append_own_at _ rfl _ _ 77 rfl w.heap.size 129 i0 (.agg #[.int .i64 0, .int .u64 0, .int .u64 0, .int .i64 0, .int .u64 0, .int .u64 0, .int .i64 0]) 7 56 Tryz.underlying77 hi0 hz0 hz1 hz2 rfl (by decide) _ L.length (flat Jp.cells L) rfl (own_allocD SE.out.own _) ⟨wr.heap.size, 0, none⟩ 1 1 [.int .i64 0, .int .u64 0, .int .u64 0, .int .i64 0, .int .u64 0, .int .u64 0, .int .i64 77] rfl rfl (cells_newD _ _ _) (by simp [Value.oneCell']) (by unfold maxLen; omega) (by omega) (by have := SE.out.bl.size; simp; omega) ?_; intro v7 w7 O7 G7 _ K7; obtain ⟨g, c, rfl, hgc, hgB, hgl, hcm⟩ := own_someD O7 (by omega); have SN := hide (Tg.done Kp.none (by simp) SE.out (below1 wr _) O7 G7 hgc hcm); have hcI : (L.length : Int) ≤ (c : Int) := (by omega); clear O7 G7 K7)
      go_ret
      exact ⟨g, c, rfl, SN.out.2, SN.out.1⟩
end Go.Proofs.YtlipcmonlhdgfaaGreat
/- TwinIns. -/
namespace Go.Proofs.YtlipcmonlhdgfaaGreat
open Go.RowKit

set_option maxRecDepth 100000 in
theorem sz_qIns : ∀ w : World, (sizeOf 59).run Tryz.prog w = .ok 11 w := fun w => by rfl
set_option maxRecDepth 100000 in
theorem ag_qIns : ∀ w : World, (isAgg 59).run Tryz.prog w = .ok true w := fun w => by rfl
set_option maxRecDepth 100000 in
set_option maxHeartbeats 16000000 in
theorem tqIns_any (y : InL) (W : World) (hy : InR W y) : Calls Tryz.prog 48 #[.agg y.cells.toArray] W fun e w' => ∃ z : InL, e = .returned (.agg z.cells.toArray) ∧ bIn z = bIn y ∧ kIn w' W.heap.size z ∧ Below W.heap.size W w' := by
  have HC0 : Hid (∀ W', Below W.heap.size W W' → _) := fun W' hb => tqInts_any y.la y.lc y.v.l W' hy.ln (liZ (hy.l.below hb))
  clear hy
  obtain ⟨⟨op, to, a, b, n, m, l, ⟨lw, lh, ll⟩, of⟩, la, lc⟩ := y
  simp only [InL.cells] at *
  go_enter Tryz.func48, Tryz.ntmps48
  go_wp2
  have hS0 : TwX W 59 11 #[.int .u8 op, .int .i64 to, .int .i64 a, .int .i64 b, .int .i64 n, .int .i64 m, .slice la l.length lc, .int .i64 lw, .int .u64 lh, .int .u64 ll, .int .u8 of] ((W.alloc (.cells #[.int .u8 op, .int .i64 to, .int .i64 a, .int .i64 b, .int .i64 n, .int .i64 m, .slice la l.length lc, .int .i64 lw, .int .u64 lh, .int .u64 ll, .int .u8 of] 59)).alloc (.cells #[.int .u8 0, .int .i64 0, .int .i64 0, .int .i64 0, .int .i64 0, .int .i64 0, .slice none 0 0, .int .i64 0, .int .u64 0, .int .u64 0, .int .u8 0] 59)).drew := TwX.start rfl
  generalize (W.alloc (.cells #[.int .u8 op, .int .i64 to, .int .i64 a, .int .i64 b, .int .i64 n, .int .i64 m, .slice la l.length lc, .int .i64 lw, .int .u64 lh, .int .u64 ll, .int .u8 of] 59)).alloc (.cells #[.int .u8 0, .int .i64 0, .int .i64 0, .int .i64 0, .int .i64 0, .int .i64 0, .slice none 0 0, .int .i64 0, .int .u64 0, .int .u64 0, .int .u8 0] 59) = w1 at *
  refine wp_region_noPanic ?_
  refine wp_region_held_drew (S := TwX W 59 11 #[.int .u8 op, .int .i64 to, .int .i64 a, .int .i64 b, .int .i64 n, .int .i64 m, .slice la l.length lc, .int .i64 lw, .int .u64 lh, .int .u64 ll, .int .u8 of]) (by kernel_rfl) hS0 (fun hHeld => ?_)
  clear hS0
  generalize w1.drew = yw at *
  refine wpAnyH_take (i := 0) (v := ?_) rfl (by kernel_rfl) (by kernel_rfl) (by kernel_rfl) (fun _ _ _ h => h) (Or.inl ⟨by kernel_rfl, ?_⟩) hHeld ?_
  rotate_left
  · (intro w hSw; clear hSw; go_simp; try (with_reducible rfl))
  refine wpAnyH_take (i := 1) (v := ?_) rfl (by kernel_rfl) (by kernel_rfl) (by kernel_rfl) (fun _ _ _ h => h) (Or.inl ⟨by kernel_rfl, ?_⟩) hHeld ?_
  rotate_left
  · (intro w hSw; have hc0 := cel_of hSw.2.1 0 rfl; clear hSw; go_simp; try (with_reducible rfl))
  refine wpAnyH_take (i := 2) (v := ?_) rfl (by kernel_rfl) (by kernel_rfl) (by kernel_rfl) (fun _ _ _ h => h) (Or.inl ⟨by kernel_rfl, ?_⟩) hHeld ?_
  rotate_left
  · (intro w hSw; clear hSw; go_simp; try (with_reducible rfl))
  refine wpAnyH_take (i := 3) (v := ?_) rfl (by kernel_rfl) (by kernel_rfl) (by kernel_rfl) (fun _ _ _ h => h) (Or.inl ⟨by kernel_rfl, ?_⟩) hHeld ?_
  rotate_left
  · (intro w hSw; have hc1 := cel_of hSw.2.1 1 rfl; clear hSw; go_simp; try (with_reducible rfl))
  refine wpAnyH_take (i := 4) (v := ?_) rfl (by kernel_rfl) (by kernel_rfl) (by kernel_rfl) (fun _ _ _ h => h) (Or.inl ⟨by kernel_rfl, ?_⟩) hHeld ?_
  rotate_left
  · (intro w hSw; clear hSw; go_simp; try (with_reducible rfl))
  refine wpAnyH_take (i := 5) (v := ?_) rfl (by kernel_rfl) (by kernel_rfl) (by kernel_rfl) (fun _ _ _ h => h) (Or.inl ⟨by kernel_rfl, ?_⟩) hHeld ?_
  rotate_left
  · (intro w hSw; have hc2 := cel_of hSw.2.1 2 rfl; clear hSw; go_simp; try (with_reducible rfl))
  refine wpAnyH_take (i := 6) (v := ?_) rfl (by kernel_rfl) (by kernel_rfl) (by kernel_rfl) (fun _ _ _ h => h) (Or.inl ⟨by kernel_rfl, ?_⟩) hHeld ?_
  rotate_left
  · (intro w hSw; clear hSw; go_simp; try (with_reducible rfl))
  refine wpAnyH_take (i := 7) (v := ?_) rfl (by kernel_rfl) (by kernel_rfl) (by kernel_rfl) (fun _ _ _ h => h) (Or.inl ⟨by kernel_rfl, ?_⟩) hHeld ?_
  rotate_left
  · (intro w hSw; have hc3 := cel_of hSw.2.1 3 rfl; clear hSw; go_simp; try (with_reducible rfl))
  refine wpAnyH_take (i := 8) (v := ?_) rfl (by kernel_rfl) (by kernel_rfl) (by kernel_rfl) (fun _ _ _ h => h) (Or.inl ⟨by kernel_rfl, ?_⟩) hHeld ?_
  rotate_left
  · (intro w hSw; clear hSw; go_simp; try (with_reducible rfl))
  refine wpAnyH_take (i := 9) (v := ?_) rfl (by kernel_rfl) (by kernel_rfl) (by kernel_rfl) (fun _ _ _ h => h) (Or.inl ⟨by kernel_rfl, ?_⟩) hHeld ?_
  rotate_left
  · (intro w hSw; have hc4 := cel_of hSw.2.1 4 rfl; clear hSw; go_simp; try (with_reducible rfl))
  refine wpAnyH_take (i := 10) (v := ?_) rfl (by kernel_rfl) (by kernel_rfl) (by kernel_rfl) (fun _ _ _ h => h) (Or.inl ⟨by kernel_rfl, ?_⟩) hHeld ?_
  rotate_left
  · (intro w hSw; clear hSw; go_simp; try (with_reducible rfl))
  refine wpAnyH_take (i := 11) (v := ?_) rfl (by kernel_rfl) (by kernel_rfl) (by kernel_rfl) (fun _ _ _ h => h) (Or.inl ⟨by kernel_rfl, ?_⟩) hHeld ?_
  rotate_left
  · (intro w hSw; have hc5 := cel_of hSw.2.1 5 rfl; clear hSw; go_simp; try (with_reducible rfl))
  refine wpAnyH_take (i := 12) (v := ?_) rfl (by kernel_rfl) (by kernel_rfl) (by kernel_rfl) (fun _ _ _ h => h) (Or.inl ⟨by kernel_rfl, ?_⟩) hHeld ?_
  rotate_left
  · (intro w hSw; clear hSw; go_simp; try (with_reducible rfl))
  refine wpAnyH_take (i := 13) (v := ?_) rfl (by kernel_rfl) (by kernel_rfl) (by kernel_rfl) (fun _ _ _ h => h) (Or.inl ⟨by kernel_rfl, ?_⟩) hHeld ?_
  rotate_left
  · (intro w hSw; have hc6 := cel_of hSw.2.1 6 rfl; clear hSw; go_simp; try (with_reducible rfl))
  refine wpAnyH_take (i := 15) (v := ?_) rfl (by kernel_rfl) (by kernel_rfl) (by kernel_rfl) (fun _ _ _ h => h) (Or.inl ⟨by kernel_rfl, ?_⟩) hHeld ?_
  rotate_left
  · (intro w hSw; clear hSw; go_simp; try (with_reducible rfl))
  refine wpAnyH_take (i := 16) (v := ?_) rfl (by kernel_rfl) (by kernel_rfl) (by kernel_rfl) (fun _ _ _ h => h) (Or.inl ⟨by kernel_rfl, ?_⟩) hHeld ?_
  rotate_left
  · (intro w hSw; have hc7 := cel_of hSw.2.1 7 rfl; have hc8 := cel_of hSw.2.1 8 rfl; have hc9 := cel_of hSw.2.1 9 rfl; clear hSw; go_simp; try (with_reducible rfl))
  refine wpAnyH_take (i := 17) (v := ?_) rfl (by kernel_rfl) (by kernel_rfl) (by kernel_rfl) (fun _ _ _ h => h) (Or.inl ⟨by kernel_rfl, ?_⟩) hHeld ?_
  rotate_left
  · (intro w hSw; clear hSw; go_simp; try (with_reducible rfl))
  refine wpAnyH_take (i := 18) (v := ?_) rfl (by kernel_rfl) (by kernel_rfl) (by kernel_rfl) (fun _ _ _ h => h) (Or.inl ⟨by kernel_rfl, ?_⟩) hHeld ?_
  rotate_left
  · (intro w hSw; have hc10 := cel_of hSw.2.1 10 rfl; clear hSw; go_simp; try (with_reducible rfl))
  refine wpAnyH_ready (rs := [14]) (by kernel_rfl) (by simp) ?_
  refine AllReadyH.cons rfl (fun K hK => ?_) AllReadyH.nil
  go_simp
  refine (HC0.out _ hHeld.1).mono ?_
  rintro e y0 ⟨g0, d0, rfl, k0, b0⟩
  have K0 : Hid (zT y0 yw.heap.size (some ⟨g0, 0, none⟩) d0 l) := k0
  have Z0 : Hid (W.heap.size + 2 ≤ yw.heap.size) := hHeld.2.2.2
  replace hHeld := hHeld.next b0
  clear k0 b0
  go_wp2_with fail
  refine hK.out _ _ hHeld (fun _ => ?_)
  clear hK K
  refine wpAnyH_take (i := 19) (v := ?_) rfl (by kernel_rfl) (by kernel_rfl) (by kernel_rfl) (fun _ _ _ h => h) (Or.inl ⟨by kernel_rfl, ?_⟩) hHeld ?_
  rotate_left
  · (intro w hSw; clear hSw; go_simp; try (with_reducible rfl))
  obtain ⟨cur, hcur, hcs⟩ := hHeld.2.2.1
  refine wpAnyH_ready (rs := [20]) (by kernel_rfl) (by simp) ?_
  refine AllReadyH.cons rfl (fun K hK => ?_) AllReadyH.nil
  refine step_storeA rfl 59 _ _ rfl (W.heap.size + 1) [.int .u8 op, .int .i64 to, .int .i64 a, .int .i64 b, .int .i64 n, .int .i64 m, .slice (some ⟨g0, 0, none⟩) l.length d0, .int .i64 lw, .int .u64 lh, .int .u64 ll, .int .u8 of] cur 59 rfl rfl (fun w => by rfl) hcur hcs (by simp [Value.oneCell']) ?_
  intro w9 hw9
  have hfr : Fr (· = W.heap.size + 1) y0 w9 := by rw [hw9]; exact fr_all _ _ _ _
  have h9 := hHeld.store (cs := [.int .u8 op, .int .i64 to, .int .i64 a, .int .i64 b, .int .i64 n, .int .i64 m, .slice (some ⟨g0, 0, none⟩) l.length d0, .int .i64 lw, .int .u64 lh, .int .u64 ll, .int .u8 of]) rfl hw9
  refine hK.out _ _ h9.1 (fun _ => ?_)
  clear hK K
  refine wpAnyH_done (by kernel_rfl) ?_ _
  refine NoPanic.normal ?_
  have H1 := hide h9.1.1; have H2 := hide h9.2.1
  have P0 := hide ((zT.fr (us := tsU) (by simp [tsU]) K0.out hfr (fun b e => .inl (by have := Z0.out; omega))).lower (B' := W.heap.size) (by have := Z0.out; omega))
  clear hw9 h9 hHeld hcur hcs hfr
  go_wp2
  exact bodyPost_ret (res_cell (cs := [.int .u8 op, .int .i64 to, .int .i64 a, .int .i64 b, .int .i64 n, .int .i64 m, .slice (some ⟨g0, 0, none⟩) l.length d0, .int .i64 lw, .int .u64 lh, .int .u64 ll, .int .u8 of]) (e := 59) Tryz.results48 rfl ag_qIns sz_qIns H2.out) rfl ⟨⟨⟨op, to, a, b, n, m, l, ⟨lw, lh, ll⟩, of⟩, some ⟨g0, 0, none⟩, d0⟩, rfl, by simp only [bIn], P0.out, H1.out⟩
end Go.Proofs.YtlipcmonlhdgfaaGreat
