/- Pieces of the proof: TqLActs, TqFKinds, TqFNumbers, TqTable. -/
import Derived.Test.YtlipcmonlhdgfaaGreatM7
import Derived.Deep.LoopGhost
import Derived.Test.YtlipcmonlhdgfaaGreatM5
/- TwinActs. -/
namespace Go.Proofs.YtlipcmonlhdgfaaGreat
open Go.RowKit

theorem info_qActs : (Tryz.prog.info? 43).map (fun i => (i.zero, i.size, i.bytes)) = some (some (.agg #[.string ⟨#[]⟩, .slice none 0 0, .slice none 0 0]), 3, 64) := by kernel_rfl
theorem len_qActs (x : AcL) : x.cells.length = 3 := rfl
theorem one_qActs (g : AcL) : ∀ u ∈ g.cells, u.oneCell' = true := fun u hu => by
  simp only [AcL.cells, List.mem_cons, List.not_mem_nil, or_false] at hu
  rcases hu with rfl | rfl | rfl <;> rfl
set_option maxRecDepth 100000 in
theorem szqActs : ∀ w : World, (sizeOf 43).run Tryz.prog w = .ok 3 w := fun w => by rfl
set_option maxRecDepth 100000 in
theorem agqActs : ∀ w : World, (isAgg 43).run Tryz.prog w = .ok true w := fun w => by rfl
set_option maxRecDepth 100000 in
set_option maxHeartbeats 4000000 in
theorem tqActs_any (a : Option Addr) (cap : Nat) (l : List AcL) (w : World) (hr : AcsR w a l) :
    Calls Tryz.prog 23 #[.slice a l.length cap] w fun e w' => ∃ g c zs, e = .returned (.slice (some ⟨g, 0, none⟩) l.length c) ∧ zs.map bAc = l.map bAc ∧ aT w' w.heap.size (some ⟨g, 0, none⟩) c zs ∧ Below w.heap.size w w' := by
  have HR := hide hr.rd
  have hl := hr.ln
  have HTW : Hid (∀ k (h : k < l.length) W, Below w.heap.size w W → _) := fun k h W hb => tqAct_any l[k] W ((hr.ok _ (List.getElem_mem h)).below hb)
  obtain ⟨i0, hi0, hz0, hz1, hz2⟩ := info_parts info_qActs
  clear hr
  go_enter Tryz.func23, Tryz.ntmps23
  go_wp2_with (first
    | (refine wpList_make_own _ rfl _ _ 26 rfl w.heap.size 43 i0 _ 3 Tryz.underlying26 hi0 hz0 hz1 .i64 .i64 _ (l.length + 1) rfl rfl (by simp) (by rw [hz2]; omega) (by unfold maxLen; omega) (Nat.le_refl _) ?_; intro w1 O1 G1; have S1 : Hid (Tg 43 3 AcL.cells kAc w w1 (.slice (some ⟨w.heap.size, 0, none⟩) 0 (l.length + 1)) []) := ⟨(Below.refl _ w).grown G1 (Nat.le_refl _) (fun k e => by cases e), O1, fun x hx => by simp at hx⟩; clear O1 G1))
  go_loopg [3, 4] l.length (fun gk t i wr => ∃ (k : Nat) (zs : List AcL), k + gk = l.length ∧ i = .int .i64 k ∧ zs.length = k ∧ zs.map bAc = (l.take k).map bAc ∧ Tg 43 3 AcL.cells kAc w wr t zs)
  case atStart => exact ⟨0, [], by omega, rfl, rfl, rfl, S1.out⟩
  case round =>
    obtain ⟨k, zs, hk, rfl, hzl, hmp, hs⟩ := hrel
    have SS := hide hs
    have HK := hide hk
    have HZL := hide hzl
    have HMP := hide hmp
    clear hs hzl S1 hk hmp
    by_cases hlt : k < l.length
    · have hkI : (k : Int) < (l.length : Int) := by omega
      have dk : decide (k < l.length) = true := by simp; omega
      obtain ⟨b, off, rfl, _, hc⟩ := (HR.out.below SS.out.bl).some (by omega)
      have hc := hc k hlt
      have HT := hide (HTW.out k hlt _ SS.out.bl)
      have HPUT := hide (fun (W7 w8 : World) (v' : Value) (z : AcL) => Tg.put (W7 := W7) (w8 := w8) (v' := v') (z := z) kpAc (by simp [tsA]) SS.out)
      have HTK := hide (List.take_succ_eq_append_getElem hlt)
      clear HR HTW
      generalize hx : l[k] = x at *
      clear hx
      have HLN : Hid (x.cells.length = 3) := rfl
      have HC := hide hc
      clear hc
      generalize hcs : x.cells = cs at *
      clear hcs
      go_wp2_with (first
        | (refine wpList_loadW rfl 43 _ rfl b (off + k * 3) cs rfl agqActs (by rw [HLN.out]; exact szqActs) HC.out ?_)
        | (go_at_call 49; refine HT.out.mono ?_; rintro e w1 ⟨z, rfl, hbz, htw, hb⟩; have TZ := hide htw; have BZ := hide hbz; have B1 := hide hb; clear htw hb hbz; obtain ⟨zc, hzc⟩ : ∃ zc, zc = z.cells := ⟨_, rfl⟩; have ZO := hide (one_qActs z); have ZL : Hid (z.cells.length = 3) := rfl; rw [← hzc] at ZO ZL ⊢; have ZC := hide hzc; have zl : zc.length = 3 := ZL.out; clear hzc)
        | (at_builtin; refine wpList_append_own_at _ rfl _ _ 26 rfl w.heap.size 43 i0 _ 3 64 Tryz.underlying26 hi0 hz0 hz1 hz2 rfl (by decide) _ k (flat AcL.cells zs) rfl (by have := SS.out.own; rw [HZL.out] at this; exact owR_below (owR_below this B1.out) (below1 _ _)) ⟨w1.heap.size, 0, none⟩ 1 1 zc rfl (by first | rfl | (rw [ZL.out])) (cells_newG _ _ _ _ ZL.out.symm) ZO.out (by unfold maxLen; omega) (by omega) (by have := SS.out.bl.size; have := B1.out.size; simp; omega) ?_; intro v7 w7 O7 G7 _ K7; have SN : Hid (Tg 43 3 AcL.cells kAc w w7 v7 (zs ++ [z])) := HPUT.out _ _ _ z (bstep B1.out (below1 w1 _)) ((kpAc).below TZ.out (below1 w1 _)) (by rw [HZL.out, ← ZC.out]; exact O7) G7; clear O7 G7 K7))
      go_roundg (gk - 1)
      case measure => have := HK.out; omega
      case rel => exact ⟨k + 1, zs ++ [z], by have := HK.out; omega, by go_num, by simp; exact HZL.out, by rw [HTK.out, List.map_append, List.map_append, HMP.out, List.map_singleton, List.map_singleton, BZ.out], SN.out⟩
    · obtain rfl : k = l.length := by have := HK.out; omega
      have dk : decide (l.length < l.length) = false := by simp
      have HMQ : Hid (zs.map bAc = l.map bAc) := by show _ = _; rw [HMP.out, List.take_length]
      clear HR HTW HMP
      go_wp2_with (at_builtin; go_loud (refine wpList_append_own_at _ rfl _ _ 26 rfl w.heap.size 43 i0 _ 3 64 Tryz.underlying26 hi0 hz0 hz1 hz2 rfl (by decide) _ l.length (flat AcL.cells zs) rfl (by have := SS.out.own; rw [HZL.out] at this; exact own_allocD this _) ⟨wr.heap.size, 0, none⟩ 1 1 [.string ⟨#[115, 112, 97, 114, 101]⟩, .slice none 0 0, .slice none 0 0] rfl rfl (cells_newD _ _ _) (by simp [Value.oneCell']) (by unfold maxLen; omega) (by omega) (by have := SS.out.bl.size; simp; omega) ?_; intro v7 w7 O7 G7 _ K7; obtain ⟨g, c, hv7, hgc, hgB, hgl, hcm⟩ := own_someD O7 (by omega); subst hv7; have SN := hide (Tg.done (s := [.string ⟨#[115, 112, 97, 114, 101]⟩, .slice none 0 0, .slice none 0 0]) kpAc (by simp [tsA]) SS.out (below1 wr _) (by rw [HZL.out]; exact O7) G7 (by rw [HZL.out]; exact hgc) hcm); have hcI : (l.length : Int) ≤ (c : Int) := (by omega); clear O7 G7 K7 hgB hgl hgc hcm))
      go_ret
      exact ⟨g, c, zs, rfl, HMQ.out, ⟨_, SN.out.2⟩, SN.out.1⟩
end Go.Proofs.YtlipcmonlhdgfaaGreat
/- TwinKinds, as a twin's list. -/
namespace Go.Proofs.YtlipcmonlhdgfaaGreat
open Go.RowKit

theorem info_qKinds : (Tryz.prog.info? 132).map (fun i => (i.zero, i.size, i.bytes)) = some (some (.int .u8 0), 1, 1) := by kernel_rfl
set_option maxRecDepth 100000 in
set_option maxHeartbeats 4000000 in
theorem tqKinds_any (a : Option Addr) (cap : Nat) (L : List Int) (w : World) (hl : L.length ≤ 1000000) (hr : LiR w 1 kdC a L) :
    Calls Tryz.prog 106 #[.slice a L.length cap] w fun e w' => ∃ g c, e = .returned (.slice (some ⟨g, 0, none⟩) L.length c) ∧ Tl 132 1 kdC (fun _ _ _ => True) [.int .u8 77] w' w.heap.size (some ⟨g, 0, none⟩) c L ∧ Below w.heap.size w w' := by
  have HR := hide hr
  obtain ⟨i0, hi0, hz0, hz1, hz2⟩ := info_parts info_qKinds
  clear hr
  go_enter Tryz.func106, Tryz.ntmps106
  go_wp2_with (first
    | (refine wpList_make_own _ rfl _ _ 38 rfl w.heap.size 132 i0 (.int .u8 0) 1 Tryz.underlying38 hi0 hz0 hz1 .i64 .i64 _ (L.length + 1) rfl rfl (by simp) (by rw [hz2]; omega) (by unfold maxLen; omega) (Nat.le_refl _) ?_; intro w1 O1 G1; have S1 : Hid (Tg 132 1 kdC (fun _ _ _ => True) w w1 (.slice (some ⟨w.heap.size, 0, none⟩) 0 (L.length + 1)) (L.take 0)) := ⟨(Below.refl _ w).grown G1 (Nat.le_refl _) (fun k e => by cases e), O1, fun x hx => trivial⟩; clear O1 G1))
  go_loopw [3, 4] (fun t i wr => ∃ k : Nat, k ≤ L.length ∧ i = .int .i64 k ∧ Tg 132 1 kdC (fun _ _ _ => True) w wr t (L.take k)) (fun _ i _ => L.length - (intOf i).toNat)
  case atStart => exact ⟨0, by omega, rfl, S1.out⟩
  case round =>
    obtain ⟨k, hk, rfl, hs⟩ := hrel
    have SS := hide hs
    have LK : Hid ((L.take k).length = k) := by show _ = _; rw [List.length_take]; omega
    clear hs S1
    by_cases hlt : k < L.length
    · obtain ⟨b, off, rfl, _, hc⟩ := (HR.out.below SS.out.bl).some (by omega)
      obtain ⟨x, hx⟩ : ∃ x, L[k] = x := ⟨_, rfl⟩
      have c0 := hc k hlt 0 (.int .u8 x) (by rw [hx]; rfl)
      rw [Nat.add_zero] at c0
      rw [Nat.mul_one] at c0
      have hkI : (k : Int) < (L.length : Int) := by omega
      have HT : Hid (L.take (k + 1) = L.take k ++ [x]) := by show _ = _; rw [List.take_succ_eq_append_getElem hlt, hx]
      clear hc hx HR
      go_wp2_with (at_builtin; refine wpList_append_own_at _ rfl _ _ 38 rfl w.heap.size 132 i0 (.int .u8 0) 1 1 Tryz.underlying38 hi0 hz0 hz1 hz2 rfl (by decide) _ k (flat kdC (L.take k)) rfl (own_allocD (by have := SS.out.own; rw [LK.out] at this; exact this) _) ⟨wr.heap.size, 0, none⟩ 1 1 [.int .u8 x] rfl rfl (cells_newD _ _ _) (by simp [Value.oneCell']) (by unfold maxLen; omega) (by omega) (by have := SS.out.bl.size; simp; omega) ?_; intro v7 w7 O7 G7 _ K7; have SN : Hid (Tg 132 1 kdC (fun _ _ _ => True) w w7 v7 (L.take (k + 1))) := (by rw [HT.out]; exact Tg.put Kp.none (by simp) SS.out (below1 wr _) trivial (by rw [LK.out]; exact O7) G7); clear O7 G7 K7)
      go_roundw
      case rel => exact ⟨k + 1, by omega, by go_num, SN.out⟩
      case measure => simp [intOf]; omega
    · obtain rfl : k = L.length := by omega
      have HX : Hid (L.take L.length = L) := List.take_length ..
      have SF := SS.out
      rw [HX.out] at SF
      have SE := hide SF
      clear SF SS HR LK
      go_wp2_with (at_builtin; refine wpList_append_own_at _ rfl _ _ 38 rfl w.heap.size 132 i0 (.int .u8 0) 1 1 Tryz.underlying38 hi0 hz0 hz1 hz2 rfl (by decide) _ L.length (flat kdC L) rfl (own_allocD SE.out.own _) ⟨wr.heap.size, 0, none⟩ 1 1 [.int .u8 77] rfl rfl (cells_newD _ _ _) (by simp [Value.oneCell']) (by unfold maxLen; omega) (by omega) (by have := SE.out.bl.size; simp; omega) ?_; intro v7 w7 O7 G7 _ K7; obtain ⟨g, c, rfl, hgc, hgB, hgl, hcm⟩ := own_someD O7 (by omega); have SN := hide (Tg.done Kp.none (by simp) SE.out (below1 wr _) O7 G7 hgc hcm); have hcI : (L.length : Int) ≤ (c : Int) := (by omega); clear O7 G7 K7)
      go_ret
      exact ⟨g, c, rfl, SN.out.2, SN.out.1⟩
end Go.Proofs.YtlipcmonlhdgfaaGreat
/- TwinNumbers, as a twin's list. -/
namespace Go.Proofs.YtlipcmonlhdgfaaGreat
open Go.RowKit

theorem info_qNumbers : (Tryz.prog.info? 56).map (fun i => (i.zero, i.size, i.bytes)) = some (some (.agg #[.int .i64 0, .int .u64 0, .int .u64 0]), 3, 24) := by kernel_rfl
set_option maxRecDepth 100000 in
set_option maxHeartbeats 4000000 in
theorem tqNumbers_any (a : Option Addr) (cap : Nat) (L : List Nb) (w : World) (hl : L.length ≤ 1000000) (hr : LiR w 3 Nb.cells a L) :
    Calls Tryz.prog 107 #[.slice a L.length cap] w fun e w' => ∃ g c, e = .returned (.slice (some ⟨g, 0, none⟩) L.length c) ∧ Tl 56 3 Nb.cells (fun _ _ _ => True) [.int .i64 77, .int .u64 0, .int .u64 0] w' w.heap.size (some ⟨g, 0, none⟩) c L ∧ Below w.heap.size w w' := by
  have HR := hide hr
  obtain ⟨i0, hi0, hz0, hz1, hz2⟩ := info_parts info_qNumbers
  clear hr
  go_enter Tryz.func107, Tryz.ntmps107
  go_wp2_with (first
    | (refine wpList_make_own _ rfl _ _ 39 rfl w.heap.size 56 i0 (.agg #[.int .i64 0, .int .u64 0, .int .u64 0]) 3 Tryz.underlying39 hi0 hz0 hz1 .i64 .i64 _ (L.length + 1) rfl rfl (by simp) (by rw [hz2]; omega) (by unfold maxLen; omega) (Nat.le_refl _) ?_; intro w1 O1 G1; have S1 : Hid (Tg 56 3 Nb.cells (fun _ _ _ => True) w w1 (.slice (some ⟨w.heap.size, 0, none⟩) 0 (L.length + 1)) (L.take 0)) := ⟨(Below.refl _ w).grown G1 (Nat.le_refl _) (fun k e => by cases e), O1, fun x hx => trivial⟩; clear O1 G1))
  go_loopw [3, 4] (fun t i wr => ∃ k : Nat, k ≤ L.length ∧ i = .int .i64 k ∧ Tg 56 3 Nb.cells (fun _ _ _ => True) w wr t (L.take k)) (fun _ i _ => L.length - (intOf i).toNat)
  case atStart => exact ⟨0, by omega, rfl, S1.out⟩
  case round =>
    obtain ⟨k, hk, rfl, hs⟩ := hrel
    have SS := hide hs
    have LK : Hid ((L.take k).length = k) := by show _ = _; rw [List.length_take]; omega
    clear hs S1
    by_cases hlt : k < L.length
    · obtain ⟨b, off, rfl, _, hc⟩ := (HR.out.below SS.out.bl).some (by omega)
      obtain ⟨x, hx⟩ : ∃ x, L[k] = x := ⟨_, rfl⟩
      obtain ⟨n, h, l⟩ := x
      have c0 := hc k hlt 0 (.int .i64 n) (by rw [hx]; rfl)
      have c1 := hc k hlt 1 (.int .u64 h) (by rw [hx]; rfl)
      have c2 := hc k hlt 2 (.int .u64 l) (by rw [hx]; rfl)
      rw [Nat.add_zero] at c0
      have hkI : (k : Int) < (L.length : Int) := by omega
      have HT : Hid (L.take (k + 1) = L.take k ++ [⟨n, h, l⟩]) := by show _ = _; rw [List.take_succ_eq_append_getElem hlt, hx]
      clear hc hx HR
      go_wp2_with (at_builtin; refine wpList_append_own_at _ rfl _ _ 39 rfl w.heap.size 56 i0 (.agg #[.int .i64 0, .int .u64 0, .int .u64 0]) 3 24 Tryz.underlying39 hi0 hz0 hz1 hz2 rfl (by decide) _ k (flat Nb.cells (L.take k)) rfl (own_allocD (by have := SS.out.own; rw [LK.out] at this; exact this) _) ⟨wr.heap.size, 0, none⟩ 1 1 [.int .i64 n, .int .u64 h, .int .u64 l] rfl rfl (cells_newD _ _ _) (by simp [Value.oneCell']) (by unfold maxLen; omega) (by omega) (by have := SS.out.bl.size; simp; omega) ?_; intro v7 w7 O7 G7 _ K7; have SN : Hid (Tg 56 3 Nb.cells (fun _ _ _ => True) w w7 v7 (L.take (k + 1))) := (by rw [HT.out]; exact Tg.put Kp.none (by simp) SS.out (below1 wr _) trivial (by rw [LK.out]; exact O7) G7); clear O7 G7 K7)
      go_roundw
      case rel => exact ⟨k + 1, by omega, by go_num, SN.out⟩
      case measure => simp [intOf]; omega
    · obtain rfl : k = L.length := by omega
      have HX : Hid (L.take L.length = L) := List.take_length ..
      have SF := SS.out
      rw [HX.out] at SF
      have SE := hide SF
      clear SF SS HR LK
      go_wp2_with (at_builtin; refine wpList_append_own_at _ rfl _ _ 39 rfl w.heap.size 56 i0 (.agg #[.int .i64 0, .int .u64 0, .int .u64 0]) 3 24 Tryz.underlying39 hi0 hz0 hz1 hz2 rfl (by decide) _ L.length (flat Nb.cells L) rfl (own_allocD SE.out.own _) ⟨wr.heap.size, 0, none⟩ 1 1 [.int .i64 77, .int .u64 0, .int .u64 0] rfl rfl (cells_newD _ _ _) (by simp [Value.oneCell']) (by unfold maxLen; omega) (by omega) (by have := SE.out.bl.size; simp; omega) ?_; intro v7 w7 O7 G7 _ K7; obtain ⟨g, c, rfl, hgc, hgB, hgl, hcm⟩ := own_someD O7 (by omega); have SN := hide (Tg.done Kp.none (by simp) SE.out (below1 wr _) O7 G7 hgc hcm); have hcI : (L.length : Int) ≤ (c : Int) := (by omega); clear O7 G7 K7)
      go_ret
      exact ⟨g, c, rfl, SN.out.2, SN.out.1⟩
end Go.Proofs.YtlipcmonlhdgfaaGreat
/- TwinTable. -/
namespace Go.Proofs.YtlipcmonlhdgfaaGreat
open Go.RowKit

set_option maxRecDepth 100000 in
theorem sz_qTable : ∀ w : World, (sizeOf 41).run Tryz.prog w = .ok 8 w := fun w => by rfl
set_option maxRecDepth 100000 in
theorem ag_qTable : ∀ w : World, (isAgg 41).run Tryz.prog w = .ok true w := fun w => by rfl
set_option maxRecDepth 100000 in
set_option maxHeartbeats 16000000 in
theorem tqTable_any (y : TaL) (W : World) (hy : TaR W y) : Calls Tryz.prog 50 #[.agg y.cells.toArray] W fun e w' => ∃ z : TaL, e = .returned (.agg z.cells.toArray) ∧ bTa z = bTa y ∧ kTa w' W.heap.size z ∧ Below W.heap.size W w' := by
  have HC0 : Hid (∀ W', Below W.heap.size W W' → _) := fun W' hb => tqInts_any y.ka y.kc y.ks W' hy.ks.ln (liZ (hy.ks.rd.below hb))
  have HC1 : Hid (∀ W', Below W.heap.size W W' → _) := fun W' hb => tqKinds_any y.da y.dc y.kd W' hy.kd.ln (hy.kd.rd.below hb)
  have HC2 : Hid (∀ W', Below W.heap.size W W' → _) := fun W' hb => tqInts_any y.aa y.ac y.ats W' hy.ats.ln (liZ (hy.ats.rd.below hb))
  have HC3 : Hid (∀ W', Below W.heap.size W W' → _) := fun W' hb => tqNumbers_any y.ga y.gc y.gs W' hy.gs.ln (liN (hy.gs.rd.below hb))
  have HC4 : Hid (∀ W', Below W.heap.size W W' → _) := fun W' hb => tqInses_any y.ba y.bc y.bf W' (hy.bf.below hb)
  clear hy
  obtain ⟨name, ks, ka, kc, kd, da, dc, ats, aa, ac, df, gs, ga, gc, size, bf, ba, bc⟩ := y
  simp only [TaL.cells] at *
  go_enter Tryz.func50, Tryz.ntmps50
  go_wp2
  have hS0 : TwX W 41 8 #[.string name, .slice ka ks.length kc, .slice da kd.length dc, .slice aa ats.length ac, .int .i64 df, .slice ga gs.length gc, .int .i64 size, .slice ba bf.length bc] ((W.alloc (.cells #[.string name, .slice ka ks.length kc, .slice da kd.length dc, .slice aa ats.length ac, .int .i64 df, .slice ga gs.length gc, .int .i64 size, .slice ba bf.length bc] 41)).alloc (.cells #[.string ⟨#[]⟩, .slice none 0 0, .slice none 0 0, .slice none 0 0, .int .i64 0, .slice none 0 0, .int .i64 0, .slice none 0 0] 41)).drew := TwX.start rfl
  generalize (W.alloc (.cells #[.string name, .slice ka ks.length kc, .slice da kd.length dc, .slice aa ats.length ac, .int .i64 df, .slice ga gs.length gc, .int .i64 size, .slice ba bf.length bc] 41)).alloc (.cells #[.string ⟨#[]⟩, .slice none 0 0, .slice none 0 0, .slice none 0 0, .int .i64 0, .slice none 0 0, .int .i64 0, .slice none 0 0] 41) = w1 at *
  refine wp_region_noPanic ?_
  refine wp_region_held_drew (S := TwX W 41 8 #[.string name, .slice ka ks.length kc, .slice da kd.length dc, .slice aa ats.length ac, .int .i64 df, .slice ga gs.length gc, .int .i64 size, .slice ba bf.length bc]) (by kernel_rfl) hS0 (fun hHeld => ?_)
  clear hS0
  generalize w1.drew = yw at *
  refine wpAnyH_take (i := 0) (v := ?_) rfl (by kernel_rfl) (by kernel_rfl) (by kernel_rfl) (fun _ _ _ h => h) (Or.inl ⟨by kernel_rfl, ?_⟩) hHeld ?_
  rotate_left
  · (intro w hSw; clear hSw; go_simp; try (with_reducible rfl))
  refine wpAnyH_take (i := 1) (v := ?_) rfl (by kernel_rfl) (by kernel_rfl) (by kernel_rfl) (fun _ _ _ h => h) (Or.inl ⟨by kernel_rfl, ?_⟩) hHeld ?_
  rotate_left
  · (intro w hSw; have hc0 := cel_of hSw.2.1 0 rfl; clear hSw; go_simp; try (with_reducible rfl))
  refine wpAnyH_take (i := 2) (v := ?_) rfl (by kernel_rfl) (by kernel_rfl) (by kernel_rfl) (fun _ _ _ h => h) (Or.inl ⟨by kernel_rfl, ?_⟩) hHeld ?_
  rotate_left
  · (intro w hSw; clear hSw; go_simp; try (with_reducible rfl))
  refine wpAnyH_take (i := 3) (v := ?_) rfl (by kernel_rfl) (by kernel_rfl) (by kernel_rfl) (fun _ _ _ h => h) (Or.inl ⟨by kernel_rfl, ?_⟩) hHeld ?_
  rotate_left
  · (intro w hSw; have hc1 := cel_of hSw.2.1 1 rfl; clear hSw; go_simp; try (with_reducible rfl))
  refine wpAnyH_take (i := 5) (v := ?_) rfl (by kernel_rfl) (by kernel_rfl) (by kernel_rfl) (fun _ _ _ h => h) (Or.inl ⟨by kernel_rfl, ?_⟩) hHeld ?_
  rotate_left
  · (intro w hSw; clear hSw; go_simp; try (with_reducible rfl))
  refine wpAnyH_take (i := 6) (v := ?_) rfl (by kernel_rfl) (by kernel_rfl) (by kernel_rfl) (fun _ _ _ h => h) (Or.inl ⟨by kernel_rfl, ?_⟩) hHeld ?_
  rotate_left
  · (intro w hSw; have hc2 := cel_of hSw.2.1 2 rfl; clear hSw; go_simp; try (with_reducible rfl))
  refine wpAnyH_take (i := 8) (v := ?_) rfl (by kernel_rfl) (by kernel_rfl) (by kernel_rfl) (fun _ _ _ h => h) (Or.inl ⟨by kernel_rfl, ?_⟩) hHeld ?_
  rotate_left
  · (intro w hSw; clear hSw; go_simp; try (with_reducible rfl))
  refine wpAnyH_take (i := 9) (v := ?_) rfl (by kernel_rfl) (by kernel_rfl) (by kernel_rfl) (fun _ _ _ h => h) (Or.inl ⟨by kernel_rfl, ?_⟩) hHeld ?_
  rotate_left
  · (intro w hSw; have hc3 := cel_of hSw.2.1 3 rfl; clear hSw; go_simp; try (with_reducible rfl))
  refine wpAnyH_take (i := 11) (v := ?_) rfl (by kernel_rfl) (by kernel_rfl) (by kernel_rfl) (fun _ _ _ h => h) (Or.inl ⟨by kernel_rfl, ?_⟩) hHeld ?_
  rotate_left
  · (intro w hSw; clear hSw; go_simp; try (with_reducible rfl))
  refine wpAnyH_take (i := 12) (v := ?_) rfl (by kernel_rfl) (by kernel_rfl) (by kernel_rfl) (fun _ _ _ h => h) (Or.inl ⟨by kernel_rfl, ?_⟩) hHeld ?_
  rotate_left
  · (intro w hSw; have hc4 := cel_of hSw.2.1 4 rfl; clear hSw; go_simp; try (with_reducible rfl))
  refine wpAnyH_take (i := 13) (v := ?_) rfl (by kernel_rfl) (by kernel_rfl) (by kernel_rfl) (fun _ _ _ h => h) (Or.inl ⟨by kernel_rfl, ?_⟩) hHeld ?_
  rotate_left
  · (intro w hSw; clear hSw; go_simp; try (with_reducible rfl))
  refine wpAnyH_take (i := 14) (v := ?_) rfl (by kernel_rfl) (by kernel_rfl) (by kernel_rfl) (fun _ _ _ h => h) (Or.inl ⟨by kernel_rfl, ?_⟩) hHeld ?_
  rotate_left
  · (intro w hSw; have hc5 := cel_of hSw.2.1 5 rfl; clear hSw; go_simp; try (with_reducible rfl))
  refine wpAnyH_take (i := 16) (v := ?_) rfl (by kernel_rfl) (by kernel_rfl) (by kernel_rfl) (fun _ _ _ h => h) (Or.inl ⟨by kernel_rfl, ?_⟩) hHeld ?_
  rotate_left
  · (intro w hSw; clear hSw; go_simp; try (with_reducible rfl))
  refine wpAnyH_take (i := 17) (v := ?_) rfl (by kernel_rfl) (by kernel_rfl) (by kernel_rfl) (fun _ _ _ h => h) (Or.inl ⟨by kernel_rfl, ?_⟩) hHeld ?_
  rotate_left
  · (intro w hSw; have hc6 := cel_of hSw.2.1 6 rfl; clear hSw; go_simp; try (with_reducible rfl))
  refine wpAnyH_take (i := 18) (v := ?_) rfl (by kernel_rfl) (by kernel_rfl) (by kernel_rfl) (fun _ _ _ h => h) (Or.inl ⟨by kernel_rfl, ?_⟩) hHeld ?_
  rotate_left
  · (intro w hSw; clear hSw; go_simp; try (with_reducible rfl))
  refine wpAnyH_take (i := 19) (v := ?_) rfl (by kernel_rfl) (by kernel_rfl) (by kernel_rfl) (fun _ _ _ h => h) (Or.inl ⟨by kernel_rfl, ?_⟩) hHeld ?_
  rotate_left
  · (intro w hSw; have hc7 := cel_of hSw.2.1 7 rfl; clear hSw; go_simp; try (with_reducible rfl))
  refine wpAnyH_ready (rs := [4]) (by kernel_rfl) (by simp) ?_
  refine AllReadyH.cons rfl (fun K hK => ?_) AllReadyH.nil
  go_simp
  refine (HC0.out _ hHeld.1).mono ?_
  rintro e y0 ⟨g0, d0, rfl, k0, b0⟩
  have K0 : Hid (zT y0 yw.heap.size (some ⟨g0, 0, none⟩) d0 ks) := k0
  have Z0 : Hid (W.heap.size + 2 ≤ yw.heap.size) := hHeld.2.2.2
  replace hHeld := hHeld.next b0
  clear k0 b0
  go_wp2_with fail
  refine hK.out _ _ hHeld (fun _ => ?_)
  clear hK K
  refine wpAnyH_ready (rs := [7]) (by kernel_rfl) (by simp) ?_
  refine AllReadyH.cons rfl (fun K hK => ?_) AllReadyH.nil
  go_simp
  refine (HC1.out _ hHeld.1).mono ?_
  rintro e y1 ⟨g1, d1, rfl, k1, b1⟩
  have K1 : Hid (kT y1 y0.heap.size (some ⟨g1, 0, none⟩) d1 kd) := k1
  have Z1 : Hid (W.heap.size + 2 ≤ y0.heap.size) := hHeld.2.2.2
  have K0 := hide (zT.fr (us := tsU) (by simp [tsU]) K0.out (E := fun _ => False) (Fr.ofBelow b1) (fun _ e => e.elim))
  replace hHeld := hHeld.next b1
  clear k1 b1
  go_wp2_with fail
  refine hK.out _ _ hHeld (fun _ => ?_)
  clear hK K
  refine wpAnyH_ready (rs := [10]) (by kernel_rfl) (by simp) ?_
  refine AllReadyH.cons rfl (fun K hK => ?_) AllReadyH.nil
  go_simp
  refine (HC2.out _ hHeld.1).mono ?_
  rintro e y2 ⟨g2, d2, rfl, k2, b2⟩
  have K2 : Hid (zT y2 y1.heap.size (some ⟨g2, 0, none⟩) d2 ats) := k2
  have Z2 : Hid (W.heap.size + 2 ≤ y1.heap.size) := hHeld.2.2.2
  have K0 := hide (zT.fr (us := tsU) (by simp [tsU]) K0.out (E := fun _ => False) (Fr.ofBelow b2) (fun _ e => e.elim))
  have K1 := hide (kT.fr (us := tsU) (by simp [tsU]) K1.out (E := fun _ => False) (Fr.ofBelow b2) (fun _ e => e.elim))
  replace hHeld := hHeld.next b2
  clear k2 b2
  go_wp2_with fail
  refine hK.out _ _ hHeld (fun _ => ?_)
  clear hK K
  refine wpAnyH_ready (rs := [15]) (by kernel_rfl) (by simp) ?_
  refine AllReadyH.cons rfl (fun K hK => ?_) AllReadyH.nil
  go_simp
  refine (HC3.out _ hHeld.1).mono ?_
  rintro e y3 ⟨g3, d3, rfl, k3, b3⟩
  have K3 : Hid (nT y3 y2.heap.size (some ⟨g3, 0, none⟩) d3 gs) := k3
  have Z3 : Hid (W.heap.size + 2 ≤ y2.heap.size) := hHeld.2.2.2
  have K0 := hide (zT.fr (us := tsU) (by simp [tsU]) K0.out (E := fun _ => False) (Fr.ofBelow b3) (fun _ e => e.elim))
  have K1 := hide (kT.fr (us := tsU) (by simp [tsU]) K1.out (E := fun _ => False) (Fr.ofBelow b3) (fun _ e => e.elim))
  have K2 := hide (zT.fr (us := tsU) (by simp [tsU]) K2.out (E := fun _ => False) (Fr.ofBelow b3) (fun _ e => e.elim))
  replace hHeld := hHeld.next b3
  clear k3 b3
  go_wp2_with fail
  refine hK.out _ _ hHeld (fun _ => ?_)
  clear hK K
  refine wpAnyH_ready (rs := [20]) (by kernel_rfl) (by simp) ?_
  refine AllReadyH.cons rfl (fun K hK => ?_) AllReadyH.nil
  go_simp
  refine (HC4.out _ hHeld.1).mono ?_
  rintro e y4 ⟨g4, d4, x4, rfl, m4, k4, b4⟩
  have M4 := hide m4
  clear m4
  have K4 : Hid (iT y4 y3.heap.size (some ⟨g4, 0, none⟩) d4 x4) := k4
  have Z4 : Hid (W.heap.size + 2 ≤ y3.heap.size) := hHeld.2.2.2
  have K0 := hide (zT.fr (us := tsU) (by simp [tsU]) K0.out (E := fun _ => False) (Fr.ofBelow b4) (fun _ e => e.elim))
  have K1 := hide (kT.fr (us := tsU) (by simp [tsU]) K1.out (E := fun _ => False) (Fr.ofBelow b4) (fun _ e => e.elim))
  have K2 := hide (zT.fr (us := tsU) (by simp [tsU]) K2.out (E := fun _ => False) (Fr.ofBelow b4) (fun _ e => e.elim))
  have K3 := hide (nT.fr (us := tsU) (by simp [tsU]) K3.out (E := fun _ => False) (Fr.ofBelow b4) (fun _ e => e.elim))
  replace hHeld := hHeld.next b4
  clear k4 b4
  go_wp2_with fail
  refine hK.out _ _ hHeld (fun _ => ?_)
  clear hK K
  refine wpAnyH_take (i := 21) (v := ?_) rfl (by kernel_rfl) (by kernel_rfl) (by kernel_rfl) (fun _ _ _ h => h) (Or.inl ⟨by kernel_rfl, ?_⟩) hHeld ?_
  rotate_left
  · (intro w hSw; clear hSw; go_simp; try (with_reducible rfl))
  obtain ⟨cur, hcur, hcs⟩ := hHeld.2.2.1
  refine wpAnyH_ready (rs := [22]) (by kernel_rfl) (by simp) ?_
  refine AllReadyH.cons rfl (fun K hK => ?_) AllReadyH.nil
  refine step_storeA rfl 41 _ _ rfl (W.heap.size + 1) [.string name, .slice (some ⟨g0, 0, none⟩) ks.length d0, .slice (some ⟨g1, 0, none⟩) kd.length d1, .slice (some ⟨g2, 0, none⟩) ats.length d2, .int .i64 df, .slice (some ⟨g3, 0, none⟩) gs.length d3, .int .i64 size, .slice (some ⟨g4, 0, none⟩) bf.length d4] cur 41 rfl rfl (fun w => by rfl) hcur hcs (by simp [Value.oneCell']) ?_
  intro w9 hw9
  have hfr : Fr (· = W.heap.size + 1) y4 w9 := by rw [hw9]; exact fr_all _ _ _ _
  have h9 := hHeld.store (cs := [.string name, .slice (some ⟨g0, 0, none⟩) ks.length d0, .slice (some ⟨g1, 0, none⟩) kd.length d1, .slice (some ⟨g2, 0, none⟩) ats.length d2, .int .i64 df, .slice (some ⟨g3, 0, none⟩) gs.length d3, .int .i64 size, .slice (some ⟨g4, 0, none⟩) bf.length d4]) rfl hw9
  refine hK.out _ _ h9.1 (fun _ => ?_)
  clear hK K
  refine wpAnyH_done (by kernel_rfl) ?_ _
  refine NoPanic.normal ?_
  have H1 := hide h9.1.1; have H2 := hide h9.2.1
  have P0 := hide ((zT.fr (us := tsU) (by simp [tsU]) K0.out hfr (fun b e => .inl (by have := Z0.out; omega))).lower (B' := W.heap.size) (by have := Z0.out; omega))
  have P1 := hide ((kT.fr (us := tsU) (by simp [tsU]) K1.out hfr (fun b e => .inl (by have := Z1.out; omega))).lower (B' := W.heap.size) (by have := Z1.out; omega))
  have P2 := hide ((zT.fr (us := tsU) (by simp [tsU]) K2.out hfr (fun b e => .inl (by have := Z2.out; omega))).lower (B' := W.heap.size) (by have := Z2.out; omega))
  have P3 := hide ((nT.fr (us := tsU) (by simp [tsU]) K3.out hfr (fun b e => .inl (by have := Z3.out; omega))).lower (B' := W.heap.size) (by have := Z3.out; omega))
  have P4 := hide ((iT.fr (us := tsU) (by simp [tsU]) (by simp [tsU]) K4.out hfr (fun b e => .inl (by have := Z4.out; omega))).lower (B' := W.heap.size) (by have := Z4.out; omega))
  have L4 : Hid (bf.length = x4.length) := by show _ = _; have := congrArg List.length M4.out; simpa using this.symm
  clear hw9 h9 hHeld hcur hcs hfr
  go_wp2
  exact bodyPost_ret (res_cell (cs := [.string name, .slice (some ⟨g0, 0, none⟩) ks.length d0, .slice (some ⟨g1, 0, none⟩) kd.length d1, .slice (some ⟨g2, 0, none⟩) ats.length d2, .int .i64 df, .slice (some ⟨g3, 0, none⟩) gs.length d3, .int .i64 size, .slice (some ⟨g4, 0, none⟩) bf.length d4]) (e := 41) Tryz.results50 rfl ag_qTable sz_qTable H2.out) rfl ⟨⟨name, ks, some ⟨g0, 0, none⟩, d0, kd, some ⟨g1, 0, none⟩, d1, ats, some ⟨g2, 0, none⟩, d2, df, gs, some ⟨g3, 0, none⟩, d3, size, x4, some ⟨g4, 0, none⟩, d4⟩, by simp only [L4.out], by simp only [bTa, M4.out], ⟨P0.out, P1.out, P2.out, P3.out, P4.out⟩, H1.out⟩
end Go.Proofs.YtlipcmonlhdgfaaGreat
