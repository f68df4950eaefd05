/- Pieces of the proof: TqLTables, TqFArrs. -/
import Derived.Test.YtlipcmonlhdgfaaGreatM8
import Derived.Deep.LoopGhost
import Derived.Test.YtlipcmonlhdgfaaGreatM5
/- TwinTables. -/
namespace Go.Proofs.YtlipcmonlhdgfaaGreat
open Go.RowKit

theorem info_qTables : (Tryz.prog.info? 41).map (fun i => (i.zero, i.size, i.bytes)) = some (some (.agg #[.string ⟨#[]⟩, .slice none 0 0, .slice none 0 0, .slice none 0 0, .int .i64 0, .slice none 0 0, .int .i64 0, .slice none 0 0]), 8, 152) := by kernel_rfl
theorem len_qTables (x : TaL) : x.cells.length = 8 := rfl
theorem one_qTables (g : TaL) : ∀ u ∈ g.cells, u.oneCell' = true := fun u hu => by
  simp only [TaL.cells, List.mem_cons, List.not_mem_nil, or_false] at hu
  rcases hu with rfl | rfl | rfl | rfl | rfl | rfl | rfl | rfl <;> rfl
set_option maxRecDepth 100000 in
theorem szqTables : ∀ w : World, (sizeOf 41).run Tryz.prog w = .ok 8 w := fun w => by rfl
set_option maxRecDepth 100000 in
theorem agqTables : ∀ w : World, (isAgg 41).run Tryz.prog w = .ok true w := fun w => by rfl
set_option maxRecDepth 100000 in
set_option maxHeartbeats 4000000 in
theorem tqTables_any (a : Option Addr) (cap : Nat) (l : List TaL) (w : World) (hr : TasR w a l) :
    Calls Tryz.prog 24 #[.slice a l.length cap] w fun e w' => ∃ g c zs, e = .returned (.slice (some ⟨g, 0, none⟩) l.length c) ∧ zs.map bTa = l.map bTa ∧ tT w' w.heap.size (some ⟨g, 0, none⟩) c zs ∧ Below w.heap.size w w' := by
  have HR := hide hr.rd
  have hl := hr.ln
  have HTW : Hid (∀ k (h : k < l.length) W, Below w.heap.size w W → _) := fun k h W hb => tqTable_any l[k] W ((hr.ok _ (List.getElem_mem h)).below hb)
  obtain ⟨i0, hi0, hz0, hz1, hz2⟩ := info_parts info_qTables
  clear hr
  go_enter Tryz.func24, Tryz.ntmps24
  go_wp2_with (first
    | (refine wpList_make_own _ rfl _ _ 27 rfl w.heap.size 41 i0 _ 8 Tryz.underlying27 hi0 hz0 hz1 .i64 .i64 _ (l.length + 1) rfl rfl (by simp) (by rw [hz2]; omega) (by unfold maxLen; omega) (Nat.le_refl _) ?_; intro w1 O1 G1; have S1 : Hid (Tg 41 8 TaL.cells kTa w w1 (.slice (some ⟨w.heap.size, 0, none⟩) 0 (l.length + 1)) []) := ⟨(Below.refl _ w).grown G1 (Nat.le_refl _) (fun k e => by cases e), O1, fun x hx => by simp at hx⟩; clear O1 G1))
  go_loopg [3, 4] l.length (fun gk t i wr => ∃ (k : Nat) (zs : List TaL), k + gk = l.length ∧ i = .int .i64 k ∧ zs.length = k ∧ zs.map bTa = (l.take k).map bTa ∧ Tg 41 8 TaL.cells kTa w wr t zs)
  case atStart => exact ⟨0, [], by omega, rfl, rfl, rfl, S1.out⟩
  case round =>
    obtain ⟨k, zs, hk, rfl, hzl, hmp, hs⟩ := hrel
    have SS := hide hs
    have HK := hide hk
    have HZL := hide hzl
    have HMP := hide hmp
    clear hs hzl S1 hk hmp
    by_cases hlt : k < l.length
    · have hkI : (k : Int) < (l.length : Int) := by omega
      have dk : decide (k < l.length) = true := by simp; omega
      obtain ⟨b, off, rfl, _, hc⟩ := (HR.out.below SS.out.bl).some (by omega)
      have hc := hc k hlt
      have HT := hide (HTW.out k hlt _ SS.out.bl)
      have HPUT := hide (fun (W7 w8 : World) (v' : Value) (z : TaL) => Tg.put (W7 := W7) (w8 := w8) (v' := v') (z := z) kpTa (by simp [tsA]) SS.out)
      have HTK := hide (List.take_succ_eq_append_getElem hlt)
      clear HR HTW
      generalize hx : l[k] = x at *
      clear hx
      have HLN : Hid (x.cells.length = 8) := rfl
      have HC := hide hc
      clear hc
      generalize hcs : x.cells = cs at *
      clear hcs
      go_wp2_with (first
        | (refine wpList_loadW rfl 41 _ rfl b (off + k * 8) cs rfl agqTables (by rw [HLN.out]; exact szqTables) HC.out ?_)
        | (go_at_call 50; refine HT.out.mono ?_; rintro e w1 ⟨z, rfl, hbz, htw, hb⟩; have TZ := hide htw; have BZ := hide hbz; have B1 := hide hb; clear htw hb hbz; obtain ⟨zc, hzc⟩ : ∃ zc, zc = z.cells := ⟨_, rfl⟩; have ZO := hide (one_qTables z); have ZL : Hid (z.cells.length = 8) := rfl; rw [← hzc] at ZO ZL ⊢; have ZC := hide hzc; have zl : zc.length = 8 := ZL.out; clear hzc)
        | (at_builtin; refine wpList_append_own_at _ rfl _ _ 27 rfl w.heap.size 41 i0 _ 8 152 Tryz.underlying27 hi0 hz0 hz1 hz2 rfl (by decide) _ k (flat TaL.cells zs) rfl (by have := SS.out.own; rw [HZL.out] at this; exact owR_below (owR_below this B1.out) (below1 _ _)) ⟨w1.heap.size, 0, none⟩ 1 1 zc rfl (by first | rfl | (rw [ZL.out])) (cells_newG _ _ _ _ ZL.out.symm) ZO.out (by unfold maxLen; omega) (by omega) (by have := SS.out.bl.size; have := B1.out.size; simp; omega) ?_; intro v7 w7 O7 G7 _ K7; have SN : Hid (Tg 41 8 TaL.cells kTa w w7 v7 (zs ++ [z])) := HPUT.out _ _ _ z (bstep B1.out (below1 w1 _)) ((kpTa).below TZ.out (below1 w1 _)) (by rw [HZL.out, ← ZC.out]; exact O7) G7; clear O7 G7 K7))
      go_roundg (gk - 1)
      case measure => have := HK.out; omega
      case rel => exact ⟨k + 1, zs ++ [z], by have := HK.out; omega, by go_num, by simp; exact HZL.out, by rw [HTK.out, List.map_append, List.map_append, HMP.out, List.map_singleton, List.map_singleton, BZ.out], SN.out⟩
    · obtain rfl : k = l.length := by have := HK.out; omega
      have dk : decide (l.length < l.length) = false := by simp
      have HMQ : Hid (zs.map bTa = l.map bTa) := by show _ = _; rw [HMP.out, List.take_length]
      clear HR HTW HMP
      go_wp2_with (at_builtin; go_loud (refine wpList_append_own_at _ rfl _ _ 27 rfl w.heap.size 41 i0 _ 8 152 Tryz.underlying27 hi0 hz0 hz1 hz2 rfl (by decide) _ l.length (flat TaL.cells zs) rfl (by have := SS.out.own; rw [HZL.out] at this; exact own_allocD this _) ⟨wr.heap.size, 0, none⟩ 1 1 [.string ⟨#[115, 112, 97, 114, 101]⟩, .slice none 0 0, .slice none 0 0, .slice none 0 0, .int .i64 0, .slice none 0 0, .int .i64 0, .slice none 0 0] rfl rfl (cells_newD _ _ _) (by simp [Value.oneCell']) (by unfold maxLen; omega) (by omega) (by have := SS.out.bl.size; simp; omega) ?_; intro v7 w7 O7 G7 _ K7; obtain ⟨g, c, hv7, hgc, hgB, hgl, hcm⟩ := own_someD O7 (by omega); subst hv7; have SN := hide (Tg.done (s := [.string ⟨#[115, 112, 97, 114, 101]⟩, .slice none 0 0, .slice none 0 0, .slice none 0 0, .int .i64 0, .slice none 0 0, .int .i64 0, .slice none 0 0]) kpTa (by simp [tsA]) SS.out (below1 wr _) (by rw [HZL.out]; exact O7) G7 (by rw [HZL.out]; exact hgc) hcm); have hcI : (l.length : Int) ≤ (c : Int) := (by omega); clear O7 G7 K7 hgB hgl hgc hcm))
      go_ret
      exact ⟨g, c, zs, rfl, HMQ.out, ⟨_, SN.out.2⟩, SN.out.1⟩
end Go.Proofs.YtlipcmonlhdgfaaGreat
/- TwinArrs, as a twin's list. -/
namespace Go.Proofs.YtlipcmonlhdgfaaGreat
open Go.RowKit

theorem info_qArrs : (Tryz.prog.info? 75).map (fun i => (i.zero, i.size, i.bytes)) = some (some (.agg #[.string ⟨#[]⟩, .int .u8 0, .int .i64 0]), 3, 32) := by kernel_rfl
set_option maxRecDepth 100000 in
set_option maxHeartbeats 4000000 in
theorem tqArrs_any (a : Option Addr) (cap : Nat) (L : List Ay) (w : World) (hl : L.length ≤ 1000000) (hr : LiR w 3 Ay.cells a L) :
    Calls Tryz.prog 25 #[.slice a L.length cap] w fun e w' => ∃ g c, e = .returned (.slice (some ⟨g, 0, none⟩) L.length c) ∧ Tl 75 3 Ay.cells (fun _ _ _ => True) [.string ⟨#[]⟩, .int .u8 0, .int .i64 77] w' w.heap.size (some ⟨g, 0, none⟩) c L ∧ Below w.heap.size w w' := by
  have HR := hide hr
  obtain ⟨i0, hi0, hz0, hz1, hz2⟩ := info_parts info_qArrs
  clear hr
  go_enter Tryz.func25, Tryz.ntmps25
  go_wp2_with (first
    | (refine wpList_make_own _ rfl _ _ 28 rfl w.heap.size 75 i0 (.agg #[.string ⟨#[]⟩, .int .u8 0, .int .i64 0]) 3 Tryz.underlying28 hi0 hz0 hz1 .i64 .i64 _ (L.length + 1) rfl rfl (by simp) (by rw [hz2]; omega) (by unfold maxLen; omega) (Nat.le_refl _) ?_; intro w1 O1 G1; have S1 : Hid (Tg 75 3 Ay.cells (fun _ _ _ => True) w w1 (.slice (some ⟨w.heap.size, 0, none⟩) 0 (L.length + 1)) (L.take 0)) := ⟨(Below.refl _ w).grown G1 (Nat.le_refl _) (fun k e => by cases e), O1, fun x hx => trivial⟩; clear O1 G1))
  go_loopw [3, 4] (fun t i wr => ∃ k : Nat, k ≤ L.length ∧ i = .int .i64 k ∧ Tg 75 3 Ay.cells (fun _ _ _ => True) w wr t (L.take k)) (fun _ i _ => L.length - (intOf i).toNat)
  case atStart => exact ⟨0, by omega, rfl, S1.out⟩
  case round =>
    obtain ⟨k, hk, rfl, hs⟩ := hrel
    have SS := hide hs
    have LK : Hid ((L.take k).length = k) := by show _ = _; rw [List.length_take]; omega
    clear hs S1
    by_cases hlt : k < L.length
    · obtain ⟨b, off, rfl, _, hc⟩ := (HR.out.below SS.out.bl).some (by omega)
      obtain ⟨x, hx⟩ : ∃ x, L[k] = x := ⟨_, rfl⟩
      obtain ⟨nm, kind, n⟩ := x
      have c0 := hc k hlt 0 (.string nm) (by rw [hx]; rfl)
      have c1 := hc k hlt 1 (.int .u8 kind) (by rw [hx]; rfl)
      have c2 := hc k hlt 2 (.int .i64 n) (by rw [hx]; rfl)
      rw [Nat.add_zero] at c0
      have hkI : (k : Int) < (L.length : Int) := by omega
      have HT : Hid (L.take (k + 1) = L.take k ++ [⟨nm, kind, n⟩]) := by show _ = _; rw [List.take_succ_eq_append_getElem hlt, hx]
      clear hc hx HR
      go_wp2_with (at_builtin; refine wpList_append_own_at _ rfl _ _ 28 rfl w.heap.size 75 i0 (.agg #[.string ⟨#[]⟩, .int .u8 0, .int .i64 0]) 3 32 Tryz.underlying28 hi0 hz0 hz1 hz2 rfl (by decide) _ k (flat Ay.cells (L.take k)) rfl (own_allocD (by have := SS.out.own; rw [LK.out] at this; exact this) _) ⟨wr.heap.size, 0, none⟩ 1 1 [.string nm, .int .u8 kind, .int .i64 n] rfl rfl (cells_newD _ _ _) (by simp [Value.oneCell']) (by unfold maxLen; omega) (by omega) (by have := SS.out.bl.size; simp; omega) ?_; intro v7 w7 O7 G7 _ K7; have SN : Hid (Tg 75 3 Ay.cells (fun _ _ _ => True) w w7 v7 (L.take (k + 1))) := (by rw [HT.out]; exact Tg.put Kp.none (by simp) SS.out (below1 wr _) trivial (by rw [LK.out]; exact O7) G7); clear O7 G7 K7)
      go_roundw
      case rel => exact ⟨k + 1, by omega, by go_num, SN.out⟩
      case measure => simp [intOf]; omega
    · obtain rfl : k = L.length := by omega
      have HX : Hid (L.take L.length = L) := List.take_length ..
      have SF := SS.out
      rw [HX.out] at SF
      have SE := hide SF
      clear SF SS HR LK
      go_wp2_with (at_builtin; refine wpList_append_own_at _ rfl _ _ 28 rfl w.heap.size 75 i0 (.agg #[.string ⟨#[]⟩, .int .u8 0, .int .i64 0]) 3 32 Tryz.underlying28 hi0 hz0 hz1 hz2 rfl (by decide) _ L.length (flat Ay.cells L) rfl (own_allocD SE.out.own _) ⟨wr.heap.size, 0, none⟩ 1 1 [.string ⟨#[]⟩, .int .u8 0, .int .i64 77] rfl rfl (cells_newD _ _ _) (by simp [Value.oneCell']) (by unfold maxLen; omega) (by omega) (by have := SE.out.bl.size; simp; omega) ?_; intro v7 w7 O7 G7 _ K7; obtain ⟨g, c, rfl, hgc, hgB, hgl, hcm⟩ := own_someD O7 (by omega); have SN := hide (Tg.done Kp.none (by simp) SE.out (below1 wr _) O7 G7 hgc hcm); have hcI : (L.length : Int) ≤ (c : Int) := (by omega); clear O7 G7 K7)
      go_ret
      exact ⟨g, c, rfl, SN.out.2, SN.out.1⟩
end Go.Proofs.YtlipcmonlhdgfaaGreat
