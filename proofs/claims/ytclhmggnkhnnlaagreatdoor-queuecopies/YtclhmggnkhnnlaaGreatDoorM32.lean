/- Pieces of the proof: TwGs, TwGl. -/
import Derived.Test.YtclhmggnkhnnlaaGreatDoorM31
import Derived.Test.YtclhmggnkhnnlaaGreatDoorM14
import Derived.Test.YtclhmggnkhnnlaaGreatDoorM26
import Derived.Deep.LoopGhost
import Derived.RegionTactic
/- TwinGroups, LeftGroup, with rows of one's own handed on. -/
namespace Go.Proofs.YtclhmggnkhnnlaaGreatDoor
open Go.RowKit

theorem Tryz.infoGp : (Tryz.prog.info? 30).map (fun i => (i.zero, i.size, i.bytes)) = some (some (.agg #[.slice none 0 0]), 1, 24) := by kernel_rfl
theorem gp_one (g : Gp) : ∀ u ∈ g.cells, u.oneCell' = true := fun u hu => by simp [Gp.cells] at hu; subst hu; rfl
theorem TwGp.fr {E : Nat → Prop} {W W' : World} {B : Nat} {y z : Gp} (h : TwGp W B y z) (hf : Fr E W W') (hE : ∀ b, E b → ∃ cs, W.heap[b]? = some (.cells cs 30 (0, 0))) : TwGp W' B y z := by
  obtain ⟨g, e1, h1, k1⟩ := h.ms
  have hn : ¬ E g := fun e => by
    obtain ⟨cs, h2⟩ := hE g e
    obtain ⟨c2, h3⟩ := row_ty k1 rfl
    rw [h2] at h3
    injection h3 with h3
    injection h3 with _ h3 _
    revert h3; decide
  have hlt := (World.ownsRow.lt k1 g rfl).2
  exact ⟨h.e, ⟨g, e1, rdZ_block h1 (hf.block g hlt hn) (Nat.lt_of_lt_of_le hlt hf.size), owR_fr k1 hf (fun b hb e => hn (by injection (show some g = some b from hb) with hb; rw [hb]; exact e))⟩, h.mc⟩
theorem TwGp.lower {W : World} {B B' : Nat} {y z : Gp} (h : TwGp W B y z) (hb : B' ≤ B) : TwGp W B' y z := by
  obtain ⟨g, e1, h1, k1⟩ := h.ms
  exact ⟨h.e, ⟨g, e1, h1, owR_lower k1 hb⟩, h.mc⟩
/- Twins of groups, while they are laid. -/
structure TgS (w W : World) (v : Value) (l zs : List Gp) : Prop where
  bl : Below w.heap.size w W
  own : W.ownsRow w.heap.size 30 1 v zs.length (flat Gp.cells zs)
  len : zs.length ≤ l.length
  tw : ∀ i (h : i < zs.length) (h' : i < l.length), TwGp W w.heap.size l[i] zs[i]
theorem TgS.below {w W W' : World} {v : Value} {l zs : List Gp} (h : TgS w W v l zs) (hb : Below W.heap.size W W') : TgS w W' v l zs :=
  ⟨bstep h.bl hb, owR_below h.own hb, h.len, fun i h1 h2 => (h.tw i h1 h2).below hb⟩
theorem TgS.put {w W W7 w8 : World} {v v' : Value} {l zs : List Gp} {z : Gp} (h : TgS w W v l zs) (hb : Below W.heap.size W W7) (hl : zs.length < l.length) (htw : TwGp W7 W.heap.size l[zs.length] z) (O : w8.ownsRow w.heap.size 30 1 v' (zs.length + 1) (flat Gp.cells zs ++ z.cells)) (G : W7.grownBy w8 v.ownBlock) : TgS w w8 v' l (zs ++ [z]) := by
  have h7 := h.below hb
  have hf : Fr (fun b => v.ownBlock = some b) W7 w8 := Fr.grown G (fun r e => e)
  have hE : ∀ b, v.ownBlock = some b → ∃ cs, W7.heap[b]? = some (.cells cs 30 (0, 0)) := fun b e => row_ty h7.own e
  refine ⟨h7.bl.trans (hf.below (fun b e => (World.ownsRow.lt h7.own b e).1) h7.bl.size), ?_, by simp; omega, fun i h1 h2 => ?_⟩
  · rw [List.length_append, flat_append]
    have : flat Gp.cells [z] = z.cells := by simp [flat]
    rw [this]; exact O
  · by_cases hi : i < zs.length
    · rw [List.getElem_append_left hi]; exact (h7.tw i hi h2).fr hf hE
    · have : i = zs.length := by simp at h1; omega
      subst this
      simp only [List.getElem_concat_length]
      exact (htw.lower h.bl.size).fr hf hE
set_option maxRecDepth 100000 in
set_option maxHeartbeats 4000000 in
theorem twinGs_any (a : Option Addr) (cap : Nat) (l : List Gp) (w : World) (hr : RdG Gp.cells 1 w a l) (hz : ∀ g ∈ l, RdZ w g.a g.ps ∧ g.ps.length ≤ 1000000) (hl : l.length ≤ 900000) :
    Calls Tryz.prog 6 #[.slice a l.length cap] w fun e w' => ∃ g c b zs, e = .returned (.slice (some ⟨g, 0, none⟩) l.length c) ∧ zs.length = l.length ∧ w'.ownsRow w.heap.size 30 1 (.slice (some ⟨g, 0, none⟩) (l.length + 1) c) (l.length + 1) (flat Gp.cells zs ++ [.slice (some ⟨b, 0, none⟩) 1 1]) ∧ w'.cell? ⟨b, 0, none⟩ = some (.int .i64 77) ∧ TgS w w' (.slice (some ⟨g, 0, none⟩) l.length c) l zs ∧ l.length + 1 ≤ c ∧ c ≤ maxLen := by
  have HR := hide hr
  have HZ := hide hz
  have HTW : Hid (∀ k (h : k < l.length) W, Below w.heap.size w W → _) := fun k h W hb => twinGp_any l[k] W ((HZ.out _ (List.getElem_mem h)).1.below hb) (HZ.out _ (List.getElem_mem h)).2
  obtain ⟨i0, hi0, hz0, hz1, hz2⟩ := info_parts Tryz.infoGp
  clear hr hz
  go_enter Tryz.func6, Tryz.ntmps6
  go_wp2_with (first
    | (refine wpList_make_own _ rfl _ _ 22 rfl w.heap.size 30 i0 _ 1 Tryz.underlying22 hi0 hz0 hz1 .i64 .i64 _ (l.length + 1) rfl rfl (by simp) (by rw [hz2]; omega) (by unfold maxLen; omega) (Nat.le_refl _) ?_; intro w1 O1 G1; have S1 : Hid (TgS w w1 (.slice (some ⟨w.heap.size, 0, none⟩) 0 (l.length + 1)) l []) := ⟨(Below.refl _ w).grown G1 (Nat.le_refl _) (fun k e => by cases e), O1, Nat.zero_le _, fun i h => by simp at h⟩; clear O1 G1))
  go_loopg [3, 4] l.length (fun gk t i wr => ∃ (k : Nat) (zs : List Gp), k + gk = l.length ∧ i = .int .i64 k ∧ zs.length = k ∧ TgS w wr t l zs)
  case atStart => exact ⟨0, [], by omega, rfl, rfl, S1.out⟩
  case round =>
    obtain ⟨k, zs, hk, rfl, hzl, hs⟩ := hrel
    have SS := hide hs
    have HK := hide hk
    have HZL := hide hzl
    clear hs hzl S1 hk
    by_cases hlt : k < l.length
    · have hkI : (k : Int) < (l.length : Int) := by omega
      have dk : decide (k < l.length) = true := by simp; omega
      obtain ⟨b, off, rfl, _, hc⟩ := (HR.out.below SS.out.bl).get (by omega)
      have c0 := hc k hlt 0 _ rfl
      rw [Nat.add_zero, Nat.mul_one] at c0
      have HT := hide (HTW.out k hlt _ SS.out.bl)
      have HPUT := hide (fun (W7 w8 : World) (v' : Value) (z : Gp) => TgS.put (W7 := W7) (w8 := w8) (v' := v') (z := z) SS.out)
      clear hc HR HTW
      generalize hx : l[k] = x at *
      have HX := hide hx
      clear hx
      obtain ⟨xa, xc, ps⟩ := x
      simp only [Gp.val] at c0 HT
      go_wp2_with (first
        | (go_at_call 22; refine HT.out.mono ?_; rintro e w1 ⟨z, rfl, htw, hb⟩; have TZ := hide htw; have B1 := hide hb; clear htw hb)
        | (at_builtin; refine wpList_append_own_at _ rfl _ _ 22 rfl w.heap.size 30 i0 _ 1 24 Tryz.underlying22 hi0 hz0 hz1 hz2 rfl (by decide) _ k (flat Gp.cells zs) rfl (by have := SS.out.own; rw [HZL.out] at this; exact owR_below (owR_below this B1.out) (below1 _ _)) ⟨w1.heap.size, 0, none⟩ 1 1 z.cells rfl rfl (cells_newD _ _ _) (gp_one z) (by unfold maxLen; omega) (by omega) (by have := SS.out.bl.size; have := B1.out.size; simp; omega) ?_; intro v7 w7 O7 G7 _ K7; have SN : Hid (TgS w w7 v7 l (zs ++ [z])) := HPUT.out _ _ _ z (bstep B1.out (below1 w1 _)) (by rw [HZL.out]; exact hlt) (by have := TZ.out.below (below1 w1 (.cells z.cells.toArray 30)); simp only [HZL.out]; rw [HX.out]; exact this) (by rw [HZL.out]; exact O7) G7; clear O7 G7 K7))
      go_roundg (gk - 1)
      case measure => have := HK.out; omega
      case rel => exact ⟨k + 1, zs ++ [z], by have := HK.out; omega, by go_num, by simp; exact HZL.out, SN.out⟩
    · obtain rfl : k = l.length := by have := HK.out; omega
      have dk : decide (l.length < l.length) = false := by simp
      clear HR HTW
      have hbx := below2 wr (.cells #[.int .i64 77] 3) (.cells #[.slice (some ⟨wr.heap.size, 0, none⟩) 1 1] 30)
      have hx1 := heap_past (.cells #[.slice (some ⟨wr.heap.size, 0, none⟩) 1 1] 30) (heap_alloc_new wr (.cells #[.int .i64 77] 3))
      have hx2 := heap_snd wr (.cells #[.int .i64 77] 3) #[.slice (some ⟨wr.heap.size, 0, none⟩) 1 1] 30
      have HBX := hide hbx
      have HX1 := hide hx1
      have HX2 := hide hx2
      clear hbx hx1 hx2
      go_wp2_with (at_builtin; go_loud (refine wpList_append_own_at _ rfl _ _ 22 rfl w.heap.size 30 i0 _ 1 24 Tryz.underlying22 hi0 hz0 hz1 hz2 rfl (by decide) _ l.length (flat Gp.cells zs) rfl (by have := owR_below SS.out.own HBX.out; rw [HZL.out] at this; exact this) ⟨wr.heap.size + 1, 0, none⟩ 1 1 [.slice (some ⟨wr.heap.size, 0, none⟩) 1 1] rfl rfl (fun j u hu => by rw [Addr.add_mid, Nat.zero_add, cellA HX2.out, ← hu]; simp) (by simp [Value.oneCell']) (by unfold maxLen; omega) (by omega) (by have := SS.out.bl.size; have := HBX.out.size; omega) ?_; intro v7 w7 O7 G7 _ K7; obtain ⟨g, c, hv7, hgc, hgB, hgl, hcm⟩ := own_someD O7 (by omega); have hS := SS.out.below HBX.out; have hf : Fr (fun b => u3.ownBlock = some b) _ w7 := Fr.grown G7 (fun r e => e); have hE : ∀ b, u3.ownBlock = some b → ∃ cs : Array Value, ((wr.alloc (.cells #[.int .i64 77] 3)).alloc (.cells #[.slice (some ⟨wr.heap.size, 0, none⟩) 1 1] 30)).heap[b]? = some (.cells cs 30 (0, 0)) := (fun b e => row_ty hS.own e); have C7 : Hid (w7.cell? ⟨wr.heap.size, 0, none⟩ = some (.int .i64 77)) := (by
            have hb : w7.heap[wr.heap.size]? = some (.cells #[.int .i64 77] 3 (0, 0)) := (hf.block _ (lt_heap HX1.out) (fun e => by
              obtain ⟨cs, h⟩ := hE _ e
              rw [HX1.out] at h
              injection h with h
              injection h with _ h _
              revert h; decide)).trans HX1.out
            exact (cellA hb 0).trans rfl); subst hv7; have O9 := hide O7; have T9 : Hid (TgS w w7 (.slice (some ⟨g, 0, none⟩) l.length c) l zs) := ⟨hS.bl.trans (hf.below (fun b e => (World.ownsRow.lt hS.own b e).1) hS.bl.size), by rw [HZL.out]; exact own_cut (m := 1) O7 (by rw [flat_length gp_len, HZL.out]), SS.out.len, fun i h h' => (hS.tw i h h').fr hf hE⟩; have HGC := hide (And.intro hgc hcm); have hcI : (l.length : Int) ≤ (c : Int) := (by omega); clear O7 G7 K7 hgB hgl hS hf hE hgc hcm))
      go_ret
      exact ⟨g, c, wr.heap.size, zs, rfl, HZL.out, O9.out, C7.out, T9.out, HGC.out.1, HGC.out.2⟩
end Go.Proofs.YtclhmggnkhnnlaaGreatDoor
/- LeftGroup, LeftGroups. -/
namespace Go.Proofs.YtclhmggnkhnnlaaGreatDoor
open Go.RowKit

theorem leftGp_yes (y z : Gp) (w : World) (hz : RdZ w y.a y.ps) (hl : y.ps.length ≤ 1000000) {B : Nat} (h : TwGp w B y z) : Calls Tryz.prog 30 #[z.val, y.val] w fun e w' => e = .returned (.bool true) ∧ Below w.heap.size w w' := by
  obtain ⟨za, zc, zps⟩ := z
  obtain ⟨ya, yc, ps⟩ := y
  obtain ⟨e, ⟨g, e1, h1, _⟩, ⟨m1, m2⟩⟩ := h
  simp only at *
  subst e e1
  have HX : Hid (∀ W, Below w.heap.size w W → _) := fun W hb => leftZ_yes g zc ya yc zps W hl (hz.below hb) m1 (by unfold maxLen at m2; omega) (h1.below hb)
  clear hz h1 m1 m2 hl
  simp only [Gp.val] at *
  generalize zps.length = n1 at *
  go_enter Tryz.func30, Tryz.ntmps30
  go_wp2_with fail
  refine (HX.out _ (below2 _ _ _)).mono ?_
  rintro e w1 ⟨rfl, hb⟩
  have BB := hide (bstep (below2 _ _ _) hb)
  clear hb
  go_wp2
  go_ret
  exact ⟨rfl, BB.out⟩
set_option maxRecDepth 100000 in
set_option maxHeartbeats 4000000 in
theorem leftGs_yes (B g c b : Nat) (a : Option Addr) (cap : Nat) (l zs : List Gp) (w : World) (hl : l.length ≤ 900000) (hr : RdG Gp.cells 1 w a l) (hgz : ∀ x ∈ l, RdZ w x.a x.ps ∧ x.ps.length ≤ 1000000) (hz : zs.length = l.length) (hO : w.ownsRow B 30 1 (.slice (some ⟨g, 0, none⟩) (l.length + 1) c) (l.length + 1) (flat Gp.cells zs ++ [.slice (some ⟨b, 0, none⟩) 1 1])) (h77 : w.cell? ⟨b, 0, none⟩ = some (.int .i64 77)) (hbl : b < w.heap.size) (htw : ∀ i (h : i < zs.length) (h' : i < l.length), TwGp w B l[i] zs[i]) (hc : l.length + 1 ≤ c) (hcm : c ≤ maxLen) :
    Calls Tryz.prog 11 #[.slice (some ⟨g, 0, none⟩) l.length c, .slice a l.length cap] w fun e w' => e = .returned (.bool true) ∧ Below w.heap.size w w' := by
  have HR := hide hr
  have HO : Hid (∀ k (h : k < zs.length), w.cell? ⟨g, k, none⟩ = some (.slice zs[k].a zs[k].ps.length zs[k].cap)) := fun k h => by
    have h0 := flat_get gp_len zs k 0 h (by decide)
    rw [Nat.mul_one, Nat.add_zero] at h0
    rw [World.ownsRow.cellAt hO k (by omega), List.getElem?_append_left (by rw [flat_length gp_len]; omega), h0]; rfl
  have HE : Hid (w.cell? ⟨g, l.length, none⟩ = some (.slice (some ⟨b, 0, none⟩) 1 1)) := by
    show _ = _
    rw [World.ownsRow.cellAt hO l.length (by omega), List.getElem?_append_right (by rw [flat_length gp_len]; omega), flat_length gp_len, hz]; simp
  have HG : Hid (g < w.heap.size) := (World.ownsRow.lt hO g rfl).2
  have HZ := hide hz
  have H77 := hide h77
  have HBL := hide hbl
  have HLF : Hid (∀ i (h : i < zs.length) (h' : i < l.length) W, Below w.heap.size w W → _) := fun i h h' W hb => leftGp_yes l[i] zs[i] W ((hgz _ (List.getElem_mem h')).1.below hb) (hgz _ (List.getElem_mem h')).2 ((htw i h h').below hb)
  have hcI : decide ((c : Int) ≤ (l.length : Int)) = false := by simp; omega
  have hcJ : ((c : Int) ≤ (l.length : Int)) = False := by simp; omega
  have hlI1 : (l.length : Int) + 1 ≤ (c : Int) := by omega
  have hcm' : c ≤ 9223372036854775807 := by unfold maxLen at hcm; omega
  have wl : IntKind.i64.wrap ((l.length : Int) + 1) = (l.length : Int) + 1 := by rw [IntKind.wrap_i64]; omega
  clear hr hO htw hz hcm hgz h77 hbl
  go_enter Tryz.func11, Tryz.ntmps11
  go_wp2
  go_loopw [5] (fun i wr => ∃ k : Nat, k ≤ l.length ∧ i = .int .i64 k ∧ Below w.heap.size w wr) (fun i _ => l.length - (intOf i).toNat)
  case atStart => exact ⟨0, by omega, rfl, Below.refl _ _⟩
  case round =>
    obtain ⟨k, hk, rfl, hnx⟩ := hrel
    have HN := hide hnx
    by_cases hlt : k < l.length
    · have hzk : k < zs.length := by have := HZ.out; omega
      obtain ⟨p, off, rfl, _, hcl⟩ := (HR.out.below hnx).get (by omega)
      have q0 := hcl k hlt 0 _ rfl
      rw [Nat.add_zero, Nat.mul_one] at q0
      have z0 := (hnx.cell (p := ⟨g, k, none⟩) HG.out).trans (HO.out k hzk)
      have hkI : (k : Int) < (l.length : Int) := by omega
      have HLk : Hid (∀ W, Below w.heap.size w W → _) := fun W hb => HLF.out k hzk hlt W hb
      clear hcl hnx HR HO HLF HE
      generalize l[k] = x at *
      generalize zs[k] = z at *
      obtain ⟨xa, xc, ps⟩ := x
      obtain ⟨za, zc, zps⟩ := z
      simp only [Gp.val] at *
      go_wp2
      go_region_with (go_at_call 30; refine (HLk.out _ HN.out.drew).mono ?_; rintro e w7 ⟨rfl, hb7⟩; have B7 := hide (HN.out.drew.trans (hb7.mono (by have := HN.out.size; exact this))); clear hb7)
      all_goals
        go_wp2
        go_roundw
        case rel => exact ⟨k + 1, by omega, by go_num, B7.out⟩
        case measure => simp [intOf]; omega
    · obtain rfl : k = l.length := by omega
      have z0 := (hnx.cell (p := ⟨g, l.length, none⟩) HG.out).trans HE.out
      have hb8 := below1 wr (.cells #[.slice (some ⟨b, 0, none⟩) 1 1] 30)
      have z7 := ((bstep hnx hb8).cell (p := ⟨b, 0, none⟩) HBL.out).trans H77.out
      have z6 := (hnx.cell (p := ⟨b, 0, none⟩) HBL.out).trans H77.out
      clear HR HO HLF hnx hb8
      go_wp2
      go_ret
      exact ⟨rfl, HN.out.alloc HN.out.size _⟩
end Go.Proofs.YtclhmggnkhnnlaaGreatDoor
