/- Pieces of the proof: TwZg, TwGr. -/
import Derived.Test.YtclhmggnkhnnlaaGreatDoorM22
import Derived.Test.YtclhmggnkhnnlaaGreatDoorM16
import Derived.Test.YtclhmggnkhnnlaaGreatDoorM11
/- TwinInts, LeftInts (TwZ over TwG), with rows of one's own handed on (cut out of MkF). -/
namespace Go.Proofs.YtclhmggnkhnnlaaGreatDoor
open Go.RowKit

theorem rdZ_own {W : World} {B n : Nat} {a : Option Addr} {k cap : Nat} {l : List Int} (h : W.ownsRow B 3 1 (.slice a k cap) n (flat intC l)) : k = l.length ∧ RdZ W a l := by
  have hl := h.1
  rw [flat_length int_len] at hl
  rcases h.2 with ⟨h1, h2⟩ | ⟨g, cap', cur, h1, h2, h3, h4, _⟩
  · injection h1 with e1 e2 e3
    subst e1 e2 e3
    have : l = [] := List.length_eq_zero_iff.1 (by omega)
    subst this
    exact ⟨rfl, .inl rfl⟩
  · injection h1 with e1 e2 e3
    subst e1 e2 e3
    refine ⟨by omega, .inr ⟨g, 0, rfl, (Array.getElem?_eq_some_iff.1 h3).1, fun i hi => ?_⟩⟩
    have c := World.ownsRow.cells h (g := g) rfl i (.int .i64 l[i]) (by
      have := flat_get int_len l i 0 hi (by decide)
      rw [Nat.mul_one, Nat.add_zero] at this
      exact this)
    rw [add8] at c
    exact c
theorem info_dZ : (Tryz.prog.info? 3).map (fun i => (i.zero, i.size, i.bytes)) = some (some (.int .i64 0), 1, 8) := by kernel_rfl
set_option maxRecDepth 100000 in
set_option maxHeartbeats 4000000 in
theorem twinZ_any (a : Option Addr) (cap : Nat) (L : List Int) (w : World) (hl : L.length ≤ 1000000) (hr : RdZ w a L) :
    Calls Tryz.prog 130 #[.slice a L.length cap] w fun e w' => ∃ g c, e = .returned (.slice (some ⟨g, 0, none⟩) L.length c) ∧ RdZ w' (some ⟨g, 0, none⟩) (L ++ [(77 : Int)]) ∧ L.length + 1 ≤ c ∧ c ≤ maxLen ∧ (w.heap.size ≤ g ∧ g < w'.heap.size) ∧ Below w.heap.size w w' ∧ w'.ownsRow w.heap.size 3 1 (.slice (some ⟨g, 0, none⟩) L.length c) L.length (flat intC L) := by
  have HR := hide hr
  obtain ⟨i0, hi0, hz0, hz1, hz2⟩ := info_parts info_dZ
  clear hr
  go_enter Tryz.func130, Tryz.ntmps130
  go_wp2_with (first
    | (refine wpList_make_own _ rfl _ _ 28 rfl w.heap.size 3 i0 (.int .i64 0) 1 Tryz.underlying28 hi0 hz0 hz1 .i64 .i64 _ (L.length + 1) rfl rfl (by simp) (by rw [hz2]; omega) (by unfold maxLen; omega) (Nat.le_refl _) ?_; intro w1 O1 G1; have OO1 : Hid (w1.ownsRow w.heap.size 3 1 (.slice (some ⟨w.heap.size, 0, none⟩) 0 (L.length + 1)) 0 (flat intC [])) := O1; have B1 := hide ((Below.refl _ w).grown G1 (Nat.le_refl _) (fun k e => by cases e)); clear O1 G1))
  go_loopw [3, 4] (fun t i wr => ∃ (k : Nat) (v : Value), k ≤ L.length ∧ i = .int .i64 k ∧ t = v ∧ wr.ownsRow w.heap.size 3 1 v k (flat intC (L.take k)) ∧ Below w.heap.size w wr) (fun _ i _ => L.length - (intOf i).toNat)
  case atStart => exact ⟨0, _, by omega, rfl, rfl, OO1.out, B1.out⟩
  case round =>
    obtain ⟨k, v, hk, rfl, rfl, ho, hb⟩ := hrel
    have OO := hide ho; have BB := hide hb
    clear ho hb OO1 B1
    by_cases hlt : k < L.length
    · have R1 := HR.out.below BB.out
      obtain ⟨b, off, rfl, _, hc⟩ := R1.some (by omega)
      have c0 := hc k hlt
      have hkI : (k : Int) < (L.length : Int) := by omega
      have HT := hide (List.take_succ_eq_append_getElem hlt)
      clear hc R1 HR
      generalize L[k] = x at *
      go_wp2_with (first
        | (at_builtin; refine wpList_append_own_at _ rfl _ _ 28 rfl w.heap.size 3 i0 (.int .i64 0) 1 8 Tryz.underlying28 hi0 hz0 hz1 hz2 rfl (by decide) _ k (flat intC (L.take k)) rfl (own_allocD OO.out _) ⟨wr.heap.size, 0, none⟩ 1 1 [.int .i64 x] rfl rfl (cells_newD _ _ _) (by simp [Value.oneCell']) (by unfold maxLen; omega) (by omega) (by have := BB.out.size; simp; omega) ?_; intro v7 w7 O7 G7 _ K7; have OO7 : Hid (w7.ownsRow w.heap.size 3 1 v7 (k + 1) (flat intC (L.take (k + 1)))) := by { show World.ownsRow _ _ _ _ _ _ _; rw [HT.out, flat_append]; exact O7 }; have B7 := hide (below_ownD (BB.out.alloc BB.out.size _) (own_allocD OO.out _) G7 (by have := BB.out.size; simp; omega)); clear O7 G7 K7))
      go_roundw
      case rel => exact ⟨k + 1, v7, by omega, by go_num, rfl, OO7.out, B7.out⟩
      case measure => simp [intOf]; omega
    · obtain rfl : k = L.length := by omega
      rw [List.take_length] at OO
      go_wp2_with (at_builtin; (refine wpList_append_own_at _ rfl _ _ 28 rfl w.heap.size 3 i0 (.int .i64 0) 1 8 Tryz.underlying28 hi0 hz0 hz1 hz2 rfl (by decide) _ L.length (flat intC L) rfl (own_allocD OO.out _) ⟨wr.heap.size, 0, none⟩ 1 1 [.int .i64 77] rfl rfl (cells_newD _ _ _) (by simp [Value.oneCell']) (by unfold maxLen; omega) (by omega) (by have := BB.out.size; simp; omega) ?_; intro v7 w7 O7 G7 _ K7; have O8 : w7.ownsRow w.heap.size 3 1 v7 (L.length + 1) (flat intC (L ++ [(77 : Int)])) := by { rw [flat_append]; exact O7 }; have B7 := hide (below_ownD (BB.out.alloc BB.out.size _) (own_allocD OO.out _) G7 (by have := BB.out.size; simp; omega)); obtain ⟨g, c, rfl, hgc, hgB, hgl, hcm⟩ := own_someD O8 (by omega); have OO7 := hide O8; clear O7 O8 G7 K7))
      go_ret
      exact ⟨g, c, rfl, (rdZ_own OO7.out).2, hgc, hcm, ⟨hgB, hgl⟩, B7.out, own_cut (m := 1) (by have := OO7.out; rw [flat_append] at this; exact this) (flat_length int_len L)⟩
theorem rdZ_block {W W' : World} {g : Nat} {L : List Int} (h : RdZ W (some ⟨g, 0, none⟩) L) (hb : W'.heap[g]? = W.heap[g]?) (hg : g < W'.heap.size) : RdZ W' (some ⟨g, 0, none⟩) L := by
  rcases h with h | ⟨p, off, e, hp, hc⟩
  · exact .inl h
  · cases e
    have key : ∀ o v, W.cell? ⟨g, o, none⟩ = some v → W'.cell? ⟨g, o, none⟩ = some v := fun o v hv => (World.cell?_of_block (w := W) (a := ⟨g, o, none⟩) hb).trans hv
    refine .inr ⟨g, 0, rfl, hg, fun i hi => ?_⟩
    exact key _ _ (hc i hi)
theorem rdZ_take {W : World} {a : Option Addr} {L M : List Int} (h : RdZ W a (L ++ M)) : RdZ W a L := by
  rcases h with h | ⟨p, off, rfl, hp, hc⟩
  · exact .inl (List.append_eq_nil_iff.1 h).1
  · refine .inr ⟨p, off, rfl, hp, fun i hi => ?_⟩
    have := hc i (by simp; omega)
    rw [List.getElem_append_left hi] at this
    exact this
set_option maxRecDepth 100000 in
set_option maxHeartbeats 4000000 in
theorem leftZ_yes (g c : Nat) (a : Option Addr) (cap : Nat) (L : List Int) (w : World) (hl : L.length ≤ 1000000) (hr : RdZ w a L) (hc : L.length + 1 ≤ c) (hcm : c ≤ 9223372036854775807) (ho : RdZ w (some ⟨g, 0, none⟩) (L ++ [(77 : Int)])) :
    Calls Tryz.prog 137 #[.slice (some ⟨g, 0, none⟩) L.length c, .slice a L.length cap] w fun e w' => e = .returned (.bool true) ∧ Below w.heap.size w w' := by
  have HC := hide (rdZ_take ho)
  have HR := hide hr
  have hcI : decide ((c : Int) ≤ (L.length : Int)) = false := by simp; omega
  have HO := hide ho
  have hlI : (L.length : Int) + 1 ≤ (c : Int) := by omega
  clear hr ho
  go_enter Tryz.func137, Tryz.ntmps137
  go_wp2
  go_loopw [5] (fun i wr => ∃ k : Nat, k ≤ L.length ∧ i = .int .i64 k ∧ Below w.heap.size w wr) (fun i _ => L.length - (intOf i).toNat)
  case atStart => exact ⟨0, by omega, rfl, Below.refl _ _⟩
  case round =>
    obtain ⟨k, hk, rfl, hnx⟩ := hrel
    have HN := hide hnx
    by_cases hlt : k < L.length
    · obtain ⟨p, off, rfl, _, hcl⟩ := (HR.out.below hnx).some (by omega)
      obtain ⟨g', o', eg, _, hcw⟩ := (HC.out.below hnx).some (by omega)
      cases eg
      have h0 := hcw k hlt
      have k0 := hcl k hlt
      rw [Nat.zero_add] at h0
      have hkI : (k : Int) < (L.length : Int) := by omega
      clear hcl hcw HR HC HO hnx
      generalize L[k] = x0 at *
      go_wp2
      go_region
      all_goals
        go_wp2
        go_roundw
        case rel => exact ⟨k + 1, by omega, by go_num, HN.out.drew⟩
        case measure => simp [intOf]; omega
    · obtain rfl : k = L.length := by omega
      obtain ⟨g', o', eg, _, hcw⟩ := (HO.out.below hnx).some (by simp)
      cases eg
      have hlast := hcw L.length (by simp)
      rw [List.getElem_append_right (Nat.le_refl _)] at hlast
      simp only [Nat.sub_self, List.getElem_singleton, Nat.zero_add] at hlast
      have t0 := hlast
      clear HR HC HO hnx hcw
      go_wp2
      go_ret
      exact ⟨rfl, HN.out⟩
end Go.Proofs.YtclhmggnkhnnlaaGreatDoor
/- TwinGroup, LeftGroup, with rows of one's own handed on. -/
namespace Go.Proofs.YtclhmggnkhnnlaaGreatDoor
open Go.RowKit

def Gp.val (g : Gp) : Value := .agg #[.slice g.a g.ps.length g.cap]
/- A twin of a group, as it lies. -/
structure TwGp (W : World) (B : Nat) (y z : Gp) : Prop where
  e : z.ps = y.ps
  ms : ∃ g, z.a = some ⟨g, 0, none⟩ ∧ RdZ W (some ⟨g, 0, none⟩) (y.ps ++ [77]) ∧ W.ownsRow B 3 1 (.slice (some ⟨g, 0, none⟩) y.ps.length z.cap) y.ps.length (flat intC y.ps)
  mc : y.ps.length + 1 ≤ z.cap ∧ z.cap ≤ maxLen
theorem TwGp.below {W W' : World} {B : Nat} {y z : Gp} (h : TwGp W B y z) (hb : Below W.heap.size W W') : TwGp W' B y z := by
  obtain ⟨g, e1, h1, k1⟩ := h.ms
  exact ⟨h.e, ⟨g, e1, h1.below hb, owR_below k1 hb⟩, h.mc⟩
theorem sz_group : ∀ w : World, (sizeOf 30).run Tryz.prog w = .ok 1 w := fun w => by kernel_rfl
theorem ag_group : ∀ w : World, (isAgg 30).run Tryz.prog w = .ok true w := fun w => by kernel_rfl
theorem twinGp_any (y : Gp) (W : World) (hz : RdZ W y.a y.ps) (hl : y.ps.length ≤ 1000000) : Calls Tryz.prog 22 #[y.val] W fun e w' => ∃ z : Gp, e = .returned z.val ∧ TwGp w' W.heap.size y z ∧ Below W.heap.size W w' := by
  have HC0 : Hid (∀ W', Below W.heap.size W W' → _) := fun W' hb => twinZ_any y.a y.cap y.ps W' hl (hz.below hb)
  clear hz hl
  obtain ⟨ya, yc, ps⟩ := y
  simp only [Gp.val] at *
  go_enter Tryz.func22, Tryz.ntmps22
  go_wp2_with fail
  refine (HC0.out _ (below2 _ _ _)).mono ?_
  rintro e w1 ⟨g, c, rfl, hr, hc, hm, hg, hb, ho⟩
  have h2 := heap_below hb (heap_snd W (.cells #[.slice ya ps.length yc] 30) #[.slice none 0 0] 30)
  have hsz : (W.alloc (.cells #[.slice ya ps.length yc] 30)).heap.size + 1 ≤ w1.heap.size := by have := hb.size; simp at this ⊢; omega
  have hgg : W.heap.size + 1 < g := by have := hg.1; simp at this; omega
  have p0 : w1.cell? ⟨W.heap.size + 1, 0, none⟩ = some (.slice none 0 0) := cellA h2 0
  have s0 : w1.frozen? ⟨W.heap.size + 1, 0, none⟩ = false := softA h2 0
  have BB : Hid (Below W.heap.size W w1) := bstep (below2 _ _ _) hb
  have hne : (w1.setCell ⟨W.heap.size + 1, 0, none⟩ (.slice (some ⟨g, 0, none⟩) ps.length c)).heap[g]? = w1.heap[g]? := Below.heap_setCell _ _ _ _ (fun e => by simp at e; omega)
  have TZ : Hid (TwGp (w1.setCell ⟨W.heap.size + 1, 0, none⟩ (.slice (some ⟨g, 0, none⟩) ps.length c)) W.heap.size ⟨ya, yc, ps⟩ ⟨some ⟨g, 0, none⟩, c, ps⟩) := by
    refine ⟨rfl, ⟨g, rfl, rdZ_block hr hne (by simp [World.setCell]; exact hg.2), ?_⟩, hc, hm⟩
    exact owR_fr (owR_lower ho (by simp; omega)) (E := fun b => b = W.heap.size + 1) ((Fr.refl _ w1).set _ _ rfl) (fun b e k => by injection (show some g = some b from e) with e; omega)
  have H2 : Hid ((w1.setCell ⟨W.heap.size + 1, 0, none⟩ (.slice (some ⟨g, 0, none⟩) ps.length c)).heap[W.heap.size + 1]? = some (.cells ([.slice (some ⟨g, 0, none⟩) ps.length c] : List Value).toArray 30 (0, 0))) := heap_setCell_same h2 _
  have q0 : (w1.setCell ⟨W.heap.size + 1, 0, none⟩ (.slice (some ⟨g, 0, none⟩) ps.length c)).cell? ⟨W.heap.size + 1, 0, none⟩ = some (.slice (some ⟨g, 0, none⟩) ps.length c) := World.cell?_setCell_same' _ _ _ (by rw [p0]; rfl)
  have B2 : Hid (Below W.heap.size W (w1.setCell ⟨W.heap.size + 1, 0, none⟩ (.slice (some ⟨g, 0, none⟩) ps.length c))) := ((Fr.ofBelow (E := fun b => b = W.heap.size + 1) BB.out).set _ _ rfl).below (fun b e => by omega) (Nat.le_refl _)
  clear hr ho hb h2 hne hc hm hg
  go_wp2
  exact bodyPost_ret (res_cell (cs := [.slice (some ⟨g, 0, none⟩) ps.length c]) (e := 30) Tryz.results22 rfl ag_group sz_group H2.out) rfl ⟨⟨some ⟨g, 0, none⟩, c, ps⟩, rfl, TZ.out, B2.out⟩
end Go.Proofs.YtclhmggnkhnnlaaGreatDoor
