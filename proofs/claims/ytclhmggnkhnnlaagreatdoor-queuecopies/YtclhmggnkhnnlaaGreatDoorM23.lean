/- Pieces of the proof: TwNg. -/
import Derived.Test.YtclhmggnkhnnlaaGreatDoorM22
import Derived.Maps.AppendAt
import Derived.RegionTactic
/- TwinNumbers, LeftNumbers (TwN over GnF, TwG). -/
namespace Go.Proofs.YtclhmggnkhnnlaaGreatDoor
open Go.RowKit

theorem info_dN : (Tryz.prog.info? 92).map (fun i => (i.zero, i.size, i.bytes)) = some (some (.agg #[.int .i64 0, .int .u64 0, .int .u64 0]), 3, 24) := by kernel_rfl
set_option maxRecDepth 100000 in
set_option maxHeartbeats 4000000 in
theorem twinN_any (a : Option Addr) (cap : Nat) (L : List Nb) (w : World) (hl : L.length ≤ 1000000) (hr : RdN w a L) :
    Calls Tryz.prog 202 #[.slice a L.length cap] w fun e w' => ∃ g c, e = .returned (.slice (some ⟨g, 0, none⟩) L.length c) ∧ RdN w' (some ⟨g, 0, none⟩) (L ++ [(⟨77, 0, 0⟩ : Nb)]) ∧ L.length + 1 ≤ c ∧ c ≤ maxLen ∧ (w.heap.size ≤ g ∧ g < w'.heap.size) ∧ Below w.heap.size w w' ∧ w'.ownsRow w.heap.size 92 3 (.slice (some ⟨g, 0, none⟩) L.length c) L.length (flat Nb.cells L) := by
  have HR := hide hr
  obtain ⟨i0, hi0, hz0, hz1, hz2⟩ := info_parts info_dN
  clear hr
  go_enter Tryz.func202, Tryz.ntmps202
  go_wp2_with (first
    | (refine wpList_make_own _ rfl _ _ 93 rfl w.heap.size 92 i0 (.agg #[.int .i64 0, .int .u64 0, .int .u64 0]) 3 Tryz.underlying93 hi0 hz0 hz1 .i64 .i64 _ (L.length + 1) rfl rfl (by simp) (by rw [hz2]; omega) (by unfold maxLen; omega) (Nat.le_refl _) ?_; intro w1 O1 G1; have OO1 : Hid (w1.ownsRow w.heap.size 92 3 (.slice (some ⟨w.heap.size, 0, none⟩) 0 (L.length + 1)) 0 (flat Nb.cells [])) := O1; have B1 := hide ((Below.refl _ w).grown G1 (Nat.le_refl _) (fun k e => by cases e)); clear O1 G1))
  go_loopw [3, 4] (fun t i wr => ∃ (k : Nat) (v : Value), k ≤ L.length ∧ i = .int .i64 k ∧ t = v ∧ wr.ownsRow w.heap.size 92 3 v k (flat Nb.cells (L.take k)) ∧ Below w.heap.size w wr) (fun _ i _ => L.length - (intOf i).toNat)
  case atStart => exact ⟨0, _, by omega, rfl, rfl, OO1.out, B1.out⟩
  case round =>
    obtain ⟨k, v, hk, rfl, rfl, ho, hb⟩ := hrel
    have OO := hide ho; have BB := hide hb
    clear ho hb OO1 B1
    by_cases hlt : k < L.length
    · have R1 := HR.out.below BB.out
      obtain ⟨b, off, rfl, _, hc⟩ := R1.some (by omega)
      obtain ⟨c0, c1, c2⟩ := hc k hlt
      have hkI : (k : Int) < (L.length : Int) := by omega
      have HT := hide (List.take_succ_eq_append_getElem hlt)
      clear hc R1 HR
      generalize L[k] = x at *
      obtain ⟨n, h, l⟩ := x
      dsimp only at c0 c1 c2
      go_wp2_with (first
        | (at_builtin; refine wpList_append_own_at _ rfl _ _ 93 rfl w.heap.size 92 i0 (.agg #[.int .i64 0, .int .u64 0, .int .u64 0]) 3 24 Tryz.underlying93 hi0 hz0 hz1 hz2 rfl (by decide) _ k (flat Nb.cells (L.take k)) rfl (own_allocD OO.out _) ⟨wr.heap.size, 0, none⟩ 1 1 [.int .i64 n, .int .u64 h, .int .u64 l] rfl rfl (cells_newD _ _ _) (by simp [Value.oneCell']) (by unfold maxLen; omega) (by omega) (by have := BB.out.size; simp; omega) ?_; intro v7 w7 O7 G7 _ K7; have OO7 : Hid (w7.ownsRow w.heap.size 92 3 v7 (k + 1) (flat Nb.cells (L.take (k + 1)))) := by { show World.ownsRow _ _ _ _ _ _ _; rw [HT.out, flat_append]; exact O7 }; have B7 := hide (below_ownD (BB.out.alloc BB.out.size _) (own_allocD OO.out _) G7 (by have := BB.out.size; simp; omega)); clear O7 G7 K7))
      go_roundw
      case rel => exact ⟨k + 1, v7, by omega, by go_num, rfl, OO7.out, B7.out⟩
      case measure => simp [intOf]; omega
    · obtain rfl : k = L.length := by omega
      rw [List.take_length] at OO
      go_wp2_with (at_builtin; (refine wpList_append_own_at _ rfl _ _ 93 rfl w.heap.size 92 i0 (.agg #[.int .i64 0, .int .u64 0, .int .u64 0]) 3 24 Tryz.underlying93 hi0 hz0 hz1 hz2 rfl (by decide) _ L.length (flat Nb.cells L) rfl (own_allocD OO.out _) ⟨wr.heap.size, 0, none⟩ 1 1 [.int .i64 77, .int .u64 0, .int .u64 0] rfl rfl (cells_newD _ _ _) (by simp [Value.oneCell']) (by unfold maxLen; omega) (by omega) (by have := BB.out.size; simp; omega) ?_; intro v7 w7 O7 G7 _ K7; have O8 : w7.ownsRow w.heap.size 92 3 v7 (L.length + 1) (flat Nb.cells (L ++ [(⟨77, 0, 0⟩ : Nb)])) := by { rw [flat_append]; exact O7 }; have B7 := hide (below_ownD (BB.out.alloc BB.out.size _) (own_allocD OO.out _) G7 (by have := BB.out.size; simp; omega)); obtain ⟨g, c, rfl, hgc, hgB, hgl, hcm⟩ := own_someD O8 (by omega); have OO7 := hide O8; clear O7 O8 G7 K7))
      go_ret
      exact ⟨g, c, rfl, (rdN_own OO7.out).2.1, hgc, hcm, ⟨hgB, hgl⟩, B7.out, own_cut (m := 1) (by have := OO7.out; rw [flat_append] at this; exact this) (flat_length nb_len L)⟩
theorem rdN_block {W W' : World} {g : Nat} {L : List Nb} (h : RdN W (some ⟨g, 0, none⟩) L) (hb : W'.heap[g]? = W.heap[g]?) (hg : g < W'.heap.size) : RdN W' (some ⟨g, 0, none⟩) L := by
  rcases h with h | ⟨p, off, e, hp, hc⟩
  · exact .inl h
  · cases e
    have key : ∀ o v, W.cell? ⟨g, o, none⟩ = some v → W'.cell? ⟨g, o, none⟩ = some v := fun o v hv => (World.cell?_of_block (w := W) (a := ⟨g, o, none⟩) hb).trans hv
    refine .inr ⟨g, 0, rfl, hg, fun i hi => ?_⟩
    obtain ⟨h0, h1, h2⟩ := hc i hi
    exact ⟨key _ _ h0, key _ _ h1, key _ _ h2⟩
theorem rdN_take {W : World} {a : Option Addr} {L M : List Nb} (h : RdN W a (L ++ M)) : RdN W a L := by
  rcases h with h | ⟨p, off, rfl, hp, hc⟩
  · exact .inl (List.append_eq_nil_iff.1 h).1
  · refine .inr ⟨p, off, rfl, hp, fun i hi => ?_⟩
    have := hc i (by simp; omega)
    rw [List.getElem_append_left hi] at this
    exact this
set_option maxRecDepth 100000 in
set_option maxHeartbeats 4000000 in
theorem leftN_yes (g c : Nat) (a : Option Addr) (cap : Nat) (L : List Nb) (w : World) (hl : L.length ≤ 1000000) (hr : RdN w a L) (hc : L.length + 1 ≤ c) (hcm : c ≤ 9223372036854775807) (ho : RdN w (some ⟨g, 0, none⟩) (L ++ [(⟨77, 0, 0⟩ : Nb)])) :
    Calls Tryz.prog 203 #[.slice (some ⟨g, 0, none⟩) L.length c, .slice a L.length cap] w fun e w' => e = .returned (.bool true) ∧ Below w.heap.size w w' := by
  have HC := hide (rdN_take ho)
  have HR := hide hr
  have hcI : decide ((c : Int) ≤ (L.length : Int)) = false := by simp; omega
  have HO := hide ho
  have hlI : (L.length : Int) + 1 ≤ (c : Int) := by omega
  clear hr ho
  go_enter Tryz.func203, Tryz.ntmps203
  go_wp2
  go_loopw [5] (fun i wr => ∃ k : Nat, k ≤ L.length ∧ i = .int .i64 k ∧ Below w.heap.size w wr) (fun i _ => L.length - (intOf i).toNat)
  case atStart => exact ⟨0, by omega, rfl, Below.refl _ _⟩
  case round =>
    obtain ⟨k, hk, rfl, hnx⟩ := hrel
    have HN := hide hnx
    by_cases hlt : k < L.length
    · obtain ⟨p, off, rfl, _, hcl⟩ := (HR.out.below hnx).some (by omega)
      obtain ⟨g', o', eg, _, hcw⟩ := (HC.out.below hnx).some (by omega)
      cases eg
      obtain ⟨h0, h1, h2⟩ := hcw k hlt
      obtain ⟨k0, k1, k2⟩ := hcl k hlt
      rw [Nat.zero_add] at h0 h1 h2
      have hkI : (k : Int) < (L.length : Int) := by omega
      clear hcl hcw HR HC HO hnx
      generalize L[k].w = x0 at *
      generalize L[k].hi = x1 at *
      generalize L[k].lo = x2 at *
      go_wp2
      go_region
      all_goals
        go_wp2
        go_roundw
        case rel => exact ⟨k + 1, by omega, by go_num, HN.out.drew⟩
        case measure => simp [intOf]; omega
    · obtain rfl : k = L.length := by omega
      obtain ⟨g', o', eg, _, hcw⟩ := (HO.out.below hnx).some (by simp)
      cases eg
      have hlast := hcw L.length (by simp)
      rw [List.getElem_append_right (Nat.le_refl _)] at hlast
      simp only [Nat.sub_self, List.getElem_singleton, Nat.zero_add] at hlast
      obtain ⟨t0, t1, t2⟩ := hlast
      clear HR HC HO hnx hcw
      go_wp2
      go_ret
      exact ⟨rfl, HN.out.alloc HN.out.size _⟩
end Go.Proofs.YtclhmggnkhnnlaaGreatDoor
