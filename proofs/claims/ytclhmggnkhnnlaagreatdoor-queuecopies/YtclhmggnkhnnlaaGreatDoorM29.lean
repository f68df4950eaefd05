/- Pieces of the proof: QvT. -/
import Derived.Test.YtclhmggnkhnnlaaGreatDoorM4
import Derived.Test.YtclhmggnkhnnlaaGreatDoorM1
/- pointsmanlaw01's TwinBytes, LeftBytes: a list of bytes with one more behind it. -/
namespace Go.Proofs.YtclhmggnkhnnlaaGreatDoor
open Go.RowKit

theorem own_cell8 {W : World} {B g n cap : Nat} {xs : List Nat} (h : Own8 W B (.slice (some ⟨g, 0, none⟩) n cap) xs) (k : Nat) (hk : k < xs.length) : W.cell? ⟨g, k, none⟩ = some (.int .u8 (xs[k] : Nat)) := by
  obtain ⟨p, off, e, _, hc⟩ := h.rd.2.some (by omega)
  injection e with e
  injection e with e1 e2
  subst e1 e2
  have := hc k hk
  rwa [Nat.zero_add] at this
theorem below_noneV {B : Nat} {w a b : World} (h : Below B w a) (g : a.grownBy b none) (hB : B ≤ a.heap.size) : Below B w b := h.grown g hB (fun k e => by cases e)
theorem one_rdI (W : World) (x : Nat) (p : Int) (hp : p = x) (t : TypeId) : RdA (W.alloc (.cells #[.int .u8 p] t)) (some ⟨W.heap.size, 0, none⟩) [x] := by
  subst hp; exact one_rd W x t
set_option maxRecDepth 100000 in
set_option maxHeartbeats 4000000 in
theorem twin_any (a : Option Addr) (cap : Nat) (xs : List Nat) (w : World) (hl : xs.length ≤ 140737488351232) (hr : RdA w a xs) :
    Calls Tryz.prog 23 #[.slice a xs.length cap] w fun e w' => ∃ g c, e = .returned (.slice (some ⟨g, 0, none⟩) xs.length c) ∧ Own8 w' w.heap.size (.slice (some ⟨g, 0, none⟩) (xs.length + 1) c) (xs ++ [77]) ∧ xs.length + 1 ≤ c ∧ w.heap.size ≤ g ∧ Below w.heap.size w w' := by
  have HR := hide hr
  obtain ⟨i0, hi0, hz0, hz1, hz2⟩ := info_parts Tryz.info8
  clear hr
  go_enter Tryz.func23, Tryz.ntmps23
  go_wp2_with (first
    | (refine wpList_make_own _ rfl _ _ 24 rfl w.heap.size 5 i0 (.int .u8 0) 1 Tryz.underlying24 hi0 hz0 hz1 .i64 .i64 _ (xs.length + 1) rfl rfl (by simp) (by rw [hz2]; omega) (by unfold maxLen; omega) (Nat.le_refl _) ?_; intro w1 O1 G1; have OO1 : Hid (Own8 w1 w.heap.size (.slice (some ⟨w.heap.size, 0, none⟩) 0 (xs.length + 1)) []) := O1; have B1 := hide (below_noneV (Below.refl _ w) G1 (Nat.le_refl _)); clear O1 G1))
  go_loopw [3, 4] (fun t i wr => ∃ (k : Nat) (v : Value), k ≤ xs.length ∧ i = .int .i64 k ∧ t = v ∧ Own8 wr w.heap.size v (xs.take k) ∧ Below w.heap.size w wr) (fun _ i _ => xs.length - (intOf i).toNat)
  case atStart => exact ⟨0, _, by omega, rfl, rfl, OO1.out, B1.out⟩
  case round =>
    obtain ⟨k, v, hk, rfl, rfl, ho, hb⟩ := hrel
    have OO := hide ho; have BB := hide hb
    clear ho hb OO1 B1
    by_cases hlt : k < xs.length
    · have R1 := HR.out.below BB.out
      obtain ⟨p, off, rfl, _, hc⟩ := R1.some (by omega)
      have hck := hc k hlt
      have hkI : (k : Int) < (xs.length : Int) := by omega
      have HT := hide (List.take_succ_eq_append_getElem hlt)
      clear hc R1 HR
      generalize xs[k] = x at *
      go_wp2_with (first
        | (at_builtin; refine wpList_app8 rfl _ _ rfl w.heap.size _ (xs.take k) rfl (OO.out.below ((Below.refl _ wr).alloc (Nat.le_refl _) _)) (some ⟨wr.heap.size, 0, none⟩) 1 1 [x] rfl rfl (one_rd wr x _) (by simp) (by simp; omega) (by have := BB.out.size; simp; omega) ?_; intro v7 w7 O7 G7 K7; have OO7 := hide O7; have B7 := hide (below_own (BB.out.alloc BB.out.size _) (OO.out.below ((Below.refl _ wr).alloc (Nat.le_refl _) _)) G7 (by have := BB.out.size; simp; omega)); clear O7 G7 K7))
      rw [← HT.out] at OO7
      go_roundw
      case rel => exact ⟨k + 1, v7, by omega, by go_num, rfl, OO7.out, B7.out⟩
      case measure => simp [intOf]; omega
    · obtain rfl : k = xs.length := by omega
      rw [List.take_length] at OO
      have HLN : Hid ((xs ++ [77]).length = xs.length + 1) := List.length_append
      go_wp2_with (at_builtin; (refine wpList_app8 rfl _ _ rfl w.heap.size _ xs rfl (OO.out.below ((Below.refl _ wr).alloc (Nat.le_refl _) _)) (some ⟨wr.heap.size, 0, none⟩) 1 1 [77] rfl rfl (one_rdI wr 77 _ (by simp) _) (by simp) (by simp; omega) (by have := BB.out.size; simp; omega) ?_; intro v7 w7 O7 G7 K7; have B7 := hide (below_own (BB.out.alloc BB.out.size _) (OO.out.below ((Below.refl _ wr).alloc (Nat.le_refl _) _)) G7 (by have := BB.out.size; simp; omega)); obtain ⟨g, c, rfl, hgc, hgB, hgl, hcm⟩ := Own8.some8 O7 (by simp); have OO7 := hide O7; rw [HLN.out] at OO7 hgc ⊢; clear O7 G7 K7))
      go_ret
      exact ⟨g, c, rfl, OO7.out, hgc, hgB, B7.out⟩
set_option maxRecDepth 100000 in
set_option maxHeartbeats 4000000 in
theorem left_yes (g c : Nat) (a : Option Addr) (cap : Nat) (xs : List Nat) (w : World) (B : Nat) (hl : xs.length ≤ 140737488351232) (hr : RdA w a xs) (hc : xs.length + 1 ≤ c) (hcm : c ≤ 9223372036854775807) (ho : Own8 w B (.slice (some ⟨g, 0, none⟩) (xs.length + 1) c) (xs ++ [77])) :
    Calls Tryz.prog 31 #[.slice (some ⟨g, 0, none⟩) xs.length c, .slice a xs.length cap] w fun e w' => e = .returned (.bool true) ∧ Below w.heap.size w w' := by
  have HC := hide (own_cell8 ho)
  have HR := hide hr
  have hcI : decide ((c : Int) ≤ (xs.length : Int)) = false := by simp; omega
  have hlast : w.cell? ⟨g, xs.length, none⟩ = some (.int .u8 77) := by
    have := own_cell8 ho xs.length (by simp)
    simpa using this
  have hlI : (xs.length : Int) + 1 ≤ (c : Int) := by omega
  clear hr ho
  go_enter Tryz.func31, Tryz.ntmps31
  go_wp2
  go_loopw [5] (fun i wr => ∃ k : Nat, k ≤ xs.length ∧ i = .int .i64 k ∧ ∃ n, wr = w.drewN n) (fun i _ => xs.length - (intOf i).toNat)
  case atStart => exact ⟨0, by omega, rfl, 0, rfl⟩
  case round =>
    obtain ⟨k, hk, rfl, m, rfl⟩ := hrel
    by_cases hlt : k < xs.length
    · obtain ⟨p, off, rfl, _, hcl⟩ := HR.out.some (by omega)
      have h1 := HC.out k (by simp; omega)
      have h2 := hcl k hlt
      rw [List.getElem_append_left hlt] at h1
      have hkI : (k : Int) < (xs.length : Int) := by omega
      clear hcl HR HC
      generalize xs[k] = x at *
      go_wp2
      go_region
      all_goals
        go_wp2
        exact ⟨⟨k + 1, by omega, by go_num, m + 1, rfl⟩, by simp [intOf]; omega⟩
    · obtain rfl : k = xs.length := by omega
      clear HR HC
      go_wp2
      go_ret
      exact ⟨rfl, below_drewN (Below.refl _ _) _⟩
end Go.Proofs.YtclhmggnkhnnlaaGreatDoor
