/- pointsmanlaw01.BitsMoves, walked over its callees' contracts. -/
import Derived.Test.YtplgnddplmglgaaDoorAlive
import Derived.Deep.RegionHeld3
namespace Go.Proofs.YtplgnddplmglgaaDoor
open Go.RowKit

theorem mblk_new (W : World) (a : Array Value) (t : TypeId) : (W.alloc (.cells a t)).heap[W.heap.size]? = some (.cells a t (0, 0)) := heap_alloc_new W _
theorem mblk3 {W : World} {b : Nat} {x y z : Value} {t : TypeId} (h : W.heap[b]? = some (.cells #[x, y, z] t (0, 0))) : W.cell? ⟨b, 0, none⟩ = some x ∧ W.cell? ⟨b, 1, none⟩ = some y ∧ W.cell? ⟨b, 2, none⟩ = some z ∧ ∀ o, W.frozen? ⟨b, o, none⟩ = false := by
  refine ⟨?_, ?_, ?_, fun o => ?_⟩
  · unfold World.cell?; simp only [h]; rfl
  · unfold World.cell?; simp only [h]; rfl
  · unfold World.cell?; simp only [h]; rfl
  · simp [World.frozen?, h]
theorem mlt {W : World} {b : Nat} {o : Obj} (h : W.heap[b]? = some o) : b < W.heap.size := (Array.getElem?_eq_some_iff.1 h).1
def N3 (W : World) (b : Nat) (n h l : Int) : Prop := W.heap[b]? = some (.cells #[.int .i64 n, .int .u64 h, .int .u64 l] 27 (0, 0))
theorem N3.below {W W' : World} {b : Nat} {n h l : Int} (k : N3 W b n h l) (hb : Below W.heap.size W W') : N3 W' b n h l := (hb.block _ (mlt k)).trans k
theorem N3.new (W : World) (n h l : Int) : N3 (W.alloc (.cells #[.int .i64 n, .int .u64 h, .int .u64 l] 27)) W.heap.size n h l := mblk_new _ _ _
theorem mset_same {W : World} {g k : Nat} {cur : Array Value} {t : TypeId} {fr : Nat × Nat} (h : W.heap[g]? = some (.cells cur t fr)) (v : Value) : (W.setCell ⟨g, k, none⟩ v).heap[g]? = some (.cells (cur.setIfInBounds k v) t fr) := by
  simp [World.setCell, Array.getElem?_modify, h]
theorem N3.set {W : World} {b : Nat} {n h l : Int} (k : N3 W b n h l) (h' l' : Int) : N3 (((W.setCell ⟨b, 0, none⟩ (.int .i64 n)).setCell ⟨b, 1, none⟩ (.int .u64 h')).setCell ⟨b, 2, none⟩ (.int .u64 l')) b n h' l' := by
  unfold N3
  rw [mset_same (mset_same (mset_same k _) _) _]
  rfl
theorem N3.far {W : World} {b c : Nat} {n h l : Int} (k : N3 W b n h l) (hne : b ≠ c) (x y z : Value) : N3 (((W.setCell ⟨c, 0, none⟩ x).setCell ⟨c, 1, none⟩ y).setCell ⟨c, 2, none⟩ z) b n h l := by
  unfold N3
  rw [Below.heap_setCell _ _ _ _ hne, Below.heap_setCell _ _ _ _ hne, Below.heap_setCell _ _ _ _ hne]
  exact k
/- Called with a width that may not be. -/
set_option maxRecDepth 100000 in
theorem mv_no (n x0 x1 k : Int) (w : World)
    (HAl : ∀ W, Below w.heap.size w W → Calls Tryd.prog 8 #[] W fun e w' => e = .returned (.bool true) ∧ Below W.heap.size W w')
    (HOf : ∀ W, Calls Tryd.prog 11 #[.int .i64 n, .int .u64 x0, .int .u64 x1] W fun e w' => e = .returned (.tuple #[.agg #[.int .i64 0, .int .u64 0, .int .u64 0], .int .i64 1]) ∧ Below W.heap.size W w') :
    Calls Tryd.prog 5 #[.int .i64 n, .agg #[.int .u64 x0, .int .u64 x1], .int .u8 k] w fun e w' => e = .returned (.bool true) ∧ Below w.heap.size w w' := by
  have HAl := hide HAl; have HOf := hide HOf
  go_enter Tryd.func5, Tryd.ntmps5
  go_wp2_with fail
  refine (HOf.out _).mono ?_
  rintro e w1 ⟨rfl, hb1⟩
  have B1 := hide ((((Below.refl _ w).alloc (Nat.le_refl _) _).trans (hb1.mono (by simp))).alloc (by have := hb1.size; simp at this; omega) (.cells #[.int .i64 0, .int .u64 0, .int .u64 0] 27))
  clear hb1
  go_wp2_with fail
  refine (HAl.out _ B1.out).mono ?_
  rintro e w2 ⟨rfl, hb2⟩
  have B2 := hide (B1.out.trans (hb2.mono B1.out.size))
  clear hb2
  go_wp2_with fail
  refine (HAl.out _ B2.out).mono ?_
  rintro e w3 ⟨rfl, hb3⟩
  have B3 := hide (B2.out.trans (hb3.mono B2.out.size))
  clear hb3
  go_wp2
  go_ret
  exact ⟨rfl, B3.out⟩
def MvB (w W : World) (U D : Nat) (n uh ul dh dl : Int) : Prop := Below w.heap.size w W ∧ N3 W U n uh ul ∧ N3 W D n dh dl
theorem mvB_next {w W W' : World} {U D : Nat} {n uh ul dh dl : Int} (hb : Below W.heap.size W W') (h : MvB w W U D n uh ul dh dl) : MvB w W' U D n uh ul dh dl ∧
    W'.cell? ⟨U, 0, none⟩ = some (.int .i64 n) ∧ W'.cell? ⟨U, 1, none⟩ = some (.int .u64 uh) ∧ W'.cell? ⟨U, 2, none⟩ = some (.int .u64 ul) ∧ W'.cell? ⟨D, 0, none⟩ = some (.int .i64 n) ∧ W'.cell? ⟨D, 1, none⟩ = some (.int .u64 dh) ∧ W'.cell? ⟨D, 2, none⟩ = some (.int .u64 dl) := by
  have k1 := h.2.1.below hb
  have k2 := h.2.2.below hb
  obtain ⟨a0, a1, a2, _⟩ := mblk3 k1
  obtain ⟨b0, b1, b2, _⟩ := mblk3 k2
  exact ⟨⟨h.1.trans (hb.mono h.1.size), k1, k2⟩, a0, a1, a2, b0, b1, b2⟩
/- What stands ahead of the branch, up to where n is known. -/
set_option maxRecDepth 100000 in
set_option maxHeartbeats 4000000 in
theorem mv_big (n x0 x1 ah al : Int) (k : Nat) (w : World) (hk : k < 256) (hnk : n ≤ (k : Int))
    (HAl : ∀ W, Below w.heap.size w W → Calls Tryd.prog 8 #[] W fun e w' => e = .returned (.bool true) ∧ Below W.heap.size W w')
    (HOf : ∀ W, Calls Tryd.prog 11 #[.int .i64 n, .int .u64 x0, .int .u64 x1] W fun e w' => e = .returned (.tuple #[.agg #[.int .i64 n, .int .u64 ah, .int .u64 al], .int .i64 0]) ∧ Below W.heap.size W w')
    (HUp : ∀ W, Calls Tryd.prog 9 #[.int .u8 12, .agg #[.int .i64 n, .int .u64 ah, .int .u64 al], .agg #[.int .i64 8, .int .u64 0, .int .u64 k]] W fun e w' => e = .returned (.agg #[.int .i64 n, .int .u64 0, .int .u64 0]) ∧ Below W.heap.size W w')
    (HDn : ∀ W, Calls Tryd.prog 9 #[.int .u8 13, .agg #[.int .i64 n, .int .u64 ah, .int .u64 al], .agg #[.int .i64 8, .int .u64 0, .int .u64 k]] W fun e w' => e = .returned (.agg #[.int .i64 n, .int .u64 0, .int .u64 0]) ∧ Below W.heap.size W w') :
    Calls Tryd.prog 5 #[.int .i64 n, .agg #[.int .u64 x0, .int .u64 x1], .int .u8 k] w fun e w' => e = .returned (.bool true) ∧ Below w.heap.size w w' := by
  have HAl := hide HAl; have HOf := hide HOf; have HUp := hide HUp; have HDn := hide HDn
  have hge : decide ((k : Int) ≥ n) = true := by simp; omega
  go_enter Tryd.func5, Tryd.ntmps5
  go_wp2_with fail
  refine (HOf.out _).mono ?_
  rintro e w1 ⟨rfl, hb1⟩
  have B1 := hide ((((Below.refl _ w).alloc (Nat.le_refl _) _).trans (hb1.mono (by simp))).alloc (by have := hb1.size; simp at this; omega) (.cells #[.int .i64 n, .int .u64 ah, .int .u64 al] 27))
  have A1 := hide (N3.new w1 n ah al)
  clear hb1
  go_wp2_with fail
  refine (HAl.out _ B1.out).mono ?_
  rintro e w2 ⟨rfl, hb2⟩
  have B2 := hide (B1.out.trans (hb2.mono B1.out.size))
  have A2 := hide (A1.out.below hb2)
  have hz2 : w1.heap.size < w2.heap.size := by have := hb2.size; simp at this; omega
  clear hb2 A1 B1
  go_wp2_with fail
  refine (num_any 8 k _).mono ?_
  rintro e w3 ⟨rfl, hb3⟩
  have B3 := hide ((B2.out.trans (hb3.mono B2.out.size)).alloc (Nat.le_trans B2.out.size hb3.size) (.cells #[.int .i64 8, .int .u64 0, .int .u64 (k : Int)] 27))
  have A3 := hide ((A2.out.below hb3).below ((Below.refl _ w3).alloc (Nat.le_refl _) (.cells #[.int .i64 8, .int .u64 0, .int .u64 (k : Int)] 27)))
  have Y3 := hide (N3.new w3 8 0 k)
  have hz3 := hb3.size
  clear hb3 A2 B2
  obtain ⟨a0, a1, a2, _⟩ := mblk3 A3.out
  obtain ⟨y0, y1, y2, _⟩ := mblk3 Y3.out
  go_wp2_with fail
  refine (HUp.out _).mono ?_
  rintro e w4 ⟨rfl, hb4⟩
  have B4 := hide ((B3.out.trans (hb4.mono B3.out.size)).alloc (Nat.le_trans B3.out.size hb4.size) (.cells #[.int .i64 n, .int .u64 0, .int .u64 0] 27))
  have kk4 : Below w4.heap.size w4 (w4.alloc (.cells #[.int .i64 n, .int .u64 0, .int .u64 0] 27)) := (Below.refl _ w4).alloc (Nat.le_refl _) _
  have A4 := hide ((A3.out.below hb4).below kk4)
  have Y4 := hide ((Y3.out.below hb4).below kk4)
  have U4 := hide (N3.new w4 n 0 0)
  have hz4 : w3.heap.size < w4.heap.size := by have := hb4.size; simp at this; omega
  clear hb4 kk4 A3 Y3 B3 a0 a1 a2 y0 y1 y2
  obtain ⟨a0, a1, a2, _⟩ := mblk3 A4.out
  obtain ⟨y0, y1, y2, _⟩ := mblk3 Y4.out
  go_wp2_with fail
  refine (HDn.out _).mono ?_
  rintro e w5 ⟨rfl, hb5⟩
  have kk5 : Below w5.heap.size w5 (w5.alloc (.cells #[.int .i64 n, .int .u64 0, .int .u64 0] 27)) := (Below.refl _ w5).alloc (Nat.le_refl _) _
  have M5 : Hid (MvB w (w5.alloc (.cells #[.int .i64 n, .int .u64 0, .int .u64 0] 27)) w4.heap.size w5.heap.size n 0 0 0 0) := ⟨(B4.out.trans (hb5.mono B4.out.size)).alloc (Nat.le_trans B4.out.size hb5.size) _, (U4.out.below hb5).below kk5, N3.new w5 n 0 0⟩
  clear hb5 kk5 A4 Y4 B4 U4 a0 a1 a2 y0 y1 y2
  go_wp2_with fail
  go_region_held3 (fun w' => MvB w w' w4.heap.size w5.heap.size n 0 0 0 0 ∧
      w'.cell? ⟨w4.heap.size, 0, none⟩ = some (.int .i64 n) ∧ w'.cell? ⟨w4.heap.size, 1, none⟩ = some (.int .u64 0) ∧ w'.cell? ⟨w4.heap.size, 2, none⟩ = some (.int .u64 0) ∧ w'.cell? ⟨w5.heap.size, 0, none⟩ = some (.int .i64 n) ∧ w'.cell? ⟨w5.heap.size, 1, none⟩ = some (.int .u64 0) ∧ w'.cell? ⟨w5.heap.size, 2, none⟩ = some (.int .u64 0))
    (first | exact mvB_next (by assumption) (And.left (by assumption)) | exact mvB_next (Below.refl _ _).drew M5.out)
    ((go_at_call 10; refine (num_any _ _ _).mono ?_; rintro e wn ⟨rfl, hb⟩))
  all_goals
    go_wp2
    go_ret
    exact ⟨rfl, (And.left (And.left (by assumption)))⟩
end Go.Proofs.YtplgnddplmglgaaDoor
