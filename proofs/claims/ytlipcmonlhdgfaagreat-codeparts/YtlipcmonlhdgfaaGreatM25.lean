/- Pieces of the proof: RNot, RAdd, RMul. -/
import Derived.Test.YtlipcmonlhdgfaaGreatM24
import Derived.Test.YtlipcmonlhdgfaaGreatM19
import Derived.RegionTactic
import Derived.ChangeAlike
/- The walks of the document's own not, up and each. -/
namespace Go.Proofs.YtlipcmonlhdgfaaGreat
open Go.RowKit

def Row (w : World) (v : Value) (l : List Bool) : Prop := ∃ b off cap, v = .slice (some ⟨b, off, none⟩) l.length cap ∧ ∀ i, i < l.length → w.cell? ⟨b, off + i, none⟩ = some (.bool (bitAt l i))
/- A list in new memory. -/
def Own (w0 w : World) (v : Value) (l : List Bool) : Prop := w.ownsRow w0.heap.size 4 1 v l.length (l.map Value.bool)
theorem own_row {w0 w : World} {v : Value} {l : List Bool} (h : Own w0 w v l) (hl : 0 < l.length) : Row w v l := by
  rcases h.2 with ⟨_, h0⟩ | ⟨g, cap, cur, rfl, _⟩
  · omega
  · refine ⟨g, 0, cap, rfl, fun i hi => ?_⟩
    have := World.ownsRow.cellAt h i (by omega)
    rw [Nat.zero_add, this, bitAt_get hi]
    simp [hi]
theorem row_brow {w : World} {v : Value} {l : List Bool} (h : Row w v l) : BRow w v l := by
  obtain ⟨b, off, cap, hv, hc⟩ := h
  exact .inr ⟨b, off, cap, hv, fun i hi => by rw [hc i hi, bitAt_get hi]⟩
theorem Row.keep {w w1 : World} {v : Value} {l : List Bool} (h : Row w v l) (hb : Below w.heap.size w w1) : Row w1 v l := by
  obtain ⟨b, off, cap, hv, hc⟩ := h
  exact ⟨b, off, cap, hv, fun i hi => by rw [hb.cell (World.block_lt_of_cell? w _ (hc i hi))]; exact hc i hi⟩
theorem own_grow {B : Nat} {w0 wr w1 : World} {u : Value} {k : Nat} {L : List Value} {o : Obj} (hown : wr.ownsRow B 4 1 u k L) (hgrow : (wr.alloc o).grownBy w1 u.ownBlock) (hnx : Below B w0 wr) (hB : B ≤ wr.heap.size) : Below B w0 w1 := own_below hown hgrow hnx hB
theorem own_snoc {B : Nat} {w1 : World} {v : Value} {k : Nat} {L M : List Bool} {X : Bool} (h : w1.ownsRow B 4 1 v (k + 1) (L.map Value.bool ++ [.bool X])) (hM : M = L ++ [X]) : w1.ownsRow B 4 1 v (k + 1) (M.map Value.bool) := by
  rw [hM, List.map_append]; exact h

theorem own_mk {w0 w : World} {v : Value} {k : Nat} {L M : List Bool} (h : w.ownsRow w0.heap.size 4 1 v k (L.map Value.bool)) (hM : L = M) : Own w0 w v M := by
  subst hM
  have e := h.1
  simp at e
  unfold Own
  rw [e]
  exact h

def notTo (l : List Bool) (k : Nat) : List Bool := (List.range k).map (fun i => !bitAt l i)
theorem notTo_succ (l : List Bool) (k : Nat) : notTo l (k + 1) = notTo l k ++ [!bitAt l k] := by simp [notTo, List.range_succ]
theorem notTo_all (l : List Bool) : notTo l l.length = notL l := by
  refine List.ext_getElem (by simp [notTo, notL]) fun i h1 h2 => ?_
  simp [notTo] at h1
  simp [notTo, notL, bitAt_get h1]

set_option maxRecDepth 100000 in
set_option maxHeartbeats 1000000 in
theorem refNot_any (l : List Bool) (hl : l.length ≤ 128) (v : Value) (w : World) (hv : Row w v l) :
    Calls Tryz.prog 198 #[v] w fun e w' => ∃ r, e = .returned r ∧ Own w w' r (notL l) ∧ Below w.heap.size w w' := by
  obtain ⟨b, off, cap, rfl, hc⟩ := hv
  obtain ⟨i0, hi0, hz0, hz1, hz2⟩ := info_parts Tryz.info4
  go_enter Tryz.func198, Tryz.ntmps198
  go_wp2
  go_loopw [3, 4] (fun v i wr => ∃ k : Nat, k ≤ l.length ∧ i = .int .i64 k ∧ wr.ownsRow w.heap.size 4 1 v k ((notTo l k).map Value.bool) ∧ Below w.heap.size w wr) (fun _ i _ => l.length - (intOf i).toNat)
  case atStart => exact ⟨0, Nat.zero_le _, rfl, World.ownsRow_nil _ _ _ _, Below.refl _ _⟩
  case round =>
    obtain ⟨k, hk, rfl, hown, hnx⟩ := hrel
    have hsz := hnx.size
    by_cases hlt : k < l.length
    · have hck : wr.cell? ⟨b, off + k, none⟩ = some (.bool (bitAt l k)) := by
        rw [hnx.cell (World.block_lt_of_cell? w _ (hc k hlt))]; exact hc k hlt
      have HS := hide (notTo_succ l k)
      have HC := hide hc
      clear hc
      generalize bitAt l k = x at *
      go_wp2_with (at_builtin; refine wpList_append_own _ rfl _ _ 124 rfl w.heap.size 4 i0 (.bool false) 1 1 Tryz.underlying124 hi0 hz0 hz1 hz2 rfl (by decide) _ _ _ rfl (hown.alloc _) ⟨wr.heap.size, 0, none⟩ 1 1 [.bool (!x)] rfl rfl (cell_one_new _ _ _) (bool_one _) (by unfold maxLen; omega) (by omega) (by simp; omega) ?_)
      intro v' w1 hown' hgrow _
      have hr1 := hide (own_snoc hown' HS.out)
      have hr2 := hide (own_grow hown hgrow hnx hsz)
      clear hown hown' hgrow hnx hck
      go_wp2
      go_roundw
      case rel => exact ⟨k + 1, by omega, by go_num, hr1.out, hr2.out⟩
      case measure => simp [intOf]; omega
    · have hkk : Hid (k = l.length) := by unfold Hid; omega
      have hf := hide hnx
      clear hnx hk hc
      go_wp2
      go_ret
      exact ⟨_, rfl, own_mk hown (by rw [hkk.out, notTo_all]), hf.out⟩

theorem upB_in {l : List Bool} {n : Int} {k j : Nat} (g0 : 0 ≤ (k : Int) - n) (g1 : (k : Int) - n < l.length) (hj : (j : Int) = (k : Int) - n) : upB l n k = bitAt l j := by
  unfold upB
  rw [decide_eq_true g0, decide_eq_true g1, show ((k : Int) - n).toNat = j by omega]; rfl
theorem upB_far {l : List Bool} {n : Int} {k : Nat} (g1 : ¬ (k : Int) - n < l.length) : upB l n k = false := by
  unfold upB
  rw [decide_eq_false g1, Bool.and_false]; rfl
theorem upB_ahead {l : List Bool} {n : Int} {k : Nat} (g0 : ¬ 0 ≤ (k : Int) - n) : upB l n k = false := by
  unfold upB
  rw [decide_eq_false g0]; rfl

set_option maxRecDepth 100000 in
set_option maxHeartbeats 1000000 in
theorem refUp_any (l : List Bool) (hl : l.length ≤ 128) (n : Int) (n0 : -1000 ≤ n) (n1 : n ≤ 1000) (v : Value) (w : World) (hv : Row w v l) :
    Calls Tryz.prog 201 #[v, .int .i64 n] w fun e w' => ∃ r, e = .returned r ∧ Own w w' r (upL l n) ∧ Below w.heap.size w w' := by
  obtain ⟨b, off, cap, rfl, hc⟩ := hv
  obtain ⟨i0, hi0, hz0, hz1, hz2⟩ := info_parts Tryz.info4
  go_enter Tryz.func201, Tryz.ntmps201
  go_wp2
  go_loopw [5, 6] (fun v i wr => ∃ k : Nat, k ≤ l.length ∧ i = .int .i64 k ∧ wr.ownsRow w.heap.size 4 1 v k ((upTo l n k).map Value.bool) ∧ Below w.heap.size w wr) (fun _ i _ => l.length - (intOf i).toNat)
  case atStart => exact ⟨0, Nat.zero_le _, rfl, World.ownsRow_nil _ _ _ _, Below.refl _ _⟩
  case round =>
    obtain ⟨k, hk, rfl, hown, hnx⟩ := hrel
    have hsz := hnx.size
    have HS := hide (upTo_succ l n k)
    by_cases hlt : k < l.length
    · by_cases g0 : 0 ≤ (k : Int) - n
      · by_cases g1 : (k : Int) - n < l.length
        · obtain ⟨j, hj⟩ : ∃ j : Nat, (j : Int) = (k : Int) - n := ⟨((k : Int) - n).toNat, by omega⟩
          have hjl : j < l.length := by omega
          have hck : wr.cell? ⟨b, off + ((k : Int) - n).toNat, none⟩ = some (.bool (bitAt l j)) := by
            rw [show ((k : Int) - n).toNat = j by omega, hnx.cell (World.block_lt_of_cell? w _ (hc j hjl))]; exact hc j hjl
          have HX := hide (upB_in g0 g1 hj)
          clear hc hj
          generalize bitAt l j = x at *
          go_wp2_with (at_builtin; refine wpList_append_own _ rfl _ _ 124 rfl w.heap.size 4 i0 (.bool false) 1 1 Tryz.underlying124 hi0 hz0 hz1 hz2 rfl (by decide) _ _ _ rfl (hown.alloc _) ⟨wr.heap.size, 0, none⟩ 1 1 [.bool x] rfl rfl (cell_one_new _ _ _) (bool_one _) (by unfold maxLen; omega) (by omega) (by simp; omega) ?_)
          intro v' w1 hown' hgrow _
          have hr1 := hide (own_snoc (M := upTo l n (k + 1)) hown' (by rw [HS.out, HX.out]))
          have hr2 := hide (own_grow hown hgrow hnx hsz)
          clear hown hown' hgrow hnx hck
          go_wp2
          go_roundw
          case rel => exact ⟨k + 1, by omega, by go_num, hr1.out, hr2.out⟩
          case measure => simp [intOf]; omega
        · have HX := hide (upB_far g1)
          have g1' : decide ((k : Int) - n < l.length) = false := by simpa using g1
          clear hc g1
          go_wp2_with (at_builtin; refine wpList_append_own _ rfl _ _ 124 rfl w.heap.size 4 i0 (.bool false) 1 1 Tryz.underlying124 hi0 hz0 hz1 hz2 rfl (by decide) _ _ _ rfl (hown.alloc _) ⟨wr.heap.size, 0, none⟩ 1 1 [.bool false] rfl rfl (cell_one_new _ _ _) (bool_one _) (by unfold maxLen; omega) (by omega) (by simp; omega) ?_)
          intro v' w1 hown' hgrow _
          have hr1 := hide (own_snoc (M := upTo l n (k + 1)) hown' (by rw [HS.out, HX.out]))
          have hr2 := hide (own_grow hown hgrow hnx hsz)
          clear hown hown' hgrow hnx
          go_wp2
          go_roundw
          case rel => exact ⟨k + 1, by omega, by go_num, hr1.out, hr2.out⟩
          case measure => simp [intOf]; omega
      · have HX := hide (upB_ahead (l := l) g0)
        have g0' : decide (n ≤ (k : Int)) = false := by simp; omega
        clear hc g0
        go_wp2_with (at_builtin; refine wpList_append_own _ rfl _ _ 124 rfl w.heap.size 4 i0 (.bool false) 1 1 Tryz.underlying124 hi0 hz0 hz1 hz2 rfl (by decide) _ _ _ rfl (hown.alloc _) ⟨wr.heap.size, 0, none⟩ 1 1 [.bool false] rfl rfl (cell_one_new _ _ _) (bool_one _) (by unfold maxLen; omega) (by omega) (by simp; omega) ?_)
        intro v' w1 hown' hgrow _
        have hr1 := hide (own_snoc (M := upTo l n (k + 1)) hown' (by rw [HS.out, HX.out]))
        have hr2 := hide (own_grow hown hgrow hnx hsz)
        clear hown hown' hgrow hnx
        go_wp2
        go_roundw
        case rel => exact ⟨k + 1, by omega, by go_num, hr1.out, hr2.out⟩
        case measure => simp [intOf]; omega
    · have hkk : Hid (k = l.length) := by unfold Hid; omega
      have hf := hide hnx
      clear hnx hk hc
      go_wp2
      go_ret
      exact ⟨_, rfl, own_mk hown (by rw [hkk.out]; rfl), hf.out⟩
end Go.Proofs.YtlipcmonlhdgfaaGreat
/- The walk of the document's own add. -/
namespace Go.Proofs.YtlipcmonlhdgfaaGreat
open Go.RowKit

theorem addTo_more (a b : List Bool) (c : Bool) (k : Nat) : (addTo a b c (k + 1)).2 = decide (1 < cnt (bitAt a k) (bitAt b k) (addTo a b c k).2) := rfl
theorem addTo_out (a b : List Bool) (c : Bool) (k : Nat) : (addTo a b c (k + 1)).1 = (addTo a b c k).1 ++ [cnt (bitAt a k) (bitAt b k) (addTo a b c k).2 % 2 == 1] := rfl

set_option maxRecDepth 100000 in
set_option maxHeartbeats 4000000 in
theorem refAdd_any (a b : List Bool) (c : Bool) (hl : a.length ≤ 128) (hlb : b.length = a.length) (va vb : Value) (w : World) (hva : Row w va a) (hvb : Row w vb b) :
    Calls Tryz.prog 197 #[va, vb, .bool c] w fun e w' => ∃ r, e = .returned r ∧ Own w w' r (addL a b c) ∧ Below w.heap.size w w' := by
  obtain ⟨p, off, cap, rfl, ha⟩ := hva
  obtain ⟨q, off2, cap2, rfl, hb⟩ := hvb
  obtain ⟨i0, hi0, hz0, hz1, hz2⟩ := info_parts Tryz.info4
  rw [hlb]
  rw [hlb] at hb
  go_enter Tryz.func197, Tryz.ntmps197
  go_wp2
  go_loopw [2, 7, 8] (fun m v i wr => ∃ k : Nat, k ≤ a.length ∧ m = .bool (addTo a b c k).2 ∧ i = .int .i64 k ∧ wr.ownsRow w.heap.size 4 1 v k ((addTo a b c k).1.map Value.bool) ∧ Below w.heap.size w wr) (fun _ _ i _ => a.length - (intOf i).toNat)
  case atStart => exact ⟨0, Nat.zero_le _, rfl, rfl, World.ownsRow_nil _ _ _ _, Below.refl _ _⟩
  case round =>
    obtain ⟨k, hk, rfl, rfl, hown, hnx⟩ := hrel
    have hsz := hnx.size
    have HS := hide (addTo_out a b c k)
    have HM := hide (addTo_more a b c k)
    by_cases hlt : k < a.length
    · have hca : wr.cell? ⟨p, off + k, none⟩ = some (.bool (bitAt a k)) := by
        rw [hnx.cell (World.block_lt_of_cell? w _ (ha k hlt))]; exact ha k hlt
      have hcb : wr.cell? ⟨q, off2 + k, none⟩ = some (.bool (bitAt b k)) := by
        rw [hnx.cell (World.block_lt_of_cell? w _ (hb k hlt))]; exact hb k hlt
      clear ha hb
      generalize bitAt a k = x at *
      generalize bitAt b k = y at *
      generalize (addTo a b c k).2 = z at *
      cases x
      · cases y
        · cases z
          · go_wp2_with (at_builtin; refine wpList_append_own _ rfl _ _ 124 rfl w.heap.size 4 i0 (.bool false) 1 1 Tryz.underlying124 hi0 hz0 hz1 hz2 rfl (by decide) _ _ _ rfl (hown.alloc _) ⟨wr.heap.size, 0, none⟩ 1 1 [.bool false] rfl rfl (cell_one_new _ _ _) (bool_one _) (by unfold maxLen; omega) (by omega) (by simp; omega) ?_)
            intro v' w1 hown' hgrow _
            have hr1 := hide (own_snoc (M := (addTo a b c (k + 1)).1) hown' HS.out)
            have hr2 := hide (own_grow hown hgrow hnx hsz)
            clear hown hown' hgrow hnx hca hcb
            go_wp2
            go_roundw
            case rel => exact ⟨k + 1, by omega, by rw [HM.out]; rfl, by go_num, hr1.out, hr2.out⟩
            case measure => simp [intOf]; omega
          · go_wp2_with (at_builtin; refine wpList_append_own _ rfl _ _ 124 rfl w.heap.size 4 i0 (.bool false) 1 1 Tryz.underlying124 hi0 hz0 hz1 hz2 rfl (by decide) _ _ _ rfl (hown.alloc _) ⟨wr.heap.size, 0, none⟩ 1 1 [.bool true] rfl rfl (cell_one_new _ _ _) (bool_one _) (by unfold maxLen; omega) (by omega) (by simp; omega) ?_)
            intro v' w1 hown' hgrow _
            have hr1 := hide (own_snoc (M := (addTo a b c (k + 1)).1) hown' HS.out)
            have hr2 := hide (own_grow hown hgrow hnx hsz)
            clear hown hown' hgrow hnx hca hcb
            go_wp2
            go_roundw
            case rel => exact ⟨k + 1, by omega, by rw [HM.out]; rfl, by go_num, hr1.out, hr2.out⟩
            case measure => simp [intOf]; omega
        · cases z
          · go_wp2_with (at_builtin; refine wpList_append_own _ rfl _ _ 124 rfl w.heap.size 4 i0 (.bool false) 1 1 Tryz.underlying124 hi0 hz0 hz1 hz2 rfl (by decide) _ _ _ rfl (hown.alloc _) ⟨wr.heap.size, 0, none⟩ 1 1 [.bool true] rfl rfl (cell_one_new _ _ _) (bool_one _) (by unfold maxLen; omega) (by omega) (by simp; omega) ?_)
            intro v' w1 hown' hgrow _
            have hr1 := hide (own_snoc (M := (addTo a b c (k + 1)).1) hown' HS.out)
            have hr2 := hide (own_grow hown hgrow hnx hsz)
            clear hown hown' hgrow hnx hca hcb
            go_wp2
            go_roundw
            case rel => exact ⟨k + 1, by omega, by rw [HM.out]; rfl, by go_num, hr1.out, hr2.out⟩
            case measure => simp [intOf]; omega
          · go_wp2_with (at_builtin; refine wpList_append_own _ rfl _ _ 124 rfl w.heap.size 4 i0 (.bool false) 1 1 Tryz.underlying124 hi0 hz0 hz1 hz2 rfl (by decide) _ _ _ rfl (hown.alloc _) ⟨wr.heap.size, 0, none⟩ 1 1 [.bool false] rfl rfl (cell_one_new _ _ _) (bool_one _) (by unfold maxLen; omega) (by omega) (by simp; omega) ?_)
            intro v' w1 hown' hgrow _
            have hr1 := hide (own_snoc (M := (addTo a b c (k + 1)).1) hown' HS.out)
            have hr2 := hide (own_grow hown hgrow hnx hsz)
            clear hown hown' hgrow hnx hca hcb
            go_wp2
            go_roundw
            case rel => exact ⟨k + 1, by omega, by rw [HM.out]; rfl, by go_num, hr1.out, hr2.out⟩
            case measure => simp [intOf]; omega
      · cases y
        · cases z
          · go_wp2_with (at_builtin; refine wpList_append_own _ rfl _ _ 124 rfl w.heap.size 4 i0 (.bool false) 1 1 Tryz.underlying124 hi0 hz0 hz1 hz2 rfl (by decide) _ _ _ rfl (hown.alloc _) ⟨wr.heap.size, 0, none⟩ 1 1 [.bool true] rfl rfl (cell_one_new _ _ _) (bool_one _) (by unfold maxLen; omega) (by omega) (by simp; omega) ?_)
            intro v' w1 hown' hgrow _
            have hr1 := hide (own_snoc (M := (addTo a b c (k + 1)).1) hown' HS.out)
            have hr2 := hide (own_grow hown hgrow hnx hsz)
            clear hown hown' hgrow hnx hca hcb
            go_wp2
            go_roundw
            case rel => exact ⟨k + 1, by omega, by rw [HM.out]; rfl, by go_num, hr1.out, hr2.out⟩
            case measure => simp [intOf]; omega
          · go_wp2_with (at_builtin; refine wpList_append_own _ rfl _ _ 124 rfl w.heap.size 4 i0 (.bool false) 1 1 Tryz.underlying124 hi0 hz0 hz1 hz2 rfl (by decide) _ _ _ rfl (hown.alloc _) ⟨wr.heap.size, 0, none⟩ 1 1 [.bool false] rfl rfl (cell_one_new _ _ _) (bool_one _) (by unfold maxLen; omega) (by omega) (by simp; omega) ?_)
            intro v' w1 hown' hgrow _
            have hr1 := hide (own_snoc (M := (addTo a b c (k + 1)).1) hown' HS.out)
            have hr2 := hide (own_grow hown hgrow hnx hsz)
            clear hown hown' hgrow hnx hca hcb
            go_wp2
            go_roundw
            case rel => exact ⟨k + 1, by omega, by rw [HM.out]; rfl, by go_num, hr1.out, hr2.out⟩
            case measure => simp [intOf]; omega
        · cases z
          · go_wp2_with (at_builtin; refine wpList_append_own _ rfl _ _ 124 rfl w.heap.size 4 i0 (.bool false) 1 1 Tryz.underlying124 hi0 hz0 hz1 hz2 rfl (by decide) _ _ _ rfl (hown.alloc _) ⟨wr.heap.size, 0, none⟩ 1 1 [.bool false] rfl rfl (cell_one_new _ _ _) (bool_one _) (by unfold maxLen; omega) (by omega) (by simp; omega) ?_)
            intro v' w1 hown' hgrow _
            have hr1 := hide (own_snoc (M := (addTo a b c (k + 1)).1) hown' HS.out)
            have hr2 := hide (own_grow hown hgrow hnx hsz)
            clear hown hown' hgrow hnx hca hcb
            go_wp2
            go_roundw
            case rel => exact ⟨k + 1, by omega, by rw [HM.out]; rfl, by go_num, hr1.out, hr2.out⟩
            case measure => simp [intOf]; omega
          · go_wp2_with (at_builtin; refine wpList_append_own _ rfl _ _ 124 rfl w.heap.size 4 i0 (.bool false) 1 1 Tryz.underlying124 hi0 hz0 hz1 hz2 rfl (by decide) _ _ _ rfl (hown.alloc _) ⟨wr.heap.size, 0, none⟩ 1 1 [.bool true] rfl rfl (cell_one_new _ _ _) (bool_one _) (by unfold maxLen; omega) (by omega) (by simp; omega) ?_)
            intro v' w1 hown' hgrow _
            have hr1 := hide (own_snoc (M := (addTo a b c (k + 1)).1) hown' HS.out)
            have hr2 := hide (own_grow hown hgrow hnx hsz)
            clear hown hown' hgrow hnx hca hcb
            go_wp2
            go_roundw
            case rel => exact ⟨k + 1, by omega, by rw [HM.out]; rfl, by go_num, hr1.out, hr2.out⟩
            case measure => simp [intOf]; omega
    · have hkk : Hid (k = a.length) := by unfold Hid; omega
      have hf := hide hnx
      clear hnx hk ha hb HS HM
      go_wp2
      go_ret
      exact ⟨_, rfl, own_mk hown (by rw [hkk.out]; rfl), hf.out⟩
end Go.Proofs.YtlipcmonlhdgfaaGreat
/- The walks of the document's own mul, below and value. -/
namespace Go.Proofs.YtlipcmonlhdgfaaGreat
open Go.RowKit

theorem made_row {w : World} {base g n : Nat} (h : w.ownsRow base 4 1 (.slice (some ⟨g, 0, none⟩) n n) n (madeCells (Value.bool false).cells (n * 1)).toList) : Row w (.slice (some ⟨g, 0, none⟩) n n) (List.replicate n false) := by
  refine ⟨g, 0, n, by simp, fun i hi => ?_⟩
  simp at hi
  have := World.ownsRow.cellAt h i (by omega)
  rw [Nat.zero_add, this]
  have hl := h.1
  have hb : bitAt (List.replicate n false) i = false := by simp [bitAt, List.getD_eq_getElem?_getD, hi]
  rw [hb]
  simp [madeCells, Value.cells, hi, Nat.mod_one]

theorem mulTo_no {a b : List Bool} {k : Nat} (h : bitAt b k = false) : mulTo a b (k + 1) = mulTo a b k := by
  show (if bitAt b k then addL (mulTo a b k) (upL a k) false else mulTo a b k) = mulTo a b k
  rw [h]; rfl
theorem mulTo_yes {a b : List Bool} {k : Nat} (h : bitAt b k = true) : mulTo a b (k + 1) = addL (mulTo a b k) (upL a k) false := by
  show (if bitAt b k then addL (mulTo a b k) (upL a k) false else mulTo a b k) = _
  rw [h]; rfl

set_option maxRecDepth 100000 in
set_option maxHeartbeats 4000000 in
theorem refMul_any (a b : List Bool) (hl : a.length ≤ 128) (hp : 0 < a.length) (hlb : b.length = a.length) (va vb : Value) (w : World) (hva : Row w va a) (hvb : Row w vb b) :
    Calls Tryz.prog 199 #[va, vb] w fun e w' => ∃ r, e = .returned r ∧ Row w' r (mulTo a b a.length) ∧ Below w.heap.size w w' := by
  have HA := hide hva
  have HU := hide (refUp_any a hl)
  have HD := hide (fun k => refAdd_any (mulTo a b k) (upL a k) false (by rw [mulTo_length]; exact hl) (by rw [mulTo_length, upL_length]))
  obtain ⟨p, off, cap, rfl, ha⟩ := hva
  obtain ⟨q, off2, cap2, rfl, hb⟩ := hvb
  obtain ⟨i0, hi0, hz0, hz1, hz2⟩ := info_parts Tryz.info4
  rw [hlb]
  rw [hlb] at hb
  clear ha
  go_enter Tryz.func199, Tryz.ntmps199
  go_wp2_with (at_make; refine wpList_make_full _ rfl _ _ 124 rfl w.heap.size 4 i0 (.bool false) 1 Tryz.underlying124 hi0 hz0 hz1 .i64 .i64 _ _ a.length rfl rfl rfl rfl (by rw [hz2]; omega) (by unfold maxLen; omega) (Nat.le_refl _) ?_; intro W0 hm0 hg0)
  have HM0 := hide (made_row hm0)
  have HB0 := hide ((Below.refl w.heap.size w).grown hg0 (Nat.le_refl _) (fun k e => by cases e))
  clear hm0 hg0
  go_loopw [5, 6] (fun v i wr => ∃ k : Nat, k ≤ a.length ∧ i = .int .i64 k ∧ Row wr v (mulTo a b k) ∧ Below w.heap.size w wr) (fun _ i _ => a.length - (intOf i).toNat)
  case atStart => exact ⟨0, Nat.zero_le _, rfl, HM0.out, HB0.out⟩
  case round =>
    obtain ⟨k, hk, rfl, hrow, hnx⟩ := hrel
    have HR := hide hrow; have HN := hide hnx
    by_cases hlt : k < a.length
    · have hcb : wr.cell? ⟨q, off2 + k, none⟩ = some (.bool (bitAt b k)) := by
        rw [hnx.cell (World.block_lt_of_cell? w _ (hb k hlt))]; exact hb k hlt
      clear hb hrow hnx
      cases hx : bitAt b k
      · rw [hx] at hcb
        have HX := hide (mulTo_no (a := a) hx)
        clear hx
        go_wp2
        go_roundw
        case rel => exact ⟨k + 1, by omega, by go_num, by rw [HX.out]; exact HR.out, HN.out⟩
        case measure => simp [intOf]; omega
      · rw [hx] at hcb
        have HX := hide (mulTo_yes (a := a) hx)
        clear hx
        go_wp2_with fail
        refine (HU.out k (by omega) (by omega) _ _ (HA.out.keep HN.out)).mono ?_
        rintro e w1 ⟨r1, rfl, ho1, hb1⟩
        have HO1 := hide ho1; have HB1 := hide hb1
        clear ho1 hb1
        go_wp2_with fail
        refine (HD.out k _ _ _ (HR.out.keep HB1.out) (own_row HO1.out (by rw [upL_length]; exact hp))).mono ?_
        rintro e w2 ⟨r2, rfl, ho2, hb2⟩
        have HO2 := hide ho2; have HB2 := hide hb2
        clear ho2 hb2
        go_wp2
        go_roundw
        case rel => exact ⟨k + 1, by omega, by go_num, by rw [HX.out]; exact own_row HO2.out (by rw [addL_length, mulTo_length]; exact hp), (HN.out.trans (HB1.out.mono HN.out.size)).trans (HB2.out.mono (Nat.le_trans HN.out.size HB1.out.size))⟩
        case measure => simp [intOf]; omega
    · have hkk : Hid (k = a.length) := by unfold Hid; omega
      clear hnx hk hb hrow
      go_wp2
      go_ret
      exact ⟨_, rfl, by have h := HR.out; rw [hkk.out] at h; exact h, HN.out⟩

set_option maxRecDepth 100000 in
set_option maxHeartbeats 2000000 in
theorem refBelow_any (a b : List Bool) (hl : a.length ≤ 128) (hlb : b.length = a.length) (va vb : Value) (w : World) (hva : Row w va a) (hvb : Row w vb b) :
    Calls Tryz.prog 204 #[va, vb] w fun e w' => e = .returned (.bool (decide (valL a < valL b))) ∧ Below w.heap.size w w' := by
  obtain ⟨p, off, cap, rfl, ha⟩ := hva
  obtain ⟨q, off2, cap2, rfl, hb⟩ := hvb
  rw [hlb]
  rw [hlb] at hb
  go_enter Tryz.func204, Tryz.ntmps204
  go_wp2
  go_loopw [5] (fun i wr => ∃ k : Nat, k ≤ a.length ∧ i = .int .i64 ((k : Int) - 1) ∧ a.drop k = b.drop k ∧ Below w.heap.size w wr) (fun i _ => (intOf i + 1).toNat)
  case atStart => exact ⟨a.length, Nat.le_refl _, rfl, by rw [List.drop_eq_nil_of_le (Nat.le_refl _), List.drop_eq_nil_of_le (by omega)], Below.refl _ _⟩
  case round =>
    obtain ⟨k, hk, rfl, hdr, hnx⟩ := hrel
    have HD := hide hdr; have HN := hide hnx
    clear hdr
    cases k with
    | zero =>
      have hv : Hid (decide (valL a < valL b) = false) := by
        unfold Hid
        have h := HD.out
        simp only [List.drop_zero] at h
        rw [h]; simp
      clear ha hb hnx
      go_wp2
      go_ret
      exact ⟨by rw [hv.out]; rfl, HN.out⟩
    | succ j =>
      have hlt : j < a.length := by omega
      have ej : ((j + 1 : Nat) : Int) - 1 = (j : Int) := by omega
      rw [ej]
      have hca : wr.cell? ⟨p, off + j, none⟩ = some (.bool (bitAt a j)) := by
        rw [hnx.cell (World.block_lt_of_cell? w _ (ha j hlt))]; exact ha j hlt
      have hcb : wr.cell? ⟨q, off2 + j, none⟩ = some (.bool (bitAt b j)) := by
        rw [hnx.cell (World.block_lt_of_cell? w _ (hb j hlt))]; exact hb j hlt
      have hlI : (j : Int) < (a.length : Int) := by omega
      clear ha hb hnx ej hk
      by_cases he : bitAt a j = bitAt b j
      · have HX : Hid (a.drop j = b.drop j) := by
          unfold Hid
          rw [List.drop_eq_getElem_cons hlt, List.drop_eq_getElem_cons (by omega : j < b.length), HD.out, ← bitAt_get hlt, ← bitAt_get (by omega : j < b.length), he]
        rw [he] at hca
        clear he
        generalize bitAt b j = y at *
        cases y
        all_goals
          go_wp2
          go_region
        all_goals
          go_wp2
          go_roundw
          case rel => exact ⟨j, by omega, by go_num, HX.out, HN.out.drew⟩
          case measure => (simp [intOf]) <;> omega
      · have HX : Hid (decide (valL a < valL b) = bitAt b j) := by
          unfold Hid
          rw [bitAt_get hlt, bitAt_get (by omega : j < b.length)] at he
          rw [bitAt_get (by omega : j < b.length)]
          exact below_tell a b hlb j hlt HD.out he
        generalize bitAt a j = x at *
        generalize bitAt b j = y at *
        cases x
        · cases y
          · exact absurd rfl he
          · clear he
            go_wp2
            go_region
            all_goals
              go_wp2
              go_ret
              exact ⟨by rw [HX.out]; rfl, HN.out.drew⟩
        · cases y
          · clear he
            go_wp2
            go_region
            all_goals
              go_wp2
              go_ret
              exact ⟨by rw [HX.out]; rfl, HN.out.drew⟩
          · exact absurd rfl he

theorem value_stop {l : List Bool} {k : Nat} (h : 1000 ≤ valL (l.drop k)) : min (valL l) 1000 = 1000 := by
  have e := valL_drop l k
  have : valL (l.drop k) ≤ 2 ^ k * valL (l.drop k) := Nat.le_mul_of_pos_left _ (Nat.pow_pos (by decide))
  omega

theorem drop_num {a z : Nat} {x : Bool} (h : a = x.toNat + 2 * z) : Value.int .i64 (if x then 2 * (z : Int) + 1 else 2 * (z : Int)) = .int .i64 (a : Int) := by
  rw [h]; cases x <;> simp <;> omega

set_option maxRecDepth 100000 in
set_option maxHeartbeats 2000000 in
theorem refValue_any (l : List Bool) (hl : l.length ≤ 128) (v : Value) (w : World) (hv : Row w v l) :
    Calls Tryz.prog 202 #[v] w fun e w' => e = .returned (.int .i64 ((min (valL l) 1000 : Nat) : Int)) ∧ w' = w := by
  obtain ⟨b, off, cap, rfl, hc⟩ := hv
  go_enter Tryz.func202, Tryz.ntmps202
  go_wp2
  go_loop [3, 4] (fun n i => ∃ k : Nat, k ≤ l.length ∧ i = .int .i64 ((k : Int) - 1) ∧ n = .int .i64 ((valL (l.drop k) : Nat) : Int) ∧ valL (l.drop k) ≤ 2000) (fun _ i => (intOf i + 1).toNat)
  case atStart => exact ⟨l.length, Nat.le_refl _, rfl, by rw [List.drop_eq_nil_of_le (Nat.le_refl _)]; rfl, by rw [List.drop_eq_nil_of_le (Nat.le_refl _)]; exact Nat.zero_le _⟩
  case round =>
    obtain ⟨k, hk, rfl, rfl, hn⟩ := hrel
    cases k with
    | zero =>
      have hv : Hid (((min (valL (l.drop 0)) 1000 : Nat) : Int) = ((min (valL l) 1000 : Nat) : Int)) := by unfold Hid; rw [List.drop_zero]
      generalize valL (l.drop 0) = z at *
      clear hc
      go_wp2
      all_goals
        go_ret
        exact ⟨ret_int (by rw [← hv.out]; omega), rfl⟩
    | succ j =>
      have hlt : j < l.length := by omega
      have ej : ((j + 1 : Nat) : Int) - 1 = (j : Int) := by omega
      rw [ej]
      have hck := hc j hlt
      have hlI : (j : Int) < (l.length : Int) := by omega
      have HV := hide (valL_drop_step l j hlt)
      rw [← bitAt_get hlt] at HV
      have HST := hide (fun h => value_stop (l := l) (k := j + 1) h)
      clear hc ej hk
      generalize valL (l.drop (j + 1)) = z at *
      generalize bitAt l j = x at *
      by_cases hz : z < 1000
      · cases x
        all_goals
          go_wp2
          go_round
          case rel => exact ⟨j, by omega, by go_num, drop_num HV.out, by have := HV.out; simp at this; omega⟩
          case measure => (simp [intOf]) <;> omega
      · have hz' : decide ((z : Int) < 1000) = false := by simp; omega
        have hv : Hid (((min (valL l) 1000 : Nat) : Int) = 1000) := by unfold Hid; rw [HST.out (by omega)]; rfl
        clear HST HV hck
        go_wp2
        all_goals
          go_ret
          exact ⟨ret_int (by rw [hv.out] <;> omega), rfl⟩
end Go.Proofs.YtlipcmonlhdgfaaGreat
