/- The walks of the document's own not, up and each. -/
import Derived.Test.YtieambnaiecibaaRefOf
import Derived.Test.YtieambnaiecibaaTab
import Derived.Test.YtieambnaiecibaaLists
namespace Go.Proofs.Ytieambnaiecibaa
open Go.RowKit

def Row (w : World) (v : Value) (l : List Bool) : Prop := ∃ b off cap, v = .slice (some ⟨b, off, none⟩) l.length cap ∧ ∀ i, i < l.length → w.cell? ⟨b, off + i, none⟩ = some (.bool (bitAt l i))
/- A list in new memory. -/
def Own (w0 w : World) (v : Value) (l : List Bool) : Prop := w.ownsRow w0.heap.size 4 1 v l.length (l.map Value.bool)
theorem own_row {w0 w : World} {v : Value} {l : List Bool} (h : Own w0 w v l) (hl : 0 < l.length) : Row w v l := by
  rcases h.2 with ⟨_, h0⟩ | ⟨g, cap, cur, rfl, _⟩
  · omega
  · refine ⟨g, 0, cap, rfl, fun i hi => ?_⟩
    have := World.ownsRow.cellAt h i (by omega)
    rw [Nat.zero_add, this, bitAt_get hi]
    simp [hi]
theorem row_brow {w : World} {v : Value} {l : List Bool} (h : Row w v l) : BRow w v l := by
  obtain ⟨b, off, cap, hv, hc⟩ := h
  exact .inr ⟨b, off, cap, hv, fun i hi => by rw [hc i hi, bitAt_get hi]⟩
theorem Row.keep {w w1 : World} {v : Value} {l : List Bool} (h : Row w v l) (hb : Below w.heap.size w w1) : Row w1 v l := by
  obtain ⟨b, off, cap, hv, hc⟩ := h
  exact ⟨b, off, cap, hv, fun i hi => by rw [hb.cell (World.block_lt_of_cell? w _ (hc i hi))]; exact hc i hi⟩
theorem own_grow {B : Nat} {w0 wr w1 : World} {u : Value} {k : Nat} {L : List Value} {o : Obj} (hown : wr.ownsRow B 4 1 u k L) (hgrow : (wr.alloc o).grownBy w1 u.ownBlock) (hnx : Below B w0 wr) (hB : B ≤ wr.heap.size) : Below B w0 w1 := own_below hown hgrow hnx hB
theorem own_snoc {B : Nat} {w1 : World} {v : Value} {k : Nat} {L M : List Bool} {X : Bool} (h : w1.ownsRow B 4 1 v (k + 1) (L.map Value.bool ++ [.bool X])) (hM : M = L ++ [X]) : w1.ownsRow B 4 1 v (k + 1) (M.map Value.bool) := by
  rw [hM, List.map_append]; exact h

theorem own_mk {w0 w : World} {v : Value} {k : Nat} {L M : List Bool} (h : w.ownsRow w0.heap.size 4 1 v k (L.map Value.bool)) (hM : L = M) : Own w0 w v M := by
  subst hM
  have e := h.1
  simp at e
  unfold Own
  rw [e]
  exact h

def notTo (l : List Bool) (k : Nat) : List Bool := (List.range k).map (fun i => !bitAt l i)
theorem notTo_succ (l : List Bool) (k : Nat) : notTo l (k + 1) = notTo l k ++ [!bitAt l k] := by simp [notTo, List.range_succ]
theorem notTo_all (l : List Bool) : notTo l l.length = notL l := by
  refine List.ext_getElem (by simp [notTo, notL]) fun i h1 h2 => ?_
  simp [notTo] at h1
  simp [notTo, notL, bitAt_get h1]

set_option maxHeartbeats 1000000 in
theorem refNot_any (l : List Bool) (hl : l.length ≤ 128) (v : Value) (w : World) (hv : Row w v l) :
    Calls Try.prog 18 #[v] w fun e w' => ∃ r, e = .returned r ∧ Own w w' r (notL l) ∧ Below w.heap.size w w' := by
  obtain ⟨b, off, cap, rfl, hc⟩ := hv
  obtain ⟨i0, hi0, hz0, hz1, hz2⟩ := info_parts Try.info4
  go_enter Try.func18, Try.ntmps18
  go_wp2
  go_loopw [3, 4] (fun v i wr => ∃ k : Nat, k ≤ l.length ∧ i = .int .i64 k ∧ wr.ownsRow w.heap.size 4 1 v k ((notTo l k).map Value.bool) ∧ Below w.heap.size w wr) (fun _ i _ => l.length - (intOf i).toNat)
  case atStart => exact ⟨0, Nat.zero_le _, rfl, World.ownsRow_nil _ _ _ _, Below.refl _ _⟩
  case round =>
    obtain ⟨k, hk, rfl, hown, hnx⟩ := hrel
    have hsz := hnx.size
    by_cases hlt : k < l.length
    · have hck : wr.cell? ⟨b, off + k, none⟩ = some (.bool (bitAt l k)) := by
        rw [hnx.cell (World.block_lt_of_cell? w _ (hc k hlt))]; exact hc k hlt
      have HS := hide (notTo_succ l k)
      have HC := hide hc
      clear hc
      generalize bitAt l k = x at *
      go_wp2_with (at_builtin; refine wpList_append_own _ rfl _ _ 38 rfl w.heap.size 4 i0 (.bool false) 1 1 Try.underlying38 hi0 hz0 hz1 hz2 rfl (by decide) _ _ _ rfl (hown.alloc _) ⟨wr.heap.size, 0, none⟩ 1 1 [.bool (!x)] rfl rfl (cell_one_new _ _ _) (bool_one _) (by unfold maxLen; omega) (by omega) (by simp; omega) ?_)
      intro v' w1 hown' hgrow _
      have hr1 := hide (own_snoc hown' HS.out)
      have hr2 := hide (own_grow hown hgrow hnx hsz)
      clear hown hown' hgrow hnx hck
      go_wp2
      go_roundw
      case rel => exact ⟨k + 1, by omega, by go_num, hr1.out, hr2.out⟩
      case measure => simp [intOf]; omega
    · have hkk : Hid (k = l.length) := by unfold Hid; omega
      have hf := hide hnx
      clear hnx hk hc
      go_wp2
      go_ret
      exact ⟨_, rfl, own_mk hown (by rw [hkk.out, notTo_all]), hf.out⟩

theorem upB_in {l : List Bool} {n : Int} {k j : Nat} (g0 : 0 ≤ (k : Int) - n) (g1 : (k : Int) - n < l.length) (hj : (j : Int) = (k : Int) - n) : upB l n k = bitAt l j := by
  unfold upB
  rw [decide_eq_true g0, decide_eq_true g1, show ((k : Int) - n).toNat = j by omega]; rfl
theorem upB_far {l : List Bool} {n : Int} {k : Nat} (g1 : ¬ (k : Int) - n < l.length) : upB l n k = false := by
  unfold upB
  rw [decide_eq_false g1, Bool.and_false]; rfl
theorem upB_ahead {l : List Bool} {n : Int} {k : Nat} (g0 : ¬ 0 ≤ (k : Int) - n) : upB l n k = false := by
  unfold upB
  rw [decide_eq_false g0]; rfl

set_option maxHeartbeats 1000000 in
theorem refUp_any (l : List Bool) (hl : l.length ≤ 128) (n : Int) (n0 : -1000 ≤ n) (n1 : n ≤ 1000) (v : Value) (w : World) (hv : Row w v l) :
    Calls Try.prog 21 #[v, .int .i64 n] w fun e w' => ∃ r, e = .returned r ∧ Own w w' r (upL l n) ∧ Below w.heap.size w w' := by
  obtain ⟨b, off, cap, rfl, hc⟩ := hv
  obtain ⟨i0, hi0, hz0, hz1, hz2⟩ := info_parts Try.info4
  go_enter Try.func21, Try.ntmps21
  go_wp2
  go_loopw [5, 6] (fun v i wr => ∃ k : Nat, k ≤ l.length ∧ i = .int .i64 k ∧ wr.ownsRow w.heap.size 4 1 v k ((upTo l n k).map Value.bool) ∧ Below w.heap.size w wr) (fun _ i _ => l.length - (intOf i).toNat)
  case atStart => exact ⟨0, Nat.zero_le _, rfl, World.ownsRow_nil _ _ _ _, Below.refl _ _⟩
  case round =>
    obtain ⟨k, hk, rfl, hown, hnx⟩ := hrel
    have hsz := hnx.size
    have HS := hide (upTo_succ l n k)
    by_cases hlt : k < l.length
    · by_cases g0 : 0 ≤ (k : Int) - n
      · by_cases g1 : (k : Int) - n < l.length
        · obtain ⟨j, hj⟩ : ∃ j : Nat, (j : Int) = (k : Int) - n := ⟨((k : Int) - n).toNat, by omega⟩
          have hjl : j < l.length := by omega
          have hck : wr.cell? ⟨b, off + ((k : Int) - n).toNat, none⟩ = some (.bool (bitAt l j)) := by
            rw [show ((k : Int) - n).toNat = j by omega, hnx.cell (World.block_lt_of_cell? w _ (hc j hjl))]; exact hc j hjl
          have HX := hide (upB_in g0 g1 hj)
          clear hc hj
          generalize bitAt l j = x at *
          go_wp2_with (at_builtin; refine wpList_append_own _ rfl _ _ 38 rfl w.heap.size 4 i0 (.bool false) 1 1 Try.underlying38 hi0 hz0 hz1 hz2 rfl (by decide) _ _ _ rfl (hown.alloc _) ⟨wr.heap.size, 0, none⟩ 1 1 [.bool x] rfl rfl (cell_one_new _ _ _) (bool_one _) (by unfold maxLen; omega) (by omega) (by simp; omega) ?_)
          intro v' w1 hown' hgrow _
          have hr1 := hide (own_snoc (M := upTo l n (k + 1)) hown' (by rw [HS.out, HX.out]))
          have hr2 := hide (own_grow hown hgrow hnx hsz)
          clear hown hown' hgrow hnx hck
          go_wp2
          go_roundw
          case rel => exact ⟨k + 1, by omega, by go_num, hr1.out, hr2.out⟩
          case measure => simp [intOf]; omega
        · have HX := hide (upB_far g1)
          have g1' : decide ((k : Int) - n < l.length) = false := by simpa using g1
          clear hc g1
          go_wp2_with (at_builtin; refine wpList_append_own _ rfl _ _ 38 rfl w.heap.size 4 i0 (.bool false) 1 1 Try.underlying38 hi0 hz0 hz1 hz2 rfl (by decide) _ _ _ rfl (hown.alloc _) ⟨wr.heap.size, 0, none⟩ 1 1 [.bool false] rfl rfl (cell_one_new _ _ _) (bool_one _) (by unfold maxLen; omega) (by omega) (by simp; omega) ?_)
          intro v' w1 hown' hgrow _
          have hr1 := hide (own_snoc (M := upTo l n (k + 1)) hown' (by rw [HS.out, HX.out]))
          have hr2 := hide (own_grow hown hgrow hnx hsz)
          clear hown hown' hgrow hnx
          go_wp2
          go_roundw
          case rel => exact ⟨k + 1, by omega, by go_num, hr1.out, hr2.out⟩
          case measure => simp [intOf]; omega
      · have HX := hide (upB_ahead (l := l) g0)
        have g0' : decide (n ≤ (k : Int)) = false := by simp; omega
        clear hc g0
        go_wp2_with (at_builtin; refine wpList_append_own _ rfl _ _ 38 rfl w.heap.size 4 i0 (.bool false) 1 1 Try.underlying38 hi0 hz0 hz1 hz2 rfl (by decide) _ _ _ rfl (hown.alloc _) ⟨wr.heap.size, 0, none⟩ 1 1 [.bool false] rfl rfl (cell_one_new _ _ _) (bool_one _) (by unfold maxLen; omega) (by omega) (by simp; omega) ?_)
        intro v' w1 hown' hgrow _
        have hr1 := hide (own_snoc (M := upTo l n (k + 1)) hown' (by rw [HS.out, HX.out]))
        have hr2 := hide (own_grow hown hgrow hnx hsz)
        clear hown hown' hgrow hnx
        go_wp2
        go_roundw
        case rel => exact ⟨k + 1, by omega, by go_num, hr1.out, hr2.out⟩
        case measure => simp [intOf]; omega
    · have hkk : Hid (k = l.length) := by unfold Hid; omega
      have hf := hide hnx
      clear hnx hk hc
      go_wp2
      go_ret
      exact ⟨_, rfl, own_mk hown (by rw [hkk.out]; rfl), hf.out⟩
end Go.Proofs.Ytieambnaiecibaa
