/- The walk of the document's own add. -/
import Derived.Test.YtieambnaiecibaaRNot
namespace Go.Proofs.Ytieambnaiecibaa
open Go.RowKit

theorem addTo_more (a b : List Bool) (c : Bool) (k : Nat) : (addTo a b c (k + 1)).2 = decide (1 < cnt (bitAt a k) (bitAt b k) (addTo a b c k).2) := rfl
theorem addTo_out (a b : List Bool) (c : Bool) (k : Nat) : (addTo a b c (k + 1)).1 = (addTo a b c k).1 ++ [cnt (bitAt a k) (bitAt b k) (addTo a b c k).2 % 2 == 1] := rfl

set_option maxHeartbeats 4000000 in
theorem refAdd_any (a b : List Bool) (c : Bool) (hl : a.length ≤ 128) (hlb : b.length = a.length) (va vb : Value) (w : World) (hva : Row w va a) (hvb : Row w vb b) :
    Calls Try.prog 17 #[va, vb, .bool c] w fun e w' => ∃ r, e = .returned r ∧ Own w w' r (addL a b c) ∧ Below w.heap.size w w' := by
  obtain ⟨p, off, cap, rfl, ha⟩ := hva
  obtain ⟨q, off2, cap2, rfl, hb⟩ := hvb
  obtain ⟨i0, hi0, hz0, hz1, hz2⟩ := info_parts Try.info4
  rw [hlb]
  rw [hlb] at hb
  go_enter Try.func17, Try.ntmps17
  go_wp2
  go_loopw [2, 7, 8] (fun m v i wr => ∃ k : Nat, k ≤ a.length ∧ m = .bool (addTo a b c k).2 ∧ i = .int .i64 k ∧ wr.ownsRow w.heap.size 4 1 v k ((addTo a b c k).1.map Value.bool) ∧ Below w.heap.size w wr) (fun _ _ i _ => a.length - (intOf i).toNat)
  case atStart => exact ⟨0, Nat.zero_le _, rfl, rfl, World.ownsRow_nil _ _ _ _, Below.refl _ _⟩
  case round =>
    obtain ⟨k, hk, rfl, rfl, hown, hnx⟩ := hrel
    have hsz := hnx.size
    have HS := hide (addTo_out a b c k)
    have HM := hide (addTo_more a b c k)
    by_cases hlt : k < a.length
    · have hca : wr.cell? ⟨p, off + k, none⟩ = some (.bool (bitAt a k)) := by
        rw [hnx.cell (World.block_lt_of_cell? w _ (ha k hlt))]; exact ha k hlt
      have hcb : wr.cell? ⟨q, off2 + k, none⟩ = some (.bool (bitAt b k)) := by
        rw [hnx.cell (World.block_lt_of_cell? w _ (hb k hlt))]; exact hb k hlt
      clear ha hb
      generalize bitAt a k = x at *
      generalize bitAt b k = y at *
      generalize (addTo a b c k).2 = z at *
      cases x
      · cases y
        · cases z
          · go_wp2_with (at_builtin; refine wpList_append_own _ rfl _ _ 38 rfl w.heap.size 4 i0 (.bool false) 1 1 Try.underlying38 hi0 hz0 hz1 hz2 rfl (by decide) _ _ _ rfl (hown.alloc _) ⟨wr.heap.size, 0, none⟩ 1 1 [.bool false] rfl rfl (cell_one_new _ _ _) (bool_one _) (by unfold maxLen; omega) (by omega) (by simp; omega) ?_)
            intro v' w1 hown' hgrow _
            have hr1 := hide (own_snoc (M := (addTo a b c (k + 1)).1) hown' HS.out)
            have hr2 := hide (own_grow hown hgrow hnx hsz)
            clear hown hown' hgrow hnx hca hcb
            go_wp2
            go_roundw
            case rel => exact ⟨k + 1, by omega, by rw [HM.out]; rfl, by go_num, hr1.out, hr2.out⟩
            case measure => simp [intOf]; omega
          · go_wp2_with (at_builtin; refine wpList_append_own _ rfl _ _ 38 rfl w.heap.size 4 i0 (.bool false) 1 1 Try.underlying38 hi0 hz0 hz1 hz2 rfl (by decide) _ _ _ rfl (hown.alloc _) ⟨wr.heap.size, 0, none⟩ 1 1 [.bool true] rfl rfl (cell_one_new _ _ _) (bool_one _) (by unfold maxLen; omega) (by omega) (by simp; omega) ?_)
            intro v' w1 hown' hgrow _
            have hr1 := hide (own_snoc (M := (addTo a b c (k + 1)).1) hown' HS.out)
            have hr2 := hide (own_grow hown hgrow hnx hsz)
            clear hown hown' hgrow hnx hca hcb
            go_wp2
            go_roundw
            case rel => exact ⟨k + 1, by omega, by rw [HM.out]; rfl, by go_num, hr1.out, hr2.out⟩
            case measure => simp [intOf]; omega
        · cases z
          · go_wp2_with (at_builtin; refine wpList_append_own _ rfl _ _ 38 rfl w.heap.size 4 i0 (.bool false) 1 1 Try.underlying38 hi0 hz0 hz1 hz2 rfl (by decide) _ _ _ rfl (hown.alloc _) ⟨wr.heap.size, 0, none⟩ 1 1 [.bool true] rfl rfl (cell_one_new _ _ _) (bool_one _) (by unfold maxLen; omega) (by omega) (by simp; omega) ?_)
            intro v' w1 hown' hgrow _
            have hr1 := hide (own_snoc (M := (addTo a b c (k + 1)).1) hown' HS.out)
            have hr2 := hide (own_grow hown hgrow hnx hsz)
            clear hown hown' hgrow hnx hca hcb
            go_wp2
            go_roundw
            case rel => exact ⟨k + 1, by omega, by rw [HM.out]; rfl, by go_num, hr1.out, hr2.out⟩
            case measure => simp [intOf]; omega
          · go_wp2_with (at_builtin; refine wpList_append_own _ rfl _ _ 38 rfl w.heap.size 4 i0 (.bool false) 1 1 Try.underlying38 hi0 hz0 hz1 hz2 rfl (by decide) _ _ _ rfl (hown.alloc _) ⟨wr.heap.size, 0, none⟩ 1 1 [.bool false] rfl rfl (cell_one_new _ _ _) (bool_one _) (by unfold maxLen; omega) (by omega) (by simp; omega) ?_)
            intro v' w1 hown' hgrow _
            have hr1 := hide (own_snoc (M := (addTo a b c (k + 1)).1) hown' HS.out)
            have hr2 := hide (own_grow hown hgrow hnx hsz)
            clear hown hown' hgrow hnx hca hcb
            go_wp2
            go_roundw
            case rel => exact ⟨k + 1, by omega, by rw [HM.out]; rfl, by go_num, hr1.out, hr2.out⟩
            case measure => simp [intOf]; omega
      · cases y
        · cases z
          · go_wp2_with (at_builtin; refine wpList_append_own _ rfl _ _ 38 rfl w.heap.size 4 i0 (.bool false) 1 1 Try.underlying38 hi0 hz0 hz1 hz2 rfl (by decide) _ _ _ rfl (hown.alloc _) ⟨wr.heap.size, 0, none⟩ 1 1 [.bool true] rfl rfl (cell_one_new _ _ _) (bool_one _) (by unfold maxLen; omega) (by omega) (by simp; omega) ?_)
            intro v' w1 hown' hgrow _
            have hr1 := hide (own_snoc (M := (addTo a b c (k + 1)).1) hown' HS.out)
            have hr2 := hide (own_grow hown hgrow hnx hsz)
            clear hown hown' hgrow hnx hca hcb
            go_wp2
            go_roundw
            case rel => exact ⟨k + 1, by omega, by rw [HM.out]; rfl, by go_num, hr1.out, hr2.out⟩
            case measure => simp [intOf]; omega
          · go_wp2_with (at_builtin; refine wpList_append_own _ rfl _ _ 38 rfl w.heap.size 4 i0 (.bool false) 1 1 Try.underlying38 hi0 hz0 hz1 hz2 rfl (by decide) _ _ _ rfl (hown.alloc _) ⟨wr.heap.size, 0, none⟩ 1 1 [.bool false] rfl rfl (cell_one_new _ _ _) (bool_one _) (by unfold maxLen; omega) (by omega) (by simp; omega) ?_)
            intro v' w1 hown' hgrow _
            have hr1 := hide (own_snoc (M := (addTo a b c (k + 1)).1) hown' HS.out)
            have hr2 := hide (own_grow hown hgrow hnx hsz)
            clear hown hown' hgrow hnx hca hcb
            go_wp2
            go_roundw
            case rel => exact ⟨k + 1, by omega, by rw [HM.out]; rfl, by go_num, hr1.out, hr2.out⟩
            case measure => simp [intOf]; omega
        · cases z
          · go_wp2_with (at_builtin; refine wpList_append_own _ rfl _ _ 38 rfl w.heap.size 4 i0 (.bool false) 1 1 Try.underlying38 hi0 hz0 hz1 hz2 rfl (by decide) _ _ _ rfl (hown.alloc _) ⟨wr.heap.size, 0, none⟩ 1 1 [.bool false] rfl rfl (cell_one_new _ _ _) (bool_one _) (by unfold maxLen; omega) (by omega) (by simp; omega) ?_)
            intro v' w1 hown' hgrow _
            have hr1 := hide (own_snoc (M := (addTo a b c (k + 1)).1) hown' HS.out)
            have hr2 := hide (own_grow hown hgrow hnx hsz)
            clear hown hown' hgrow hnx hca hcb
            go_wp2
            go_roundw
            case rel => exact ⟨k + 1, by omega, by rw [HM.out]; rfl, by go_num, hr1.out, hr2.out⟩
            case measure => simp [intOf]; omega
          · go_wp2_with (at_builtin; refine wpList_append_own _ rfl _ _ 38 rfl w.heap.size 4 i0 (.bool false) 1 1 Try.underlying38 hi0 hz0 hz1 hz2 rfl (by decide) _ _ _ rfl (hown.alloc _) ⟨wr.heap.size, 0, none⟩ 1 1 [.bool true] rfl rfl (cell_one_new _ _ _) (bool_one _) (by unfold maxLen; omega) (by omega) (by simp; omega) ?_)
            intro v' w1 hown' hgrow _
            have hr1 := hide (own_snoc (M := (addTo a b c (k + 1)).1) hown' HS.out)
            have hr2 := hide (own_grow hown hgrow hnx hsz)
            clear hown hown' hgrow hnx hca hcb
            go_wp2
            go_roundw
            case rel => exact ⟨k + 1, by omega, by rw [HM.out]; rfl, by go_num, hr1.out, hr2.out⟩
            case measure => simp [intOf]; omega
    · have hkk : Hid (k = a.length) := by unfold Hid; omega
      have hf := hide hnx
      clear hnx hk ha hb HS HM
      go_wp2
      go_ret
      exact ⟨_, rfl, own_mk hown (by rw [hkk.out]; rfl), hf.out⟩
end Go.Proofs.Ytieambnaiecibaa
