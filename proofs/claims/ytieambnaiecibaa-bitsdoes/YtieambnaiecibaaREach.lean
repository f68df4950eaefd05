/- The walks of the document's own each, one, below and value. -/
import Derived.Test.YtieambnaiecibaaRNot
namespace Go.Proofs.Ytieambnaiecibaa
open Go.RowKit

theorem refOne_any (x : Bool) (w : World) :
    Calls Try.prog 23 #[.bool x] w fun e w' => ∃ r, e = .returned r ∧ Own w w' r [x] ∧ Below w.heap.size w w' := by
  go_enter Try.func23, Try.ntmps23
  go_wp2
  go_ret
  exact ⟨_, rfl, World.ownsRow_lit w #[.bool x] 1 (Nat.le_refl _) (by unfold maxLen; omega) rfl, (Below.refl _ _).alloc (Nat.le_refl _) _⟩

set_option maxHeartbeats 1000000 in
theorem refEachAnd (a b : List Bool) (hl : a.length ≤ 128) (hlb : b.length = a.length) (va vb : Value) (w : World) (hva : Row w va a) (hvb : Row w vb b) :
    Calls Try.prog 20 #[.int .u8 8, va, vb] w fun e w' => ∃ r, e = .returned r ∧ Own w w' r (eachTo (fun x y => x && y) a b a.length) ∧ Below w.heap.size w w' := by
  obtain ⟨p, off, cap, rfl, ha⟩ := hva
  obtain ⟨q, off2, cap2, rfl, hb⟩ := hvb
  obtain ⟨i0, hi0, hz0, hz1, hz2⟩ := info_parts Try.info4
  rw [hlb]
  rw [hlb] at hb
  go_enter Try.func20, Try.ntmps20
  go_wp2
  go_loopw [7, 8] (fun v i wr => ∃ k : Nat, k ≤ a.length ∧ i = .int .i64 k ∧ wr.ownsRow w.heap.size 4 1 v k ((eachTo (fun x y => x && y) a b k).map Value.bool) ∧ Below w.heap.size w wr) (fun _ i _ => a.length - (intOf i).toNat)
  case atStart => exact ⟨0, Nat.zero_le _, rfl, World.ownsRow_nil _ _ _ _, Below.refl _ _⟩
  case round =>
    obtain ⟨k, hk, rfl, hown, hnx⟩ := hrel
    have hsz := hnx.size
    have HS := hide (eachTo_succ (fun x y => x && y) a b k)
    by_cases hlt : k < a.length
    · have hca : wr.cell? ⟨p, off + k, none⟩ = some (.bool (bitAt a k)) := by
        rw [hnx.cell (World.block_lt_of_cell? w _ (ha k hlt))]; exact ha k hlt
      have hcb : wr.cell? ⟨q, off2 + k, none⟩ = some (.bool (bitAt b k)) := by
        rw [hnx.cell (World.block_lt_of_cell? w _ (hb k hlt))]; exact hb k hlt
      cases hx : bitAt a k
      · cases hy : bitAt b k
        · rw [hx] at hca
          rw [hy] at hcb
          have HX : Hid ((fun x y => x && y) (bitAt a k) (bitAt b k) = false) := by unfold Hid; rw [hx, hy]; rfl
          clear hx hy ha hb
          go_wp2_with (at_builtin; refine wpList_append_own _ rfl _ _ 38 rfl w.heap.size 4 i0 (.bool false) 1 1 Try.underlying38 hi0 hz0 hz1 hz2 rfl (by decide) _ _ _ rfl (hown.alloc _) ⟨wr.heap.size, 0, none⟩ 1 1 [.bool false] rfl rfl (cell_one_new _ _ _) (bool_one _) (by unfold maxLen; omega) (by omega) (by simp; omega) ?_)
          intro v' w1 hown' hgrow _
          have hr1 := hide (own_snoc (M := eachTo (fun x y => x && y) a b (k + 1)) hown' (by rw [HS.out]; exact congrArg (fun x => _ ++ [x]) HX.out))
          have hr2 := hide (own_grow hown hgrow hnx hsz)
          clear hown hown' hgrow hnx hca hcb
          go_wp2
          go_roundw
          case rel => exact ⟨k + 1, by omega, by go_num, hr1.out, hr2.out⟩
          case measure => simp [intOf]; omega
        · rw [hx] at hca
          rw [hy] at hcb
          have HX : Hid ((fun x y => x && y) (bitAt a k) (bitAt b k) = false) := by unfold Hid; rw [hx, hy]; rfl
          clear hx hy ha hb
          go_wp2_with (at_builtin; refine wpList_append_own _ rfl _ _ 38 rfl w.heap.size 4 i0 (.bool false) 1 1 Try.underlying38 hi0 hz0 hz1 hz2 rfl (by decide) _ _ _ rfl (hown.alloc _) ⟨wr.heap.size, 0, none⟩ 1 1 [.bool false] rfl rfl (cell_one_new _ _ _) (bool_one _) (by unfold maxLen; omega) (by omega) (by simp; omega) ?_)
          intro v' w1 hown' hgrow _
          have hr1 := hide (own_snoc (M := eachTo (fun x y => x && y) a b (k + 1)) hown' (by rw [HS.out]; exact congrArg (fun x => _ ++ [x]) HX.out))
          have hr2 := hide (own_grow hown hgrow hnx hsz)
          clear hown hown' hgrow hnx hca hcb
          go_wp2
          go_roundw
          case rel => exact ⟨k + 1, by omega, by go_num, hr1.out, hr2.out⟩
          case measure => simp [intOf]; omega
      · cases hy : bitAt b k
        · rw [hx] at hca
          rw [hy] at hcb
          have HX : Hid ((fun x y => x && y) (bitAt a k) (bitAt b k) = false) := by unfold Hid; rw [hx, hy]; rfl
          clear hx hy ha hb
          go_wp2_with (at_builtin; refine wpList_append_own _ rfl _ _ 38 rfl w.heap.size 4 i0 (.bool false) 1 1 Try.underlying38 hi0 hz0 hz1 hz2 rfl (by decide) _ _ _ rfl (hown.alloc _) ⟨wr.heap.size, 0, none⟩ 1 1 [.bool false] rfl rfl (cell_one_new _ _ _) (bool_one _) (by unfold maxLen; omega) (by omega) (by simp; omega) ?_)
          intro v' w1 hown' hgrow _
          have hr1 := hide (own_snoc (M := eachTo (fun x y => x && y) a b (k + 1)) hown' (by rw [HS.out]; exact congrArg (fun x => _ ++ [x]) HX.out))
          have hr2 := hide (own_grow hown hgrow hnx hsz)
          clear hown hown' hgrow hnx hca hcb
          go_wp2
          go_roundw
          case rel => exact ⟨k + 1, by omega, by go_num, hr1.out, hr2.out⟩
          case measure => simp [intOf]; omega
        · rw [hx] at hca
          rw [hy] at hcb
          have HX : Hid ((fun x y => x && y) (bitAt a k) (bitAt b k) = true) := by unfold Hid; rw [hx, hy]; rfl
          clear hx hy ha hb
          go_wp2_with (at_builtin; refine wpList_append_own _ rfl _ _ 38 rfl w.heap.size 4 i0 (.bool false) 1 1 Try.underlying38 hi0 hz0 hz1 hz2 rfl (by decide) _ _ _ rfl (hown.alloc _) ⟨wr.heap.size, 0, none⟩ 1 1 [.bool true] rfl rfl (cell_one_new _ _ _) (bool_one _) (by unfold maxLen; omega) (by omega) (by simp; omega) ?_)
          intro v' w1 hown' hgrow _
          have hr1 := hide (own_snoc (M := eachTo (fun x y => x && y) a b (k + 1)) hown' (by rw [HS.out]; exact congrArg (fun x => _ ++ [x]) HX.out))
          have hr2 := hide (own_grow hown hgrow hnx hsz)
          clear hown hown' hgrow hnx hca hcb
          go_wp2
          go_roundw
          case rel => exact ⟨k + 1, by omega, by go_num, hr1.out, hr2.out⟩
          case measure => simp [intOf]; omega
    · have hkk : Hid (k = a.length) := by unfold Hid; omega
      have hf := hide hnx
      clear hnx hk ha hb
      go_wp2
      go_ret
      exact ⟨_, rfl, own_mk hown (by rw [hkk.out]), hf.out⟩

set_option maxHeartbeats 1000000 in
theorem refEachOr (a b : List Bool) (hl : a.length ≤ 128) (hlb : b.length = a.length) (va vb : Value) (w : World) (hva : Row w va a) (hvb : Row w vb b) :
    Calls Try.prog 20 #[.int .u8 9, va, vb] w fun e w' => ∃ r, e = .returned r ∧ Own w w' r (eachTo (fun x y => x || y) a b a.length) ∧ Below w.heap.size w w' := by
  obtain ⟨p, off, cap, rfl, ha⟩ := hva
  obtain ⟨q, off2, cap2, rfl, hb⟩ := hvb
  obtain ⟨i0, hi0, hz0, hz1, hz2⟩ := info_parts Try.info4
  rw [hlb]
  rw [hlb] at hb
  go_enter Try.func20, Try.ntmps20
  go_wp2
  go_loopw [7, 8] (fun v i wr => ∃ k : Nat, k ≤ a.length ∧ i = .int .i64 k ∧ wr.ownsRow w.heap.size 4 1 v k ((eachTo (fun x y => x || y) a b k).map Value.bool) ∧ Below w.heap.size w wr) (fun _ i _ => a.length - (intOf i).toNat)
  case atStart => exact ⟨0, Nat.zero_le _, rfl, World.ownsRow_nil _ _ _ _, Below.refl _ _⟩
  case round =>
    obtain ⟨k, hk, rfl, hown, hnx⟩ := hrel
    have hsz := hnx.size
    have HS := hide (eachTo_succ (fun x y => x || y) a b k)
    by_cases hlt : k < a.length
    · have hca : wr.cell? ⟨p, off + k, none⟩ = some (.bool (bitAt a k)) := by
        rw [hnx.cell (World.block_lt_of_cell? w _ (ha k hlt))]; exact ha k hlt
      have hcb : wr.cell? ⟨q, off2 + k, none⟩ = some (.bool (bitAt b k)) := by
        rw [hnx.cell (World.block_lt_of_cell? w _ (hb k hlt))]; exact hb k hlt
      cases hx : bitAt a k
      · cases hy : bitAt b k
        · rw [hx] at hca
          rw [hy] at hcb
          have HX : Hid ((fun x y => x || y) (bitAt a k) (bitAt b k) = false) := by unfold Hid; rw [hx, hy]; rfl
          clear hx hy ha hb
          go_wp2_with (at_builtin; refine wpList_append_own _ rfl _ _ 38 rfl w.heap.size 4 i0 (.bool false) 1 1 Try.underlying38 hi0 hz0 hz1 hz2 rfl (by decide) _ _ _ rfl (hown.alloc _) ⟨wr.heap.size, 0, none⟩ 1 1 [.bool false] rfl rfl (cell_one_new _ _ _) (bool_one _) (by unfold maxLen; omega) (by omega) (by simp; omega) ?_)
          intro v' w1 hown' hgrow _
          have hr1 := hide (own_snoc (M := eachTo (fun x y => x || y) a b (k + 1)) hown' (by rw [HS.out]; exact congrArg (fun x => _ ++ [x]) HX.out))
          have hr2 := hide (own_grow hown hgrow hnx hsz)
          clear hown hown' hgrow hnx hca hcb
          go_wp2
          go_roundw
          case rel => exact ⟨k + 1, by omega, by go_num, hr1.out, hr2.out⟩
          case measure => simp [intOf]; omega
        · rw [hx] at hca
          rw [hy] at hcb
          have HX : Hid ((fun x y => x || y) (bitAt a k) (bitAt b k) = true) := by unfold Hid; rw [hx, hy]; rfl
          clear hx hy ha hb
          go_wp2_with (at_builtin; refine wpList_append_own _ rfl _ _ 38 rfl w.heap.size 4 i0 (.bool false) 1 1 Try.underlying38 hi0 hz0 hz1 hz2 rfl (by decide) _ _ _ rfl (hown.alloc _) ⟨wr.heap.size, 0, none⟩ 1 1 [.bool true] rfl rfl (cell_one_new _ _ _) (bool_one _) (by unfold maxLen; omega) (by omega) (by simp; omega) ?_)
          intro v' w1 hown' hgrow _
          have hr1 := hide (own_snoc (M := eachTo (fun x y => x || y) a b (k + 1)) hown' (by rw [HS.out]; exact congrArg (fun x => _ ++ [x]) HX.out))
          have hr2 := hide (own_grow hown hgrow hnx hsz)
          clear hown hown' hgrow hnx hca hcb
          go_wp2
          go_roundw
          case rel => exact ⟨k + 1, by omega, by go_num, hr1.out, hr2.out⟩
          case measure => simp [intOf]; omega
      · cases hy : bitAt b k
        · rw [hx] at hca
          rw [hy] at hcb
          have HX : Hid ((fun x y => x || y) (bitAt a k) (bitAt b k) = true) := by unfold Hid; rw [hx, hy]; rfl
          clear hx hy ha hb
          go_wp2_with (at_builtin; refine wpList_append_own _ rfl _ _ 38 rfl w.heap.size 4 i0 (.bool false) 1 1 Try.underlying38 hi0 hz0 hz1 hz2 rfl (by decide) _ _ _ rfl (hown.alloc _) ⟨wr.heap.size, 0, none⟩ 1 1 [.bool true] rfl rfl (cell_one_new _ _ _) (bool_one _) (by unfold maxLen; omega) (by omega) (by simp; omega) ?_)
          intro v' w1 hown' hgrow _
          have hr1 := hide (own_snoc (M := eachTo (fun x y => x || y) a b (k + 1)) hown' (by rw [HS.out]; exact congrArg (fun x => _ ++ [x]) HX.out))
          have hr2 := hide (own_grow hown hgrow hnx hsz)
          clear hown hown' hgrow hnx hca hcb
          go_wp2
          go_roundw
          case rel => exact ⟨k + 1, by omega, by go_num, hr1.out, hr2.out⟩
          case measure => simp [intOf]; omega
        · rw [hx] at hca
          rw [hy] at hcb
          have HX : Hid ((fun x y => x || y) (bitAt a k) (bitAt b k) = true) := by unfold Hid; rw [hx, hy]; rfl
          clear hx hy ha hb
          go_wp2_with (at_builtin; refine wpList_append_own _ rfl _ _ 38 rfl w.heap.size 4 i0 (.bool false) 1 1 Try.underlying38 hi0 hz0 hz1 hz2 rfl (by decide) _ _ _ rfl (hown.alloc _) ⟨wr.heap.size, 0, none⟩ 1 1 [.bool true] rfl rfl (cell_one_new _ _ _) (bool_one _) (by unfold maxLen; omega) (by omega) (by simp; omega) ?_)
          intro v' w1 hown' hgrow _
          have hr1 := hide (own_snoc (M := eachTo (fun x y => x || y) a b (k + 1)) hown' (by rw [HS.out]; exact congrArg (fun x => _ ++ [x]) HX.out))
          have hr2 := hide (own_grow hown hgrow hnx hsz)
          clear hown hown' hgrow hnx hca hcb
          go_wp2
          go_roundw
          case rel => exact ⟨k + 1, by omega, by go_num, hr1.out, hr2.out⟩
          case measure => simp [intOf]; omega
    · have hkk : Hid (k = a.length) := by unfold Hid; omega
      have hf := hide hnx
      clear hnx hk ha hb
      go_wp2
      go_ret
      exact ⟨_, rfl, own_mk hown (by rw [hkk.out]), hf.out⟩
end Go.Proofs.Ytieambnaiecibaa
