/- The walks of the document's own Bits and Number. -/
import Derived.Test.YthkhdmdllhbfeaaWCk
namespace Go.Proofs.Ythkhdmdllhbfeaa
open Go.RowKit

theorem Try.info4 : (Try.prog.info? 4).map (fun i => (i.zero, i.size, i.bytes)) = some (some (.bool false), 1, 1) := by kernel_rfl

theorem bool_one (b : Bool) : ∀ u ∈ [Value.bool b], u.oneCell' = true := by intro u hu; simp at hu; subst hu; rfl
theorem own_belowG {B : Nat} {e : TypeId} {w0 wr w1 : World} {u : Value} {k : Nat} {L : List Value} {o : Obj} (hown : wr.ownsRow B e 1 u k L) (hgrow : (wr.alloc o).grownBy w1 u.ownBlock) (hnx : Below B w0 wr) (hB : B ≤ wr.heap.size) : Below B w0 w1 :=
  (hnx.alloc hB o).grown hgrow (by simp; omega) (fun k e => (hown.lt k e).1)
theorem bits_own {B : Nat} {w1 : World} {v : Value} {hi lo : Int} {k : Nat} {X : Bool} (h : w1.ownsRow B 4 1 v (k + 1) ((bitsTo hi lo k).map Value.bool ++ [.bool X])) (hX : X = bitB hi lo k) : w1.ownsRow B 4 1 v (k + 1) ((bitsTo hi lo (k + 1)).map Value.bool) := by
  rw [bitsTo_succ, List.map_append, ← hX]; exact h

set_option maxHeartbeats 1000000 in
theorem refBits_any (n hi lo : Int) (w : World) (a0 : 0 ≤ hi) (a1 : hi < 18446744073709551616) (b0 : 0 ≤ lo) (b1 : lo < 18446744073709551616) :
    Calls Try.prog 70 #[.agg #[.int .i64 n, .int .u64 hi, .int .u64 lo]] w fun e w' =>
      ∃ v, e = .returned v ∧ w'.ownsRow (w.heap.size + 1) 4 1 v (min n 128).toNat ((bitsTo hi lo (min n 128).toNat).map Value.bool) ∧ Below w.heap.size w w' := by
  obtain ⟨i0, hi0, hz0, hz1, hz2⟩ := info_parts Try.info4
  go_enter Try.func70, Try.ntmps70
  go_wp2
  go_loopw [3, 4] (fun v i wr => ∃ k : Nat, (k ≤ (min n 128).toNat) ∧ i = .int .i64 k ∧ wr.ownsRow (w.heap.size + 1) 4 1 v k ((bitsTo hi lo k).map Value.bool) ∧ Below (w.heap.size + 1) (w.alloc (.cells #[.int .i64 n, .int .u64 hi, .int .u64 lo] 52)) wr)
    (fun _ i _ => 128 - (intOf i).toNat)
  case atStart => exact ⟨0, Nat.zero_le _, rfl, World.ownsRow_nil _ _ _ _, Below.refl _ _⟩
  case round =>
    obtain ⟨k, hk, rfl, hown, hnx⟩ := hrel
    have c0 : wr.cell? ⟨w.heap.size, 0, none⟩ = some (.int .i64 n) := by rw [hnx.cell (by simp)]; simp [go_sem]
    have c1 : wr.cell? ⟨w.heap.size, 1, none⟩ = some (.int .u64 hi) := by rw [hnx.cell (by simp)]; simp [go_sem]
    have c2 : wr.cell? ⟨w.heap.size, 2, none⟩ = some (.int .u64 lo) := by rw [hnx.cell (by simp)]; simp [go_sem]
    have hsz := hnx.size
    by_cases hlt : (k : Int) < n
    · by_cases h128 : (k : Int) < 128
      · by_cases h64 : (k : Int) < 64
        · go_wp2_with (at_builtin; refine wpList_append_own _ rfl _ _ 102 rfl (w.heap.size + 1) 4 i0 (.bool false) 1 1 Try.underlying102 hi0 hz0 hz1 hz2 rfl (by decide) _ _ _ rfl (hown.alloc _) ⟨wr.heap.size, 0, none⟩ 1 1 [.bool (bits .and .u64 (lo / 2 ^ k) 1 == 1)] rfl rfl (cell_one_new _ _ _) (bool_one _) (by unfold maxLen; omega) (by omega) (by simp at hsz ⊢; omega) ?_)
          intro v' w1 hown' hgrow _
          have hr1 : Hid (w1.ownsRow (w.heap.size + 1) 4 1 v' (k + 1) ((bitsTo hi lo (k + 1)).map Value.bool)) := bits_own hown' (bit_lo hi lo k h64 b0 b1)
          have hr2 : Hid (Below (w.heap.size + 1) (w.alloc (.cells #[.int .i64 n, .int .u64 hi, .int .u64 lo] 52)) w1) := own_belowG hown hgrow hnx (by simp at hsz; omega)
          clear hown hown' hgrow hnx c0 c1 c2
          go_wp2
          go_roundw
          case rel => exact ⟨k + 1, by omega, by go_num, hr1.out, hr2.out⟩
          case measure => simp [intOf]; omega
        · go_wp2_with (at_builtin; refine wpList_append_own _ rfl _ _ 102 rfl (w.heap.size + 1) 4 i0 (.bool false) 1 1 Try.underlying102 hi0 hz0 hz1 hz2 rfl (by decide) _ _ _ rfl (hown.alloc _) ⟨wr.heap.size, 0, none⟩ 1 1 [.bool (bits .and .u64 (hi / 2 ^ (k - 64)) 1 == 1)] rfl rfl (cell_one_new _ _ _) (bool_one _) (by unfold maxLen; omega) (by omega) (by simp at hsz ⊢; omega) ?_)
          intro v' w1 hown' hgrow _
          have hr1 : Hid (w1.ownsRow (w.heap.size + 1) 4 1 v' (k + 1) ((bitsTo hi lo (k + 1)).map Value.bool)) := bits_own hown' (bit_hi hi lo k (by omega) a0 a1)
          have hr2 : Hid (Below (w.heap.size + 1) (w.alloc (.cells #[.int .i64 n, .int .u64 hi, .int .u64 lo] 52)) w1) := own_belowG hown hgrow hnx (by simp at hsz; omega)
          clear hown hown' hgrow hnx c0 c1 c2
          go_wp2
          go_roundw
          case rel => exact ⟨k + 1, by omega, by go_num, hr1.out, hr2.out⟩
          case measure => simp [intOf]; omega
      · have hkk : Hid (k = (min n 128).toNat) := by unfold Hid; omega
        have hf : Hid (Below w.heap.size w wr) := ((Below.refl _ _).alloc (Nat.le_refl _) _).trans (hnx.mono (by omega))
        clear hnx hk
        go_wp2
        go_ret
        exact ⟨_, rfl, by rw [← hkk.out]; exact hown, hf.out⟩
    · have hkk : Hid (k = (min n 128).toNat) := by unfold Hid; omega
      have hf : Hid (Below w.heap.size w wr) := ((Below.refl _ _).alloc (Nat.le_refl _) _).trans (hnx.mono (by omega))
      clear hnx hk
      have hlt' : decide ((k : Int) < n) = false := by simpa using hlt
      go_wp2
      go_ret
      exact ⟨_, rfl, by rw [← hkk.out]; exact hown, hf.out⟩
end Go.Proofs.Ythkhdmdllhbfeaa
