/- strconv.FormatUint at base 16, strconv.Itoa at 12, bits.digits and bits.Text at one number. -/
import Derived.Test.YtbbnjilajkllpaaGreatDoorUFx
import Derived.Test.YtbbnjilajkllpaaGreatDoorNums
import Derived.Deep.RegionHeld3
namespace Go.Proofs.YtbbnjilajkllpaaGreatDoor
open Go.RowKit

set_option maxRecDepth 100000 in
theorem itoa_12 (w : World) :
    Calls Tryz.prog 12 #[.int .i64 12] w fun e w' => e = .returned (.string ⟨#[49, 50]⟩) ∧ w' = w := by
  go_enter Tryz.func12, Tryz.ntmps12
  go_wp2
  go_ret
  exact ⟨rfl, rfl⟩

/- digits where nothing is above the lower word. -/
theorem digits_low (v : Nat) (hv : v < 18446744073709551616) (w : World) (ht : w.cell? ⟨5, 15, none⟩ = some (.int .u8 4)) :
    Calls Tryz.prog 13 #[.int .u64 0, .int .u64 v] w fun e w' => ∃ k, hexAt v k ∧ e = .returned (.string ⟨(lowB v (k + 1)).toArray⟩) ∧ Below w.heap.size w w' := by
  have HF := hide (formatUint_16 v hv w ht)
  clear ht
  go_enter Tryz.func13, Tryz.ntmps13
  go_wp2_with fail
  refine HF.out.mono ?_
  rintro e w1 ⟨k, h1, rfl, hb⟩
  have H1 := hide h1
  clear h1
  generalize hL : lowB v (k + 1) = L
  have HL := hide hL
  clear hL
  go_wp2
  go_ret
  exact ⟨k, H1.out, by rw [HL.out]; rfl, hb⟩
theorem digits_2565 (w : World) (ht : w.cell? ⟨5, 15, none⟩ = some (.int .u8 4)) :
    Calls Tryz.prog 13 #[.int .u64 0, .int .u64 2565] w fun e w' => e = .returned (.string ⟨#[97, 48, 53]⟩) ∧ Below w.heap.size w w' := by
  refine (digits_low 2565 (by decide) w ht).mono ?_
  rintro e w1 ⟨k, ⟨h1, h2, h3⟩, rfl, hb⟩
  have hk : k = 0 ∨ k = 1 ∨ k = 2 ∨ k = 3 ∨ k = 4 ∨ k = 5 ∨ k = 6 ∨ k = 7 ∨ k = 8 ∨ k = 9 ∨ k = 10 ∨ k = 11 ∨ k = 12 ∨ k = 13 ∨ k = 14 ∨ k = 15 := by omega
  have hk2 : k = 2 := by
    rcases hk with rfl | rfl | rfl | rfl | rfl | rfl | rfl | rfl | rfl | rfl | rfl | rfl | rfl | rfl | rfl | rfl <;> first | rfl | (exfalso; revert h1 h2; decide)
  subst hk2
  exact ⟨rfl, hb⟩
theorem text_12 (w : World) (ht : w.cell? ⟨5, 15, none⟩ = some (.int .u8 4)) :
    Calls Tryz.prog 5 #[.agg #[.int .i64 12, .int .u64 0, .int .u64 2565]] w fun e w' => e = .returned (.tuple #[.string ⟨#[49, 50, 119, 97, 48, 53]⟩, .int .i64 0]) ∧ Below w.heap.size w w' := by
  have hG : 5 < w.heap.size := World.block_lt_of_cell? w _ ht
  have HC : Hid (∀ W, Calls Tryz.prog 7 #[.agg #[.int .i64 12, .int .u64 0, .int .u64 2565]] W fun e W' => e = .returned (.bool true) ∧ Below W.heap.size W W') := fun W => checkV 12 2565 W (by decide)
  have HD := hide (fun W h => digits_2565 W h)
  have HI := hide itoa_12
  have HT := hide ht
  clear ht
  go_enter Tryz.func5, Tryz.ntmps5
  go_wp2_with fail
  refine (HC.out _).mono ?_
  rintro e w1 ⟨rfl, hb⟩
  have hz : w.heap.size < w1.heap.size := by have := hb.size; simp at this; omega
  have hk := cells3T hb
  have HT1 : Hid (w1.cell? ⟨5, 15, none⟩ = some (.int .u8 4)) := by
    unfold Hid; rw [hb.cell (by simp; omega), World.cell?_alloc_past _ _ _ hG]; exact HT.out
  have HW : Hid (Below w.heap.size w w1) := ((Below.refl _ _).alloc (Nat.le_refl _) _).trans (hb.mono (by simp))
  have hlt : w.heap.size < w1.heap.size := hz
  clear hb
  obtain ⟨hk0, hk1, hk2⟩ := hk
  have HH : Hid (∀ w', Below w1.heap.size w1 w' → Below w1.heap.size w1 w' ∧ w'.cell? ⟨w.heap.size, 0, none⟩ = some (.int .i64 12) ∧ w'.cell? ⟨w.heap.size, 1, none⟩ = some (.int .u64 0) ∧ w'.cell? ⟨w.heap.size, 2, none⟩ = some (.int .u64 2565)) :=
    fun w' h => ⟨h, (h.cell hlt).trans hk0, (h.cell hlt).trans hk1, (h.cell hlt).trans hk2⟩
  go_wp2
  go_region_held3 (fun w' => Below w1.heap.size w1 w' ∧ w'.cell? ⟨w.heap.size, 0, none⟩ = some (.int .i64 12) ∧ w'.cell? ⟨w.heap.size, 1, none⟩ = some (.int .u64 0) ∧ w'.cell? ⟨w.heap.size, 2, none⟩ = some (.int .u64 2565)) (first | exact keepS HH.out (by assumption) (And.left (by assumption)) (Nat.le_refl _) | exact HH.out _ (Below.refl _ _).drew)
    (first
      | (go_at_call 12; refine (HI.out _).mono ?_; rintro e w' ⟨rfl, rfl⟩)
      | (go_at_call 13; refine (HD.out _ ?_).mono ?_; (rw [(And.left (by assumption) : Below w1.heap.size w1 _).cell (show 5 < w1.heap.size by omega)]; exact HT1.out); rintro e w2 ⟨rfl, hb2⟩))
  all_goals (go_wp2; go_ret2; exact ⟨rfl, HW.out.trans ((And.left (by assumption) : Below w1.heap.size w1 _).mono (by omega))⟩)
end Go.Proofs.YtbbnjilajkllpaaGreatDoor
