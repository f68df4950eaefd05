/- bits.Of alone, by value. -/
import Derived.Test.YtlddnpgcoekaaaaGreatDoorVals
import Derived.Test.YtlddnpgcoekaaaaGreatDoorRd
import Derived.Test.YtlddnpgcoekaaaaGreatDoorWords
import Derived.Deep.QuietTactic
import Derived.BigQuiet
import Derived.Deep.RegionHeld3
namespace Go.Proofs.YtlddnpgcoekaaaaGreatDoor
open Go.RowKit

theorem of_no (n hi lo : Int) (w : World) (h : ¬ (1 ≤ n ∧ n ≤ 128)) :
    Calls Tryz.prog 22 #[.int .i64 n, .int .u64 hi, .int .u64 lo] w fun e w' =>
      e = .returned (.tuple #[.agg #[.int .i64 0, .int .u64 0, .int .u64 0], .int .i64 1]) ∧ Below w.heap.size w w' := by
  have hm := mayBe_no h
  clear h
  go_enter Tryz.func22, Tryz.ntmps22
  go_wp2_with (go_at_call 119; refine (widthMayBe_any _ _).mono ?_; rintro e w' ⟨rfl, rfl⟩)
  refine bodyPost_ret (v := .tuple #[.agg #[.int .i64 0, .int .u64 0, .int .u64 0], .int .i64 1]) (by simp [results, Tryz.results22, go_sem]) rfl ⟨rfl, ?_⟩
  exact (Below.refl _ _).alloc (Nat.le_refl _) _

theorem of_yes (n hi lo : Int) (w : World) (h0 : 1 ≤ n) (h1 : n ≤ 128) (a0 : 0 ≤ hi) (a1 : hi < 18446744073709551616) (b0 : 0 ≤ lo) (b1 : lo < 18446744073709551616) :
    Calls Tryz.prog 22 #[.int .i64 n, .int .u64 hi, .int .u64 lo] w fun e w' =>
      e = .returned (.tuple #[.agg #[.int .i64 n, .int .u64 (cHi n hi), .int .u64 (cLo n lo)], .int .i64 0]) ∧ Below w.heap.size w w' := by
  have hm := mayBe_yes h0 h1
  go_enter Tryz.func22, Tryz.ntmps22
  go_wp2_with (first
    | (go_at_call 119; refine (widthMayBe_any _ _).mono ?_; rintro e w' ⟨rfl, rfl⟩)
    | (go_at_call 120; refine (cut_any n hi lo _ h0 h1 a0 a1 b0 b1).mono ?_; rintro e w1 ⟨rfl, hb⟩; obtain ⟨hc, hf⟩ := bcell hb; have hz : w.heap.size < w1.heap.size := by have := hb.size; simp at this; omega))
  refine bodyPost_ret (v := .tuple #[.agg #[.int .i64 n, .int .u64 (cHi n hi), .int .u64 (cLo n lo)], .int .i64 0]) (by simp [results, Tryz.results22, go_sem, hc]) rfl ⟨rfl, ?_⟩
  exact (((((Below.refl _ _).alloc (Nat.le_refl _) _).trans (hb.mono (by simp))).setCell (Nat.le_refl _) _).setCell (Nat.le_refl _) _).setCell (Nat.le_refl _) _

theorem cutV (n X Y : Int) (v : Nat) (w : World) (m0 : 1 ≤ n) (m1 : n ≤ 128) (hv : v < top) (hX : X = wHi v) (hY : Y = wLo v) :
    Calls Tryz.prog 120 #[.int .i64 n, .int .u64 X, .int .u64 Y] w fun e w' => e = .returned (.agg #[.int .i64 n, .int .u64 (wHi (v % 2 ^ n.toNat)), .int .u64 (wLo (v % 2 ^ n.toNat))]) ∧ Below w.heap.size w w' := by
  subst hX hY
  have h := cut_any n (wHi v) (wLo v) w m0 m1 (wHi_bd hv).1 (wHi_bd hv).2 (wLo_bd v).1 (wLo_bd v).2
  rw [cut_hi n v m0, cut_lo n v m0] at h
  exact h
theorem cutR (n X Y rh rl : Int) (v : Nat) (w : World) (m0 : 1 ≤ n) (m1 : n ≤ 128) (hv : v < top) (hX : X = wHi v) (hY : Y = wLo v) (hh : wHi (v % 2 ^ n.toNat) = rh) (hl : wLo (v % 2 ^ n.toNat) = rl) :
    Calls Tryz.prog 120 #[.int .i64 n, .int .u64 X, .int .u64 Y] w fun e w' => e = .returned (.agg #[.int .i64 n, .int .u64 rh, .int .u64 rl]) ∧ Below w.heap.size w w' := by
  subst hh hl
  exact cutV n X Y v w m0 m1 hv hX hY
theorem ofV (n X Y : Int) (v : Nat) (w : World) (m0 : 1 ≤ n) (m1 : n ≤ 128) (hv : v < top) (hX : X = wHi v) (hY : Y = wLo v) :
    Calls Tryz.prog 22 #[.int .i64 n, .int .u64 X, .int .u64 Y] w fun e w' => e = .returned (.tuple #[.agg #[.int .i64 n, .int .u64 (wHi (v % 2 ^ n.toNat)), .int .u64 (wLo (v % 2 ^ n.toNat))], .int .i64 0]) ∧ Below w.heap.size w w' := by
  subst hX hY
  have h := of_yes n (wHi v) (wLo v) w m0 m1 (wHi_bd hv).1 (wHi_bd hv).2 (wLo_bd v).1 (wLo_bd v).2
  rw [cut_hi n v m0, cut_lo n v m0] at h
  exact h
end Go.Proofs.YtlddnpgcoekaaaaGreatDoor
