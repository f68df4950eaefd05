/- The walks of not, slice and cast. -/
import Derived.Test.YtbbnjilajkllpaaGreatDoorCuts
namespace Go.Proofs.YtbbnjilajkllpaaGreatDoor
open Go.RowKit

theorem xor_all (a : Nat) (h : a < 18446744073709551616) : bits .xor .u64 IntKind.u64.max (a : Int) = ((18446744073709551615 - a : Nat) : Int) := by
  have e : IntKind.u64.max = ((18446744073709551615 : Nat) : Int) := by decide
  rw [e, u64_xor_nat _ _ (by decide) h]
  congr 1
  refine Nat.eq_of_testBit_eq fun j => ?_
  have h1 : (18446744073709551615 : Nat) = 2 ^ 64 - 1 := by decide
  have h2 : (18446744073709551615 - a : Nat) = 2 ^ 64 - (a + 1) := by omega
  rw [h2, Nat.testBit_two_pow_sub_succ (by omega), h1, Nat.testBit_xor, Nat.testBit_two_pow_sub_one]
  by_cases hj : j < 64
  · simp [hj]
  · have : a.testBit j = false := Nat.testBit_lt_two_pow (Nat.lt_of_lt_of_le (by omega : a < 2 ^ 64) (Nat.pow_le_pow_right (by decide) (by omega)))
    simp [hj, this]
theorem not_hi {u : Nat} (hu : u < top) : bits .xor .u64 IntKind.u64.max (wHi u) = wHi (top - 1 - u) := by
  rw [wHi_nat, xor_all _ (part_lt hu).1, wHi_nat]; unfold top at *; omega
theorem not_lo {u : Nat} (hu : u < top) : bits .xor .u64 IntKind.u64.max (wLo u) = wLo (top - 1 - u) := by
  rw [wLo_nat, xor_all _ (part_lt hu).2, wLo_nat]; unfold top at *; omega
theorem not_mod {u n : Nat} (hn : n ≤ 128) (hu : u < 2 ^ n) : (top - 1 - u) % 2 ^ n = 2 ^ n - 1 - u := by
  have e : top = 2 ^ n * 2 ^ (128 - n) := by rw [top_eq, ← Nat.pow_add]; congr 1; omega
  have hp : 0 < 2 ^ (128 - n) := Nat.pow_pos (by decide)
  obtain ⟨k, hk⟩ : ∃ k, 2 ^ (128 - n) = k + 1 := ⟨2 ^ (128 - n) - 1, by omega⟩
  have e2 : top - 1 - u = 2 ^ n * k + (2 ^ n - 1 - u) := by rw [e, hk, Nat.mul_add]; omega
  rw [e2, Nat.mul_add_mod, Nat.mod_eq_of_lt (by omega)]

theorem notV (n1 n2 n m : Int) (u v : Nat) (w : World) (hu : u < top) (m0 : 1 ≤ n1) (m1 : n1 ≤ 128) (hu1 : u < 2 ^ n1.toNat) :
    Calls Tryz.prog 46 #[.agg #[.int .i64 n1, .int .u64 (wHi u), .int .u64 (wLo u)], .agg #[.int .i64 n2, .int .u64 (wHi v), .int .u64 (wLo v)], .int .i64 n, .int .i64 m] w fun e w' => e = .returned (.tuple #[.agg #[.int .i64 n1, .int .u64 (wHi (2 ^ n1.toNat - 1 - u)), .int .u64 (wLo (2 ^ n1.toNat - 1 - u))], .int .i64 0]) ∧ Below w.heap.size w w' := by
  have HX := hide (not_hi hu); have HY := hide (not_lo hu)
  rw [← not_mod (by omega) hu1]
  have hs : top - 1 - u < top := by unfold top; omega
  generalize top - 1 - u = s at HX HY hs ⊢
  generalize hrh : wHi (s % 2 ^ n1.toNat) = rh
  generalize hrl : wLo (s % 2 ^ n1.toNat) = rl
  have HRH := hide hrh; have HRL := hide hrl; have HS := hide hs
  clear hrh hrl hs hu1
  generalize wHi u = h1 at *
  generalize wLo u = l1 at *
  generalize wHi v = h2 at *
  generalize wLo v = l2 at *
  go_enter Tryz.func46, Tryz.ntmps46
  go_wp2_with fail
  refine (cutR n1 _ _ rh rl s _ m0 m1 HS.out HX.out HY.out HRH.out HRL.out).mono ?_
  rintro e w1 ⟨rfl, hb⟩
  obtain ⟨hc, hf⟩ := bcell hb
  have hz : w.heap.size + 2 < w1.heap.size := by have := hb.size; simp at this; omega
  go_wp2
  refine bodyPost_ret (v := .tuple #[.agg #[.int .i64 n1, .int .u64 rh, .int .u64 rl], .int .i64 0]) (by simp [results, Tryz.results46, go_sem, hc]) rfl ⟨rfl, ?_⟩
  exact (((((((Below.refl _ _).alloc (Nat.le_refl _) _).alloc (by simp) _).alloc (by simp; omega) _).trans (hb.mono (by simp; omega))).setCell (by simp; omega) _).setCell (by simp; omega) _).setCell (by simp; omega) _

theorem slice_yes (n1 n2 n m : Int) (u v : Nat) (w : World) (hu : u < top) (m0 : 0 ≤ m) (m1 : m ≤ n) (m2 : n < n1) (m3 : n1 ≤ 128) :
    Calls Tryz.prog 51 #[.agg #[.int .i64 n1, .int .u64 (wHi u), .int .u64 (wLo u)], .agg #[.int .i64 n2, .int .u64 (wHi v), .int .u64 (wLo v)], .int .i64 n, .int .i64 m] w fun e w' => e = .returned (.tuple #[.agg #[.int .i64 (n - m + 1), .int .u64 (wHi (u / 2 ^ m.toNat % 2 ^ (n - m + 1).toNat)), .int .u64 (wLo (u / 2 ^ m.toNat % 2 ^ (n - m + 1).toNat))], .int .i64 0]) ∧ Below w.heap.size w w' := by
  have hs : u / 2 ^ m.toNat < top := Nat.lt_of_le_of_lt (Nat.div_le_self _ _) hu
  have HU := hide (fun X Y W hX hY => downV u m X Y W hu m0 (by omega) hX hY)
  generalize u / 2 ^ m.toNat = s at HU hs ⊢
  generalize hX : wHi s = X at HU
  generalize hY : wLo s = Y at HU
  generalize hrh : wHi (s % 2 ^ (n - m + 1).toNat) = rh
  generalize hrl : wLo (s % 2 ^ (n - m + 1).toNat) = rl
  have HX := hide hX; have HY := hide hY; have HRH := hide hrh; have HRL := hide hrl; have HS := hide hs
  clear hX hY hrh hrl hs
  generalize wHi u = h1 at *
  generalize wLo u = l1 at *
  generalize wHi v = h2 at *
  generalize wLo v = l2 at *
  have q0 : decide (m < 0) = false := by simp; omega
  have q1 : decide (n < m) = false := by simp; omega
  have q2 : decide (n1 ≤ n) = false := by simp; omega
  go_enter Tryz.func51, Tryz.ntmps51
  go_wp2_with fail
  refine (HU.out X Y _ rfl rfl).mono ?_
  rintro e w1 ⟨rfl, hw⟩
  subst hw
  go_wp2_with fail
  refine (cutR (n - m + 1) X Y rh rl s _ (by omega) (by omega) HS.out HX.out.symm HY.out.symm HRH.out HRL.out).mono ?_
  rintro e w1 ⟨rfl, hb⟩
  obtain ⟨hc, hf⟩ := bcell hb
  have hz : w.heap.size + 2 < w1.heap.size := by have := hb.size; simp at this; omega
  go_wp2
  refine bodyPost_ret (v := .tuple #[.agg #[.int .i64 (n - m + 1), .int .u64 rh, .int .u64 rl], .int .i64 0]) (by simp [results, Tryz.results51, go_sem, hc]) rfl ⟨rfl, ?_⟩
  exact (((((((Below.refl _ _).alloc (Nat.le_refl _) _).alloc (by simp) _).alloc (by simp; omega) _).trans (hb.mono (by simp; omega))).setCell (by simp; omega) _).setCell (by simp; omega) _).setCell (by simp; omega) _

theorem slice_no (n1 h1 l1 n2 h2 l2 n m : Int) (w : World) (h : ¬ (0 ≤ m ∧ m ≤ n ∧ n < n1)) :
    Calls Tryz.prog 51 #[.agg #[.int .i64 n1, .int .u64 h1, .int .u64 l1], .agg #[.int .i64 n2, .int .u64 h2, .int .u64 l2], .int .i64 n, .int .i64 m] w fun e w' => e = .returned (.tuple #[.agg #[.int .i64 0, .int .u64 0, .int .u64 0], .int .i64 1]) ∧ Below w.heap.size w w' := by
  by_cases g0 : m < 0
  · clear h
    go_enter Tryz.func51, Tryz.ntmps51
    go_wp2
    refine bodyPost_ret (v := .tuple #[.agg #[.int .i64 0, .int .u64 0, .int .u64 0], .int .i64 1]) (by simp [results, Tryz.results51, go_sem]) rfl ⟨rfl, ?_⟩
    exact (((Below.refl _ _).alloc (Nat.le_refl _) _).alloc (by simp) _).alloc (by simp; omega) _
  have q0 : decide (m < 0) = false := by simpa using g0
  by_cases g1 : n < m
  · clear h g0
    go_enter Tryz.func51, Tryz.ntmps51
    go_wp2
    refine bodyPost_ret (v := .tuple #[.agg #[.int .i64 0, .int .u64 0, .int .u64 0], .int .i64 1]) (by simp [results, Tryz.results51, go_sem]) rfl ⟨rfl, ?_⟩
    exact (((Below.refl _ _).alloc (Nat.le_refl _) _).alloc (by simp) _).alloc (by simp; omega) _
  have q1 : decide (n < m) = false := by simpa using g1
  have g2 : n1 ≤ n := by omega
  clear h g0 g1
  go_enter Tryz.func51, Tryz.ntmps51
  go_wp2
  refine bodyPost_ret (v := .tuple #[.agg #[.int .i64 0, .int .u64 0, .int .u64 0], .int .i64 1]) (by simp [results, Tryz.results51, go_sem]) rfl ⟨rfl, ?_⟩
  exact (((Below.refl _ _).alloc (Nat.le_refl _) _).alloc (by simp) _).alloc (by simp; omega) _

theorem cast_yes (n1 n2 n m : Int) (u v : Nat) (w : World) (hu : u < top) (m0 : 1 ≤ n) (m1 : n ≤ 128) :
    Calls Tryz.prog 52 #[.agg #[.int .i64 n1, .int .u64 (wHi u), .int .u64 (wLo u)], .agg #[.int .i64 n2, .int .u64 (wHi v), .int .u64 (wLo v)], .int .i64 n, .int .i64 m] w fun e w' => e = .returned (.tuple #[.agg #[.int .i64 n, .int .u64 (wHi (u % 2 ^ n.toNat)), .int .u64 (wLo (u % 2 ^ n.toNat))], .int .i64 0]) ∧ Below w.heap.size w w' := by
  have HO := hide (fun W => ofV n (wHi u) (wLo u) u W m0 m1 hu rfl rfl)
  generalize wHi (u % 2 ^ n.toNat) = rh at *
  generalize wLo (u % 2 ^ n.toNat) = rl at *
  generalize wHi u = h1 at *
  generalize wLo u = l1 at *
  generalize wHi v = h2 at *
  generalize wLo v = l2 at *
  go_enter Tryz.func52, Tryz.ntmps52
  go_wp2_with fail
  refine (HO.out _).mono ?_
  rintro e w1 ⟨rfl, hb⟩
  obtain ⟨hc, hf⟩ := bcell hb
  have hz : w.heap.size + 2 < w1.heap.size := by have := hb.size; simp at this; omega
  go_wp2
  refine bodyPost_ret (v := .tuple #[.agg #[.int .i64 n, .int .u64 rh, .int .u64 rl], .int .i64 0]) (by simp [results, Tryz.results52, go_sem, hc]) rfl ⟨rfl, ?_⟩
  exact (((((((Below.refl _ _).alloc (Nat.le_refl _) _).alloc (by simp) _).alloc (by simp; omega) _).trans (hb.mono (by simp; omega))).setCell (by simp; omega) _).setCell (by simp; omega) _).setCell (by simp; omega) _
theorem cast_no (n1 h1 l1 n2 h2 l2 n m : Int) (w : World) (h : ¬ (1 ≤ n ∧ n ≤ 128)) :
    Calls Tryz.prog 52 #[.agg #[.int .i64 n1, .int .u64 h1, .int .u64 l1], .agg #[.int .i64 n2, .int .u64 h2, .int .u64 l2], .int .i64 n, .int .i64 m] w fun e w' => e = .returned (.tuple #[.agg #[.int .i64 0, .int .u64 0, .int .u64 0], .int .i64 1]) ∧ Below w.heap.size w w' := by
  go_enter Tryz.func52, Tryz.ntmps52
  go_wp2_with fail
  refine (of_no n h1 l1 _ h).mono ?_
  rintro e w1 ⟨rfl, hb⟩
  obtain ⟨hc, hf⟩ := bcell hb
  have hz : w.heap.size + 2 < w1.heap.size := by have := hb.size; simp at this; omega
  go_wp2
  refine bodyPost_ret (v := .tuple #[.agg #[.int .i64 0, .int .u64 0, .int .u64 0], .int .i64 1]) (by simp [results, Tryz.results52, go_sem, hc]) rfl ⟨rfl, ?_⟩
  exact (((((((Below.refl _ _).alloc (Nat.le_refl _) _).alloc (by simp) _).alloc (by simp; omega) _).trans (hb.mono (by simp; omega))).setCell (by simp; omega) _).setCell (by simp; omega) _).setCell (by simp; omega) _
end Go.Proofs.YtbbnjilajkllpaaGreatDoor
