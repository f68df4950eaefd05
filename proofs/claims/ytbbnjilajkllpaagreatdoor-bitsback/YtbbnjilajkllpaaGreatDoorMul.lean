/- The walks of math/bits.Mul64 and bits.mul. -/
import Derived.Test.YtbbnjilajkllpaaGreatDoorNums
namespace Go.Proofs.YtbbnjilajkllpaaGreatDoor
open Go.RowKit

theorem halfN (a : Nat) (ha : a < 18446744073709551616) : bits .and .u64 (a : Int) 4294967295 = ((a % 4294967296 : Nat) : Int) := by
  rw [show (4294967295 : Int) = ((4294967295 : Nat) : Int) from rfl, u64_and_nat a 4294967295 ha (by omega)]
  exact congrArg _ (Nat.and_two_pow_sub_one_eq_mod a 32)
theorem divN (a : Nat) : (a : Int) / 4294967296 = ((a / 4294967296 : Nat) : Int) := by omega
theorem wrapN (a : Nat) (ha : a < 18446744073709551616) : IntKind.u64.wrap (a : Int) = (a : Int) := by rw [IntKind.wrap_u64]; omega
theorem wrapM (a : Nat) : IntKind.u64.wrap (a : Int) = ((a % 18446744073709551616 : Nat) : Int) := by rw [IntKind.wrap_u64]; omega

set_option maxHeartbeats 1000000 in
theorem mul64_any (x y : Nat) (hx : x < 18446744073709551616) (hy : y < 18446744073709551616) (w : World) :
    Calls Tryz.prog 66 #[.int .u64 x, .int .u64 y] w fun e w' => e = .returned (.tuple #[.int .u64 ((x * y / 18446744073709551616 : Nat) : Int), .int .u64 ((x * y % 18446744073709551616 : Nat) : Int)]) ∧ w' = w := by
  obtain ⟨k1, k2, k3, k4⟩ := Lib.mul64_hi x y hx hy
  have j1 := Lib.half_mul_le (a := x / 4294967296) (b := y / 4294967296) (by omega) (by omega)
  have j2 := Lib.half_mul_le (a := x / 4294967296) (b := y % 4294967296) (by omega) (by omega)
  have j3 := Lib.half_mul_le (a := x % 4294967296) (b := y / 4294967296) (by omega) (by omega)
  go_enter Tryz.func66, Tryz.ntmps66
  go_wp2
  have q1 : x / 4294967296 * (y / 4294967296) < 18446744073709551616 := by omega
  have q2 : x / 4294967296 * (y % 4294967296) < 18446744073709551616 := by omega
  have q3 : x % 4294967296 * (y / 4294967296) < 18446744073709551616 := by omega
  have q4 : x / 4294967296 * (y / 4294967296) + (x / 4294967296 * (y % 4294967296) + x % 4294967296 * (y % 4294967296) / 4294967296) / 4294967296 < 18446744073709551616 := by omega
  have q5 : x / 4294967296 * (y / 4294967296) + (x / 4294967296 * (y % 4294967296) + x % 4294967296 * (y % 4294967296) / 4294967296) / 4294967296 + ((x / 4294967296 * (y % 4294967296) + x % 4294967296 * (y % 4294967296) / 4294967296) % 4294967296 + x % 4294967296 * (y / 4294967296)) / 4294967296 < 18446744073709551616 := by omega
  simp only [halfN x hx, halfN y hy, divN, ← Int.natCast_mul, ← Int.natCast_add, wrapN _ q1, wrapN _ q2, wrapN _ q3, wrapN _ k1, wrapN _ k2, halfN _ k2, wrapN _ k3, wrapN _ q4, wrapN _ q5, wrapM (x * y)]
  rw [k4]
  go_ret2
  exact ⟨rfl, rfl⟩
theorem mul64W (u v : Nat) (X Y : Int) (w : World) (hX : X = ((u % 18446744073709551616) * (v % 18446744073709551616) / 18446744073709551616 : Nat)) (hY : Y = ((u % 18446744073709551616) * (v % 18446744073709551616) % 18446744073709551616 : Nat)) :
    Calls Tryz.prog 66 #[.int .u64 (wLo u), .int .u64 (wLo v)] w fun e w' => e = .returned (.tuple #[.int .u64 X, .int .u64 Y]) ∧ w' = w := by
  subst hX hY
  exact mul64_any (u % 18446744073709551616) (v % 18446744073709551616) (Nat.mod_lt _ (by decide)) (Nat.mod_lt _ (by decide)) w

theorem mulV (n1 n2 : Int) (u v : Nat) (w : World) (m0 : 1 ≤ n1) (m1 : n1 ≤ 128) :
    Calls Tryz.prog 42 #[.agg #[.int .i64 n1, .int .u64 (wHi u), .int .u64 (wLo u)], .agg #[.int .i64 n2, .int .u64 (wHi v), .int .u64 (wLo v)]] w fun e w' => e = .returned (.agg #[.int .i64 n1, .int .u64 (wHi (u * v % 2 ^ n1.toNat)), .int .u64 (wLo (u * v % 2 ^ n1.toNat))]) ∧ Below w.heap.size w w' := by
  have hs := mod_top_lt (u * v)
  have HX := hide (mul_hi u v)
  have HY := hide (mul_lo u v)
  rw [← mod_top (u * v) (by omega : n1.toNat ≤ 128)]
  generalize (u * v) % top = s at HX HY hs ⊢
  generalize hrh : wHi (s % 2 ^ n1.toNat) = rh
  generalize hrl : wLo (s % 2 ^ n1.toNat) = rl
  have HRH := hide hrh; have HRL := hide hrl; have HS := hide hs
  clear hrh hrl hs
  have HM := hide (fun w => mul64W u v _ _ w rfl rfl)
  generalize (((u % 18446744073709551616) * (v % 18446744073709551616) / 18446744073709551616 : Nat) : Int) = X at HX HM
  generalize (((u % 18446744073709551616) * (v % 18446744073709551616) % 18446744073709551616 : Nat) : Int) = Y at HY HM
  generalize wHi u = h1 at *
  generalize wLo u = l1 at *
  generalize wHi v = h2 at *
  generalize wLo v = l2 at *
  go_enter Tryz.func42, Tryz.ntmps42
  go_wp2_with fail
  refine (HM.out _).mono ?_
  rintro e w1 ⟨rfl, hw⟩
  subst hw
  go_wp2_with fail
  refine (cutR n1 _ _ rh rl s _ m0 m1 HS.out HX.out HY.out HRH.out HRL.out).mono ?_
  rintro e w1 ⟨rfl, hb⟩
  obtain ⟨hc, hf⟩ := bcell hb
  have hz : w.heap.size + 2 < w1.heap.size := by have := hb.size; simp at this; omega
  go_wp2
  refine bodyPost_ret (v := .agg #[.int .i64 n1, .int .u64 rh, .int .u64 rl]) (by simp [results, Tryz.results42, go_sem, hc]) rfl ⟨rfl, ?_⟩
  exact (((((((Below.refl _ _).alloc (Nat.le_refl _) _).alloc (by simp) _).alloc (by simp; omega) _).trans (hb.mono (by simp; omega))).setCell (by simp; omega) _).setCell (by simp; omega) _).setCell (by simp; omega) _
end Go.Proofs.YtbbnjilajkllpaaGreatDoor
