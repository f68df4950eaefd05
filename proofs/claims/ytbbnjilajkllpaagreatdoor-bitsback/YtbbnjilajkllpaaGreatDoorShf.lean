/- The walks of bits.up and bits.down. -/
import Derived.Test.YtbbnjilajkllpaaGreatDoorNums
import Derived.Test.YtbbnjilajkllpaaGreatDoorShfMath
namespace Go.Proofs.YtbbnjilajkllpaaGreatDoor
open Go.RowKit

theorem ret_two {a b c d : Int} (h : a = c) (k : b = d) : Ending.returned (.tuple #[.int .u64 a, .int .u64 b]) = .returned (.tuple #[.int .u64 c, .int .u64 d]) := by rw [h, k]
theorem upV (u : Nat) (k X Y : Int) (w : World) (hu : u < top) (k0 : 0 ≤ k) (k1 : k < 18446744073709551616) (hX : wHi ((u * 2 ^ k.toNat) % top) = X) (hY : wLo ((u * 2 ^ k.toNat) % top) = Y) :
    Calls Tryz.prog 21 #[.int .u64 (wHi u), .int .u64 (wLo u), .int .u64 k] w fun e w' => e = .returned (.tuple #[.int .u64 X, .int .u64 Y]) ∧ w' = w := by
  have HX0 := hide hX; have HY0 := hide hY
  clear hX hY
  by_cases h : 64 ≤ k
  · have HX : Hid (IntKind.u64.wrap (wLo u * 2 ^ min (k - 64).toNat 64) = X) := (show _ = _ from by have := up_far_hi u k.toNat (by omega); rw [show (k - 64).toNat = k.toNat - 64 by omega]; exact this).trans HX0.out
    have HY : Hid (0 = Y) := (show _ = _ from up_far_lo u k.toNat (by omega)).trans HY0.out
    obtain ⟨a0, a1⟩ := wHi_bd hu
    obtain ⟨b0, b1⟩ := wLo_bd u
    clear HX0 HY0
    generalize wHi u = h1 at *
    generalize wLo u = l1 at *
    go_enter Tryz.func21, Tryz.ntmps21
    go_wp2
    go_ret2
    exact ⟨ret_two HX.out HY.out, rfl⟩
  · have HX : Hid (bits .or .u64 (IntKind.u64.wrap (wHi u * 2 ^ k.toNat)) (wLo u / 2 ^ (64 - k).toNat) = X) := (show _ = _ from by have := up_near_hi (u := u) (k := k.toNat) (by omega); rw [show (64 - k).toNat = 64 - k.toNat by omega]; exact this).trans HX0.out
    have HY : Hid (IntKind.u64.wrap (wLo u * 2 ^ k.toNat) = Y) := (show _ = _ from up_near_lo u k.toNat).trans HY0.out
    obtain ⟨a0, a1⟩ := wHi_bd hu
    obtain ⟨b0, b1⟩ := wLo_bd u
    have h' : k < 64 := by omega
    clear HX0 HY0 h
    generalize wHi u = h1 at *
    generalize wLo u = l1 at *
    go_enter Tryz.func21, Tryz.ntmps21
    go_wp2
    go_ret2
    exact ⟨ret_two HX.out HY.out, rfl⟩
theorem downV (u : Nat) (k X Y : Int) (w : World) (hu : u < top) (k0 : 0 ≤ k) (k1 : k < 18446744073709551616) (hX : wHi (u / 2 ^ k.toNat) = X) (hY : wLo (u / 2 ^ k.toNat) = Y) :
    Calls Tryz.prog 11 #[.int .u64 (wHi u), .int .u64 (wLo u), .int .u64 k] w fun e w' => e = .returned (.tuple #[.int .u64 X, .int .u64 Y]) ∧ w' = w := by
  have HX0 := hide hX; have HY0 := hide hY
  clear hX hY
  by_cases h : 64 ≤ k
  · have HX : Hid (0 = X) := (show _ = _ from down_far_hi hu (by omega)).trans HX0.out
    have HY : Hid (wHi u / 2 ^ min (k - 64).toNat 64 = Y) := (show _ = _ from by have := down_far_lo (k := k.toNat) hu (by omega); rw [show (k - 64).toNat = k.toNat - 64 by omega]; exact this).trans HY0.out
    obtain ⟨a0, a1⟩ := wHi_bd hu
    obtain ⟨b0, b1⟩ := wLo_bd u
    clear HX0 HY0
    generalize wHi u = h1 at *
    generalize wLo u = l1 at *
    go_enter Tryz.func11, Tryz.ntmps11
    go_wp2
    go_ret2
    exact ⟨ret_two HX.out HY.out, rfl⟩
  · have HX : Hid (wHi u / 2 ^ k.toNat = X) := (show _ = _ from down_near_hi u k.toNat).trans HX0.out
    have HY : Hid (bits .or .u64 (wLo u / 2 ^ k.toNat) (IntKind.u64.wrap (wHi u * 2 ^ (64 - k).toNat)) = Y) := (show _ = _ from by have := down_near_lo (u := u) (k := k.toNat) (by omega); rw [show (64 - k).toNat = 64 - k.toNat by omega]; exact this).trans HY0.out
    obtain ⟨a0, a1⟩ := wHi_bd hu
    obtain ⟨b0, b1⟩ := wLo_bd u
    have h' : k < 64 := by omega
    clear HX0 HY0 h
    generalize wHi u = h1 at *
    generalize wLo u = l1 at *
    go_enter Tryz.func11, Tryz.ntmps11
    go_wp2
    go_ret2
    exact ⟨ret_two HX.out HY.out, rfl⟩
end Go.Proofs.YtbbnjilajkllpaaGreatDoor
