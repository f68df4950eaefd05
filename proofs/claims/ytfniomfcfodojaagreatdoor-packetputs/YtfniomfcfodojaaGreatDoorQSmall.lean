/- Package packet's small functions (PSmall without the cursor, over Rd). -/
import Derived.Test.YtfniomfcfodojaaGreatDoorPBit
import Derived.Test.YtfniomfcfodojaaGreatDoorWBs
namespace Go.Proofs.YtfniomfcfodojaaGreatDoor
open Go.RowKit

theorem below_any (t : Nat) (w : World) (ht : t < 1099511627776) : Calls Tryz.prog 14 #[.int .i64 t] w fun e w' => e = .returned (.int .i64 ((7 - t % 8 : Nat) : Int)) ∧ w' = w := by
  go_enter Tryz.func14, Tryz.ntmps14
  go_wp2
  go_ret
  exact ⟨ret_int (by omega), rfl⟩
theorem pcount_any (t : Nat) (w : World) (ht : t < 1099511627776) : Calls Tryz.prog 12 #[.int .i64 t] w fun e w' => e = .returned (.int .i64 (((t + 7) / 8 : Nat) : Int)) ∧ w' = w := by
  go_enter Tryz.func12, Tryz.ntmps12
  go_wp2
  go_ret
  exact ⟨ret_int (by omega), rfl⟩
theorem bit_far (v k : Nat) (h : 64 ≤ k) (hv : v < top) : IntKind.u8.wrap (bits .and .u64 (wHi v / 2 ^ (k - 64)) 1) = ((v / 2 ^ k % 2 : Nat) : Int) := by
  rw [wHi_nat, u64_bit _ _ (part_lt hv).1]
  have e : v / 2 ^ 64 / 2 ^ (k - 64) = v / 2 ^ k := by rw [Nat.div_div_eq_div_mul, ← Nat.pow_add, show 64 + (k - 64) = k by omega]
  rw [e]
  have := Nat.mod_lt (v / 2 ^ k) (by decide : 2 > 0)
  rw [IntKind.wrap_u8]; omega
theorem bit_near (v k : Nat) (h : k < 64) : IntKind.u8.wrap (bits .and .u64 (wLo v / 2 ^ k) 1) = ((v / 2 ^ k % 2 : Nat) : Int) := by
  rw [wLo_nat, u64_bit _ _ (m64 v)]
  have e : v % 2 ^ 64 / 2 ^ k % 2 = v / 2 ^ k % 2 := by
    have h1 := Nat.testBit_mod_two_pow v 64 k
    rw [decide_eq_true (by omega : k < 64), Bool.true_and, Nat.testBit_eq_decide_div_mod_eq, Nat.testBit_eq_decide_div_mod_eq] at h1
    have h2 := Nat.mod_lt (v % 2 ^ 64 / 2 ^ k) (by decide : 2 > 0)
    have h3 := Nat.mod_lt (v / 2 ^ k) (by decide : 2 > 0)
    have h4 := decide_eq_decide.1 h1
    omega
  rw [e]
  have := Nat.mod_lt (v / 2 ^ k) (by decide : 2 > 0)
  rw [IntKind.wrap_u8]; omega
theorem bitAt_any (n : Int) (v k : Nat) (w : World) (hv : v < top) (hk : k < 128) :
    Calls Tryz.prog 110 #[.agg #[.int .i64 n, .int .u64 (wHi v), .int .u64 (wLo v)], .int .i64 k] w fun e w' => e = .returned (.int .u8 ((v / 2 ^ k % 2 : Nat) : Int)) ∧ Below w.heap.size w w' := by
  by_cases h : 64 ≤ k
  · have H := hide (bit_far v k h hv)
    have e : ((k : Int) - 64).toNat = k - 64 := by omega
    generalize wHi v = h1 at *
    generalize wLo v = l1 at *
    go_enter Tryz.func110, Tryz.ntmps110
    go_wp2
    go_ret
    exact ⟨ret_int (by first | exact H.out | (rw [← e] at H; exact H.out)), (Below.refl _ _).alloc (Nat.le_refl _) _⟩
  · have H := hide (bit_near v k (by omega))
    have h' : decide ((k : Int) ≥ 64) = false := by simp; omega
    generalize wHi v = h1 at *
    generalize wLo v = l1 at *
    go_enter Tryz.func110, Tryz.ntmps110
    go_wp2
    go_ret
    exact ⟨ret_int (by first | exact H.out | (simp at H; exact H.out)), (Below.refl _ _).alloc (Nat.le_refl _) _⟩

end Go.Proofs.YtfniomfcfodojaaGreatDoor
