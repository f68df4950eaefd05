/- The walks of cat, not, slice and cast. -/
import Derived.Test.YtbbnjilajkllpaaGreatDoorTell
namespace Go.Proofs.YtbbnjilajkllpaaGreatDoor
open Go.RowKit

theorem catV (n1 n2 : Int) (u v : Nat) (w : World) (hu : u < top) (hv : v < top) (m0 : 1 ≤ n1) (m1 : 1 ≤ n2) (m2 : n1 + n2 ≤ 128) (hu1 : u < 2 ^ n1.toNat) (hv1 : v < 2 ^ n2.toNat) :
    Calls Tryz.prog 50 #[.agg #[.int .i64 n1, .int .u64 (wHi u), .int .u64 (wLo u)], .agg #[.int .i64 n2, .int .u64 (wHi v), .int .u64 (wLo v)]] w fun e w' => e = .returned (.agg #[.int .i64 (n1 + n2), .int .u64 (wHi (u * 2 ^ n2.toNat + v)), .int .u64 (wLo (u * 2 ^ n2.toNat + v))]) ∧ Below w.heap.size w w' := by
  have hs : (u * 2 ^ n2.toNat) % top < top := mod_top_lt _
  have hlt : u * 2 ^ n2.toNat < top := by
    have h1 : u * 2 ^ n2.toNat < 2 ^ n1.toNat * 2 ^ n2.toNat := Nat.mul_lt_mul_of_pos_right hu1 (Nat.pow_pos (by decide))
    rw [← Nat.pow_add] at h1
    exact Nat.lt_of_lt_of_le h1 (pow_le_top (by omega))
  have hj : (u * 2 ^ n2.toNat) % top ||| v = u * 2 ^ n2.toNat + v := by
    rw [Nat.mod_eq_of_lt hlt]
    exact nat_join n2.toNat (u * 2 ^ n2.toNat) v (Nat.mul_mod_left _ _) hv1
  rw [← hj]
  have HU := hide (fun X Y W hX hY => upV u n2 X Y W hu (by omega) (by omega) hX hY)
  have EH := or_hi hs hv
  have EL := or_lo hs hv
  rw [← EH, ← EL]
  generalize hX : wHi ((u * 2 ^ n2.toNat) % top) = X at *
  generalize hY : wLo ((u * 2 ^ n2.toNat) % top) = Y at *
  clear EH EL hj hlt hs hu1 hv1 hX hY
  generalize wHi u = h1 at *
  generalize wLo u = l1 at *
  generalize wHi v = h2 at *
  generalize wLo v = l2 at *
  have hconv : IntKind.u64.wrap n2 = n2 := by rw [IntKind.wrap_u64]; omega
  go_enter Tryz.func50, Tryz.ntmps50
  go_wp2_with fail
  refine (HU.out X Y _ rfl rfl).mono ?_
  rintro e w1 ⟨rfl, hw⟩
  subst hw
  go_wp2
  refine bodyPost_ret (v := .agg #[.int .i64 (n1 + n2), .int .u64 (bits .or .u64 X h2), .int .u64 (bits .or .u64 Y l2)]) (by simp [results, Tryz.results50, go_sem]) rfl ⟨rfl, ?_⟩
  exact (((Below.refl _ _).alloc (Nat.le_refl _) _).alloc (by simp) _).alloc (by simp; omega) _
end Go.Proofs.YtbbnjilajkllpaaGreatDoor
