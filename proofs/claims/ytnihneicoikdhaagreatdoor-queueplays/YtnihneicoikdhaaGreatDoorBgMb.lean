/- A Book's marks of the kind Byte; 1 cells written into a list that is being filled. -/
import Derived.Test.YtnihneicoikdhaaGreatDoorBnM
namespace Go.Proofs.YtnihneicoikdhaaGreatDoor
open Go.RowKit

def mkByte (m : Nat) : List Value := [.int .u8 ((1 + m % 250 : Nat) : Int)]
theorem mkByte_len (m : Nat) : (mkByte m).length = 1 := rfl
theorem markByte_any (m : Nat) (hm : m < 1000000000) (W : World) : Calls Tryz.prog 134 #[.int .i64 (m : Int)] W fun e w' => e = .returned (.int .u8 ((1 + m % 250 : Nat) : Int)) ∧ Below W.heap.size W w' := by
  have h1 : (m : Int).tmod 250 = ((m % 250 : Nat) : Int) := by rw [Int.tmod_eq_emod_of_nonneg (by omega)]; omega
  have h2 : IntKind.i64.wrap (1 + ((m % 250 : Nat) : Int)) = ((1 + m % 250 : Nat) : Int) := by rw [IntKind.wrap_i64]; omega
  have h3 : IntKind.u8.wrap ((1 + m % 250 : Nat) : Int) = ((1 + m % 250 : Nat) : Int) := by rw [IntKind.wrap_u8]; omega
  have hr := Nat.mod_lt m (show 0 < 250 by decide)
  generalize m % 250 = r at *
  have h5 : (1 + (r : Int)) % 256 = 1 + (r : Int) := by omega
  go_enter Tryz.func134, Tryz.ntmps134
  go_wp2
  go_ret
  exact ⟨by first | rfl | (simp; done) | simp [h5], Below.refl _ _⟩
theorem isByte_any (m : Nat) (hm : m < 1000000000) (W : World) : Calls Tryz.prog 164 #[.int .u8 ((1 + m % 250 : Nat) : Int), .int .i64 (m : Int)] W fun e w' => e = .returned (.bool true) ∧ Below W.heap.size W w' := by
  have h1 : (m : Int).tmod 250 = ((m % 250 : Nat) : Int) := by rw [Int.tmod_eq_emod_of_nonneg (by omega)]; omega
  have h2 : IntKind.i64.wrap (1 + ((m % 250 : Nat) : Int)) = ((1 + m % 250 : Nat) : Int) := by rw [IntKind.wrap_i64]; omega
  have h3 : IntKind.u8.wrap ((1 + m % 250 : Nat) : Int) = ((1 + m % 250 : Nat) : Int) := by rw [IntKind.wrap_u8]; omega
  have hr := Nat.mod_lt m (show 0 < 250 by decide)
  generalize m % 250 = r at *
  have h5 : (1 + (r : Int)) % 256 = 1 + (r : Int) := by omega
  go_enter Tryz.func164, Tryz.ntmps164
  go_wp2
  go_ret
  exact ⟨by first | rfl | (simp; done) | simp [h5] | (simp; omega), Below.refl _ _⟩
theorem RdM.asByte {m : Nat} {W : World} {v : Value} {n : Nat} (h : RdM 1 W v n (mkByte m)) : ∃ a cap, v = .slice a n cap ∧ ∀ q, q < n → ∃ p, a = some ⟨p, 0, none⟩ ∧ W.cell? ⟨p, q, none⟩ = some (.int .u8 ((1 + m % 250 : Nat) : Int)) := by
  obtain ⟨a, cap, rfl, hc⟩ := h
  refine ⟨a, cap, rfl, fun q hq => ?_⟩
  have hj : ∀ j, j < 1 → q * 1 + j < n * 1 := fun j hj => by omega
  obtain ⟨p, rfl, _⟩ := hc (q * 1) (by omega)
  have hg : ∀ j, j < 1 → W.cell? ⟨p, q * 1 + j, none⟩ = (mkByte m)[j]? := fun j hj3 => by
    obtain ⟨p', e, h'⟩ := hc (q * 1 + j) (hj j hj3)
    injection e with e
    injection e with e
    subst e
    rw [h', mks_get (mkByte_len m) hq hj3]
  exact ⟨p, rfl, by have := hg 0 (by decide); rw [Nat.mul_one] at this; exact this⟩
end Go.Proofs.YtnihneicoikdhaaGreatDoor
