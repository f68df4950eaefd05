/- bits.Text, whatever it is given. -/
import Derived.Test.YtbbnjilajkllpaaGreatDoorUC
import Derived.Test.YtbbnjilajkllpaaGreatDoorUCk
namespace Go.Proofs.YtbbnjilajkllpaaGreatDoor
open Go.RowKit

theorem tx_le (n v : Nat) (hn : n ≤ 128) (hv : v < 340282366920938463463374607431768211456) : (Lib.decDigits n).length ≤ 3 ∧ (hx v).length ≤ 32 := by
  constructor
  · have h : ∀ m : Fin 129, (Lib.decDigits m.val).length ≤ 3 := by decide +kernel
    exact h ⟨n, by omega⟩
  · have e : (340282366920938463463374607431768211456 : Nat) = 16 ^ 32 := by decide
    rw [e] at hv
    have h : ∀ (k v : Nat), v < 16 ^ (k + 1) → (hx v).length ≤ k + 1 := by
      intro k
      induction k with
      | zero => intro v h; rw [hx_small (by simpa using h)]; simp
      | succ k ih =>
        intro v h
        by_cases hs : v < 16
        · rw [hx_small hs]; simp
        · rw [hx_big hs, List.length_append]
          have := ih (v / 16) (by rw [Nat.pow_succ] at h; omega)
          simp; omega
    exact h 31 v hv
theorem text_no (n : Int) (v : Nat) (w : World) (hv : v < top) (ho : okN n v = false) :
    Calls Tryz.prog 5 #[.agg #[.int .i64 n, .int .u64 (wHi v), .int .u64 (wLo v)]] w fun e w' => e = .returned (.tuple #[.string (txt []), .int .i64 1]) ∧ Below w.heap.size w w' := by
  have HC : Hid (∀ W, Calls Tryz.prog 7 #[.agg #[.int .i64 n, .int .u64 (wHi v), .int .u64 (wLo v)]] W fun e W' => e = .returned (.bool false) ∧ Below W.heap.size W W') := fun W => by
    have := checkV n v W hv
    rw [show (mayBe n && decide (v < 2 ^ n.toNat)) = okN n v from rfl, ho] at this
    exact this
  generalize wHi v = h1 at *
  generalize wLo v = l1 at *
  clear ho hv
  go_enter Tryz.func5, Tryz.ntmps5
  go_wp2_with fail
  refine (HC.out _).mono ?_
  rintro e w1 ⟨rfl, hb⟩
  have HW : Hid (Below w.heap.size w w1) := ((Below.refl _ _).alloc (Nat.le_refl _) _).trans (hb.mono (by simp))
  clear hb
  go_wp2
  go_ret2
  exact ⟨rfl, HW.out⟩
theorem w_joinN (v : Nat) : (wHi v).toNat * 18446744073709551616 + (wLo v).toNat = v := by unfold wHi wLo; omega
theorem text_yes (n : Int) (v : Nat) (w : World) (hL : Ld w) (hv : v < top) (ho : okN n v = true) :
    Calls Tryz.prog 5 #[.agg #[.int .i64 n, .int .u64 (wHi v), .int .u64 (wLo v)]] w fun e w' => e = .returned (.tuple #[.string (txt (tx n.toNat v)), .int .i64 0]) ∧ Below w.heap.size w w' := by
  have HC : Hid (∀ W, Calls Tryz.prog 7 #[.agg #[.int .i64 n, .int .u64 (wHi v), .int .u64 (wLo v)]] W fun e W' => e = .returned (.bool true) ∧ Below W.heap.size W W') := fun W => by
    have := checkV n v W hv
    rw [show (mayBe n && decide (v < 2 ^ n.toNat)) = okN n v from rfl, ho] at this
    exact this
  have hn : 1 ≤ n ∧ n ≤ 128 := by
    unfold okN mayBe at ho
    simp at ho
    exact ⟨by omega, by omega⟩
  obtain ⟨N, rfl⟩ : ∃ N : Nat, n = (N : Int) := ⟨n.toNat, by omega⟩
  have HD : Hid (∀ W, Ld W → Calls Tryz.prog 13 #[.int .u64 (wHi v), .int .u64 (wLo v)] W fun e w' => e = .returned (.string (txt (hx v))) ∧ Below W.heap.size W w') := fun W h => by
    have := digits_any (wHi v).toNat (wLo v).toNat (by have := wHi_bd hv; omega) (by have := (wLo_bd v); omega) W h
    rw [w_joinN] at this
    have e1 : (((wHi v).toNat : Nat) : Int) = wHi v := by have := wHi_bd hv; omega
    have e2 : (((wLo v).toNat : Nat) : Int) = wLo v := by have := wLo_bd v; omega
    rw [e1, e2] at this
    exact this
  have HI : Hid (∀ W, Ld W → _) := fun W h => itoa_any N (by omega) W h
  have hle := tx_le N v (by omega) (by unfold top at hv; exact hv)
  have HX : Hid ((txt (Lib.decDigits N) ++ txt [119]) ++ txt (hx v) = txt (tx N v)) := by unfold Hid; rw [cat_txt, cat_txt]; congr 1; simp [tx]
  rw [Int.toNat_natCast]
  have hs1 : ¬ 9223372036854775807 < (txt (Lib.decDigits N)).size + 1 := by rw [txt_size]; omega
  have hs2 : ¬ 9223372036854775807 < (txt (Lib.decDigits N)).size + 1 + (txt (hx v)).size := by rw [txt_size, txt_size]; omega
  generalize txt (tx N v) = R at *
  generalize txt (Lib.decDigits N) = A at *
  generalize txt (hx v) = B at *
  generalize wHi v = h1 at *
  generalize wLo v = l1 at *
  generalize (N : Int) = NI at *
  have HL := hide hL
  clear ho hL hle hn
  go_enter Tryz.func5, Tryz.ntmps5
  go_wp2_with fail
  refine (HC.out _).mono ?_
  rintro e w1 ⟨rfl, hb⟩
  have hz : w.heap.size < w1.heap.size := by have := hb.size; simp at this; omega
  have hk := cells3T hb
  have HW : Hid (Below w.heap.size w w1) := ((Below.refl _ _).alloc (Nat.le_refl _) _).trans (hb.mono (by simp))
  have HL1 := hide (HL.out.below HW.out)
  have hlt : w.heap.size < w1.heap.size := hz
  clear hb
  obtain ⟨hk0, hk1, hk2⟩ := hk
  have HH : Hid (∀ w', Below w1.heap.size w1 w' → Below w1.heap.size w1 w' ∧ w'.cell? ⟨w.heap.size, 0, none⟩ = some (.int .i64 NI) ∧ w'.cell? ⟨w.heap.size, 1, none⟩ = some (.int .u64 h1) ∧ w'.cell? ⟨w.heap.size, 2, none⟩ = some (.int .u64 l1)) :=
    fun w' h => ⟨h, (h.cell hlt).trans hk0, (h.cell hlt).trans hk1, (h.cell hlt).trans hk2⟩
  go_wp2
  go_region_held3 (fun w' => Below w1.heap.size w1 w' ∧ w'.cell? ⟨w.heap.size, 0, none⟩ = some (.int .i64 NI) ∧ w'.cell? ⟨w.heap.size, 1, none⟩ = some (.int .u64 h1) ∧ w'.cell? ⟨w.heap.size, 2, none⟩ = some (.int .u64 l1)) (first | exact keepS HH.out (by assumption) (And.left (by assumption)) (Nat.le_refl _) | exact HH.out _ (Below.refl _ _).drew)
    (first
      | (go_at_call 12; refine (HI.out _ (HL1.out.below (And.left (by assumption) : Below w1.heap.size w1 _))).mono ?_; rintro e w' ⟨rfl, hb1⟩)
      | (go_at_call 13; refine (HD.out _ (HL1.out.below (And.left (by assumption) : Below w1.heap.size w1 _))).mono ?_; rintro e w2 ⟨rfl, hb2⟩))
  all_goals (go_wp2; go_ret2; exact ⟨by rw [← HX.out]; rfl, HW.out.trans ((And.left (by assumption) : Below w1.heap.size w1 _).mono (by omega))⟩)
end Go.Proofs.YtbbnjilajkllpaaGreatDoor
