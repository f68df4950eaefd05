/- The document's answers for sums. -/
import Derived.Test.YtaekdnoondpgnaaSuLook
import Derived.Test.YtaekdnoondpgnaaSuFind
namespace Go.Proofs.Ytaekdnoondpgnaa
open Go.RowKit

theorem rwidth_any (n : Int) (w : World) : Calls Try.prog 15 #[.int .i64 n] w fun e w' => e = .returned (.int .i64 (widW n)) ∧ w' = w := by
  by_cases h1 : n = 1
  · subst h1
    go_enter Try.func15, Try.ntmps15
    go_wp2
    go_ret
    exact ⟨rfl, rfl⟩
  · by_cases h2 : n = 2
    · subst h2
      go_enter Try.func15, Try.ntmps15
      go_wp2
      go_ret
      exact ⟨rfl, rfl⟩
    · by_cases h3 : n = 3
      · subst h3
        go_enter Try.func15, Try.ntmps15
        go_wp2
        go_ret
        exact ⟨rfl, rfl⟩
      · by_cases h4 : n = 4
        · subst h4
          go_enter Try.func15, Try.ntmps15
          go_wp2
          go_ret
          exact ⟨rfl, rfl⟩
        · have HE : Hid (widW n = 0) := if_neg (by omega)
          have b1 : (n == 1) = false := beq_eq_false_iff_ne.2 h1
          have b2 : (n == 2) = false := beq_eq_false_iff_ne.2 h2
          have b3 : (n == 3) = false := beq_eq_false_iff_ne.2 h3
          have b4 : (n == 4) = false := beq_eq_false_iff_ne.2 h4
          clear h1 h2 h3 h4
          go_enter Try.func15, Try.ntmps15
          go_wp2
          go_ret
          exact ⟨by rw [HE.out]; rfl, rfl⟩
def namesV : Array Value := #[.string { data := #[] }, .string S1, .string S2, .string S3, .string S4]
theorem names_any (w : World) : Calls Try.prog 29 #[] w fun e w' => e = .returned (.slice (some ⟨w.heap.size, 0, none⟩) 5 5) ∧ w' = w.alloc (.cells namesV 9) := by
  go_enter Try.func29, Try.ntmps29
  go_wp2
  go_ret
  exact ⟨rfl, rfl⟩
theorem namesV_get (i : Nat) (h : i < 5) : namesV[i]? = some (.string (nameB i)) := by
  rcases (by omega : i = 0 ∨ i = 1 ∨ i = 2 ∨ i = 3 ∨ i = 4) with rfl | rfl | rfl | rfl | rfl <;> rfl
theorem names_cell {W : World} {b : Nat} (h : W.heap[b]? = some (.cells namesV 9 (0, 0))) (i : Nat) (hi : i < 5) : W.cell? ⟨b, i, none⟩ = some (.string (nameB i)) := by
  unfold World.cell?; simp only [h]; exact namesV_get i hi
theorem rname_any (n : Int) (w : World) : Calls Try.prog 17 #[.int .i64 n] w fun e w' => e = .returned (.string (nameB n)) ∧ Below w.heap.size w w' := by
  by_cases h1 : n < 1
  · have HE : Hid (nameB n = { data := #[] }) := by show _ = _; unfold nameB; rw [if_neg (by omega), if_neg (by omega), if_neg (by omega), if_neg (by omega)]
    have d1 : decide (n < 1) = true := by simp; omega
    go_enter Try.func17, Try.ntmps17
    go_wp2
    go_ret
    exact ⟨by rw [HE.out]; rfl, Below.refl _ _⟩
  · by_cases h2 : 4 < n
    · have HE : Hid (nameB n = { data := #[] }) := by show _ = _; unfold nameB; rw [if_neg (by omega), if_neg (by omega), if_neg (by omega), if_neg (by omega)]
      have d1 : decide (n < 1) = false := by simp; omega
      go_enter Try.func17, Try.ntmps17
      go_wp2
      go_ret
      exact ⟨by rw [HE.out]; rfl, Below.refl _ _⟩
    · obtain ⟨k, rfl⟩ := Int.eq_ofNat_of_zero_le (by omega : 0 ≤ n)
      have d1 : decide ((k : Int) < 1) = false := by simp; omega
      have hk5 : (k : Int) < 5 := by omega
      go_enter Try.func17, Try.ntmps17
      go_wp2_with fail
      refine (names_any _).mono ?_
      rintro e w1 ⟨rfl, hw1⟩
      have hc := names_cell (W := w1) (b := w.heap.size) (by rw [hw1]; exact heap_alloc_new w _) k (by omega)
      have HB : Hid (Below w.heap.size w w1) := by rw [hw1]; exact (Below.refl _ w).alloc (Nat.le_refl _) _
      clear hw1
      go_wp2
      go_ret
      exact ⟨rfl, HB.out⟩
theorem findN_first {s : ByteArray} {k : Nat} (h0 : 1 ≤ k) (h1 : k < 5) (hs : nameB k = s) : findN s = k := by
  rw [← hs]; exact findN_of (by omega) (by omega)
set_option maxHeartbeats 400000 in
theorem rfind_any (s : ByteArray) (w : World) : Calls Try.prog 19 #[.string s] w fun e w' => e = .returned (.int .i64 (findN s)) ∧ Below w.heap.size w w' := by
  go_enter Try.func19, Try.ntmps19
  go_wp2_with fail
  refine (names_any _).mono ?_
  rintro e w1 ⟨rfl, hw1⟩
  have HC := hide (names_cell (W := w1) (b := w.heap.size) (by rw [hw1]; exact heap_alloc_new w _))
  have HB : Hid (Below w.heap.size w w1) := by rw [hw1]; exact (Below.refl _ w).alloc (Nat.le_refl _) _
  clear hw1
  go_wp2
  go_loop [4] (fun i => ∃ k : Nat, 1 ≤ k ∧ k ≤ 5 ∧ i = .int .i64 k ∧ ∀ j : Nat, 1 ≤ j → j < k → nameB j ≠ s) (fun i => 5 - (intOf i).toNat)
  case atStart => exact ⟨1, by omega, by omega, rfl, fun j h1 h2 => by omega⟩
  case round =>
    obtain ⟨k, hk1, hk5, rfl, hno⟩ := hrel
    have HNO := hide hno
    clear hno
    by_cases hlt : k < 5
    · have hc := HC.out k hlt
      have hkI : (k : Int) < 5 := by omega
      by_cases hs : nameB k = s
      · have hsb : ((nameB k).toList == s.toList) = true := by rw [hs]; exact beq_self_eq_true _
        have HF := hide (findN_first hk1 hlt hs)
        clear hs
        generalize nameB (k : Int) = nm at *
        go_wp2
        go_ret
        exact ⟨by rw [HF.out]; rfl, HB.out⟩
      · have hsb : ((nameB k).toList == s.toList) = false := str_ne hs
        have HS := hide hs
        clear hs
        generalize hnm : nameB (k : Int) = nm at *
        have HNM := hide hnm
        clear hnm
        go_wp2
        go_round
        case rel => exact ⟨k + 1, by omega, by omega, by go_num, fun j h1 h2 => by
          rcases Nat.lt_or_ge j k with h | h
          · exact HNO.out j h1 h
          · rw [show j = k by omega, HNM.out]; exact HS.out⟩
        case measure => simp [intOf]; omega
    · have HF : Hid (findN s = 0) := findN_none (fun n n0 n1 => by
        obtain ⟨j, rfl⟩ := Int.eq_ofNat_of_zero_le (by omega : 0 ≤ n)
        exact HNO.out j (by omega) (by omega))
      obtain rfl : k = 5 := by omega
      go_wp2
      go_ret
      exact ⟨by rw [HF.out]; rfl, HB.out⟩
end Go.Proofs.Ytaekdnoondpgnaa
