/- The document's answers for sums: Sum. -/
import Derived.Test.YtaekdnoondpgnaaSuRefB
import Derived.Test.YtaekdnoondpgnaaSuLaw
namespace Go.Proofs.Ytaekdnoondpgnaa
open Go.RowKit

theorem not32 (x : Nat) (h : x < 4294967296) : bits .xor .u32 IntKind.u32.max (x : Int) = ((x ^^^ 0xffffffff : Nat) : Int) := by
  have e : IntKind.u32.max = ((0xffffffff : Nat) : Int) := by decide
  rw [e, u32_xor_nat _ _ (by decide) h, Nat.xor_comm]
theorem rsum_no (n : Int) (v : Value) (w : World) (h : ¬ (1 ≤ n ∧ n ≤ 4)) : Calls Try.prog 12 #[.int .i64 n, v] w fun e w' => e = .returned (.tuple #[.agg #[.int .i64 0, .int .u64 0, .int .u64 0], .int .i64 1]) ∧ Below w.heap.size w w' := by
  have b1 : (n == 1) = false := beq_eq_false_iff_ne.2 (by omega)
  have b2 : (n == 2) = false := beq_eq_false_iff_ne.2 (by omega)
  have b3 : (n == 3) = false := beq_eq_false_iff_ne.2 (by omega)
  have b4 : (n == 4) = false := beq_eq_false_iff_ne.2 (by omega)
  clear h
  go_enter Try.func12, Try.ntmps12
  go_wp2
  refine bodyPost_ret (v := .tuple #[.agg #[.int .i64 0, .int .u64 0, .int .u64 0], .int .i64 1]) (by simp [results, Try.results12, go_sem]) rfl ⟨rfl, ?_⟩
  exact (Below.refl _ _).alloc (Nat.le_refl _) _
set_option maxHeartbeats 1000000 in
theorem rsum_one (a : Option Addr) (cap : Nat) (xs : List Nat) (w : World) (hx : ∀ y ∈ xs, y < 256) (hl : xs.length < 140737488355328) (hr : RdA w a xs) :
    Calls Try.prog 12 #[.int .i64 1, .slice a xs.length cap] w fun e w' => e = .returned (.tuple #[.agg #[.int .i64 16, .int .u64 0, .int .u64 ((sumF 1 xs : Nat) : Int)], .int .i64 0]) ∧ Below w.heap.size w w' := by
  have HC := hide (rcrc_any 0xa001 0 a cap xs _ (by decide) (by decide) hx hl (hr.below ((Below.refl _ w).alloc (Nat.le_refl _) (.cells #[.int .i64 0, .int .u64 0, .int .u64 0] 27))))
  have hu := sumF_u32 1 (by decide) xs hx
  rw [show crcF 0xa001 0 xs = sumF 1 xs from rfl] at HC
  generalize sumF 1 xs = V at *
  clear hr
  go_enter Try.func12, Try.ntmps12
  go_wp2_with fail
  refine HC.out.mono ?_
  rintro e w1 ⟨rfl, rfl⟩
  go_wp2_with fail
  refine (rwidth_any 1 _).mono ?_
  rintro e w2 ⟨rfl, rfl⟩
  rw [show widW 1 = 16 by decide]
  go_wp2
  refine bodyPost_ret (v := .tuple #[.agg #[.int .i64 16, .int .u64 0, .int .u64 (V : Int)], .int .i64 0]) (by simp [results, Try.results12, go_sem]) rfl ⟨rfl, ?_⟩
  exact (Below.refl _ _).alloc (Nat.le_refl _) _
set_option maxHeartbeats 1000000 in
theorem rsum_two (a : Option Addr) (cap : Nat) (xs : List Nat) (w : World) (hx : ∀ y ∈ xs, y < 256) (hl : xs.length < 140737488355328) (hr : RdA w a xs) :
    Calls Try.prog 12 #[.int .i64 2, .slice a xs.length cap] w fun e w' => e = .returned (.tuple #[.agg #[.int .i64 32, .int .u64 0, .int .u64 ((sumF 2 xs : Nat) : Int)], .int .i64 0]) ∧ Below w.heap.size w w' := by
  have HC := hide (rcrc_any 0xedb88320 0xffffffff a cap xs _ (by decide) (by decide) hx hl (hr.below ((Below.refl _ w).alloc (Nat.le_refl _) (.cells #[.int .i64 0, .int .u64 0, .int .u64 0] 27))))
  have hu := sumF_u32 2 (by decide) xs hx
  have hN := not32 (crcF 0xedb88320 0xffffffff xs) (crcF32 (by decide) (by decide) xs hx)
  rw [show (crcF 0xedb88320 0xffffffff xs ^^^ 0xffffffff) = sumF 2 xs from rfl] at hN
  generalize sumF 2 xs = V at *
  generalize crcF 0xedb88320 0xffffffff xs = Z at *
  clear hr
  go_enter Try.func12, Try.ntmps12
  go_wp2_with fail
  refine HC.out.mono ?_
  rintro e w1 ⟨rfl, rfl⟩
  go_wp2_with fail
  refine (rwidth_any 2 _).mono ?_
  rintro e w2 ⟨rfl, rfl⟩
  rw [show widW 2 = 32 by decide]
  go_wp2
  refine bodyPost_ret (v := .tuple #[.agg #[.int .i64 32, .int .u64 0, .int .u64 (V : Int)], .int .i64 0]) (by simp [results, Try.results12, go_sem]) rfl ⟨rfl, ?_⟩
  exact (Below.refl _ _).alloc (Nat.le_refl _) _
set_option maxRecDepth 100000 in
set_option maxHeartbeats 2000000 in
theorem rsum_three (a : Option Addr) (cap : Nat) (xs : List Nat) (w : World) (hx : ∀ y ∈ xs, y < 256) (hl : xs.length < 140737488355328) (hr : RdA w a xs) :
    Calls Try.prog 12 #[.int .i64 3, .slice a xs.length cap] w fun e w' => e = .returned (.tuple #[.agg #[.int .i64 16, .int .u64 0, .int .u64 ((sumF 3 xs : Nat) : Int)], .int .i64 0]) ∧ Below w.heap.size w w' := by
  have HR := hide (hr.below ((Below.refl _ w).alloc (Nat.le_refl _) (.cells #[.int .i64 0, .int .u64 0, .int .u64 0] 27)))
  clear hr
  go_enter Try.func12, Try.ntmps12
  go_wp2
  go_loop [6, 7] (fun x i => ∃ k : Nat, k ≤ (xs.length + 1) / 2 ∧ i = .int .i64 (2 * k : Nat) ∧ x = .int .u32 ((fol (addW ((wordsOf xs).take k)) : Nat) : Int)) (fun _ i => 2 * xs.length + 2 - (intOf i).toNat)
  case atStart => exact ⟨0, by omega, rfl, by simp [addW, fol]⟩
  case round =>
    obtain ⟨k, hk, rfl, rfl⟩ := hrel
    obtain ⟨T, hT⟩ : ∃ T, T = 2 * k := ⟨_, rfl⟩
    rw [← hT]
    have hwl := wordsOf_length xs
    by_cases hlt : T < xs.length
    · obtain ⟨p, off, rfl, _, hc⟩ := HR.out.some (by omega)
      have HW := hide (rword_any p off cap T xs _ hx hl hlt hc)
      have hTI : (T : Int) < (xs.length : Int) := by omega
      have hwd := wordAt_lt xs T hx
      have htk := wordsOf_take xs k (by omega)
      rw [← hT] at htk
      have HN : Hid (fol (addW ((wordsOf xs).take (k + 1))) = fol (fol (addW ((wordsOf xs).take k)) + wordAt xs T)) := by show _ = _; rw [htk, addW_snoc, fol_add]
      have hf := fol_le (addW ((wordsOf xs).take k))
      have HF := hide (fun W => rfold_any (fol (addW ((wordsOf xs).take k)) + wordAt xs T) W (by omega))
      have HT := hide hT
      clear htk hT hc hwl
      generalize fol (addW ((wordsOf xs).take k)) = S at *
      generalize wordAt xs T = V at *
      obtain ⟨Y, hY⟩ : ∃ Y, Y = S + V := ⟨_, rfl⟩
      have hYI : (S : Int) + (V : Int) = (Y : Int) := by omega
      rw [← hY] at HF HN
      clear hY
      go_wp2_with fail
      refine HW.out.mono ?_
      rintro e w1 ⟨rfl, rfl⟩
      go_wp2_with fail
      refine (HF.out _).mono ?_
      rintro e w2 ⟨rfl, rfl⟩
      go_wp2
      go_round
      case rel => exact ⟨k + 1, by have := HT.out; omega, by have := HT.out; rw [show 2 * (k + 1) = T + 2 by omega]; go_num, by rw [HN.out]⟩
      case measure => have := HT.out; simp [intOf]; omega
    · have hTI : decide ((T : Int) < (xs.length : Int)) = false := by simp; omega
      have hkk : k = (xs.length + 1) / 2 := by omega
      have htk : (wordsOf xs).take k = wordsOf xs := List.take_of_length_le (by omega)
      rw [htk]
      have hf := fol_le (addW (wordsOf xs))
      have HE : Hid (sumF 3 xs = 65535 - fol (addW (wordsOf xs))) := rfl
      clear hkk hT hwl htk
      generalize fol (addW (wordsOf xs)) = S at *
      go_wp2_with fail
      refine (rwidth_any 3 _).mono ?_
      rintro e w2 ⟨rfl, rfl⟩
      rw [show widW 3 = 16 by decide]
      have hsub : (65535 : Int) - (S : Int) = ((65535 - S : Nat) : Int) := by omega
      go_wp2
      refine bodyPost_ret (v := .tuple #[.agg #[.int .i64 16, .int .u64 0, .int .u64 ((65535 - S : Nat) : Int)], .int .i64 0]) (by simp [results, Try.results12, go_sem]) rfl ⟨by rw [HE.out], ?_⟩
      exact (Below.refl _ _).alloc (Nat.le_refl _) _
set_option maxRecDepth 100000 in
set_option maxHeartbeats 2000000 in
theorem rsum_four (a : Option Addr) (cap : Nat) (xs : List Nat) (w : World) (hx : ∀ y ∈ xs, y < 256) (hl : xs.length < 140737488355328) (hr : RdA w a xs) :
    Calls Try.prog 12 #[.int .i64 4, .slice a xs.length cap] w fun e w' => e = .returned (.tuple #[.agg #[.int .i64 16, .int .u64 0, .int .u64 ((sumF 4 xs : Nat) : Int)], .int .i64 0]) ∧ Below w.heap.size w w' := by
  have HR := hide (hr.below ((Below.refl _ w).alloc (Nat.le_refl _) (.cells #[.int .i64 0, .int .u64 0, .int .u64 0] 27)))
  clear hr
  go_enter Try.func12, Try.ntmps12
  go_wp2
  go_loop [6, 8] (fun x i => ∃ k : Nat, k ≤ (xs.length + 1) / 2 ∧ i = .int .i64 (2 * k : Nat) ∧ x = .int .u32 ((xorW ((wordsOf xs).take k) : Nat) : Int)) (fun _ i => 2 * xs.length + 2 - (intOf i).toNat)
  case atStart => exact ⟨0, by omega, rfl, by simp [xorW]⟩
  case round =>
    obtain ⟨k, hk, rfl, rfl⟩ := hrel
    obtain ⟨T, hT⟩ : ∃ T, T = 2 * k := ⟨_, rfl⟩
    rw [← hT]
    have hwl := wordsOf_length xs
    by_cases hlt : T < xs.length
    · obtain ⟨p, off, rfl, _, hc⟩ := HR.out.some (by omega)
      have HW := hide (rword_any p off cap T xs _ hx hl hlt hc)
      have hTI : (T : Int) < (xs.length : Int) := by omega
      have hwd := wordAt_lt xs T hx
      have htk := wordsOf_take xs k (by omega)
      rw [← hT] at htk
      have HN : Hid (xorW ((wordsOf xs).take (k + 1)) = xorW ((wordsOf xs).take k) ^^^ wordAt xs T) := by show _ = _; rw [htk, xorW_snoc]
      have hs := xorW_lt ((wordsOf xs).take k) (fun y hy => wordsOf_lt xs hx y (List.mem_of_mem_take hy))
      have hX := u32_xor_nat (xorW ((wordsOf xs).take k)) (wordAt xs T) (by omega) (by omega)
      have HX := hide hX
      have HT := hide hT
      clear htk hT hc hwl hX
      generalize xorW ((wordsOf xs).take k) = S at *
      generalize wordAt xs T = V at *
      go_wp2_with fail
      refine HW.out.mono ?_
      rintro e w1 ⟨rfl, rfl⟩
      go_wp2
      go_round
      case rel => exact ⟨k + 1, by have := HT.out; omega, by have := HT.out; rw [show 2 * (k + 1) = T + 2 by omega]; go_num, by rw [HN.out, HX.out]⟩
      case measure => have := HT.out; simp [intOf]; omega
    · have hTI : decide ((T : Int) < (xs.length : Int)) = false := by simp; omega
      have hkk : k = (xs.length + 1) / 2 := by omega
      have htk : (wordsOf xs).take k = wordsOf xs := List.take_of_length_le (by omega)
      rw [htk]
      have hu := sumF_u32 4 (by decide) xs hx
      have HE : Hid (sumF 4 xs = xorW (wordsOf xs)) := rfl
      rw [HE.out] at hu
      clear hkk hT hwl htk
      generalize xorW (wordsOf xs) = S at *
      go_wp2_with fail
      refine (rwidth_any 4 _).mono ?_
      rintro e w2 ⟨rfl, rfl⟩
      rw [show widW 4 = 16 by decide]
      go_wp2
      refine bodyPost_ret (v := .tuple #[.agg #[.int .i64 16, .int .u64 0, .int .u64 (S : Int)], .int .i64 0]) (by simp [results, Try.results12, go_sem]) rfl ⟨by rw [HE.out], ?_⟩
      exact (Below.refl _ _).alloc (Nat.le_refl _) _
theorem rsum_yes (n : Int) (h0 : 1 ≤ n) (h1 : n ≤ 4) (a : Option Addr) (cap : Nat) (xs : List Nat) (w : World) (hx : ∀ y ∈ xs, y < 256) (hl : xs.length < 140737488355328) (hr : RdA w a xs) :
    Calls Try.prog 12 #[.int .i64 n, .slice a xs.length cap] w fun e w' => e = .returned (.tuple #[.agg #[.int .i64 (widW n), .int .u64 0, .int .u64 ((sumF n xs : Nat) : Int)], .int .i64 0]) ∧ Below w.heap.size w w' := by
  rcases (by omega : n = 1 ∨ n = 2 ∨ n = 3 ∨ n = 4) with rfl | rfl | rfl | rfl
  · exact rsum_one a cap xs w hx hl hr
  · exact rsum_two a cap xs w hx hl hr
  · exact rsum_three a cap xs w hx hl hr
  · exact rsum_four a cap xs w hx hl hr
end Go.Proofs.Ytaekdnoondpgnaa
