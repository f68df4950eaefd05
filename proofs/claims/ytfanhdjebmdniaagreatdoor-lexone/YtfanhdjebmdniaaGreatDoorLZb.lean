/- LexOne: where the law holds all of it. -/
import Derived.Test.YtfanhdjebmdniaaGreatDoorLZ
namespace Go.Proofs.YtfanhdjebmdniaaGreatDoor
open Go.RowKit

theorem bx_below {W W' : World} {b : Nat} {o : Obj} (h : W.heap[b]? = some o) (hb : Below W.heap.size W W') : W'.heap[b]? = some o := (hb.block b (Array.getElem?_eq_some_iff.1 h).1).trans h
theorem bx_cells {W : World} {b : Nat} {x y z : Value} {t : TypeId} (h : W.heap[b]? = some (.cells #[x, y, z] t (0, 0))) : W.cell? ⟨b, 0, none⟩ = some x ∧ W.cell? ⟨b, 1, none⟩ = some y ∧ W.cell? ⟨b, 2, none⟩ = some z := by
  refine ⟨?_, ?_, ?_⟩ <;> simp [World.cell?, h]
theorem slW_one (W : World) (n m v j b : Nat) (hb : b = W.heap.size) (hn : n ≤ 2147483647) : SlW (W.alloc (.cells #[.int .u8 2, .string ⟨#[]⟩, .int .i64 64, .int .u64 0, .int .u64 (n : Int), .int .i64 ((j : Int) + 1), .int .u8 4, .string ⟨#[60]⟩, .int .i64 0, .int .u64 0, .int .u64 0, .int .i64 ((j : Int) + 1), .int .u8 3, .string ⟨#[]⟩, .int .i64 (m : Int), .int .u64 (wHi v), .int .u64 (wLo v), .int .i64 ((j : Int) + 1), .int .u8 4, .string ⟨#[60, 60]⟩, .int .i64 0, .int .u64 0, .int .u64 0, .int .i64 ((j : Int) + 1), .int .u8 3, .string ⟨#[]⟩, .int .i64 (m : Int), .int .u64 (wHi v), .int .u64 (wLo v), .int .i64 ((j : Int) + 1)] 68)) (.slice (some ⟨b, 0, none⟩) 5 5) (oneL n m v (j + 1)) := by
  subst hb
  have h := slW_lit W (oneL n m v (j + 1)) 68 5
  have h1 : wHi n = 0 := by unfold wHi; omega
  have h2 : wLo n = (n : Int) := by unfold wLo; omega
  have e : wcs (oneL n m v (j + 1)) = [.int .u8 2, .string ⟨#[]⟩, .int .i64 64, .int .u64 0, .int .u64 (n : Int), .int .i64 ((j : Int) + 1), .int .u8 4, .string ⟨#[60]⟩, .int .i64 0, .int .u64 0, .int .u64 0, .int .i64 ((j : Int) + 1), .int .u8 3, .string ⟨#[]⟩, .int .i64 (m : Int), .int .u64 (wHi v), .int .u64 (wLo v), .int .i64 ((j : Int) + 1), .int .u8 4, .string ⟨#[60, 60]⟩, .int .i64 0, .int .u64 0, .int .u64 0, .int .i64 ((j : Int) + 1), .int .u8 3, .string ⟨#[]⟩, .int .i64 (m : Int), .int .u64 (wHi v), .int .u64 (wLo v), .int .i64 ((j : Int) + 1)] := by
    show [_, _, _, _, _, _, _, _, _, _, _, _, _, _, _, _, _, _, _, _, _, _, _, _, _, _, _, _, _, _] = _
    simp only [h1, h2, wz0.1, wz0.2]
    rfl
  rw [e] at h
  exact h
set_option maxHeartbeats 4000000 in
set_option maxRecDepth 100000 in
theorem one_yes (n k m : Nat) (v : Nat) (w : World) (hL : Ls w) (hv : v < top) (ho : okN m v = true) (hn : n ≤ 2147483647) (hk : k ≤ 255) :
    Calls Tryz.prog 5 #[.int .u32 (n : Int), .agg #[.int .i64 (m : Int), .int .u64 (wHi v), .int .u64 (wLo v)], .int .u8 (k : Int)] w fun e w' => e = .returned (.bool true) ∧ Below w.heap.size w w' := by
  have HA : Hid (∀ W, Ls W → _) := fun W h => alive7 W h
  have HT : Hid (∀ W, Ls W → _) := fun W h => text_yes m v W h.ld hv ho
  rw [Int.toNat_natCast] at HT
  have HDg : Hid (∀ W, _) := fun W => digits7 n (by omega) W
  have hbd := okN_bd ho
  have htl := tx_le m v (by omega) (by unfold top at hv; exact hv)
  have hdl := dcZ_len 9 n (by omega)
  have HW : Hid (∀ T W, T = txt (ahd k ++ oneT n m v) → Ls W → _) := fun T W hT h => words_ok (toks_all k hn ho) (by rw [List.length_append, ahd_len]; unfold oneT tx; simp; omega) T hT W h
  have HS : Hid (∀ va vb W, SlW W va (oneL n m v (k + 1)) → SlW W vb (oneL n m v (k + 1)) → _) := fun va vb W h1 h2 => sameW_yes (oneL n m v (k + 1)) va vb W (by simp [oneL]) h1 h2
  have HL := hide hL
  have hnI : ¬ (2147483647 : Int) < (n : Int) := by omega
  have HL0 := hide (HL.out.below ((Below.refl w.heap.size w).alloc (Nat.le_refl _) (.cells #[.int .i64 m, .int .u64 (wHi v), .int .u64 (wLo v)] 66)))
  have hSz : (txt (tx m v)).size ≤ 36 := by rw [txt_size]; unfold tx; simp; omega
  have hDz : (txt (Lib.decDigits n)).size ≤ 10 := by rw [txt_size]; exact hdl
  have HE : Hid (∀ A : ByteArray, A = txt (ahd k) → A ++ txt (Lib.decDigits n) ++ ⟨#[60]⟩ ++ txt (tx m v) ++ ⟨#[60, 60]⟩ ++ txt (tx m v) ++ ⟨#[47, 47]⟩ = txt (ahd k ++ oneT n m v)) := by
    intro A hA
    rw [hA, show (⟨#[60]⟩ : ByteArray) = txt [60] from rfl, show (⟨#[60, 60]⟩ : ByteArray) = txt [60, 60] from rfl, show (⟨#[47, 47]⟩ : ByteArray) = txt [47, 47] from rfl]
    simp only [cat_txt]
    unfold oneT
    simp
  clear hL hv ho hbd htl hdl
  generalize txt (tx m v) = S at *
  generalize txt (Lib.decDigits n) = D at *
  go_enter Tryz.func5, Tryz.ntmps5
  go_wp2_with fail
  refine (HT.out _ HL0.out).mono ?_
  rintro e w1 ⟨rfl, hb⟩
  have B1 := hide (((Below.refl w.heap.size w).alloc (Nat.le_refl _) _).trans (hb.mono (by simp)))
  have X1 : Hid (w1.heap[w.heap.size]? = some (.cells #[.int .i64 m, .int .u64 (wHi v), .int .u64 (wLo v)] 66 (0, 0))) := bx_below (heap_alloc_new w _) hb
  clear hb
  go_wp2_with fail
  refine (HA.out _ (HL.out.below B1.out)).mono ?_
  rintro e w2 ⟨rfl, hb⟩
  have B2 := hide (B1.out.trans (hb.mono B1.out.size))
  have X2 := hide (bx_below X1.out hb)
  clear hb X1 B1
  go_wp2
  go_loop [9, 10] (fun vs vi => ∃ (j : Nat) (A : ByteArray), vs = .string A ∧ vi = .int .i64 (j : Int) ∧ j ≤ k ∧ A.size = 14 + 3 * j ∧ Hid (A = txt (ahd j))) (fun _ vi => k - (intOf vi).toNat)
  case atStart => exact ⟨0, _, rfl, rfl, by omega, rfl, rfl⟩
  case round =>
    obtain ⟨j, A, rfl, rfl, hj, hAz, HAj⟩ := hrel
    by_cases hlt : j < k
    · have hI : (j : Int) < (k : Int) := by omega
      have hs : ¬ 9223372036854775807 < A.size + 3 := by omega
      have HAn : Hid (A ++ ⟨#[9, 32, 10]⟩ = txt (ahd (j + 1))) := by
        unfold Hid
        rw [HAj.out, show (⟨#[9, 32, 10]⟩ : ByteArray) = txt [9, 32, 10] from rfl, cat_txt]
        rfl
      have hAn : (A ++ ⟨#[9, 32, 10]⟩ : ByteArray).size = 14 + 3 * (j + 1) := by
        rw [ByteArray.size_append, hAz]; rfl
      clear HAj
      go_wp2
      exact ⟨⟨j + 1, _, rfl, by congr 1, by omega, hAn, HAn⟩, by simp [intOf]; omega⟩
    · have hI : ¬ (j : Int) < (k : Int) := by omega
      obtain rfl : j = k := by omega
      have HEA := hide (HE.out A HAj.out)
      clear HAj HE
      have z1 : ¬ 9223372036854775807 < A.size + D.size := by omega
      have z2 : ¬ 9223372036854775807 < A.size + D.size + 1 := by omega
      have z3 : ¬ 9223372036854775807 < A.size + D.size + 1 + S.size := by omega
      have z4 : ¬ 9223372036854775807 < A.size + D.size + 1 + S.size + 2 := by omega
      have z5 : ¬ 9223372036854775807 < A.size + D.size + 1 + S.size + 2 + S.size := by omega
      have z6' : ¬ 9223372036854775807 < A.size + D.size + 1 + S.size + 2 + S.size + 2 := by omega
      go_wp2_with fail
      refine (HDg.out _).mono ?_
      rintro e w3 ⟨rfl, rfl⟩
      go_wp2_with fail
      refine (HW.out _ _ HEA.out (HL.out.below B2.out)).mono ?_
      rintro e w4 ⟨v1, rfl, ho1, _, hb⟩
      have B4 := hide (B2.out.trans (hb.mono B2.out.size))
      have O1 := hide ho1.sl
      obtain ⟨c0, c1, c2⟩ := bx_cells (bx_below X2.out hb)
      have hbw : w.heap.size < w4.heap.size := (Array.getElem?_eq_some_iff.1 (bx_below X2.out hb)).1
      clear hb ho1 X2 z1 z2 z3 z4 z5 z6' HEA HW HDg HT HA HL0
      generalize hgb : w.heap.size = b0 at *
      have HGB := hide hgb
      clear hgb
      go_wp2_with fail
      refine (HS.out _ _ _ ((O1.out.keep ((Below.refl _ _).alloc (Nat.le_refl _) _)).keep ((Below.refl _ _).alloc (Nat.le_refl _) _)) (slW_one _ n m v j _ (by simp) hn)).mono ?_
      rintro e w5 ⟨rfl, hb⟩
      have hle : b0 ≤ w4.heap.size := by omega
      have B5 : Hid (Below b0 w w5) := ((B4.out.alloc hle _).alloc (by simp; omega) _).trans (hb.mono (by simp; omega))
      clear hb
      go_wp2
      go_ret
      exact ⟨rfl, by rw [HGB.out]; exact B5.out⟩
theorem one_any (n k : Nat) (m : Int) (v : Nat) (w : World) (hL : Ls w) (hv : v < top) (hn : n < 4294967296) (hk : k ≤ 255) :
    Calls Tryz.prog 5 #[.int .u32 (n : Int), .agg #[.int .i64 m, .int .u64 (wHi v), .int .u64 (wLo v)], .int .u8 (k : Int)] w fun e w' => e = .returned (.bool true) ∧ Below w.heap.size w w' := by
  cases ho : okN m v with
  | false => exact one_no n k m v w hL hv ho
  | true =>
    by_cases h : n ≤ 2147483647
    · obtain ⟨h1, h2⟩ := okN_nat ho
      have := one_yes n k m.toNat v w hL hv h1 h hk
      rw [h2] at this
      exact this
    · exact one_big n k m v w hL hv ho (by omega) hn
end Go.Proofs.YtfanhdjebmdniaaGreatDoor
