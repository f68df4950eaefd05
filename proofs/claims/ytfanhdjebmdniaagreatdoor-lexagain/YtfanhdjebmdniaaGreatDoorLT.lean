/- LexJoins: where a text is long, or has no words. -/
import Derived.Test.YtfanhdjebmdniaaGreatDoorLQ
namespace Go.Proofs.YtfanhdjebmdniaaGreatDoor
open Go.RowKit

theorem words_some {s : List UInt8} (hl : s.length ≤ 65536) (T : ByteArray) (hT : T = txt s) (W : World) (hL : Ls W) :
    Calls Tryz.prog 7 #[.string T] W fun e w' => (∃ v x y, e = .returned (.tuple #[v, .int .i64 x, .int .i64 y])) ∧ Below W.heap.size W w' := by
  subst hT
  refine (words_any s W hL (by omega)).mono ?_
  rintro e w' ⟨hb, ⟨_, h⟩ | ⟨_, ⟨j, _, h⟩ | ⟨ys, v, _, _, _, h⟩⟩⟩
  · exact ⟨⟨_, _, _, h⟩, hb⟩
  · exact ⟨⟨_, _, _, h⟩, hb⟩
  · exact ⟨⟨_, _, _, h⟩, hb⟩
set_option maxRecDepth 100000 in
theorem joins_long (a b : List UInt8) (w : World) (hL : Ls w) (ha : a.length ≤ 9223372036854775807) (hb : b.length ≤ 9223372036854775807) (h : 65535 < a.length ∨ 65535 < b.length ∨ 65535 < a.length + b.length) :
    Calls Tryz.prog 6 #[.string (txt a), .string (txt b)] w fun e w' => e = .returned (.bool true) ∧ Below w.heap.size w w' := by
  have HA : Hid (∀ W, Ls W → _) := fun W h => alive7 W h
  have HL := hide hL
  have ea := txt_size a
  have eb := txt_size b
  clear hL
  have hcase : (65535 : Int) < ((txt a).size : Int) ∨ (((txt a).size : Int) ≤ 65535 ∧ (65535 : Int) < ((txt b).size : Int)) ∨ (((txt a).size : Int) ≤ 65535 ∧ ((txt b).size : Int) ≤ 65535 ∧ (65535 : Int) < ((txt a).size : Int) + ((txt b).size : Int)) := by omega
  clear h ea eb ha hb
  generalize txt a = A at *
  generalize txt b = B at *
  rcases hcase with h1 | ⟨h1, h2⟩ | ⟨h1, h2, h3⟩
  · go_enter Tryz.func6, Tryz.ntmps6
    go_wp2_with fail
    refine (HA.out _ HL.out).mono ?_
    rintro e w1 ⟨rfl, hb⟩
    have HB := hide hb
    clear hb
    go_wp2_with fail
    refine (HA.out _ (HL.out.below HB.out)).mono ?_
    rintro e w2 ⟨rfl, hb⟩
    have HB2 := hide (HB.out.trans (hb.mono HB.out.size))
    clear hb
    go_wp2
    go_ret
    exact ⟨rfl, HB2.out⟩
  · go_enter Tryz.func6, Tryz.ntmps6
    go_wp2_with fail
    refine (HA.out _ HL.out).mono ?_
    rintro e w1 ⟨rfl, hb⟩
    have HB := hide hb
    clear hb
    go_wp2_with fail
    refine (HA.out _ (HL.out.below HB.out)).mono ?_
    rintro e w2 ⟨rfl, hb⟩
    have HB2 := hide (HB.out.trans (hb.mono HB.out.size))
    clear hb
    go_wp2
    go_ret
    exact ⟨rfl, HB2.out⟩
  · have h3w : (65535 : Int) < wrap64 ((A.size : Int) + (B.size : Int)) := by unfold wrap64; omega
    go_enter Tryz.func6, Tryz.ntmps6
    go_wp2_with fail
    refine (HA.out _ HL.out).mono ?_
    rintro e w1 ⟨rfl, hb⟩
    have HB := hide hb
    clear hb
    go_wp2_with fail
    refine (HA.out _ (HL.out.below HB.out)).mono ?_
    rintro e w2 ⟨rfl, hb⟩
    have HB2 := hide (HB.out.trans (hb.mono HB.out.size))
    clear hb
    go_wp2
    go_ret
    exact ⟨rfl, HB2.out⟩
/- the lines of the first text. -/
theorem c10_step {l : List UInt8} {k : Nat} (hk : k < l.length) : c10 (l.take (k + 1)) = c10 (l.take k) + if l[k] = 10 then 1 else 0 := by
  rw [List.take_succ_eq_append_getElem hk, c10_app]
  by_cases h : l[k] = 10
  · rw [if_pos h, h]; rfl
  · rw [if_neg h]; simp [c10, h]
set_option maxHeartbeats 2000000 in
set_option maxRecDepth 100000 in
theorem joins_err1 (a b : List UInt8) (k : Nat) (w : World) (hL : Ls w) (hab : a.length + b.length ≤ 65535) (h1 : toks a = .error k) :
    Calls Tryz.prog 6 #[.string (txt a), .string (txt b)] w fun e w' => e = .returned (.bool true) ∧ Below w.heap.size w w' := by
  have HA : Hid (∀ W, Ls W → _) := fun W h => alive7 W h
  have HW1 : Hid (∀ W, Ls W → _) := fun W h => words_err h1 (by omega) (txt a) rfl W h
  have HW2 : Hid (∀ W, Ls W → _) := fun W h => words_some (s := b) (by omega) (txt b) rfl W h
  have h3 : toks (a ++ 10 :: b) = .error k := by rw [toks_join, h1]; rfl
  have HW3 : Hid (∀ T W, T = txt (a ++ 10 :: b) → Ls W → _) := fun T W hT h => words_err h3 (by simp; omega) T hT W h
  have HCat : Hid (txt a ++ txt [10] ++ txt b = txt (a ++ 10 :: b)) := by unfold Hid; rw [cat_txt, cat_txt]; simp
  have HL := hide hL
  obtain ⟨A, hA⟩ : ∃ A, A = txt a := ⟨_, rfl⟩
  have hAz : A.size = a.length := by rw [hA, txt_size]
  have HZ := hide hAz
  have hBz := txt_size b
  rw [← hA] at HW1 HCat ⊢
  have n1 : ¬ ((65535 : Int) < (A.size : Int)) := by omega
  have n2 : ¬ ((65535 : Int) < ((txt b).size : Int)) := by omega
  have n3 : ¬ ((65535 : Int) < (A.size : Int) + ((txt b).size : Int)) := by omega
  have hs1 : ¬ 9223372036854775807 < A.size + 1 := by omega
  have hs2 : ¬ 9223372036854775807 < A.size + 1 + (txt b).size := by omega
  have hAm : A.size ≤ 65535 := by omega
  clear hL h1 h3 hA hAz hBz
  generalize txt b = B at *
  go_enter Tryz.func6, Tryz.ntmps6
  go_wp2_with fail
  refine (HA.out _ HL.out).mono ?_
  rintro e w1 ⟨rfl, hb⟩
  have B1 := hide hb
  clear hb
  go_wp2_with fail
  refine (HW1.out _ (HL.out.below B1.out)).mono ?_
  rintro e w2 ⟨rfl, hb⟩
  have B2 := hide (B1.out.trans (hb.mono B1.out.size))
  clear hb
  go_wp2_with fail
  refine (HW2.out _ (HL.out.below B2.out)).mono ?_
  rintro e w3 ⟨⟨v2, x2, y2, rfl⟩, hb⟩
  have B3 := hide (B2.out.trans (hb.mono B2.out.size))
  clear hb
  go_wp2_with fail
  refine (HW3.out _ _ (by rw [← HCat.out]; rfl) (HL.out.below B3.out)).mono ?_
  rintro e w4 ⟨rfl, hb⟩
  have B4 := hide (B3.out.trans (hb.mono B3.out.size))
  clear hb
  go_wp2
  go_loop [14, 15] (fun vl vi => ∃ (j n : Nat), vl = .int .i64 (n : Int) ∧ vi = .int .i64 (j : Int) ∧ j ≤ A.size ∧ n ≤ j + 1) (fun _ vi => A.size - (intOf vi).toNat)
  case atStart => exact ⟨0, 1, rfl, rfl, by omega, by omega⟩
  case round =>
    obtain ⟨j, n, rfl, rfl, hj, hn⟩ := hrel
    by_cases hlt : j < A.size
    · have hI : (j : Int) < (A.size : Int) := by omega
      by_cases h10 : (((A[j]).toNat : Nat) : Int) = 10
      · go_wp2
        exact ⟨⟨j + 1, n + 1, by congr 1, by congr 1, by omega, by omega⟩, by simp [intOf]; omega⟩
      · go_wp2
        exact ⟨⟨j + 1, n, rfl, by congr 1, by omega, by omega⟩, by simp [intOf]; omega⟩
    · have hI : ¬ ((j : Int) < (A.size : Int)) := by omega
      go_wp2
      go_ret
      exact ⟨rfl, B4.out⟩
end Go.Proofs.YtfanhdjebmdniaaGreatDoor
