/- LexJoins: where the second text has no words. -/
import Derived.Test.YtfanhdjebmdniaaGreatDoorLT
namespace Go.Proofs.YtfanhdjebmdniaaGreatDoor
open Go.RowKit

theorem tk_err_le (r : List UInt8) (n k : Nat) (h : tk r n = .error k) : k ≤ n + c10 r := by
  induction hl : r.length using Nat.strongRecOn generalizing r n with
  | _ m ih =>
    by_cases h0 : r = []
    · rw [h0, tk_nil] at h; cases h
    · cases hw : wdA r with
      | mk o r' =>
        cases o with
        | none => rw [tk_none h0 hw] at h; cases h; omega
        | some x =>
          have hless := wdA_less hw
          have hsk := skip_le r'
          have hc := skip_c10 r'
          have hcc := wdA_c10 r
          rw [hw] at hcc
          simp only at hcc
          rw [tk_some h0 hw] at h
          cases ht : tk (skip r') (n + c10 r' - c10 (skip r')) with
          | ok ws => rw [ht] at h; cases h
          | error k' =>
            rw [ht] at h
            cases h
            have := ih _ (by rw [← hl]; omega) _ _ ht rfl
            omega
theorem err_le {s : List UInt8} {k : Nat} (h : toks s = .error k) : k ≤ s.length := by
  have h1 := tk_err_le _ _ _ h
  have h2 := skip_c10 s
  have h3 := c10_le s
  omega
set_option maxHeartbeats 2000000 in
set_option maxRecDepth 100000 in
theorem joins_err2 (a b : List UInt8) (xs : List (Wd × Nat)) (k : Nat) (w : World) (hL : Ls w) (hab : a.length + b.length ≤ 65535) (h1 : toks a = .ok xs) (h2 : toks b = .error k) :
    Calls Tryz.prog 6 #[.string (txt a), .string (txt b)] w fun e w' => e = .returned (.bool true) ∧ Below w.heap.size w w' := by
  have HA : Hid (∀ W, Ls W → _) := fun W h => alive7 W h
  have HW1 : Hid (∀ W, Ls W → _) := fun W h => words_ok h1 (by omega) (txt a) rfl W h
  have HW2 : Hid (∀ W, Ls W → _) := fun W h => words_err h2 (by omega) (txt b) rfl W h
  have h3 : toks (a ++ 10 :: b) = .error (k + (c10 a + 1)) := by rw [toks_join, h1, h2]; rfl
  have HW3 : Hid (∀ T W, T = txt (a ++ 10 :: b) → Ls W → _) := fun T W hT h => words_err h3 (by simp; omega) T hT W h
  have HCat : Hid (txt a ++ txt [10] ++ txt b = txt (a ++ 10 :: b)) := by unfold Hid; rw [cat_txt, cat_txt]; simp
  have HL := hide hL
  obtain ⟨A, hA⟩ : ∃ A, A = txt a := ⟨_, rfl⟩
  have hAz : A.size = a.length := by rw [hA, txt_size]
  have HZ := hide hAz
  have hBz := txt_size b
  rw [← hA] at HW1 HCat ⊢
  have n1 : ¬ ((65535 : Int) < (A.size : Int)) := by omega
  have n2 : ¬ ((65535 : Int) < ((txt b).size : Int)) := by omega
  have n3 : ¬ ((65535 : Int) < (A.size : Int) + ((txt b).size : Int)) := by omega
  have hs1 : ¬ 9223372036854775807 < A.size + 1 := by omega
  have hs2 : ¬ 9223372036854775807 < A.size + 1 + (txt b).size := by omega
  have hAm : A.size ≤ 65535 := by omega
  have HG : Hid (∀ (j : Nat) (h : j < A.size) (h' : j < a.length), A[j] = a[j]) := fun j h h' => by subst hA; simp [txt, ByteArray.getElem_eq_getElem_data]
  have hk := err_le h2
  have hkb : k ≤ 65536 := by omega
  have hca := c10_le a
  obtain ⟨N, hN⟩ : ∃ N, N = k + (c10 a + 1) := ⟨_, rfl⟩
  rw [← hN] at HW3
  have HN := hide hN
  clear hL h1 h2 h3 hA hAz hBz hk hca hN
  generalize txt b = B at *
  go_enter Tryz.func6, Tryz.ntmps6
  go_wp2_with fail
  refine (HA.out _ HL.out).mono ?_
  rintro e w1 ⟨rfl, hb⟩
  have B1 := hide hb
  clear hb
  go_wp2_with fail
  refine (HW1.out _ (HL.out.below B1.out)).mono ?_
  rintro e w2 ⟨v1, rfl, _, _, hb⟩
  have B2 := hide (B1.out.trans (hb.mono B1.out.size))
  clear hb
  go_wp2_with fail
  refine (HW2.out _ (HL.out.below B2.out)).mono ?_
  rintro e w3 ⟨rfl, hb⟩
  have B3 := hide (B2.out.trans (hb.mono B2.out.size))
  clear hb
  go_wp2_with fail
  refine (HW3.out _ _ (by rw [← HCat.out]; rfl) (HL.out.below B3.out)).mono ?_
  rintro e w4 ⟨rfl, hb⟩
  have B4 := hide (B3.out.trans (hb.mono B3.out.size))
  clear hb
  go_wp2
  go_loop [14, 15] (fun vl vi => ∃ (j n : Nat), vl = .int .i64 (n : Int) ∧ vi = .int .i64 (j : Int) ∧ j ≤ A.size ∧ n ≤ j + 1 ∧ Hid (n = 1 + c10 (a.take j))) (fun _ vi => A.size - (intOf vi).toNat)
  case atStart => exact ⟨0, 1, rfl, rfl, by omega, by omega, by simp [Hid, c10]⟩
  case round =>
    obtain ⟨j, n, rfl, rfl, hj, hn, HC⟩ := hrel
    by_cases hlt : j < A.size
    · have hI : (j : Int) < (A.size : Int) := by omega
      have hltl : j < a.length := by rw [← HZ.out]; exact hlt
      have hg := HG.out j hlt hltl
      have hst := c10_step hltl
      by_cases h10 : (((A[j]).toNat : Nat) : Int) = 10
      · have e : a[j] = 10 := by rw [← hg]; exact UInt8.toNat_inj.1 (by rw [show (10 : UInt8).toNat = 10 from rfl]; omega)
        have HC2 : Hid (n + 1 = 1 + c10 (a.take (j + 1))) := by unfold Hid; rw [hst, if_pos e, HC.out]; omega
        clear HC hg hst e
        go_wp2
        exact ⟨⟨j + 1, n + 1, by congr 1, by congr 1, by omega, by omega, HC2⟩, by simp [intOf]; omega⟩
      · have e : ¬ a[j] = 10 := by rw [← hg]; intro e; rw [e] at h10; exact h10 rfl
        have HC2 : Hid (n = 1 + c10 (a.take (j + 1))) := by unfold Hid; rw [hst, if_neg e, HC.out]; omega
        clear HC hg hst e
        go_wp2
        exact ⟨⟨j + 1, n, rfl, by congr 1, by omega, by omega, HC2⟩, by simp [intOf]; omega⟩
    · have hI : ¬ ((j : Int) < (A.size : Int)) := by omega
      have hfin : (N : Int) = (k : Int) + (n : Int) := by
        have h1 := HC.out
        rw [List.take_of_length_le (by rw [← HZ.out]; omega)] at h1
        have := HN.out
        omega
      have hB : ((N : Int) == (k : Int) + (n : Int)) = true := by simpa using hfin
      clear hfin HC
      go_wp2
      go_ret
      exact ⟨rfl, B4.out⟩
end Go.Proofs.YtfanhdjebmdniaaGreatDoor
