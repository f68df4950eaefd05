/- pointsmanlaw03.SumsEnds, walked. -/
import Derived.Test.YtaekdnoondpgnaaSuLaw
import Derived.Test.YtaekdnoondpgnaaOwn8
namespace Go.Proofs.Ytaekdnoondpgnaa
open Go.RowKit

theorem wordsOf_even : ∀ (xs ys : List Nat), xs.length % 2 = 0 → wordsOf (xs ++ ys) = wordsOf xs ++ wordsOf ys
  | [], ys, _ => rfl
  | [x], ys, h => by simp at h
  | x :: y :: l, ys, h => by
    have h2 : l.length % 2 = 0 := by simp at h; omega
    rw [List.cons_append, List.cons_append, wordsOf, wordsOf, wordsOf_even l ys h2, List.cons_append]
theorem ends1 (xs : List Nat) (hx : ∀ y ∈ xs, y < 256) : sumF 1 (xs ++ [sumF 1 xs % 256, sumF 1 xs / 256 % 256]) = 0 := by
  have e : ∀ l, sumF 1 l = crcF 0xa001 0 l := fun _ => rfl
  rw [e, e]
  exact crc_ends _ _ _ (crcF_lt (w := 16) (by decide) (by decide) xs hx (by decide))
theorem ends3 (xs : List Nat) (he : xs.length % 2 = 0) : sumF 3 (xs ++ [sumF 3 xs / 256 % 256, sumF 3 xs % 256]) = 0 := by
  have e : ∀ l, sumF 3 l = 65535 - fol (addW (wordsOf l)) := fun _ => rfl
  have h := fol_ends (addW (wordsOf xs))
  have hf := fol_le (addW (wordsOf xs))
  rw [e (xs ++ _), wordsOf_even _ _ he, addW_append]
  rw [e xs]
  generalize addW (wordsOf xs) = T at *
  generalize fol T = F at *
  have e2 : addW (wordsOf [(65535 - F) / 256 % 256, (65535 - F) % 256]) = 65535 - F := by simp [wordsOf, addW]; omega
  rw [e2, h]
theorem ends4 (xs : List Nat) (hx : ∀ y ∈ xs, y < 256) (he : xs.length % 2 = 0) : sumF 4 (xs ++ [sumF 4 xs / 256 % 256, sumF 4 xs % 256]) = 0 := by
  have e : ∀ l, sumF 4 l = xorW (wordsOf l) := fun _ => rfl
  have hl := xorW_lt (wordsOf xs) (wordsOf_lt xs hx)
  rw [e (xs ++ _), wordsOf_even _ _ he, xorW_append]
  rw [e xs]
  generalize xorW (wordsOf xs) = T at *
  have e2 : xorW (wordsOf [T / 256 % 256, T % 256]) = T := by simp [wordsOf, xorW]; omega
  rw [e2, Nat.xor_self]
theorem ends_long (a : Option Addr) (n cap : Nat) (w : World) (h : 60000 < n) (hn : n ≤ 9223372036854775807) : Calls Try.prog 7 #[.slice a n cap] w fun e w' => e = .returned (.bool true) ∧ Below w.heap.size w w' := by
  have hI : (n : Int) > 60000 := by omega
  go_enter Try.func7, Try.ntmps7
  go_wp2_with fail
  refine (salive_any _).mono ?_
  rintro e w1 ⟨rfl, hb1⟩
  go_wp2_with fail
  refine (salive_any _).mono ?_
  rintro e w2 ⟨rfl, hb2⟩
  go_wp2
  go_ret
  exact ⟨rfl, hb1.trans (hb2.mono hb1.size)⟩
set_option maxRecDepth 100000 in
set_option maxHeartbeats 4000000 in
theorem ends_yes (a : Option Addr) (cap : Nat) (xs : List Nat) (w : World) (hx : ∀ y ∈ xs, y < 256) (hl : xs.length ≤ 60000) (hr : RdA w a xs) (hn : a = none → cap = 0) :
    Calls Try.prog 7 #[.slice a xs.length cap] w fun e w' => e = .returned (.bool true) ∧ Below w.heap.size w w' := by
  have hI : decide ((xs.length : Int) > 60000) = false := by simp; omega
  have hI2 : ¬ (xs.length : Int) > 60000 := by omega
  have HR := hide hr; have HN := hide hn
  clear hr hn
  go_enter Try.func7, Try.ntmps7
  go_wp2_with fail
  refine (salive_any _).mono ?_
  rintro e w1 ⟨rfl, hb1⟩
  have R1 := hide (HR.out.below hb1)
  have B1 := hide hb1
  clear hb1
  go_wp2_with fail
  refine (of_law 1 (by decide) (by decide) a cap xs _ hx (by omega) R1.out).mono ?_
  rintro e w2 ⟨rfl, hb2⟩
  have R2 := hide (R1.out.below hb2)
  have B2 := hide (B1.out.trans (hb2.mono B1.out.size))
  clear hb2 R1 B1
  have HE := hide (ends1 xs hx)
  have hV := sumF_u32 1 (by decide) xs hx
  generalize sumF 1 xs = V at *
  go_wp2_with (first
    | (at_builtin; refine wpList_app8 rfl _ _ rfl w.heap.size (.slice none 0 0) [] rfl (Own8.nil _ _) a xs.length cap xs rfl rfl R2.out HN.out (by simp; omega) B2.out.size ?_; intro v3 w3 O3 G3 K3; rw [List.nil_append] at O3; have OO3 := hide O3; have B3 := hide (below_own B2.out (Own8.nil _ _) G3 B2.out.size); clear O3 G3 K3 R2 B2)
    | (at_builtin; refine wpList_app8 rfl _ _ rfl w.heap.size v3 xs rfl (OO3.out.below ((Below.refl _ w3).alloc (Nat.le_refl _) _)) (some ⟨w3.heap.size, 0, none⟩) 2 2 [V % 256, V / 256 % 256] rfl rfl (two_rdI w3 (V % 256) (V / 256 % 256) _ _ (by simp) (by simp) _) (by simp) (by simp; omega) (by have := B3.out.size; simp; omega) ?_; intro v4 w4 O4 G4 K4; have OO4 := hide O4; have B4 := hide (below_own (B3.out.alloc B3.out.size _) (OO3.out.below ((Below.refl _ w3).alloc (Nat.le_refl _) _)) G4 (by have := B3.out.size; simp; omega)); clear O4 G4 K4))
  obtain ⟨g4, c4, rfl, _⟩ := OO4.out.some8 (by simp)
  have hx4 : ∀ y ∈ xs ++ [V % 256, V / 256 % 256], y < 256 := by
    intro y hy
    rcases List.mem_append.1 hy with h | h
    · exact hx y h
    · simp at h; omega
  refine (of_law 1 (by decide) (by decide) _ c4 _ w4 hx4 (by simp; omega) OO4.out.rd.2).mono ?_
  rw [HE.out]
  rintro e w5 ⟨rfl, hb5⟩
  have OO5 := hide (OO4.out.below hb5)
  have B5 := hide (B4.out.trans (hb5.mono B4.out.size))
  clear hb5 OO4 B4 B3 OO3 hx4 HE
  go_wp2
  go_loopw [4, 5] (fun c n wr => ∃ (k : Nat) (v : Value) (zs : List Nat), 3 ≤ k ∧ k ≤ 5 ∧ n = .int .i64 k ∧ c = v ∧ zs.length = 2 ∧ Own8 wr w.heap.size v (xs ++ zs) ∧ Below w.heap.size w wr) (fun _ n _ => 5 - (intOf n).toNat)
  case atStart => exact ⟨3, _, [V % 256, V / 256 % 256], by omega, by omega, rfl, rfl, rfl, by have h := OO5.out; rw [show (xs ++ [V % 256, V / 256 % 256]).length = xs.length + 2 by simp] at h; exact h, B5.out⟩
  case round =>
    obtain ⟨k, v, zs, hk3, hk5, rfl, rfl, hzs, ho, hb⟩ := hrel
    have OO := hide ho; have BB := hide hb
    clear ho hb OO5 B5
    by_cases hlt : k ≤ 4 ∧ xs.length % 2 = 0
    · obtain ⟨hk4, he⟩ := hlt
      have hkI : (k : Int) ≤ 4 := by omega
      have heI : ((xs.length : Int) % 2 == 0) = true := by rw [beq_iff_eq]; omega
      obtain ⟨g, c, rfl, hgc, _⟩ := OO.out.some8 (by simp; omega)
      have hlen : (xs ++ zs).length = xs.length + 2 := by simp [hzs]
      rw [hlen] at OO hgc
      rw [hlen]
      have OC : Hid (Own8 wr w.heap.size (.slice (some ⟨g, 0, none⟩) xs.length c) xs) := by
        have := OO.out.cut xs.length (by simp)
        rw [List.take_left] at this
        exact this
      have HE : Hid (sumF k (xs ++ [sumF k xs / 256 % 256, sumF k xs % 256]) = 0) := by
        rcases (by omega : k = 3 ∨ k = 4) with rfl | rfl
        · exact ends3 xs he
        · exact ends4 xs hx he
      have HO := hide (of_law k (by omega) (by omega) a cap xs wr hx (by omega) (HR.out.below BB.out))
      have hV2 := sumF_u32 k (by omega) xs hx
      have HK : Hid (1 ≤ (k : Int) ∧ (k : Int) ≤ 4) := ⟨by omega, by omega⟩
      generalize sumF k xs = U at *
      go_wp2_with fail
      refine HO.out.mono ?_
      rintro e w6 ⟨rfl, hb6⟩
      have OC6 := hide (OC.out.below hb6)
      have B6 := hide (BB.out.trans (hb6.mono BB.out.size))
      clear hb6 HO OO OC
      go_wp2_with (first
        | (at_builtin; refine wpList_app8 rfl _ _ rfl w.heap.size (.slice (some ⟨g, 0, none⟩) xs.length c) xs rfl (OC6.out.below ((Below.refl _ w6).alloc (Nat.le_refl _) _)) (some ⟨w6.heap.size, 0, none⟩) 2 2 [U / 256 % 256, U % 256] rfl rfl (two_rdI w6 (U / 256 % 256) (U % 256) _ _ (by simp) (by simp) _) (by simp) (by simp; omega) (by have := B6.out.size; simp; omega) ?_; intro v7 w7 O7 G7 K7; have OO7 := hide O7; have B7 := hide (below_own (B6.out.alloc B6.out.size _) (OC6.out.below ((Below.refl _ w6).alloc (Nat.le_refl _) _)) G7 (by have := B6.out.size; simp; omega)); clear O7 G7 K7))
      obtain ⟨g7, c7, rfl, _⟩ := OO7.out.some8 (by simp)
      have hx7 : ∀ y ∈ xs ++ [U / 256 % 256, U % 256], y < 256 := by
        intro y hy
        rcases List.mem_append.1 hy with h | h
        · exact hx y h
        · simp at h; omega
      refine (of_law k HK.out.1 HK.out.2 _ c7 _ w7 hx7 (by simp; omega) OO7.out.rd.2).mono ?_
      rw [HE.out]
      rintro e w8 ⟨rfl, hb8⟩
      have OO8 := hide (OO7.out.below hb8)
      have B8 := hide (B7.out.trans (hb8.mono B7.out.size))
      rw [show (xs ++ [U / 256 % 256, U % 256]).length = xs.length + 2 by simp] at OO8
      clear hb8 OO7 B7 B6 OC6 hx7 HE HK
      go_wp2
      go_roundw
      case rel => exact ⟨k + 1, _, [U / 256 % 256, U % 256], by omega, by omega, by go_num, rfl, rfl, OO8.out, B8.out⟩
      case measure => simp [intOf]; omega
    · have hz : zs ≠ [] := by intro h; simp [h] at hzs
      by_cases h4 : k ≤ 4
      · have hkI : (k : Int) ≤ 4 := by omega
        have heI : ((xs.length : Int) % 2 == 0) = false := by rw [beq_eq_false_iff_ne]; omega
        clear hlt hz
        go_wp2
        go_ret
        exact ⟨rfl, BB.out⟩
      · have hkI : decide ((k : Int) ≤ 4) = false := by simp; omega
        have hkI2 : ¬ (k : Int) ≤ 4 := by omega
        clear hlt hz
        go_wp2
        go_ret
        exact ⟨rfl, BB.out⟩
end Go.Proofs.Ytaekdnoondpgnaa
