/- pointsmanlaw03.SumsSpoils, walked. -/
import Derived.Test.YtaekdnoondpgnaaSuLaw
import Derived.Test.YtaekdnoondpgnaaOwn8
import Derived.Test.YtaekdnoondpgnaaSuTurn
namespace Go.Proofs.Ytaekdnoondpgnaa
open Go.RowKit

theorem pow_xor (f a b : Nat) : 2 ^ f * (a ^^^ b) = 2 ^ f * a ^^^ 2 ^ f * b := by
  have := Nat.shiftLeft_xor_distrib (a := a) (b := b) (i := f)
  simp only [Nat.shiftLeft_eq] at this
  rw [Nat.mul_comm, this, Nat.mul_comm a, Nat.mul_comm b]
theorem mod_bit (c i : Nat) : c % 2 ^ (i + 1) = (c % 2 ^ i) ^^^ (2 ^ i * (c / 2 ^ i % 2)) := by
  apply Nat.eq_of_testBit_eq
  intro j
  rw [Nat.testBit_xor, Nat.testBit_mod_two_pow, Nat.testBit_mod_two_pow, Nat.testBit_two_pow_mul]
  by_cases h : j < i
  · simp [h, Nat.not_le.2 h, (by omega : j < i + 1)]
  · by_cases h2 : j = i
    · subst h2
      have : (c / 2 ^ j % 2).testBit 0 = c.testBit j := by
        rw [Nat.testBit_zero, Nat.testBit_eq_decide_div_mod_eq]; simp
      simp [this]
    · have h3 : i ≤ j := by omega
      have h4 : (c / 2 ^ i % 2).testBit (j - i) = false := by
        apply Nat.testBit_lt_two_pow
        have h5 : c / 2 ^ i % 2 < 2 := Nat.mod_lt _ (by decide)
        have h6 : (2 : Nat) ^ 1 ≤ 2 ^ (j - i) := Nat.pow_le_pow_right (by decide) (by omega)
        omega
      simp [h, h3, h4]
      intro h5; omega
theorem spoil_step (ys : List Nat) (x u f i : Nat) (c : Nat) (hj : (f + i) / 8 < ys.length) (hy : ∀ y ∈ ys, y < 256) (hn : numL ys = x ^^^ 2 ^ f * (c % 2 ^ i)) (hb : c / 2 ^ i % 2 = 1) (hu : u = ys[(f + i) / 8] ^^^ 2 ^ ((f + i) % 8)) :
    numL (ys.set ((f + i) / 8) u) = x ^^^ 2 ^ f * (c % 2 ^ (i + 1)) := by
  subst hu
  rw [numL_set ys _ _ hj (Nat.mod_lt _ (by decide)) hy, hn, mod_bit, hb, Nat.mul_one, pow_xor, Nat.xor_assoc, ← Nat.pow_add, show 8 * ((f + i) / 8) + (f + i) % 8 = f + i by omega]
theorem spoil_stay (x f i c : Nat) (hb : ¬ c / 2 ^ i % 2 = 1) : x ^^^ 2 ^ f * (c % 2 ^ i) = x ^^^ 2 ^ f * (c % 2 ^ (i + 1)) := by
  rw [mod_bit, show c / 2 ^ i % 2 = 0 by have := Nat.mod_lt (c / 2 ^ i) (by decide : 2 > 0); omega]; simp
theorem spoil_one (c i : Nat) (hb : c / 2 ^ i % 2 = 1) : decide (c % 2 ^ (i + 1) ≠ 0) = true := by
  rw [decide_eq_true_eq]
  intro h
  have h1 := Nat.testBit_mod_two_pow c (i + 1) i
  rw [h] at h1
  simp [Nat.testBit_eq_decide_div_mod_eq, hb] at h1
theorem spoil_none (c i : Nat) (hb : ¬ c / 2 ^ i % 2 = 1) : decide (c % 2 ^ i ≠ 0) = decide (c % 2 ^ (i + 1) ≠ 0) := by
  rw [mod_bit c i, show c / 2 ^ i % 2 = 0 by have := Nat.mod_lt (c / 2 ^ i) (by decide : 2 > 0); omega]; simp
theorem spoil_math (n : Nat) (hn : n = 1 ∨ n = 2) (xs ys : List Nat) (hx : ∀ y ∈ xs, y < 256) (hy : ∀ y ∈ ys, y < 256) (hl : ys.length = xs.length) (f i c : Nat) (hf : f ≤ 8 * xs.length) (hi : i ≤ 16 * n) (h : numL ys = numL xs ^^^ 2 ^ f * (c % 2 ^ i)) (h0 : c % 2 ^ i ≠ 0) : sumF n ys ≠ sumF n xs := by
  intro e
  apply h0
  have hb : c % 2 ^ i < 2 ^ (16 * n) := Nat.lt_of_lt_of_le (Nat.mod_lt _ (Nat.two_pow_pos _)) (Nat.pow_le_pow_right (by decide) hi)
  rcases hn with rfl | rfl
  · exact crc_spoil (w := 15) (p := 0xa001) (by decide) (by decide) 0 _ f xs ys hx hy rfl hl hb hf h e
  · have e2 : crcF 0xedb88320 0xffffffff ys ^^^ 0xffffffff = crcF 0xedb88320 0xffffffff xs ^^^ 0xffffffff := e
    have e3 := congrArg (fun z => z ^^^ 0xffffffff) e2
    simp only [Nat.xor_assoc, Nat.xor_self, Nat.xor_zero] at e3
    exact crc_spoil (w := 31) (p := 0xedb88320) (by decide) (by decide) 0xffffffff _ f xs ys hx hy rfl hl hb hf h e3
theorem bit32 (c i : Nat) (hc : c < 4294967296) : (bits .and .u32 ((c : Int) / 2 ^ i) 1 == 1) = decide (c / 2 ^ i % 2 = 1) := by
  have h1 : (c : Int) / 2 ^ i = ((c / 2 ^ i : Nat) : Int) := by simp
  have h2 : c / 2 ^ i < 4294967296 := Nat.lt_of_le_of_lt (Nat.div_le_self _ _) hc
  have := u32_and_nat (c / 2 ^ i) 1 h2 (by decide)
  rw [Nat.and_one_is_mod] at this
  have e : bits .and .u32 ((c / 2 ^ i : Nat) : Int) 1 = ((c / 2 ^ i % 2 : Nat) : Int) := this
  rw [h1, e]
  rcases Nat.mod_two_eq_zero_or_one (c / 2 ^ i) with h | h <;> rw [h] <;> rfl
theorem pow8 {Z : Nat} (h : 2 ^ Z < 256) : ((2 ^ Z : Nat) : Int) = (2 : Int) ^ Z % 256 := by
  have e : (2 : Int) ^ Z = ((2 ^ Z : Nat) : Int) := by simp
  rw [e]
  generalize (2 ^ Z : Nat) = z at h ⊢
  omega
theorem spoils_out (a : Option Addr) (n cap : Nat) (at' ch : Int) (w : World) (h : n = 0 ∨ 60000 < n) : Calls Try.prog 6 #[.slice a n cap, .int .u32 at', .int .u32 ch] w fun e w' => e = .returned (.bool true) ∧ Below w.heap.size w w' := by
  by_cases h2 : n = 0
  · subst h2
    go_enter Try.func6, Try.ntmps6
    go_wp2_with fail
    refine (salive_any _).mono ?_
    rintro e w1 ⟨rfl, hb1⟩
    go_wp2_with fail
    refine (salive_any _).mono ?_
    rintro e w2 ⟨rfl, hb2⟩
    go_wp2
    go_ret
    exact ⟨rfl, hb1.trans (hb2.mono hb1.size)⟩
  · have hI : (n : Int) > 60000 := by omega
    have hJ : ((n : Int) == 0) = false := by rw [beq_eq_false_iff_ne]; omega
    go_enter Try.func6, Try.ntmps6
    go_wp2_with fail
    refine (salive_any _).mono ?_
    rintro e w1 ⟨rfl, hb1⟩
    go_wp2_with fail
    refine (salive_any _).mono ?_
    rintro e w2 ⟨rfl, hb2⟩
    go_wp2
    go_ret
    exact ⟨rfl, hb1.trans (hb2.mono hb1.size)⟩
set_option maxRecDepth 100000 in
set_option maxHeartbeats 4000000 in
theorem spoils_yes (p off cap : Nat) (xs : List Nat) (A C : Nat) (w : World) (hx : ∀ y ∈ xs, y < 256) (h2 : 1 ≤ xs.length) (hl : xs.length ≤ 60000) (hr : RdA w (some ⟨p, off, none⟩) xs) (hC : C < 4294967296) (hA : A < 4294967296) :
    Calls Try.prog 6 #[.slice (some ⟨p, off, none⟩) xs.length cap, .int .u32 A, .int .u32 C] w fun e w' => e = .returned (.bool true) ∧ Below w.heap.size w w' := by
  have hI : decide ((xs.length : Int) > 60000) = false := by simp; omega
  have hI2 : ¬ (xs.length : Int) > 60000 := by omega
  have hJ : ((xs.length : Int) == 0) = false := by rw [beq_eq_false_iff_ne]; omega
  have HR := hide hr
  obtain ⟨L, hL⟩ : ∃ L, L = 8 * xs.length := ⟨_, rfl⟩
  have hLI : 8 * (xs.length : Int) = (L : Int) := by omega
  obtain ⟨F, hF⟩ : ∃ F, F = A % L := ⟨_, rfl⟩
  have hFl : F < L := by rw [hF]; exact Nat.mod_lt _ (by omega)
  have hFI : (A : Int) % (L : Int) = (F : Int) := by rw [hF]; simp
  have hL0 : ((L : Int) == 0) = false := by rw [beq_eq_false_iff_ne]; omega
  have hL1 : 8 ≤ L := by omega
  have hL2 : L ≤ 480000 := by omega
  have HL := hide hL
  clear hr hF hL
  go_enter Try.func6, Try.ntmps6
  go_wp2_with fail
  refine (salive_any _).mono ?_
  rintro e w1 ⟨rfl, hb1⟩
  have B1 := hide hb1
  clear hb1
  go_wp2
  go_loopw [7] (fun n wr => ∃ k : Nat, 1 ≤ k ∧ k ≤ 3 ∧ n = .int .i64 k ∧ Below w.heap.size w wr) (fun n _ => 3 - (intOf n).toNat)
  case atStart => exact ⟨1, by omega, by omega, rfl, B1.out⟩
  case round =>
    obtain ⟨k, hk1, hk3, rfl, hb⟩ := hrel
    have BB := hide hb
    clear hb B1
    by_cases hlt : k ≤ 2
    · have hkI : (k : Int) ≤ 2 := by omega
      have R1 := hide (HR.out.below BB.out)
      go_wp2_with (first
        | (at_builtin; refine wpList_app8 rfl _ _ rfl w.heap.size (.slice none 0 0) [] rfl (Own8.nil _ _) (some ⟨p, off, none⟩) xs.length cap xs rfl rfl R1.out (by simp) (by simp; omega) BB.out.size ?_; intro v3 w3 O3 G3 K3; rw [List.nil_append] at O3; have B3 := hide (below_own BB.out (Own8.nil _ _) G3 BB.out.size); obtain ⟨g, c, rfl, hgc, hgB, hgl, _⟩ := Own8.some8 O3 (by omega); have OO3 := hide O3; clear O3 G3 K3 R1 BB))
      go_loopw [11, 12] (fun one i wq => ∃ (j : Nat) (ys : List Nat), j ≤ 16 * k ∧ F + j ≤ L ∧ i = .int .i64 j ∧ one = .bool (decide (C % 2 ^ j ≠ 0)) ∧ Own8 wq w.heap.size (.slice (some ⟨g, 0, none⟩) xs.length c) ys ∧ ys.length = xs.length ∧ (∀ y ∈ ys, y < 256) ∧ numL ys = numL xs ^^^ 2 ^ F * (C % 2 ^ j) ∧ Below w.heap.size w wq) (fun _ i _ => 16 * k - (intOf i).toNat)
      case atStart => exact ⟨0, xs, by omega, by omega, rfl, by simp [Nat.mod_one], OO3.out, rfl, hx, by simp [Nat.mod_one], B3.out⟩
      case round =>
        obtain ⟨j, ys, hj1, hj2, rfl, rfl, ho, hyl, hys, hnum, hbq⟩ := hrel
        have OO := hide ho; have HYL := hide hyl; have HYS := hide hys; have HNU := hide hnum; have BQ := hide hbq
        clear ho hyl hys hnum hbq OO3 B3
        by_cases hgo : j < 16 * k ∧ F + j < L
        · obtain ⟨g1, g2⟩ := hgo
          have g1I : (j : Int) < 16 * (k : Int) := by omega
          have g2I : (F : Int) + (j : Int) < (L : Int) := by omega
          have hbit := bit32 C j hC
          by_cases hb : C / 2 ^ j % 2 = 1
          · rw [decide_eq_true hb] at hbit
            have HS1 := hide (spoil_one C j hb)
            obtain ⟨Q, hQ⟩ : ∃ Q, Q = (F + j) / 8 := ⟨_, rfl⟩
            obtain ⟨Z, hZ⟩ : ∃ Z, Z = (F + j) % 8 := ⟨_, rfl⟩
            have hQl : Q < xs.length := by have := HL.out; omega
            have hQI : ((F : Int) + (j : Int)) / 8 = (Q : Int) := by omega
            have hZI : ((F : Int) + (j : Int)) % 8 = (Z : Int) := by omega
            have hQl2 : (Q : Int) < (xs.length : Int) := by omega
            have hZ8 : Z < 8 := by omega
            have hqy : Q < ys.length := by have := HYL.out; omega
            have hcQ := own_cell OO.out Q hqy
            have hfQ := OO.out.soft Q
            have hyQ : ys[Q]'hqy < 256 := HYS.out _ (List.getElem_mem _)
            obtain ⟨u, hu⟩ : ∃ u, u = ys[Q]'hqy ^^^ 2 ^ Z := ⟨_, rfl⟩
            have h2Z : 2 ^ Z < 256 := Nat.pow_lt_pow_right (n := 8) (by decide) hZ8
            have hu256 : u < 256 := by rw [hu]; exact xor_byte hyQ h2Z
            have HST : Hid (numL (ys.set Q u) = numL xs ^^^ 2 ^ F * (C % 2 ^ (j + 1))) := by
              have hq := hQ; have hz := hZ
              subst hq hz
              exact spoil_step ys (numL xs) u F j C (by have := HYL.out; omega) HYS.out HNU.out hb hu
            have hx8 := u8_xor_nat (ys[Q]'hqy) (2 ^ Z) hyQ h2Z
            rw [← hu, pow8 h2Z] at hx8
            have HQ := hide hQ
            generalize ys[Q]'hqy = y at *
            clear hQ hZ hu hb
            have HX8 := hide hx8
            clear hx8
            go_wp2
            go_region
            all_goals
              rw [HX8.out]
              have OO2 := hide ((OO.out.set Q u).drew)
              have BQ2 := hide ((BQ.out.setCell (p := ⟨g, Q, none⟩) hgB (.int .u8 (u : Nat))).drew)
              generalize (wr.setCell ⟨g, Q, none⟩ (.int .u8 (u : Nat))).drew = W5 at *
              go_wp2
              go_roundw
              case rel => exact ⟨j + 1, ys.set Q u, by omega, by omega, by go_num, by rw [HS1.out], OO2.out, by rw [List.length_set]; exact HYL.out, fun z hz => by
                rcases List.mem_or_eq_of_mem_set hz with h | rfl
                · exact HYS.out z h
                · exact hu256, HST.out, BQ2.out⟩
              case measure => simp [intOf]; omega
          · have hbf : (bits .and .u32 ((C : Int) / 2 ^ j) 1 == 1) = false := by rw [hbit]; simp [hb]
            have HS0 := hide (spoil_none C j hb)
            have HST := hide (spoil_stay (numL xs) F j C hb)
            clear hbit hb
            generalize decide (C % 2 ^ j ≠ 0) = on at *
            go_wp2
            go_roundw
            case rel => exact ⟨j + 1, ys, by omega, by omega, by go_num, by rw [HS0.out], OO.out, HYL.out, HYS.out, by rw [HNU.out]; exact HST.out, BQ.out⟩
            case measure => simp [intOf]; omega
        · have HOB := hide (fun W (h : RdA W (some ⟨p, off, none⟩) xs) => of_law k (by omega) (by omega) (some ⟨p, off, none⟩) cap xs W hx (by omega) h)
          have HOC := hide (fun W (h : RdA W (some ⟨g, 0, none⟩) ys) => of_law k (by omega) (by omega) (some ⟨g, 0, none⟩) c ys W HYS.out (by have := HYL.out; omega) h)
          rw [HYL.out] at HOC
          have hb1 := sumF_u32 k (by omega) xs hx
          have hb2 := sumF_u32 k (by omega) ys HYS.out
          have HSP := hide (spoil_math k (by omega) xs ys hx HYS.out HYL.out F j C (by have := HL.out; omega) hj1 HNU.out)
          have hcond : ((decide ((j : Int) < 16 * (k : Int))) = false) ∨ (decide ((j : Int) < 16 * (k : Int)) = true ∧ decide ((F : Int) + (j : Int) < (L : Int)) = false) := by
            by_cases h : j < 16 * k
            · exact .inr ⟨by simp; omega, by simp; omega⟩
            · exact .inl (by simp; omega)
          generalize sumF k xs = S at *
          generalize sumF k ys = U at *
          have RRb := hide (HR.out.below BQ.out)
          clear hgo
          by_cases hone : C % 2 ^ j ≠ 0
          · have hd : decide (C % 2 ^ j ≠ 0) = true := decide_eq_true hone
            have hne : ((U : Int) == (S : Int)) = false := by rw [beq_eq_false_iff_ne]; have := HSP.out hone; omega
            rw [hd]
            clear hone hd HSP HNU
            rcases hcond with hc1 | ⟨hc1, hc2⟩
            all_goals
              go_wp2_with fail
              refine (HOC.out _ OO.out.rd.2).mono ?_
              rintro e w5 ⟨rfl, hb5⟩
              have BB5 := hide (BQ.out.trans (hb5.mono BQ.out.size))
              have RR5 := hide (RRb.out.below hb5)
              clear hb5
              go_wp2_with fail
              refine (HOB.out _ RR5.out).mono ?_
              rintro e w6 ⟨rfl, hb6⟩
              have BB6 := hide (BB5.out.trans (hb6.mono BB5.out.size))
              clear hb6
              go_wp2
              go_roundw
              case rel => exact ⟨k + 1, by omega, by omega, by go_num, BB6.out⟩
              case measure => simp [intOf]; omega
          · have hd : decide (C % 2 ^ j ≠ 0) = false := decide_eq_false hone
            rw [hd]
            clear hone hd HSP HNU
            rcases hcond with hc1 | ⟨hc1, hc2⟩
            all_goals
              go_wp2
              go_roundw
              case rel => exact ⟨k + 1, by omega, by omega, by go_num, BQ.out⟩
              case measure => simp [intOf]; omega
    · have hkI : decide ((k : Int) ≤ 2) = false := by simp; omega
      have hkI2 : ¬ (k : Int) ≤ 2 := by omega
      go_wp2
      go_ret
      exact ⟨rfl, BB.out⟩
end Go.Proofs.Ytaekdnoondpgnaa
