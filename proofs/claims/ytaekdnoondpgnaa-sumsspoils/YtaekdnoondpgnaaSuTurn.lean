/- pointsmanlaw03.SumsTurn, walked. -/
import Derived.Test.YtaekdnoondpgnaaSuLaw
import Derived.Test.YtaekdnoondpgnaaOwn8
namespace Go.Proofs.Ytaekdnoondpgnaa
open Go.RowKit

theorem addW_set : ∀ (l : List Nat) (i y : Nat) (h : i < l.length), addW (l.set i y) + l[i] = addW l + y
  | [], i, y, h => by simp at h
  | x :: l, 0, y, h => by simp only [List.set_cons_zero, List.getElem_cons_zero, addW_cons]; omega
  | x :: l, i + 1, y, h => by
    have := addW_set l i y (by simpa using h)
    simp only [List.set_cons_succ, List.getElem_cons_succ, addW_cons]; omega
theorem wordsOf_set : ∀ (xs : List Nat) (m h l : Nat), 2 * m + 1 < xs.length → wordsOf ((xs.set (2 * m) h).set (2 * m + 1) l) = (wordsOf xs).set m (256 * h + l)
  | [], m, h, l, hm => by simp at hm
  | [x], m, h, l, hm => by simp at hm
  | x :: y :: r, 0, h, l, hm => by simp [wordsOf]
  | x :: y :: r, m + 1, h, l, hm => by
    have := wordsOf_set r m h l (by simp at hm; omega)
    rw [show 2 * (m + 1) = 2 * m + 1 + 1 by omega]
    simp only [List.set_cons_succ, wordsOf, this]
theorem addW_pos : ∀ (xs : List Nat), (∃ y ∈ xs, y ≠ 0) → 0 < addW (wordsOf xs)
  | [], ⟨y, hy, _⟩ => by simp at hy
  | [x], ⟨y, hy, h0⟩ => by
    simp at hy; subst hy
    simp only [wordsOf, addW_cons]; omega
  | x :: z :: r, ⟨y, hy, h0⟩ => by
    simp only [wordsOf, addW_cons]
    by_cases hx : x = 0
    · by_cases hz : z = 0
      · have hr : ∃ y ∈ r, y ≠ 0 := ⟨y, by
          rcases List.mem_cons.1 hy with e | hy
          · omega
          · rcases List.mem_cons.1 hy with e | hy
            · omega
            · exact hy, h0⟩
        have := addW_pos r hr
        omega
      · omega
    · omega
theorem fol_more {t : Nat} (h : 0 < t) : fol (t + 65535) = fol t := by unfold fol; split <;> split <;> omega
theorem turn_sum (T T' old next : Nat) (h0 : old ≤ 65535) (h1 : T' + old = T + next) (h2 : 0 < T') : turnF (65535 - fol T) old next = 65535 - fol T' := by
  unfold turnF
  have hf := fol_le T
  rw [show 65535 - (65535 - fol T) = fol T by omega, Nat.add_assoc, fol_add, show T + (65535 - old + next) = T' + 65535 by omega, fol_more h2]
theorem turn_math (xs : List Nat) (m next : Nat) (hm : 2 * m + 1 < xs.length) (hx : ∀ y ∈ xs, y < 256) (h : ∃ y ∈ (xs.set (2 * m) (next / 256)).set (2 * m + 1) (next % 256), y ≠ 0) :
    turnF (sumF 3 xs) (256 * xs[2 * m] + xs[2 * m + 1]) next = sumF 3 ((xs.set (2 * m) (next / 256)).set (2 * m + 1) (next % 256)) := by
  have e : ∀ l, sumF 3 l = 65535 - fol (addW (wordsOf l)) := fun _ => rfl
  rw [e, e]
  have hp := addW_pos _ h
  have hw : m < (wordsOf xs).length := by rw [wordsOf_length]; omega
  have hs := addW_set (wordsOf xs) m (256 * (next / 256) + next % 256) hw
  rw [← wordsOf_set xs m _ _ hm] at hs
  have h1 : (wordsOf xs)[m] = 256 * xs[2 * m] + xs[2 * m + 1] := by
    rw [wordsOf_get]; unfold wordAt; rw [getD_in _ _ (by omega), getD_in _ _ hm]
  rw [h1] at hs
  have b0 : xs[2 * m] < 256 := hx _ (List.getElem_mem _)
  have b1 : xs[2 * m + 1] < 256 := hx _ (List.getElem_mem _)
  exact turn_sum _ _ _ _ (by omega) (by omega) hp
def none0 (xs : List Nat) : Bool := xs.all (· == 0)
theorem none0_take (xs : List Nat) (k : Nat) (h : k < xs.length) : none0 (xs.take (k + 1)) = (none0 (xs.take k) && (xs[k] == 0)) := by
  unfold none0; rw [List.take_succ_eq_append_getElem h, List.all_append]; simp
theorem none0_not {xs : List Nat} (h : none0 xs = false) : ∃ y ∈ xs, y ≠ 0 := by
  unfold none0 at h
  rw [List.all_eq_false] at h
  obtain ⟨y, hy, hn⟩ := h
  exact ⟨y, hy, by simpa using hn⟩
theorem turn_out (a : Option Addr) (n cap : Nat) (at' next : Int) (w : World) (h : n < 2 ∨ 60000 < n) : Calls Try.prog 5 #[.slice a n cap, .int .u16 at', .int .u16 next] w fun e w' => e = .returned (.bool true) ∧ Below w.heap.size w w' := by
  by_cases h2 : n < 2
  · have hI : (n : Int) < 2 := by omega
    have hJ : decide ((n : Int) < 2) = true := by simp; omega
    go_enter Try.func5, Try.ntmps5
    go_wp2_with fail
    refine (salive_any _).mono ?_
    rintro e w1 ⟨rfl, hb1⟩
    go_wp2_with fail
    refine (salive_any _).mono ?_
    rintro e w2 ⟨rfl, hb2⟩
    go_wp2
    go_ret
    exact ⟨rfl, hb1.trans (hb2.mono hb1.size)⟩
  · have hI : (n : Int) > 60000 := by omega
    have hJ : decide ((n : Int) < 2) = false := by simp; omega
    go_enter Try.func5, Try.ntmps5
    go_wp2_with fail
    refine (salive_any _).mono ?_
    rintro e w1 ⟨rfl, hb1⟩
    go_wp2_with fail
    refine (salive_any _).mono ?_
    rintro e w2 ⟨rfl, hb2⟩
    go_wp2
    go_ret
    exact ⟨rfl, hb1.trans (hb2.mono hb1.size)⟩
theorem own_cell {W : World} {B g n cap : Nat} {xs : List Nat} (h : Own8 W B (.slice (some ⟨g, 0, none⟩) n cap) xs) (k : Nat) (hk : k < xs.length) : W.cell? ⟨g, k, none⟩ = some (.int .u8 (xs[k] : Nat)) := by
  obtain ⟨p, off, e, _, hc⟩ := h.rd.2.some (by omega)
  injection e with e
  injection e with e1 e2
  subst e1 e2
  have := hc k hk
  rwa [Nat.zero_add] at this
set_option maxRecDepth 100000 in
set_option maxHeartbeats 4000000 in
theorem turn_yes (p off cap : Nat) (xs : List Nat) (A N : Nat) (w : World) (hx : ∀ y ∈ xs, y < 256) (h2 : 2 ≤ xs.length) (hl : xs.length ≤ 60000) (hr : RdA w (some ⟨p, off, none⟩) xs) (hN : N < 65536) (hA : A < 65536) :
    Calls Try.prog 5 #[.slice (some ⟨p, off, none⟩) xs.length cap, .int .u16 A, .int .u16 N] w fun e w' => e = .returned (.bool true) ∧ Below w.heap.size w w' := by
  have hI : decide ((xs.length : Int) > 60000) = false := by simp; omega
  have hI2 : ¬ (xs.length : Int) > 60000 := by omega
  have hJ : decide ((xs.length : Int) < 2) = false := by simp; omega
  have hJ2 : ¬ (xs.length : Int) < 2 := by omega
  have HR := hide hr
  obtain ⟨M, hM⟩ : ∃ M, M = A % (xs.length / 2) := ⟨_, rfl⟩
  have hMl : M < xs.length / 2 := by rw [hM]; exact Nat.mod_lt _ (by omega)
  have hMI : (A : Int) % ((xs.length : Int) / 2) = (M : Int) := by rw [hM]; simp
  obtain ⟨D, hD⟩ : ∃ D : Nat, D = xs.length / 2 := ⟨_, rfl⟩
  have hDI : (xs.length : Int) / 2 = (D : Int) := by omega
  rw [hDI] at hMI
  have hD1 : 1 ≤ D := by omega
  have hM2 : 2 * M + 1 < xs.length := by omega
  have hd0 : ((D : Int) == 0) = false := by rw [beq_eq_false_iff_ne]; omega
  obtain ⟨K, hK⟩ : ∃ K, K = 2 * M := ⟨_, rfl⟩
  have hKI : 2 * (M : Int) = (K : Int) := by omega
  have hKl : K + 1 < xs.length := by omega
  have hKI1 : (K : Int) < (xs.length : Int) := by omega
  have hKI2 : (K : Int) + 1 < (xs.length : Int) := by omega
  have HKM := hide hK
  clear hr hM hD hK
  go_enter Try.func5, Try.ntmps5
  go_wp2_with fail
  refine (salive_any _).mono ?_
  rintro e w1 ⟨rfl, hb1⟩
  have R1 := hide (HR.out.below hb1)
  have B1 := hide hb1
  clear hb1
  go_wp2_with (first
    | (at_builtin; refine wpList_app8 rfl _ _ rfl w.heap.size (.slice none 0 0) [] rfl (Own8.nil _ _) (some ⟨p, off, none⟩) xs.length cap xs rfl rfl R1.out (by simp) (by simp; omega) B1.out.size ?_; intro v3 w3 O3 G3 K3; rw [List.nil_append] at O3; have B3 := hide (below_own B1.out (Own8.nil _ _) G3 B1.out.size); obtain ⟨g, c, rfl, hgc, hgB, hgl, _⟩ := Own8.some8 O3 (by omega); have OO3 := hide O3; have hcK := own_cell O3 K (by omega); have hcK1 := own_cell O3 (K + 1) (by omega); have hfz := O3.soft; clear O3 G3 K3 R1 B1))
  obtain ⟨W4, hW4⟩ : ∃ W4, W4 = (w3.setCell ⟨g, K, none⟩ (.int .u8 ((N : Int) / 256))).setCell ⟨g, K + 1, none⟩ (.int .u8 ((N : Int) % 256)) := ⟨_, rfl⟩
  rw [← hW4]
  have O4 : Own8 W4 w.heap.size (.slice (some ⟨g, 0, none⟩) xs.length c) ((xs.set K (N / 256)).set (K + 1) (N % 256)) := by
    have h1 := (OO3.out.set K (N / 256)).set (K + 1) (N % 256)
    rw [hW4]
    rw [show ((N / 256 : Nat) : Int) = (N : Int) / 256 by omega, show ((N % 256 : Nat) : Int) = (N : Int) % 256 by omega] at h1
    exact h1
  have B4 : Below w.heap.size w W4 := by rw [hW4]; exact (B3.out.setCell hgB _).setCell hgB _
  clear hW4 OO3 B3 hcK hcK1 hfz
  have R4 := HR.out.below B4
  obtain ⟨_, _, e, hpl, hpc⟩ := R4.some (by omega)
  injection e with e
  injection e with e1 e2
  subst e1 e2
  have p0 := hpc K (by omega)
  have p1 := hpc (K + 1) (by omega)
  have b0 : xs[K] < 256 := hx _ (List.getElem_mem _)
  have b1 : xs[K + 1] < 256 := hx _ (List.getElem_mem _)
  have HM : Hid ((∃ y ∈ (xs.set K (N / 256)).set (K + 1) (N % 256), y ≠ 0) → turnF (sumF 3 xs) (256 * xs[K] + xs[K + 1]) N = sumF 3 ((xs.set K (N / 256)).set (K + 1) (N % 256))) := by
    have hk := HKM.out
    subst hk
    exact turn_math xs M N hM2 hx
  have hys : ∀ y ∈ (xs.set K (N / 256)).set (K + 1) (N % 256), y < 256 := by
    intro y hy
    rcases List.mem_or_eq_of_mem_set hy with hy | rfl
    · rcases List.mem_or_eq_of_mem_set hy with hy | rfl
      · exact hx y hy
      · omega
    · omega
  have HYS := hide hys
  have hyl : ((xs.set K (N / 256)).set (K + 1) (N % 256)).length = xs.length := by simp
  have OO4 := hide O4; have BB4 := hide B4; have RR4 := hide R4
  have hS := sumF_u32 3 (by decide) xs hx
  have hS16 : sumF 3 xs < 65536 := sumF_lt 3 xs hx
  clear O4 B4 R4 hpc hys
  generalize hX0 : xs[K] = x0 at *
  generalize hX1 : xs[K + 1] = x1 at *
  clear hX0 hX1
  generalize (xs.set K (N / 256)).set (K + 1) (N % 256) = ys at *
  have HYL := hide hyl
  clear hyl
  have hst : ((256 * x0 + x1 : Nat) : Int) = 256 * (x0 : Int) + (x1 : Int) := by omega
  have HOB := hide (fun W (h : RdA W (some ⟨p, off, none⟩) xs) => of_law 3 (by decide) (by decide) (some ⟨p, off, none⟩) cap xs W hx (by omega) h)
  have HOC := hide (fun W (h : RdA W (some ⟨g, 0, none⟩) ys) => of_law 3 (by decide) (by decide) (some ⟨g, 0, none⟩) c ys W HYS.out (by have := HYL.out; omega) h)
  have HTN := hide (fun W => turn_any (sumF 3 xs) (256 * x0 + x1) N W hS16 (by omega) hN)
  rw [HYL.out] at HOC
  rw [hst] at HTN
  have hT16 : turnF (sumF 3 xs) (256 * x0 + x1) N < 65536 := by unfold turnF; omega
  clear hst
  generalize sumF 3 xs = S at *
  generalize turnF S (256 * x0 + x1) N = T at *
  generalize sumF 3 ys = U at *
  go_region
  all_goals
    go_wp2
    go_loop [10, 11] (fun nn i => ∃ k : Nat, k ≤ ys.length ∧ i = .int .i64 k ∧ nn = .bool (none0 (ys.take k))) (fun _ i => ys.length - (intOf i).toNat)
    case atStart => exact ⟨0, by omega, rfl, rfl⟩
    case round =>
      obtain ⟨k, hk, rfl, rfl⟩ := hrel
      by_cases hlt : k < xs.length
      · have hcy := own_cell OO4.out k (by have := HYL.out; omega)
        have HNT := hide (none0_take ys k (by have := HYL.out; omega))
        have hkI : (k : Int) < (xs.length : Int) := by omega
        generalize ys[k]'(by have := HYL.out; omega) = y at *
        cases hn : none0 (ys.take k)
        · rw [hn] at HNT
          go_wp2
          go_round
          case rel => exact ⟨k + 1, by have := HYL.out; omega, by go_num, by rw [HNT.out]; rfl⟩
          case measure => simp [intOf]; have := HYL.out; omega
        · rw [hn] at HNT
          go_wp2
          go_round
          case rel => exact ⟨k + 1, by have := HYL.out; omega, by go_num, by rw [HNT.out, Bool.true_and, show (y == 0) = ((y : Int) == 0) by rw [Bool.eq_iff_iff]; simp]⟩
          case measure => simp [intOf]; have := HYL.out; omega
      · obtain rfl : k = xs.length := by have := HYL.out; omega
        rw [show ys.take xs.length = ys by rw [← HYL.out, List.take_length]]
        clear HKM hk hlt p0 p1
        cases hn : none0 ys
        · have he := HM.out (none0_not hn)
          subst he
          clear hn HM
          go_wp2_with fail
          refine (HOB.out W4.drew RR4.out).mono ?_
          rintro e w5 ⟨rfl, hb5⟩
          have BB5 := hide (BB4.out.drew.trans (hb5.mono BB4.out.size))
          have OO5 := hide (OO4.out.drew.below hb5)
          clear hb5
          go_wp2_with fail
          refine (HTN.out _).mono ?_
          rintro e w6 ⟨rfl, hb6⟩
          have BB6 := hide (BB5.out.trans (hb6.mono BB5.out.size))
          have OO6 := hide (OO5.out.below hb6)
          clear hb6
          go_wp2_with fail
          refine (HOC.out _ OO6.out.rd.2).mono ?_
          rintro e w7 ⟨rfl, hb7⟩
          have BB7 := hide (BB6.out.trans (hb7.mono BB6.out.size))
          clear hb7
          go_wp2
          go_ret
          exact ⟨rfl, BB7.out⟩
        · clear hn
          go_wp2
          go_ret
          exact ⟨rfl, BB4.out.drew⟩
end Go.Proofs.Ytaekdnoondpgnaa
