/- Words: of a number, and of a whole number. -/
import Derived.Test.YtfanhdjebmdniaaGreatDoorLG
namespace Go.Proofs.YtfanhdjebmdniaaGreatDoor
open Go.RowKit

def numW (l : List UInt8) : Option Wd := match prs l with | some (n, v) => some ⟨3, [], n, v⟩ | none => none
def wholeW (l : List UInt8) : Option Wd := match puE 2147483647 l 10 with | .ok n => if Lib.decDigits n = l then some ⟨2, [], 64, n⟩ else none | _ => none
theorem pu_mx (b mx : Nat) : ∀ (l : List UInt8) (acc n : Nat), acc ≤ mx → pu b mx acc l = .ok n → n ≤ mx
  | [], acc, n, ha, h => by simp [pu] at h; omega
  | c :: l, acc, n, ha, h => by
    simp only [pu] at h
    split at h
    · cases h
    · split at h
      · cases h
      · exact pu_mx b mx l _ _ (by omega) h
theorem puE_lt31 {l : List UInt8} {n : Nat} (h : puE 2147483647 l 10 = .ok n) : n ≤ 2147483647 := by
  cases l with
  | nil => cases h
  | cons c l => exact pu_mx _ _ _ _ _ (Nat.zero_le _) h
theorem puE_lt {l : List UInt8} {n : Nat} (h : puE 2147483647 l 10 = .ok n) : n < 18446744073709551616 := by have := puE_lt31 h; omega
theorem prsV_cases (p : Option (Nat × Nat)) : ∃ a b c e : Int, prsV p = .tuple #[.agg #[.int .i64 a, .int .u64 b, .int .u64 c], .int .i64 e] ∧ ((∃ n v, p = some (n, v) ∧ a = (n : Int) ∧ b = wHi v ∧ c = wLo v ∧ e = 0) ∨ (p = none ∧ e = 8)) := by
  cases p with
  | none => exact ⟨0, 0, 0, 8, rfl, .inr ⟨rfl, rfl⟩⟩
  | some p => exact ⟨_, _, _, 0, rfl, .inl ⟨p.1, p.2, rfl, rfl, rfl, rfl, rfl⟩⟩
set_option maxRecDepth 100000 in
theorem num_gives (l : List UInt8) (hl : l.length ≤ 1000000) : Gives 199 l (numW l) := by
  intro w hL
  obtain ⟨a, b, c, e, he, hcase⟩ := prsV_cases (prs l)
  have HP : Hid (∀ W, Ld W → _) := fun W h => parse_any l (by omega) W h
  rw [he] at HP
  have HR : Hid (WR (numW l) (decide (e = 0)) 3 a b c ⟨#[]⟩) := by
    unfold Hid numW
    rcases hcase with ⟨n, v, h1, h2, h3, h4, h5⟩ | ⟨h1, h2⟩
    · rw [h1, h5]; exact .inl ⟨by decide, ⟨3, [], n, v⟩, rfl, rfl, rfl, h2, h3, h4⟩
    · rw [h1, h2]; exact .inr ⟨by decide, rfl⟩
  have h08 : e = 0 ∨ e = 8 := by rcases hcase with ⟨_, _, _, _, _, _, h⟩ | ⟨_, h⟩; · exact .inl h
                                 · exact .inr h
  have HL := hide hL
  clear hL hcase he hl
  generalize txt l = T at *
  rcases h08 with rfl | rfl
  all_goals
    go_enter Tryz.func199, Tryz.ntmps199
    go_wp2_with fail
    refine (HP.out _ (HL.out.below ((Below.refl _ _).alloc (Nat.le_refl _) _))).mono ?_
    rintro e w1 ⟨rfl, hb⟩
    have hblk : w1.heap[w.heap.size]? = some (.cells z6 68 (0, 0)) := (hb.block _ (by simp)).trans (heap_alloc_new w _)
    have HW : Hid (Below w.heap.size w w1) := ((Below.refl _ _).alloc (Nat.le_refl _) _).trans (hb.mono (by simp))
    have hlt : w.heap.size < w1.heap.size := by have := hb.size; simp at this; omega
    obtain ⟨⟨k0, k1, k2, k3, k4, k5⟩, f0, f1, f2, f3, f4, f5⟩ := cells_of6 hblk
    have HBk := hide hblk
    clear hb hblk
    have hne : ¬ (w.heap.size = w1.heap.size) := by omega
    go_wp2
    have hs6 : w.heap.size < (set6 w1 w.heap.size (.int .u8 3) (.string ⟨#[]⟩) (.int .i64 a) (.int .u64 b) (.int .u64 c) (.int .i64 0)).heap.size := Nat.lt_of_lt_of_le hlt (set6_below (Below.refl 0 w1) (Nat.zero_le _) _ _ _ _ _ _).size
    have hg := cells_of6 ((hao _ (.cells #[.int .i64 a, .int .u64 b, .int .u64 c] 66) _ hs6).trans (set6_got HBk.out (.int .u8 3) (.string ⟨#[]⟩) (.int .i64 a) (.int .u64 b) (.int .u64 c) (.int .i64 0)))
    have HBB := hide ((set6_below HW.out (Nat.le_refl _) (.int .u8 3) (.string ⟨#[]⟩) (.int .i64 a) (.int .u64 b) (.int .u64 c) (.int .i64 0)).alloc (by omega) (.cells #[.int .i64 a, .int .u64 b, .int .u64 c] 66))
    unfold set6 at hg
    obtain ⟨⟨q0, q1, q2, q3, q4, q5⟩, _⟩ := hg
    first
      | refine bodyPost_ret (v := .tuple #[wAgg 3 a b c 0 ⟨#[]⟩, .bool true]) (by simp [results, Tryz.results199, go_sem, q0, q1, q2, q3, q4, q5, wAgg]) rfl ⟨true, _, _, _, _, _, HR.out, rfl, HBB.out⟩
      | refine bodyPost_ret (v := .tuple #[wAgg 3 a b c 0 ⟨#[]⟩, .bool false]) (by simp [results, Tryz.results199, go_sem, q0, q1, q2, q3, q4, q5, wAgg]) rfl ⟨false, _, _, _, _, _, HR.out, rfl, HBB.out⟩
set_option maxRecDepth 100000 in
theorem whole_gives (l : List UInt8) (hl : l.length ≤ 1000000) : Gives 198 l (wholeW l) := by
  intro w hL
  have HP : Hid (∀ W, Ld W → _) := fun W h => parseUint_of 10 31 2147483647 pu31_in (.inl rfl) l (by omega) W h
  have HF : Hid (∀ (n : Nat) W, puE 2147483647 l 10 = .ok n → Ld W → Calls Tryz.prog 186 #[.int .u64 (n : Int), .int .i64 10] W fun e w' => e = .returned (.string (txt (Lib.decDigits n))) ∧ Below W.heap.size W w') := fun n W hn h => fmt10 n (puE_lt hn) W h
  have HY : Hid (∀ n, puE 2147483647 l 10 = .ok n → Lib.decDigits n = l → wholeW l = some ⟨2, [], 64, n⟩) := fun n h1 h2 => by unfold wholeW; rw [h1]; simp only; rw [if_pos h2]
  have HNq : Hid (∀ n, puE 2147483647 l 10 = .ok n → ¬ Lib.decDigits n = l → wholeW l = none) := fun n h1 h2 => by unfold wholeW; rw [h1]; simp only; rw [if_neg h2]
  have HNn : Hid ((∀ n, puE 2147483647 l 10 ≠ .ok n) → wholeW l = none) := fun h => by
    unfold wholeW
    cases hp : puE 2147483647 l 10 with
    | ok n => exact absurd hp (h n)
    | error b => cases b <;> rfl
  have HL := hide hL
  clear hL hl
  obtain ⟨T, hT⟩ : ∃ T, T = txt l := ⟨_, rfl⟩
  have HT := hide hT
  rw [← hT] at HP ⊢
  clear hT
  go_enter Tryz.func198, Tryz.ntmps198
  go_wp2_with fail
  refine (HP.out _ (HL.out.below ((Below.refl _ _).alloc (Nat.le_refl _) _))).mono ?_
  rintro e w1 ⟨hb, hpost⟩
  have hblk : w1.heap[w.heap.size]? = some (.cells z6 68 (0, 0)) := (hb.block _ (by simp)).trans (heap_alloc_new w _)
  have HW : Hid (Below w.heap.size w w1) := ((Below.refl _ _).alloc (Nat.le_refl _) _).trans (hb.mono (by simp))
  have hlt : w.heap.size < w1.heap.size := by have := hb.size; simp at this; omega
  clear hb
  rcases hpost with ⟨n, hn, rfl⟩ | ⟨hno, x, v, ⟨te, pe, rfl⟩, rfl⟩
  · have HFn : Hid (∀ W, Ld W → _) := fun W h => HF.out n W hn h
    have hn32 := puE_lt hn
    by_cases hd : Lib.decDigits n = l
    · have HR : Hid (WR (wholeW l) true 2 64 0 (n : Int) ⟨#[]⟩) := .inl ⟨rfl, _, HY.out n hn hd, rfl, rfl, rfl, by show (0 : Int) = wHi n; have := puE_lt31 hn; unfold wHi; omega, by show (n : Int) = wLo n; have := puE_lt31 hn; unfold wLo; omega⟩
      rw [hd, ← HT.out] at HFn
      clear hn hd hn32 HY HNq HNn HF
      go_wp2_with fail
      refine (HFn.out _ (HL.out.below HW.out)).mono ?_
      rintro e w2 ⟨rfl, hb⟩
      have hblk2 := (hb.block _ hlt).trans hblk
      have HW2 := hide (HW.out.trans (hb.mono HW.out.size))
      obtain ⟨⟨k0, k1, k2, k3, k4, k5⟩, f0, f1, f2, f3, f4, f5⟩ := cells_of6 hblk2
      have HBk := hide hblk2
      clear hb hblk hblk2
      go_wp2
      have hg := cells_of6 (set6_got HBk.out (.int .u8 2) (.string ⟨#[]⟩) (.int .i64 64) (.int .u64 0) (.int .u64 (n : Int)) (.int .i64 0))
      unfold set6 at hg
      obtain ⟨⟨q0, q1, q2, q3, q4, q5⟩, _⟩ := hg
      refine bodyPost_ret (v := .tuple #[wAgg 2 64 0 (n : Int) 0 ⟨#[]⟩, .bool true]) (by simp [results, Tryz.results198, go_sem, q0, q1, q2, q3, q4, q5, wAgg]) rfl ⟨true, _, _, _, _, _, HR.out, rfl, set6_below HW2.out (Nat.le_refl _) _ _ _ _ _ _⟩
    · have HR : Hid (WR (wholeW l) false 2 64 0 (n : Int) ⟨#[]⟩) := .inr ⟨rfl, HNq.out n hn hd⟩
      have hne9 : ((txt (Lib.decDigits n)).toList == T.toList) = false := by rw [HT.out]; exact txt_ne hd
      generalize txt (Lib.decDigits n) = R at *
      clear hn hd hn32 HY HNq HNn HF
      go_wp2_with fail
      refine (HFn.out _ (HL.out.below HW.out)).mono ?_
      rintro e w2 ⟨rfl, hb⟩
      have hblk2 := (hb.block _ hlt).trans hblk
      have HW2 := hide (HW.out.trans (hb.mono HW.out.size))
      obtain ⟨⟨k0, k1, k2, k3, k4, k5⟩, f0, f1, f2, f3, f4, f5⟩ := cells_of6 hblk2
      have HBk := hide hblk2
      clear hb hblk hblk2
      go_wp2
      have hg := cells_of6 (set6_got HBk.out (.int .u8 2) (.string ⟨#[]⟩) (.int .i64 64) (.int .u64 0) (.int .u64 (n : Int)) (.int .i64 0))
      unfold set6 at hg
      obtain ⟨⟨q0, q1, q2, q3, q4, q5⟩, _⟩ := hg
      refine bodyPost_ret (v := .tuple #[wAgg 2 64 0 (n : Int) 0 ⟨#[]⟩, .bool false]) (by simp [results, Tryz.results198, go_sem, q0, q1, q2, q3, q4, q5, wAgg]) rfl ⟨false, _, _, _, _, _, HR.out, rfl, set6_below HW2.out (Nat.le_refl _) _ _ _ _ _ _⟩
  · have HR : Hid (WR (wholeW l) false 2 64 0 x ⟨#[]⟩) := .inr ⟨rfl, HNn.out hno⟩
    clear hno HY HNq HNn HF
    obtain ⟨⟨k0, k1, k2, k3, k4, k5⟩, f0, f1, f2, f3, f4, f5⟩ := cells_of6 hblk
    have HBk := hide hblk
    clear hblk
    go_wp2
    have hg := cells_of6 (set6_got HBk.out (.int .u8 2) (.string ⟨#[]⟩) (.int .i64 64) (.int .u64 0) (.int .u64 x) (.int .i64 0))
    unfold set6 at hg
    obtain ⟨⟨q0, q1, q2, q3, q4, q5⟩, _⟩ := hg
    refine bodyPost_ret (v := .tuple #[wAgg 2 64 0 x 0 ⟨#[]⟩, .bool false]) (by simp [results, Tryz.results198, go_sem, q0, q1, q2, q3, q4, q5, wAgg]) rfl ⟨false, _, _, _, _, _, HR.out, rfl, set6_below HW.out (Nat.le_refl _) _ _ _ _ _ _⟩
end Go.Proofs.YtfanhdjebmdniaaGreatDoor
