/- Pieces of the proof: LG, LH, LA, OwnB, Fr. -/
import Derived.Test.YtcfopkaomknmjaaGreatDoorM4
import Derived.Laws.RangeAny
import Derived.Test.YtcfopkaomknmjaaGreatDoorM3
import Derived.Maps.AppendAt
import Derived.Laws.AppendOwnNone
/- Words: of a sign, a name, a whole number, a number. -/
namespace Go.Proofs.YtcfopkaomknmjaaGreatDoor
open Go.RowKit

/- a word, without its line. -/
structure Wd where
  k : Nat
  s : List UInt8
  w : Nat
  v : Nat
/- what a reader of a word gives: the word's cells, and whether it is one. -/
def WR (o : Option Wd) (ok : Bool) (a b c d : Int) (S : ByteArray) : Prop := (ok = true ∧ ∃ x : Wd, o = some x ∧ a = (x.k : Int) ∧ S = txt x.s ∧ b = (x.w : Int) ∧ c = wHi x.v ∧ d = wLo x.v) ∨ (ok = false ∧ o = none)
def wAgg (a b c d n : Int) (S : ByteArray) : Value := .agg #[.int .u8 a, .string S, .int .i64 b, .int .u64 c, .int .u64 d, .int .i64 n]
def Gives (f : Nat) (l : List UInt8) (o : Option Wd) : Prop := ∀ W, Ld W → Calls Tryz.prog f #[.string (txt l)] W fun e w' => ∃ ok a b c d S, WR o ok a b c d S ∧ e = .returned (.tuple #[wAgg a b c d 0 S, .bool ok]) ∧ Below W.heap.size W w'
theorem clone_any (T : ByteArray) (h : T.size ≤ 281474976710656) (w : World) : Calls Tryz.prog 124 #[.string T] w fun e w' => e = .returned (.string T) ∧ Below w.heap.size w w' := by
  have HC := hide (Tryz.stringslite_Clone T w h)
  clear h
  go_enter Tryz.func124, Tryz.ntmps124
  go_wp2_with fail
  refine HC.out.mono ?_
  rintro e w1 ⟨rfl, hb⟩
  have HB := hide hb
  clear hb
  go_wp2
  go_ret
  exact ⟨rfl, HB.out⟩
theorem cells_of6 {W : World} {b : Nat} {x0 x1 x2 x3 x4 x5 : Value} {t : TypeId} (h : W.heap[b]? = some (.cells #[x0, x1, x2, x3, x4, x5] t (0, 0))) :
    (W.cell? ⟨b, 0, none⟩ = some x0 ∧ W.cell? ⟨b, 1, none⟩ = some x1 ∧ W.cell? ⟨b, 2, none⟩ = some x2 ∧ W.cell? ⟨b, 3, none⟩ = some x3 ∧ W.cell? ⟨b, 4, none⟩ = some x4 ∧ W.cell? ⟨b, 5, none⟩ = some x5) ∧ (W.frozen? ⟨b, 0, none⟩ = false ∧ W.frozen? ⟨b, 1, none⟩ = false ∧ W.frozen? ⟨b, 2, none⟩ = false ∧ W.frozen? ⟨b, 3, none⟩ = false ∧ W.frozen? ⟨b, 4, none⟩ = false ∧ W.frozen? ⟨b, 5, none⟩ = false) := by
  refine ⟨⟨?_, ?_, ?_, ?_, ?_, ?_⟩, ?_, ?_, ?_, ?_, ?_, ?_⟩ <;> simp [World.cell?, World.frozen?, h]
/- six cells written. -/
def set6 (W : World) (b : Nat) (x0 x1 x2 x3 x4 x5 : Value) : World := (((((W.setCell ⟨b, 0, none⟩ x0).setCell ⟨b, 1, none⟩ x1).setCell ⟨b, 2, none⟩ x2).setCell ⟨b, 3, none⟩ x3).setCell ⟨b, 4, none⟩ x4).setCell ⟨b, 5, none⟩ x5
theorem set6_got {W : World} {b : Nat} {t : TypeId} {y0 y1 y2 y3 y4 y5 : Value} (h : W.heap[b]? = some (.cells #[y0, y1, y2, y3, y4, y5] t (0, 0))) (x0 x1 x2 x3 x4 x5 : Value) :
    (set6 W b x0 x1 x2 x3 x4 x5).heap[b]? = some (.cells #[x0, x1, x2, x3, x4, x5] t (0, 0)) := by
  have hl := (Array.getElem?_eq_some_iff.1 h).1
  simp [set6, World.setCell, Array.getElem?_modify, h]
theorem set6_below {W w : World} {B b : Nat} (h : Below B w W) (hb : B ≤ b) (x0 x1 x2 x3 x4 x5 : Value) : Below B w (set6 W b x0 x1 x2 x3 x4 x5) :=
  (((((h.setCell (p := ⟨b, 0, none⟩) hb x0).setCell (p := ⟨b, 1, none⟩) hb x1).setCell (p := ⟨b, 2, none⟩) hb x2).setCell (p := ⟨b, 3, none⟩) hb x3).setCell (p := ⟨b, 4, none⟩) hb x4).setCell (p := ⟨b, 5, none⟩) hb x5
theorem wz0 : wHi 0 = 0 ∧ wLo 0 = 0 := by unfold wHi wLo; omega
def z6 : Array Value := #[.int .u8 0, .string ⟨#[]⟩, .int .i64 0, .int .u64 0, .int .u64 0, .int .i64 0]
def signW (l : List UInt8) : Option Wd := if l = [] then none else some ⟨4, l, 0, 0⟩
def nameW (l : List UInt8) : Option Wd := if l.length ≤ 255 then some ⟨1, l, 0, 0⟩ else none
set_option maxRecDepth 100000 in
theorem sign_gives (l : List UInt8) (hl : l.length ≤ 1000000) : Gives 78 l (signW l) := by
  intro w _
  have HC := hide (clone_any (txt l) (by rw [txt_size]; omega))
  have HR : Hid (WR (signW l) (!(txt l).toList.isEmpty) 4 0 0 0 (txt l)) := by
    unfold Hid signW
    rw [Lib.toList_data, txt_data]
    cases l with
    | nil => exact .inr ⟨rfl, rfl⟩
    | cons c l => exact .inl ⟨rfl, ⟨4, c :: l, 0, 0⟩, by simp, rfl, rfl, rfl, wz0.1.symm, wz0.2.symm⟩
  generalize txt l = T at *
  go_enter Tryz.func78, Tryz.ntmps78
  go_wp2_with fail
  refine (HC.out _).mono ?_
  rintro e w1 ⟨rfl, hb⟩
  have hblk : w1.heap[w.heap.size]? = some (.cells z6 37 (0, 0)) := (hb.block _ (by simp)).trans (heap_alloc_new w _)
  have HW : Hid (Below w.heap.size w w1) := ((Below.refl _ _).alloc (Nat.le_refl _) _).trans (hb.mono (by simp))
  obtain ⟨⟨k0, k1, k2, k3, k4, k5⟩, f0, f1, f2, f3, f4, f5⟩ := cells_of6 hblk
  have HBk := hide hblk
  clear hb hblk
  go_wp2
  have hg := cells_of6 (set6_got HBk.out (.int .u8 4) (.string T) (.int .i64 0) (.int .u64 0) (.int .u64 0) (.int .i64 0))
  unfold set6 at hg
  obtain ⟨⟨q0, q1, q2, q3, q4, q5⟩, _⟩ := hg
  refine bodyPost_ret (v := .tuple #[wAgg 4 0 0 0 0 T, .bool (!T.toList.isEmpty)]) (by simp [results, Tryz.results78, go_sem, q0, q1, q2, q3, q4, q5, wAgg]) rfl ⟨_, _, _, _, _, _, HR.out, rfl, set6_below HW.out (Nat.le_refl _) _ _ _ _ _ _⟩
set_option maxRecDepth 100000 in
theorem name_gives (l : List UInt8) (hl : l.length ≤ 1000000) : Gives 81 l (nameW l) := by
  intro w _
  have HC := hide (clone_any (txt l) (by rw [txt_size]; omega))
  have hsz := txt_size l
  have HR : Hid (WR (nameW l) (decide (((txt l).size : Int) ≤ 255)) 1 0 0 0 (txt l)) := by
    unfold Hid nameW
    rw [hsz]
    by_cases h : l.length ≤ 255
    · rw [if_pos h, decide_eq_true (by omega)]
      exact .inl ⟨rfl, ⟨1, l, 0, 0⟩, rfl, rfl, rfl, rfl, wz0.1.symm, wz0.2.symm⟩
    · rw [if_neg h, decide_eq_false (by omega)]
      exact .inr ⟨rfl, rfl⟩
  have hTm : (txt l).size ≤ 1000000 := by omega
  clear hsz hl
  generalize txt l = T at *
  by_cases hle : ((T.size : Nat) : Int) ≤ 255
  · have hd : decide (((T.size : Nat) : Int) ≤ 255) = true := decide_eq_true hle
    rw [hd] at HR
    clear hd
    go_enter Tryz.func81, Tryz.ntmps81
    go_wp2_with fail
    refine (HC.out _).mono ?_
    rintro e w1 ⟨rfl, hb⟩
    have hblk : w1.heap[w.heap.size]? = some (.cells z6 37 (0, 0)) := (hb.block _ (by simp)).trans (heap_alloc_new w _)
    have HW : Hid (Below w.heap.size w w1) := ((Below.refl _ _).alloc (Nat.le_refl _) _).trans (hb.mono (by simp))
    obtain ⟨⟨k0, k1, k2, k3, k4, k5⟩, f0, f1, f2, f3, f4, f5⟩ := cells_of6 hblk
    have HBk := hide hblk
    clear hb hblk
    go_wp2
    have hg := cells_of6 (set6_got HBk.out (.int .u8 1) (.string T) (.int .i64 0) (.int .u64 0) (.int .u64 0) (.int .i64 0))
    unfold set6 at hg
    obtain ⟨⟨q0, q1, q2, q3, q4, q5⟩, _⟩ := hg
    refine bodyPost_ret (v := .tuple #[wAgg 1 0 0 0 0 T, .bool true]) (by simp [results, Tryz.results81, go_sem, q0, q1, q2, q3, q4, q5, wAgg]) rfl ⟨_, _, _, _, _, _, HR.out, rfl, set6_below HW.out (Nat.le_refl _) _ _ _ _ _ _⟩
  · have hd : decide (((T.size : Nat) : Int) ≤ 255) = false := decide_eq_false hle
    rw [hd] at HR
    clear hd
    go_enter Tryz.func81, Tryz.ntmps81
    go_wp2_with fail
    refine (HC.out _).mono ?_
    rintro e w1 ⟨rfl, hb⟩
    have hblk : w1.heap[w.heap.size]? = some (.cells z6 37 (0, 0)) := (hb.block _ (by simp)).trans (heap_alloc_new w _)
    have HW : Hid (Below w.heap.size w w1) := ((Below.refl _ _).alloc (Nat.le_refl _) _).trans (hb.mono (by simp))
    obtain ⟨⟨k0, k1, k2, k3, k4, k5⟩, f0, f1, f2, f3, f4, f5⟩ := cells_of6 hblk
    have HBk := hide hblk
    clear hb hblk
    go_wp2
    have hg := cells_of6 (set6_got HBk.out (.int .u8 1) (.string T) (.int .i64 0) (.int .u64 0) (.int .u64 0) (.int .i64 0))
    unfold set6 at hg
    obtain ⟨⟨q0, q1, q2, q3, q4, q5⟩, _⟩ := hg
    refine bodyPost_ret (v := .tuple #[wAgg 1 0 0 0 0 T, .bool false]) (by simp [results, Tryz.results81, go_sem, q0, q1, q2, q3, q4, q5, wAgg] <;> omega) rfl ⟨_, _, _, _, _, _, HR.out, rfl, set6_below HW.out (Nat.le_refl _) _ _ _ _ _ _⟩
end Go.Proofs.YtcfopkaomknmjaaGreatDoor
/- Words: of a number, and of a whole number. -/
namespace Go.Proofs.YtcfopkaomknmjaaGreatDoor
open Go.RowKit

def numW (l : List UInt8) : Option Wd := match prs l with | some (n, v) => some ⟨3, [], n, v⟩ | none => none
def wholeW (l : List UInt8) : Option Wd := match puE 2147483647 l 10 with | .ok n => if Lib.decDigits n = l then some ⟨2, [], 64, n⟩ else none | _ => none
theorem pu_mx (b mx : Nat) : ∀ (l : List UInt8) (acc n : Nat), acc ≤ mx → pu b mx acc l = .ok n → n ≤ mx
  | [], acc, n, ha, h => by simp [pu] at h; omega
  | c :: l, acc, n, ha, h => by
    simp only [pu] at h
    split at h
    · cases h
    · split at h
      · cases h
      · exact pu_mx b mx l _ _ (by omega) h
theorem puE_lt31 {l : List UInt8} {n : Nat} (h : puE 2147483647 l 10 = .ok n) : n ≤ 2147483647 := by
  cases l with
  | nil => cases h
  | cons c l => exact pu_mx _ _ _ _ _ (Nat.zero_le _) h
theorem puE_lt {l : List UInt8} {n : Nat} (h : puE 2147483647 l 10 = .ok n) : n < 18446744073709551616 := by have := puE_lt31 h; omega
theorem prsV_cases (p : Option (Nat × Nat)) : ∃ a b c e : Int, prsV p = .tuple #[.agg #[.int .i64 a, .int .u64 b, .int .u64 c], .int .i64 e] ∧ ((∃ n v, p = some (n, v) ∧ a = (n : Int) ∧ b = wHi v ∧ c = wLo v ∧ e = 0) ∨ (p = none ∧ e = 8)) := by
  cases p with
  | none => exact ⟨0, 0, 0, 8, rfl, .inr ⟨rfl, rfl⟩⟩
  | some p => exact ⟨_, _, _, 0, rfl, .inl ⟨p.1, p.2, rfl, rfl, rfl, rfl, rfl⟩⟩
set_option maxRecDepth 100000 in
theorem num_gives (l : List UInt8) (hl : l.length ≤ 1000000) : Gives 84 l (numW l) := by
  intro w hL
  obtain ⟨a, b, c, e, he, hcase⟩ := prsV_cases (prs l)
  have HP : Hid (∀ W, Ld W → _) := fun W h => parse_any l (by omega) W h
  rw [he] at HP
  have HR : Hid (WR (numW l) (decide (e = 0)) 3 a b c ⟨#[]⟩) := by
    unfold Hid numW
    rcases hcase with ⟨n, v, h1, h2, h3, h4, h5⟩ | ⟨h1, h2⟩
    · rw [h1, h5]; exact .inl ⟨by decide, ⟨3, [], n, v⟩, rfl, rfl, rfl, h2, h3, h4⟩
    · rw [h1, h2]; exact .inr ⟨by decide, rfl⟩
  have h08 : e = 0 ∨ e = 8 := by rcases hcase with ⟨_, _, _, _, _, _, h⟩ | ⟨_, h⟩; · exact .inl h
                                 · exact .inr h
  have HL := hide hL
  clear hL hcase he hl
  generalize txt l = T at *
  rcases h08 with rfl | rfl
  all_goals
    go_enter Tryz.func84, Tryz.ntmps84
    go_wp2_with fail
    refine (HP.out _ (HL.out.below ((Below.refl _ _).alloc (Nat.le_refl _) _))).mono ?_
    rintro e w1 ⟨rfl, hb⟩
    have hblk : w1.heap[w.heap.size]? = some (.cells z6 37 (0, 0)) := (hb.block _ (by simp)).trans (heap_alloc_new w _)
    have HW : Hid (Below w.heap.size w w1) := ((Below.refl _ _).alloc (Nat.le_refl _) _).trans (hb.mono (by simp))
    have hlt : w.heap.size < w1.heap.size := by have := hb.size; simp at this; omega
    obtain ⟨⟨k0, k1, k2, k3, k4, k5⟩, f0, f1, f2, f3, f4, f5⟩ := cells_of6 hblk
    have HBk := hide hblk
    clear hb hblk
    have hne : ¬ (w.heap.size = w1.heap.size) := by omega
    go_wp2
    have hs6 : w.heap.size < (set6 w1 w.heap.size (.int .u8 3) (.string ⟨#[]⟩) (.int .i64 a) (.int .u64 b) (.int .u64 c) (.int .i64 0)).heap.size := Nat.lt_of_lt_of_le hlt (set6_below (Below.refl 0 w1) (Nat.zero_le _) _ _ _ _ _ _).size
    have hg := cells_of6 ((hao _ (.cells #[.int .i64 a, .int .u64 b, .int .u64 c] 35) _ hs6).trans (set6_got HBk.out (.int .u8 3) (.string ⟨#[]⟩) (.int .i64 a) (.int .u64 b) (.int .u64 c) (.int .i64 0)))
    have HBB := hide ((set6_below HW.out (Nat.le_refl _) (.int .u8 3) (.string ⟨#[]⟩) (.int .i64 a) (.int .u64 b) (.int .u64 c) (.int .i64 0)).alloc (by omega) (.cells #[.int .i64 a, .int .u64 b, .int .u64 c] 35))
    unfold set6 at hg
    obtain ⟨⟨q0, q1, q2, q3, q4, q5⟩, _⟩ := hg
    first
      | refine bodyPost_ret (v := .tuple #[wAgg 3 a b c 0 ⟨#[]⟩, .bool true]) (by simp [results, Tryz.results84, go_sem, q0, q1, q2, q3, q4, q5, wAgg]) rfl ⟨true, _, _, _, _, _, HR.out, rfl, HBB.out⟩
      | refine bodyPost_ret (v := .tuple #[wAgg 3 a b c 0 ⟨#[]⟩, .bool false]) (by simp [results, Tryz.results84, go_sem, q0, q1, q2, q3, q4, q5, wAgg]) rfl ⟨false, _, _, _, _, _, HR.out, rfl, HBB.out⟩
set_option maxRecDepth 100000 in
theorem whole_gives (l : List UInt8) (hl : l.length ≤ 1000000) : Gives 83 l (wholeW l) := by
  intro w hL
  have HP : Hid (∀ W, Ld W → _) := fun W h => parseUint_of 10 31 2147483647 pu31_in (.inl rfl) l (by omega) W h
  have HF : Hid (∀ (n : Nat) W, puE 2147483647 l 10 = .ok n → Ld W → Calls Tryz.prog 88 #[.int .u64 (n : Int), .int .i64 10] W fun e w' => e = .returned (.string (txt (Lib.decDigits n))) ∧ Below W.heap.size W w') := fun n W hn h => fmt10 n (puE_lt hn) W h
  have HY : Hid (∀ n, puE 2147483647 l 10 = .ok n → Lib.decDigits n = l → wholeW l = some ⟨2, [], 64, n⟩) := fun n h1 h2 => by unfold wholeW; rw [h1]; simp only; rw [if_pos h2]
  have HNq : Hid (∀ n, puE 2147483647 l 10 = .ok n → ¬ Lib.decDigits n = l → wholeW l = none) := fun n h1 h2 => by unfold wholeW; rw [h1]; simp only; rw [if_neg h2]
  have HNn : Hid ((∀ n, puE 2147483647 l 10 ≠ .ok n) → wholeW l = none) := fun h => by
    unfold wholeW
    cases hp : puE 2147483647 l 10 with
    | ok n => exact absurd hp (h n)
    | error b => cases b <;> rfl
  have HL := hide hL
  clear hL hl
  obtain ⟨T, hT⟩ : ∃ T, T = txt l := ⟨_, rfl⟩
  have HT := hide hT
  rw [← hT] at HP ⊢
  clear hT
  go_enter Tryz.func83, Tryz.ntmps83
  go_wp2_with fail
  refine (HP.out _ (HL.out.below ((Below.refl _ _).alloc (Nat.le_refl _) _))).mono ?_
  rintro e w1 ⟨hb, hpost⟩
  have hblk : w1.heap[w.heap.size]? = some (.cells z6 37 (0, 0)) := (hb.block _ (by simp)).trans (heap_alloc_new w _)
  have HW : Hid (Below w.heap.size w w1) := ((Below.refl _ _).alloc (Nat.le_refl _) _).trans (hb.mono (by simp))
  have hlt : w.heap.size < w1.heap.size := by have := hb.size; simp at this; omega
  clear hb
  rcases hpost with ⟨n, hn, rfl⟩ | ⟨hno, x, v, ⟨te, pe, rfl⟩, rfl⟩
  · have HFn : Hid (∀ W, Ld W → _) := fun W h => HF.out n W hn h
    have hn32 := puE_lt hn
    by_cases hd : Lib.decDigits n = l
    · have HR : Hid (WR (wholeW l) true 2 64 0 (n : Int) ⟨#[]⟩) := .inl ⟨rfl, _, HY.out n hn hd, rfl, rfl, rfl, by show (0 : Int) = wHi n; have := puE_lt31 hn; unfold wHi; omega, by show (n : Int) = wLo n; have := puE_lt31 hn; unfold wLo; omega⟩
      rw [hd, ← HT.out] at HFn
      clear hn hd hn32 HY HNq HNn HF
      go_wp2_with fail
      refine (HFn.out _ (HL.out.below HW.out)).mono ?_
      rintro e w2 ⟨rfl, hb⟩
      have hblk2 := (hb.block _ hlt).trans hblk
      have HW2 := hide (HW.out.trans (hb.mono HW.out.size))
      obtain ⟨⟨k0, k1, k2, k3, k4, k5⟩, f0, f1, f2, f3, f4, f5⟩ := cells_of6 hblk2
      have HBk := hide hblk2
      clear hb hblk hblk2
      go_wp2
      have hg := cells_of6 (set6_got HBk.out (.int .u8 2) (.string ⟨#[]⟩) (.int .i64 64) (.int .u64 0) (.int .u64 (n : Int)) (.int .i64 0))
      unfold set6 at hg
      obtain ⟨⟨q0, q1, q2, q3, q4, q5⟩, _⟩ := hg
      refine bodyPost_ret (v := .tuple #[wAgg 2 64 0 (n : Int) 0 ⟨#[]⟩, .bool true]) (by simp [results, Tryz.results83, go_sem, q0, q1, q2, q3, q4, q5, wAgg]) rfl ⟨true, _, _, _, _, _, HR.out, rfl, set6_below HW2.out (Nat.le_refl _) _ _ _ _ _ _⟩
    · have HR : Hid (WR (wholeW l) false 2 64 0 (n : Int) ⟨#[]⟩) := .inr ⟨rfl, HNq.out n hn hd⟩
      have hne9 : ((txt (Lib.decDigits n)).toList == T.toList) = false := by rw [HT.out]; exact txt_ne hd
      generalize txt (Lib.decDigits n) = R at *
      clear hn hd hn32 HY HNq HNn HF
      go_wp2_with fail
      refine (HFn.out _ (HL.out.below HW.out)).mono ?_
      rintro e w2 ⟨rfl, hb⟩
      have hblk2 := (hb.block _ hlt).trans hblk
      have HW2 := hide (HW.out.trans (hb.mono HW.out.size))
      obtain ⟨⟨k0, k1, k2, k3, k4, k5⟩, f0, f1, f2, f3, f4, f5⟩ := cells_of6 hblk2
      have HBk := hide hblk2
      clear hb hblk hblk2
      go_wp2
      have hg := cells_of6 (set6_got HBk.out (.int .u8 2) (.string ⟨#[]⟩) (.int .i64 64) (.int .u64 0) (.int .u64 (n : Int)) (.int .i64 0))
      unfold set6 at hg
      obtain ⟨⟨q0, q1, q2, q3, q4, q5⟩, _⟩ := hg
      refine bodyPost_ret (v := .tuple #[wAgg 2 64 0 (n : Int) 0 ⟨#[]⟩, .bool false]) (by simp [results, Tryz.results83, go_sem, q0, q1, q2, q3, q4, q5, wAgg]) rfl ⟨false, _, _, _, _, _, HR.out, rfl, set6_below HW2.out (Nat.le_refl _) _ _ _ _ _ _⟩
  · have HR : Hid (WR (wholeW l) false 2 64 0 x ⟨#[]⟩) := .inr ⟨rfl, HNn.out hno⟩
    clear hno HY HNq HNn HF
    obtain ⟨⟨k0, k1, k2, k3, k4, k5⟩, f0, f1, f2, f3, f4, f5⟩ := cells_of6 hblk
    have HBk := hide hblk
    clear hblk
    go_wp2
    have hg := cells_of6 (set6_got HBk.out (.int .u8 2) (.string ⟨#[]⟩) (.int .i64 64) (.int .u64 0) (.int .u64 x) (.int .i64 0))
    unfold set6 at hg
    obtain ⟨⟨q0, q1, q2, q3, q4, q5⟩, _⟩ := hg
    refine bodyPost_ret (v := .tuple #[wAgg 2 64 0 x 0 ⟨#[]⟩, .bool false]) (by simp [results, Tryz.results83, go_sem, q0, q1, q2, q3, q4, q5, wAgg]) rfl ⟨false, _, _, _, _, _, HR.out, rfl, set6_below HW.out (Nat.le_refl _) _ _ _ _ _ _⟩
end Go.Proofs.YtcfopkaomknmjaaGreatDoor
/- Lines of a text: lex.linesIn counts bytes 10. -/
namespace Go.Proofs.YtcfopkaomknmjaaGreatDoor
open Go.RowKit

def c10 (l : List UInt8) : Nat := l.count 10
theorem c10_app (a b : List UInt8) : c10 (a ++ b) = c10 a + c10 b := by simp [c10]
theorem c10_nil : c10 [] = 0 := rfl
theorem c10_le (l : List UInt8) : c10 l ≤ l.length := List.count_le_length
/- what a rune that is no byte below 128 eats has no byte 10. -/
theorem dec_eats (s : ByteArray) (pos : Nat) (h : pos < s.size) (ha : 128 ≤ (s[pos]'h).toNat) : pos + (Utf8.decode s pos).2 ≤ s.size ∧ ∀ j, pos ≤ j → j < pos + (Utf8.decode s pos).2 → 128 ≤ (s.get! j).toNat := by
  have e0 : s.get! pos = s[pos]'h := get_at s pos h
  have hn : ¬ (s[pos]'h).toNat < 128 := by omega
  have one : pos + 1 ≤ s.size ∧ ∀ j, pos ≤ j → j < pos + 1 → 128 ≤ (s.get! j).toNat := ⟨by omega, fun j h1 h2 => by
    obtain rfl : j = pos := by omega
    rw [e0]; exact ha⟩
  simp only [Utf8.decode, get_at s pos h, hn, if_false]
  split
  · rename_i h2
    simp at h2
    split
    · refine ⟨by show pos + 2 ≤ _; omega, fun j h1 h3 => ?_⟩
      have h3' : j < pos + 2 := h3
      rcases (by omega : j = pos ∨ j = pos + 1) with rfl | rfl
      · rw [e0]; exact ha
      · have := h2.2.2; omega
    · exact one
  · split
    · rename_i h2
      simp at h2
      split
      · refine ⟨by show pos + 3 ≤ _; omega, fun j h1 h3 => ?_⟩
        have h3' : j < pos + 3 := h3
        rcases (by omega : j = pos ∨ j = pos + 1 ∨ j = pos + 2) with rfl | rfl | rfl
        · rw [e0]; exact ha
        · have := h2.1.2.2; omega
        · have := h2.2.2; omega
      · exact one
    · split
      · rename_i h2
        simp at h2
        split
        · refine ⟨by show pos + 4 ≤ _; omega, fun j h1 h3 => ?_⟩
          have h3' : j < pos + 4 := h3
          rcases (by omega : j = pos ∨ j = pos + 1 ∨ j = pos + 2 ∨ j = pos + 3) with rfl | rfl | rfl | rfl
          · rw [e0]; exact ha
          · have := h2.1.1.2.2; omega
          · have := h2.1.2.2; omega
          · have := h2.2.2; omega
        · exact one
      · exact one
theorem txt_getB (l : List UInt8) (j : Nat) (h : j < l.length) : (txt l).get! j = l[j] := by
  have h' : j < (txt l).size := by rw [txt_size]; exact h
  have := get_at (txt l) j h'
  rw [Nat.add_zero] at this
  rw [this]
  simp [txt, ByteArray.getElem_eq_getElem_data]
theorem c10_high {l : List UInt8} {p k : Nat} (hk : p + k ≤ l.length) (h : ∀ j (hj : j < l.length), p ≤ j → j < p + k → 128 ≤ (l[j]).toNat) : c10 (l.take (p + k)) = c10 (l.take p) := by
  induction k with
  | zero => rfl
  | succ k ih =>
    have hb := h (p + k) (by omega) (by omega) (by omega)
    have h0 : l[p + k] ≠ 10 := fun e => by rw [e] at hb; exact absurd hb (by decide)
    have hlt : p + k < l.length := by omega
    have e1 : l.take (p + (k + 1)) = l.take (p + k) ++ [l[p + k]] := List.take_succ_eq_append_getElem hlt
    rw [e1, c10_app, ih (by omega) (fun j hj h1 h2 => h j hj h1 (by omega))]
    simp [c10, h0]
set_option maxRecDepth 100000 in
theorem linesIn_any (l : List UInt8) (hl : l.length ≤ 1000000) (w : World) :
    Calls Tryz.prog 122 #[.string (txt l)] w fun e w' => e = .returned (.int .i64 ((c10 l : Nat) : Int)) ∧ Below w.heap.size w w' := by
  obtain ⟨T, hT⟩ : ∃ T, T = txt l := ⟨_, rfl⟩
  have hsz : T.size = l.length := by rw [hT, txt_size]
  have HZ := hide hsz
  have HG : Hid (∀ (k : Nat) (h : k < T.size) (h' : k < l.length), T[k] = l[k]) := fun k h h' => by subst hT; simp [txt, ByteArray.getElem_eq_getElem_data]
  have HG2 : Hid (∀ (k : Nat) (h' : k < l.length), T.get! k = l[k]) := fun k h' => by subst hT; exact txt_getB l k h'
  rw [← hT]
  have hTl : T.size ≤ 1000000 := by omega
  clear hT hl hsz
  go_enter Tryz.func122, Tryz.ntmps122
  go_wp2
  go_loopw [3] (fun vn wr => ∃ (p n : Nat), wr = w.iter T p ∧ vn = .int .i64 (n : Int) ∧ p ≤ T.size ∧ n ≤ p ∧ Hid (n = c10 (l.take p))) (fun _ wr => T.size - wr.iterPos w.heap.size)
  case atStart => exact ⟨0, 0, rfl, rfl, by omega, by omega, by simp [Hid, c10]⟩
  case round =>
    obtain ⟨p, n, rfl, rfl, hp, hnp, HN⟩ := hrel
    by_cases hlt : p < T.size
    · have hltl : p < l.length := by rw [← HZ.out]; exact hlt
      have hcg := HG.out p hlt hltl
      rcases Nat.lt_or_ge (T[p]).toNat 128 with ha | ha
      · have hnx := fun ty => run_next_ascii (P := Tryz.prog) w T p ty hlt ha
        have HS : Hid (∀ m : Nat, m = c10 [l[p]] → n + m = c10 (l.take (p + 1))) := fun m hm => by rw [List.take_succ_eq_append_getElem hltl, c10_app, ← HN.out, hm]
        by_cases h10 : (T[p]).toNat = 10
        · have h10i : (((T[p]).toNat : Nat) : Int) = 10 := by omega
          have HE : Hid (n + 1 = c10 (l.take (p + 1))) := HS.out 1 (by rw [← hcg]; have : T[p] = 10 := UInt8.toNat_inj.1 h10; rw [this]; rfl)
          clear HS HN hcg
          go_wp2
          go_roundw
          case rel => exact ⟨p + 1, n + 1, rfl, by congr 1, by omega, by omega, HE⟩
          case measure => simp; omega
        · have h10i : ¬ ((((T[p]).toNat : Nat) : Int) = 10) := by omega
          have HE : Hid (n = c10 (l.take (p + 1))) := HS.out 0 (by rw [← hcg]; have : ¬ T[p] = 10 := fun e => h10 (by rw [e]; rfl); simp [c10, this])
          clear HS HN hcg
          go_wp2
          go_roundw
          case rel => exact ⟨p + 1, n, rfl, rfl, by omega, by omega, HE⟩
          case measure => simp; omega
      · have hnx := fun ty => run_next_any (P := Tryz.prog) w T p ty hlt
        have hh := decode_high T p hlt ha
        have hd := dec_eats T p hlt ha
        have HE : Hid (n = c10 (l.take (p + (Utf8.decode T p).2))) := by
          unfold Hid
          rw [c10_high (by rw [← HZ.out]; exact hd.1) (fun j hj h1 h2 => by rw [← HG2.out j hj]; exact hd.2 j h1 h2), ← HN.out]
        have hr : ¬ ((((Utf8.decode T p).1 : Nat) : Int) = 10) := by omega
        have h1 := hd.1
        have h2 := hh.2
        clear hd hh HN hcg
        generalize (Utf8.decode T p).2 = k at *
        generalize (Utf8.decode T p).1 = r at *
        go_wp2
        go_roundw
        case rel => exact ⟨p + k, n, rfl, rfl, by omega, by omega, HE⟩
        case measure => simp; omega
    · have hnx := fun ty => run_next_end (P := Tryz.prog) w T p ty hlt
      have HE : Hid (n = c10 l) := by unfold Hid; rw [HN.out, List.take_of_length_le (by rw [← HZ.out]; omega)]
      clear HN
      go_wp2
      go_ret
      exact ⟨by rw [← HE.out]; rfl, (Below.refl _ _).alloc (Nat.le_refl _) _⟩
end Go.Proofs.YtcfopkaomknmjaaGreatDoor
/- Bytes of one's own: appended to, written, read. -/
namespace Go.Proofs.YtcfopkaomknmjaaGreatDoor
open Go.RowKit

theorem Tryz.info8 : (Tryz.prog.info? 5).map (fun i => (i.zero, i.size, i.bytes)) = some (some (.int .u8 0), 1, 1) := by kernel_rfl
theorem add8 (p off j : Nat) : (⟨p, off, none⟩ : Addr).add j = ⟨p, off + j, none⟩ := by
  unfold Addr.add; split
  · rename_i h; simp_all
  · rfl
def u8s (xs : List Nat) : List Value := xs.map (fun n => Value.int .u8 (n : Nat))
theorem u8s_length (xs : List Nat) : (u8s xs).length = xs.length := by simp [u8s]
theorem u8s_append (xs ys : List Nat) : u8s (xs ++ ys) = u8s xs ++ u8s ys := by simp [u8s]
theorem u8s_one (xs : List Nat) : ∀ u ∈ u8s xs, u.oneCell' = true := fun u hu => by
  obtain ⟨n, _, rfl⟩ := List.mem_map.1 hu
  rfl
theorem u8s_get {xs : List Nat} {i : Nat} (h : i < xs.length) : (u8s xs)[i]? = some (.int .u8 (xs[i] : Nat)) := by simp [u8s, h]
def Own8 (W : World) (B : Nat) (v : Value) (xs : List Nat) : Prop := W.ownsRow B 5 1 v xs.length (u8s xs)
theorem Own8.nil (W : World) (B : Nat) : Own8 W B (.slice none 0 0) [] := World.ownsRow_nil W B _ _
theorem Own8.shape {W : World} {B : Nat} {v : Value} {xs : List Nat} (h : Own8 W B v xs) : ∃ a cap, v = .slice a xs.length cap ∧ xs.length ≤ cap ∧ (a = none → cap = 0) ∧ ∀ q, a = some q → q.off = 0 ∧ q.spot = none ∧ B ≤ q.block ∧ q.block < W.heap.size := by
  rcases h.2 with ⟨rfl, hn⟩ | ⟨g, cap, cur, rfl, hg, hcur, h1, _⟩
  · exact ⟨none, 0, by rw [hn], by omega, fun _ => rfl, fun q e => by cases e⟩
  · exact ⟨_, cap, rfl, h1, fun e => by (cases e), fun q e => by cases e; exact ⟨rfl, rfl, hg, (Array.getElem?_eq_some_iff.1 hcur).1⟩⟩
theorem Own8.rd {W : World} {B : Nat} {a : Option Addr} {n cap : Nat} {xs : List Nat} (h : Own8 W B (.slice a n cap) xs) : n = xs.length ∧ RdA W a xs := by
  rcases h.2 with ⟨e, hn⟩ | ⟨g, c, cur, e, hg, hcur, h1, h2, h3, h4⟩
  · injection e with e1 e2 e3
    subst e1 e2
    exact ⟨by omega, .inl (by cases xs with | nil => rfl | cons => simp at hn)⟩
  · injection e with e1 e2 e3
    subst e1 e2 e3
    refine ⟨rfl, .inr ⟨g, 0, rfl, (Array.getElem?_eq_some_iff.1 hcur).1, fun i hi => ?_⟩⟩
    have h5 := World.ownsRow.cells h (g := g) rfl i _ (u8s_get hi)
    rw [add8] at h5
    exact h5
theorem Own8.kept {W W' : World} {B : Nat} {v : Value} {xs : List Nat} {row : Option Nat} (h : Own8 W B v xs) (hg : W.grownBy W' row) (hne : v.ownBlock = none ∨ v.ownBlock ≠ row) : Own8 W' B v xs := World.ownsRow.kept h hg hne
theorem Own8.below {W W' : World} {B : Nat} {v : Value} {xs : List Nat} (h : Own8 W B v xs) (hb : Below W.heap.size W W') : Own8 W' B v xs := by
  refine ⟨h.1, ?_⟩
  rcases h.2 with h0 | ⟨gr, cap, cur, rfl, hg, hcur, rest⟩
  · exact .inl h0
  · exact .inr ⟨gr, cap, cur, rfl, hg, (hb.block _ (Array.getElem?_eq_some_iff.1 hcur).1).trans hcur, rest⟩
theorem Own8.drew {W : World} {B : Nat} {v : Value} {xs : List Nat} (h : Own8 W B v xs) : Own8 W.drew B v xs := h
theorem Own8.soft {W : World} {B g n cap : Nat} {xs : List Nat} (h : Own8 W B (.slice (some ⟨g, 0, none⟩) n cap) xs) (o : Nat) : W.frozen? ⟨g, o, none⟩ = false := by
  rcases h.2 with ⟨e, _⟩ | ⟨g', c, cur, e, hg, hcur, _⟩
  · cases e
  · injection e with e1
    injection e1 with e1
    injection e1 with e1
    subst e1
    unfold World.frozen?; simp only [hcur]; simp
theorem heap_setCell_same {W : World} {g k : Nat} {cur : Array Value} {t : TypeId} {fr : Nat × Nat} (h : W.heap[g]? = some (.cells cur t fr)) (v : Value) : (W.setCell ⟨g, k, none⟩ v).heap[g]? = some (.cells (cur.setIfInBounds k v) t fr) := by
  simp [World.setCell, Array.getElem?_modify, h]
theorem Own8.set {W : World} {B g n cap : Nat} {xs : List Nat} (h : Own8 W B (.slice (some ⟨g, 0, none⟩) n cap) xs) (k y : Nat) : Own8 (W.setCell ⟨g, k, none⟩ (.int .u8 (y : Nat))) B (.slice (some ⟨g, 0, none⟩) n cap) (xs.set k y) := by
  rcases h.2 with ⟨e, _⟩ | ⟨g', c, cur, e, hg, hcur, h1, h2, h3, h4⟩
  · cases e
  · injection e with e1 e2 e3
    injection e1 with e1
    injection e1 with e1
    subst e1 e2 e3
    refine ⟨by simp [u8s], .inr ⟨g, cap, _, by simp, hg, heap_setCell_same hcur _, by simpa using h1, h2, by simpa using h3, ?_⟩⟩
    rw [Nat.mul_one] at h4
    simp only [List.length_set, Nat.mul_one, Array.toList_setIfInBounds]
    rw [List.take_set, h4]
    simp [u8s, List.map_set]
theorem rdA_src {W : World} {p off : Nat} {xs : List Nat} (h : ∀ i (h : i < xs.length), W.cell? ⟨p, off + i, none⟩ = some (.int .u8 (xs[i] : Nat))) : ∀ j u, (u8s xs)[j]? = some u → W.cell? ((⟨p, off, none⟩ : Addr).add j) = some u := fun j u hu => by
  obtain ⟨hj, rfl⟩ := List.getElem?_eq_some_iff.1 hu
  have hj' : j < xs.length := by simpa [u8s] using hj
  have : (u8s xs)[j] = Value.int .u8 (xs[j] : Nat) := by simp [u8s]
  rw [this, add8]; exact h j hj'
/- 'append(v, x...)', v of one's own, x bytes that can be read. -/
theorem wpList_app8 {w : World} {ops : Array Oper} {rest : List Oper} {o : Oper} {a : Act} {Q : Exit → Act → World → Prop} (hgd : o.guard = none) (s x : Operand) (ho : o.op = .call { callee := .builtin .append, args := #[s, x], argTypes := #[174, 174] })
    (B : Nat) (v : Value) (xs : List Nat) (hs : a.eval s = v) (hown : Own8 w B v xs) (sa : Option Addr) (m cap : Nat) (ys : List Nat) (hx : a.eval x = .slice sa m cap) (hm : m = ys.length) (hr : RdA w sa ys) (hn : sa = none → cap = 0)
    (hl : xs.length + ys.length ≤ 1000000000) (hB : B ≤ w.heap.size)
    (h : ∀ v' w', Own8 w' B v' (xs ++ ys) → w.grownBy w' v.ownBlock → (v'.ownBlock = v.ownBlock ∨ v'.ownBlock = some w.heap.size) → wpList Tryz.prog ops Q rest (a.put o.dst v') w') :
    wpList Tryz.prog ops Q (o :: rest) a w := by
  subst hm
  obtain ⟨i0, hi0, hz0, hz1, hz2⟩ := info_parts Tryz.info8
  rcases hr with rfl | ⟨p, off, rfl, _, hc⟩
  · cases sa with
    | none =>
      have hx2 : a.eval x = .slice none 0 0 := by rw [hx, hn rfl]; rfl
      refine wpList_append_own_none hgd s x 174 ho B 5 i0 1 Tryz.underlying174 hi0 v xs.length (u8s xs) hs hown hx2 ?_
      exact h v w (by rw [List.append_nil]; exact hown) ⟨rfl, rfl, rfl, Nat.le_refl _, fun _ _ _ => rfl⟩ (.inl rfl)
    | some q =>
      refine wpList_append_own_at w hgd s x 174 ho B 5 i0 (.int .u8 0) 1 1 Tryz.underlying174 hi0 hz0 hz1 hz2 rfl (by decide) v xs.length (u8s xs) hs hown q 0 cap [] hx rfl (fun _ _ h => by simp at h) (fun _ h => by simp at h) (by unfold maxLen; omega) (by omega) hB ?_
      intro v' w' h1 h2 _ h4
      refine h v' w' ?_ h2 h4
      unfold Own8
      rw [List.append_nil]
      rw [List.append_nil, Nat.add_zero] at h1
      exact h1
  · refine wpList_append_own_at w hgd s x 174 ho B 5 i0 (.int .u8 0) 1 1 Tryz.underlying174 hi0 hz0 hz1 hz2 rfl (by decide) v xs.length (u8s xs) hs hown ⟨p, off, none⟩ ys.length cap (u8s ys) hx (by rw [u8s_length, Nat.mul_one]) (rdA_src hc) (u8s_one ys) (by unfold maxLen; omega) (by omega) hB ?_
    intro v' w' h1 h2 _ h4
    refine h v' w' ?_ h2 h4
    unfold Own8
    rw [List.length_append, u8s_append]
    exact h1
theorem Own8.some8 {W : World} {B : Nat} {v : Value} {xs : List Nat} (h : Own8 W B v xs) (hx : 0 < xs.length) : ∃ g cap, v = .slice (some ⟨g, 0, none⟩) xs.length cap ∧ xs.length ≤ cap ∧ B ≤ g ∧ g < W.heap.size ∧ cap ≤ maxLen := by
  rcases h.2 with ⟨_, hn⟩ | ⟨g, cap, cur, hv, hg, hcur, h1, h2, _⟩
  · omega
  · exact ⟨g, cap, hv, h1, hg, (Array.getElem?_eq_some_iff.1 hcur).1, h2⟩
theorem Own8.cut {W : World} {B g n cap : Nat} {xs : List Nat} (h : Own8 W B (.slice (some ⟨g, 0, none⟩) n cap) xs) (k : Nat) (hk : k ≤ xs.length) : Own8 W B (.slice (some ⟨g, 0, none⟩) k cap) (xs.take k) := by
  rcases h.2 with ⟨e, _⟩ | ⟨g', c, cur, e, hg, hcur, h1, h2, h3, h4⟩
  · cases e
  · injection e with e1 e2 e3
    injection e1 with e1
    injection e1 with e1
    subst e1 e2 e3
    have hlen : (xs.take k).length = k := by simp; omega
    refine ⟨by simp [u8s], .inr ⟨g, cap, cur, by rw [hlen], hg, hcur, by omega, h2, h3, ?_⟩⟩
    rw [hlen, Nat.mul_one]
    rw [Nat.mul_one] at h4
    have e : cur.toList.take k = (cur.toList.take xs.length).take k := by rw [List.take_take, Nat.min_eq_left hk]
    rw [e, h4]
    simp [u8s, List.map_take]
theorem two_rd (W : World) (x y : Nat) (t : TypeId) : RdA (W.alloc (.cells #[.int .u8 (x : Nat), .int .u8 (y : Nat)] t)) (some ⟨W.heap.size, 0, none⟩) [x, y] := by
  have h : (W.alloc (.cells #[.int .u8 (x : Nat), .int .u8 (y : Nat)] t)).heap[W.heap.size]? = some (.cells #[.int .u8 (x : Nat), .int .u8 (y : Nat)] t (0, 0)) := heap_alloc_new W _
  refine .inr ⟨W.heap.size, 0, rfl, by simp, fun i hi => ?_⟩
  unfold World.cell?; simp only [h]
  rcases (by simp at hi; omega : i = 0 ∨ i = 1) with rfl | rfl <;> rfl
theorem two_rdI (W : World) (x y : Nat) (p q : Int) (hp : p = x) (hq : q = y) (t : TypeId) : RdA (W.alloc (.cells #[.int .u8 p, .int .u8 q] t)) (some ⟨W.heap.size, 0, none⟩) [x, y] := by
  subst hp hq; exact two_rd W x y t
theorem one_rd (W : World) (x : Nat) (t : TypeId) : RdA (W.alloc (.cells #[.int .u8 (x : Nat)] t)) (some ⟨W.heap.size, 0, none⟩) [x] := by
  have h : (W.alloc (.cells #[.int .u8 (x : Nat)] t)).heap[W.heap.size]? = some (.cells #[.int .u8 (x : Nat)] t (0, 0)) := heap_alloc_new W _
  refine .inr ⟨W.heap.size, 0, rfl, by simp, fun i hi => ?_⟩
  unfold World.cell?; simp only [h]
  rcases (by simp at hi; omega : i = 0) with rfl
  rfl
theorem below_own {B : Nat} {w a b : World} {v : Value} {xs : List Nat} (h : Below B w a) (ho : Own8 a B v xs) (g : a.grownBy b v.ownBlock) (hB : B ≤ a.heap.size) : Below B w b := h.grown g hB (fun k e => (World.ownsRow.lt ho k e).1)
end Go.Proofs.YtcfopkaomknmjaaGreatDoor
/- What a call may touch: all blocks but some stay. -/
namespace Go.Proofs.YtcfopkaomknmjaaGreatDoor
open Go.RowKit

structure Fr (E : Nat → Prop) (W W' : World) : Prop where
  os : W'.os = W.os
  tape : W'.tape = W.tape
  output : W'.output = W.output
  size : W.heap.size ≤ W'.heap.size
  block : ∀ b, b < W.heap.size → ¬ E b → W'.heap[b]? = W.heap[b]?
theorem Fr.refl (E : Nat → Prop) (W : World) : Fr E W W := ⟨rfl, rfl, rfl, Nat.le_refl _, fun _ _ _ => rfl⟩
theorem Fr.trans {E E' : Nat → Prop} {W W1 W2 : World} (h : Fr E W W1) (k : Fr E' W1 W2) (hE : ∀ b, b < W.heap.size → E' b → E b) : Fr E W W2 :=
  ⟨k.os.trans h.os, k.tape.trans h.tape, k.output.trans h.output, Nat.le_trans h.size k.size, fun b hb hn => (k.block b (Nat.lt_of_lt_of_le hb h.size) (fun e => hn (hE b hb e))).trans (h.block b hb hn)⟩
theorem Fr.ofBelow {E : Nat → Prop} {W W' : World} (h : Below W.heap.size W W') : Fr E W W' := ⟨h.os, h.tape, h.output, h.size, fun b hb _ => h.block b hb⟩
theorem Fr.below {E : Nat → Prop} {B : Nat} {W W' : World} (h : Fr E W W') (hE : ∀ b, E b → B ≤ b) (hB : B ≤ W.heap.size) : Below B W W' :=
  ⟨h.os, h.tape, h.output, h.size, fun b hb => h.block b (by omega) (fun e => by have := hE b e; omega)⟩
theorem Fr.drew {E : Nat → Prop} {W W' : World} (h : Fr E W W') : Fr E W W'.drew := ⟨h.os, h.tape, h.output, h.size, h.block⟩
theorem Fr.drewN {E : Nat → Prop} {W W' : World} (h : Fr E W W') (n : Nat) : Fr E W (W'.drewN n) := ⟨h.os, h.tape, h.output, h.size, h.block⟩
theorem Fr.grown {E : Nat → Prop} {W W' : World} {row : Option Nat} (h : W.grownBy W' row) (hE : ∀ r, row = some r → E r) : Fr E W W' := by
  exact ⟨h.os, h.tape, h.output, h.size, fun b hb hn => h.block b hb (fun e => hn (hE b e.symm))⟩
theorem Fr.set {E : Nat → Prop} {W W' : World} (h : Fr E W W') (p : Addr) (v : Value) (hE : E p.block) : Fr E W (W'.setCell p v) := by
  have hb := (Below.refl 0 W').setCell (p := p) (Nat.zero_le _) v
  exact ⟨hb.os.trans h.os, hb.tape.trans h.tape, hb.output.trans h.output, Nat.le_trans h.size hb.size, fun b hb hn => by rw [Below.heap_setCell _ _ _ _ (fun e => hn (by rw [e]; exact hE))]; exact h.block b hb hn⟩
theorem Fr.alloc {E : Nat → Prop} {W W' : World} (h : Fr E W W') (o : Obj) : Fr E W (W'.alloc o) := h.trans (E' := fun _ => False) (Fr.ofBelow ((Below.refl _ _).alloc (Nat.le_refl _) o)) (fun _ _ e => e.elim)
theorem Fr.cell {E : Nat → Prop} {W W' : World} (h : Fr E W W') {b o : Nat} {v : Value} (hc : W.cell? ⟨b, o, none⟩ = some v) (hn : ¬ E b) : W'.cell? ⟨b, o, none⟩ = some v :=
  (World.cell?_of_block (w := W) (a := ⟨b, o, none⟩) (h.block b (World.block_lt_of_cell? W _ hc) hn)).trans hc
end Go.Proofs.YtcfopkaomknmjaaGreatDoor
