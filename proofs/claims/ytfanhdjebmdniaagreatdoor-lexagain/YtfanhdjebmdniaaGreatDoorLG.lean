/- Words: of a sign, a name, a whole number, a number. -/
import Derived.Test.YtfanhdjebmdniaaGreatDoorLF
import Derived.Test.YtfanhdjebmdniaaGreatDoorUF
import Derived.Test.YtfanhdjebmdniaaGreatDoorUA31
namespace Go.Proofs.YtfanhdjebmdniaaGreatDoor
open Go.RowKit

/- a word, without its line. -/
structure Wd where
  k : Nat
  s : List UInt8
  w : Nat
  v : Nat
/- what a reader of a word gives: the word's cells, and whether it is one. -/
def WR (o : Option Wd) (ok : Bool) (a b c d : Int) (S : ByteArray) : Prop := (ok = true ∧ ∃ x : Wd, o = some x ∧ a = (x.k : Int) ∧ S = txt x.s ∧ b = (x.w : Int) ∧ c = wHi x.v ∧ d = wLo x.v) ∨ (ok = false ∧ o = none)
def wAgg (a b c d n : Int) (S : ByteArray) : Value := .agg #[.int .u8 a, .string S, .int .i64 b, .int .u64 c, .int .u64 d, .int .i64 n]
def Gives (f : Nat) (l : List UInt8) (o : Option Wd) : Prop := ∀ W, Ld W → Calls Tryz.prog f #[.string (txt l)] W fun e w' => ∃ ok a b c d S, WR o ok a b c d S ∧ e = .returned (.tuple #[wAgg a b c d 0 S, .bool ok]) ∧ Below W.heap.size W w'
theorem clone_any (T : ByteArray) (h : T.size ≤ 281474976710656) (w : World) : Calls Tryz.prog 214 #[.string T] w fun e w' => e = .returned (.string T) ∧ Below w.heap.size w w' := by
  have HC := hide (Tryz.stringslite_Clone T w h)
  clear h
  go_enter Tryz.func214, Tryz.ntmps214
  go_wp2_with fail
  refine HC.out.mono ?_
  rintro e w1 ⟨rfl, hb⟩
  have HB := hide hb
  clear hb
  go_wp2
  go_ret
  exact ⟨rfl, HB.out⟩
theorem cells_of6 {W : World} {b : Nat} {x0 x1 x2 x3 x4 x5 : Value} {t : TypeId} (h : W.heap[b]? = some (.cells #[x0, x1, x2, x3, x4, x5] t (0, 0))) :
    (W.cell? ⟨b, 0, none⟩ = some x0 ∧ W.cell? ⟨b, 1, none⟩ = some x1 ∧ W.cell? ⟨b, 2, none⟩ = some x2 ∧ W.cell? ⟨b, 3, none⟩ = some x3 ∧ W.cell? ⟨b, 4, none⟩ = some x4 ∧ W.cell? ⟨b, 5, none⟩ = some x5) ∧ (W.frozen? ⟨b, 0, none⟩ = false ∧ W.frozen? ⟨b, 1, none⟩ = false ∧ W.frozen? ⟨b, 2, none⟩ = false ∧ W.frozen? ⟨b, 3, none⟩ = false ∧ W.frozen? ⟨b, 4, none⟩ = false ∧ W.frozen? ⟨b, 5, none⟩ = false) := by
  refine ⟨⟨?_, ?_, ?_, ?_, ?_, ?_⟩, ?_, ?_, ?_, ?_, ?_, ?_⟩ <;> simp [World.cell?, World.frozen?, h]
/- six cells written. -/
def set6 (W : World) (b : Nat) (x0 x1 x2 x3 x4 x5 : Value) : World := (((((W.setCell ⟨b, 0, none⟩ x0).setCell ⟨b, 1, none⟩ x1).setCell ⟨b, 2, none⟩ x2).setCell ⟨b, 3, none⟩ x3).setCell ⟨b, 4, none⟩ x4).setCell ⟨b, 5, none⟩ x5
theorem set6_got {W : World} {b : Nat} {t : TypeId} {y0 y1 y2 y3 y4 y5 : Value} (h : W.heap[b]? = some (.cells #[y0, y1, y2, y3, y4, y5] t (0, 0))) (x0 x1 x2 x3 x4 x5 : Value) :
    (set6 W b x0 x1 x2 x3 x4 x5).heap[b]? = some (.cells #[x0, x1, x2, x3, x4, x5] t (0, 0)) := by
  have hl := (Array.getElem?_eq_some_iff.1 h).1
  simp [set6, World.setCell, Array.getElem?_modify, h]
theorem set6_below {W w : World} {B b : Nat} (h : Below B w W) (hb : B ≤ b) (x0 x1 x2 x3 x4 x5 : Value) : Below B w (set6 W b x0 x1 x2 x3 x4 x5) :=
  (((((h.setCell (p := ⟨b, 0, none⟩) hb x0).setCell (p := ⟨b, 1, none⟩) hb x1).setCell (p := ⟨b, 2, none⟩) hb x2).setCell (p := ⟨b, 3, none⟩) hb x3).setCell (p := ⟨b, 4, none⟩) hb x4).setCell (p := ⟨b, 5, none⟩) hb x5
theorem wz0 : wHi 0 = 0 ∧ wLo 0 = 0 := by unfold wHi wLo; omega
def z6 : Array Value := #[.int .u8 0, .string ⟨#[]⟩, .int .i64 0, .int .u64 0, .int .u64 0, .int .i64 0]
def signW (l : List UInt8) : Option Wd := if l = [] then none else some ⟨4, l, 0, 0⟩
def nameW (l : List UInt8) : Option Wd := if l.length ≤ 255 then some ⟨1, l, 0, 0⟩ else none
set_option maxRecDepth 100000 in
theorem sign_gives (l : List UInt8) (hl : l.length ≤ 1000000) : Gives 193 l (signW l) := by
  intro w _
  have HC := hide (clone_any (txt l) (by rw [txt_size]; omega))
  have HR : Hid (WR (signW l) (!(txt l).toList.isEmpty) 4 0 0 0 (txt l)) := by
    unfold Hid signW
    rw [Lib.toList_data, txt_data]
    cases l with
    | nil => exact .inr ⟨rfl, rfl⟩
    | cons c l => exact .inl ⟨rfl, ⟨4, c :: l, 0, 0⟩, by simp, rfl, rfl, rfl, wz0.1.symm, wz0.2.symm⟩
  generalize txt l = T at *
  go_enter Tryz.func193, Tryz.ntmps193
  go_wp2_with fail
  refine (HC.out _).mono ?_
  rintro e w1 ⟨rfl, hb⟩
  have hblk : w1.heap[w.heap.size]? = some (.cells z6 68 (0, 0)) := (hb.block _ (by simp)).trans (heap_alloc_new w _)
  have HW : Hid (Below w.heap.size w w1) := ((Below.refl _ _).alloc (Nat.le_refl _) _).trans (hb.mono (by simp))
  obtain ⟨⟨k0, k1, k2, k3, k4, k5⟩, f0, f1, f2, f3, f4, f5⟩ := cells_of6 hblk
  have HBk := hide hblk
  clear hb hblk
  go_wp2
  have hg := cells_of6 (set6_got HBk.out (.int .u8 4) (.string T) (.int .i64 0) (.int .u64 0) (.int .u64 0) (.int .i64 0))
  unfold set6 at hg
  obtain ⟨⟨q0, q1, q2, q3, q4, q5⟩, _⟩ := hg
  refine bodyPost_ret (v := .tuple #[wAgg 4 0 0 0 0 T, .bool (!T.toList.isEmpty)]) (by simp [results, Tryz.results193, go_sem, q0, q1, q2, q3, q4, q5, wAgg]) rfl ⟨_, _, _, _, _, _, HR.out, rfl, set6_below HW.out (Nat.le_refl _) _ _ _ _ _ _⟩
set_option maxRecDepth 100000 in
theorem name_gives (l : List UInt8) (hl : l.length ≤ 1000000) : Gives 196 l (nameW l) := by
  intro w _
  have HC := hide (clone_any (txt l) (by rw [txt_size]; omega))
  have hsz := txt_size l
  have HR : Hid (WR (nameW l) (decide (((txt l).size : Int) ≤ 255)) 1 0 0 0 (txt l)) := by
    unfold Hid nameW
    rw [hsz]
    by_cases h : l.length ≤ 255
    · rw [if_pos h, decide_eq_true (by omega)]
      exact .inl ⟨rfl, ⟨1, l, 0, 0⟩, rfl, rfl, rfl, rfl, wz0.1.symm, wz0.2.symm⟩
    · rw [if_neg h, decide_eq_false (by omega)]
      exact .inr ⟨rfl, rfl⟩
  have hTm : (txt l).size ≤ 1000000 := by omega
  clear hsz hl
  generalize txt l = T at *
  by_cases hle : ((T.size : Nat) : Int) ≤ 255
  · have hd : decide (((T.size : Nat) : Int) ≤ 255) = true := decide_eq_true hle
    rw [hd] at HR
    clear hd
    go_enter Tryz.func196, Tryz.ntmps196
    go_wp2_with fail
    refine (HC.out _).mono ?_
    rintro e w1 ⟨rfl, hb⟩
    have hblk : w1.heap[w.heap.size]? = some (.cells z6 68 (0, 0)) := (hb.block _ (by simp)).trans (heap_alloc_new w _)
    have HW : Hid (Below w.heap.size w w1) := ((Below.refl _ _).alloc (Nat.le_refl _) _).trans (hb.mono (by simp))
    obtain ⟨⟨k0, k1, k2, k3, k4, k5⟩, f0, f1, f2, f3, f4, f5⟩ := cells_of6 hblk
    have HBk := hide hblk
    clear hb hblk
    go_wp2
    have hg := cells_of6 (set6_got HBk.out (.int .u8 1) (.string T) (.int .i64 0) (.int .u64 0) (.int .u64 0) (.int .i64 0))
    unfold set6 at hg
    obtain ⟨⟨q0, q1, q2, q3, q4, q5⟩, _⟩ := hg
    refine bodyPost_ret (v := .tuple #[wAgg 1 0 0 0 0 T, .bool true]) (by simp [results, Tryz.results196, go_sem, q0, q1, q2, q3, q4, q5, wAgg]) rfl ⟨_, _, _, _, _, _, HR.out, rfl, set6_below HW.out (Nat.le_refl _) _ _ _ _ _ _⟩
  · have hd : decide (((T.size : Nat) : Int) ≤ 255) = false := decide_eq_false hle
    rw [hd] at HR
    clear hd
    go_enter Tryz.func196, Tryz.ntmps196
    go_wp2_with fail
    refine (HC.out _).mono ?_
    rintro e w1 ⟨rfl, hb⟩
    have hblk : w1.heap[w.heap.size]? = some (.cells z6 68 (0, 0)) := (hb.block _ (by simp)).trans (heap_alloc_new w _)
    have HW : Hid (Below w.heap.size w w1) := ((Below.refl _ _).alloc (Nat.le_refl _) _).trans (hb.mono (by simp))
    obtain ⟨⟨k0, k1, k2, k3, k4, k5⟩, f0, f1, f2, f3, f4, f5⟩ := cells_of6 hblk
    have HBk := hide hblk
    clear hb hblk
    go_wp2
    have hg := cells_of6 (set6_got HBk.out (.int .u8 1) (.string T) (.int .i64 0) (.int .u64 0) (.int .u64 0) (.int .i64 0))
    unfold set6 at hg
    obtain ⟨⟨q0, q1, q2, q3, q4, q5⟩, _⟩ := hg
    refine bodyPost_ret (v := .tuple #[wAgg 1 0 0 0 0 T, .bool false]) (by simp [results, Tryz.results196, go_sem, q0, q1, q2, q3, q4, q5, wAgg] <;> omega) rfl ⟨_, _, _, _, _, _, HR.out, rfl, set6_below HW.out (Nat.le_refl _) _ _ _ _ _ _⟩
end Go.Proofs.YtfanhdjebmdniaaGreatDoor
