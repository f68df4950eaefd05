/- The word ahead. -/
import Derived.Test.YtfanhdjebmdniaaGreatDoorLJ
namespace Go.Proofs.YtfanhdjebmdniaaGreatDoor
open Go.RowKit

def anL : List UInt8 := [97, 98, 99, 100, 101, 102, 103, 104, 105, 106, 107, 108, 109, 110, 111, 112, 113, 114, 115, 116, 117, 118, 119, 120, 121, 122, 65, 66, 67, 68, 69, 70, 71, 72, 73, 74, 75, 76, 77, 78, 79, 80, 81, 82, 83, 84, 85, 86, 87, 88, 89, 90, 95, 48, 49, 50, 51, 52, 53, 54, 55, 56, 57]
def isW (c : UInt8) : Bool := isIn anL c
theorem isW_10 {l : List UInt8} : c10 (l.takeWhile isW) = 0 := by
  unfold c10
  rw [List.count_eq_zero]
  intro h
  have h2 := List.all_takeWhile (p := isW) (l := l)
  rw [List.all_eq_true] at h2
  have h3 := h2 10 h
  have h4 : isW 10 = false := by decide +kernel
  rw [h4] at h3
  cases h3
theorem eatW (S : ByteArray) (p n b : Nat) (r : List UInt8) (W : World) (hb : b = W.heap.size) (hS : S.data.toList = anL) (hT : Tx W p r n) (hr : r.length ≤ 1000000) (hn : n ≤ 1000000) :
    Calls Tryz.prog 113 #[.pointer (some ⟨p, 0, none⟩), .func (Fn.func 189) #[] #[.pointer (some ⟨b, 0, none⟩)]] (W.alloc (.cells #[.string S] 9)) fun e w' => e = .returned (.string (txt (r.takeWhile isW))) ∧ Tx w' p (r.dropWhile isW) n ∧ FrP p W w' := by
  subst hb
  have := eat_among S p n r W hT hr hn
  rw [hS, show isIn anL = isW from rfl, isW_10, Nat.add_zero] at this
  exact this
def wdA (r : List UInt8) : Option Wd × List UInt8 := wd1 (r.takeWhile isW) (r.dropWhile isW)
set_option maxHeartbeats 2000000 in
set_option maxRecDepth 100000 in
theorem word_any (w0 : World) (p n : Nat) (r : List UInt8) (w : World) (hLs : Ls w0) (hB : Below w0.heap.size w0 w) (hp : w0.heap.size ≤ p) (hT : Tx w p r n) (hr : r.length ≤ 100000) (hn : n ≤ 100000) :
    Calls Tryz.prog 17 #[.pointer (some ⟨p, 0, none⟩)] w fun e w' => ∃ ok a b c d S, WR (wdA r).1 ok a b c d S ∧ e = .returned (.tuple #[wAgg a b c d (n : Int) S, .bool ok]) ∧ Tx w' p (wdA r).2 n ∧ FrP p w w' := by
  have HM := hide among_mk
  have HE := hide (fun S b W hb hS h => eatW S p n b r W hb hS h (by omega) (by omega))
  have hl1 : (r.takeWhile isW).length ≤ r.length := by
    have h := congrArg List.length (List.takeWhile_append_dropWhile (p := isW) (l := r))
    rw [List.length_append] at h; omega
  have hl2 := dropW_le isW r
  have HO := hide (fun W h1 h2 => wordOf_any w0 p n (r.takeWhile isW) (r.dropWhile isW) W hLs h1 hp h2 (by omega) (by omega) (by omega))
  unfold wdA
  unfold WordPost at HO
  generalize (wd1 (r.takeWhile isW) (r.dropWhile isW)).1 = O at *
  generalize (wd1 (r.takeWhile isW) (r.dropWhile isW)).2 = R2 at *
  generalize txt (r.takeWhile isW) = T at *
  have HT := hide hT
  have HB := hide hB
  have HP := hide hp
  have HTA := hide (hT.alloc (.cells z6 68))
  have HNP : Hid (p < w.heap.size) := hT.lt
  clear hT hB hLs hp hr hn hl1 hl2
  go_enter Tryz.func17, Tryz.ntmps17
  go_wp2_with fail
  refine (HM.out _ _).mono ?_
  rintro e w1 ⟨rfl, rfl⟩
  go_wp2_with fail
  refine (HE.out _ _ (w.alloc _) (by simp) (by kernel_rfl) (HT.out.alloc _)).mono ?_
  rintro e w2 ⟨rfl, ht2, hf2⟩
  have HZ2 : Hid (w.heap.size < w2.heap.size) := by have := hf2.size; simp at this; unfold Hid; omega
  have HK2 : Hid (w2.heap[w.heap.size]? = some (.cells z6 68 (0, 0))) := (hf2.block _ (by simp) (fun e => by have := HNP.out; omega)).trans (heap_alloc_new w _)
  have HF2 : Hid (FrP p w w2) := (Fr.ofBelow ((Below.refl _ _).alloc (Nat.le_refl _) _)).trans hf2 (fun _ _ e => e)
  have HT2 := hide ht2
  clear ht2 hf2
  go_wp2_with fail
  refine (HO.out _ (frB HB.out HF2.out HP.out) HT2.out).mono ?_
  rintro e w3 ⟨ok, a, b, c, d, S, hwr, rfl, ht3, hf3⟩
  have HWR := hide hwr
  have hlt3 : w.heap.size < w3.heap.size := Nat.lt_of_lt_of_le HZ2.out hf3.size
  have hk3 : w3.heap[w.heap.size]? = some (.cells z6 68 (0, 0)) := (hf3.block _ HZ2.out (fun e => by have := HNP.out; omega)).trans HK2.out
  have HF3 : Hid (FrP p w w3) := HF2.out.trans hf3 (fun _ _ e => e)
  obtain ⟨t0, t1, _, _⟩ := ht3.cells
  have hp3 := ht3.lt
  obtain ⟨⟨k0, k1, k2, k3, k4, k5⟩, f0, f1, f2, f3, f4, f5⟩ := cells_of6 hk3
  have HT3 := hide ht3
  have HK3 := hide hk3
  clear hwr ht3 hf3 hk3
  unfold wAgg
  have hne : ¬ (w.heap.size = w3.heap.size) := by omega
  go_wp2
  have hs6 : w.heap.size < (set6 w3 w.heap.size (.int .u8 a) (.string S) (.int .i64 b) (.int .u64 c) (.int .u64 d) (.int .i64 (n : Int))).heap.size := Nat.lt_of_lt_of_le hlt3 (set6_below (Below.refl 0 w3) (Nat.zero_le _) _ _ _ _ _ _).size
  have hg := cells_of6 ((hao _ (.cells #[.int .u8 a, .string S, .int .i64 b, .int .u64 c, .int .u64 d, .int .i64 (n : Int)] 68) _ hs6).trans (set6_got HK3.out (.int .u8 a) (.string S) (.int .i64 b) (.int .u64 c) (.int .u64 d) (.int .i64 (n : Int))))
  have HTF := hide ((HT3.out.set6 (x0 := .int .u8 a) (x1 := .string S) (x2 := .int .i64 b) (x3 := .int .u64 c) (x4 := .int .u64 d) (x5 := .int .i64 (n : Int)) (show p ≠ w.heap.size by have := HNP.out; omega)).alloc (.cells #[.int .u8 a, .string S, .int .i64 b, .int .u64 c, .int .u64 d, .int .i64 (n : Int)] 68))
  have HFF := hide ((frset6 HF3.out (x0 := .int .u8 a) (x1 := .string S) (x2 := .int .i64 b) (x3 := .int .u64 c) (x4 := .int .u64 d) (x5 := .int .i64 (n : Int)) (b := w.heap.size) (Nat.le_refl _)).alloc (.cells #[.int .u8 a, .string S, .int .i64 b, .int .u64 c, .int .u64 d, .int .i64 (n : Int)] 68))
  unfold set6 at hg HTF HFF
  obtain ⟨⟨q0, q1, q2, q3, q4, q5⟩, _⟩ := hg
  exact bodyPost_ret (v := .tuple #[wAgg a b c d (n : Int) S, .bool ok]) (by simp [results, Tryz.results17, go_sem, q0, q1, q2, q3, q4, q5, wAgg]) rfl ⟨_, _, _, _, _, _, HWR.out, rfl, HTF.out, HFF.out⟩
end Go.Proofs.YtfanhdjebmdniaaGreatDoor
