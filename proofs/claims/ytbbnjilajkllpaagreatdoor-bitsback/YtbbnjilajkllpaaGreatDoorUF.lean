/- bits.Parse, whatever it is given. -/
import Derived.Test.YtbbnjilajkllpaaGreatDoorUE
namespace Go.Proofs.YtbbnjilajkllpaaGreatDoor
open Go.RowKit

def gsV (l : List UInt8) : Nat := gsH l * 18446744073709551616 + gsL l
theorem gsV_top (l : List UInt8) : gsV l < top := by
  have := gs_bd l
  unfold gsV top; omega
theorem gsV_w (l : List UInt8) : ((gsH l : Nat) : Int) = wHi (gsV l) ∧ ((gsL l : Nat) : Int) = wLo (gsV l) := by
  have := gs_bd l
  unfold gsV wHi wLo; omega
/- what a text is read as. -/
def prs (l : List UInt8) : Option (Nat × Nat) := if okN (gsN l) (gsV l) = true ∧ tx (gsN l).toNat (gsV l) = l then some ((gsN l).toNat, gsV l) else none
theorem okN_bd {n : Int} {v : Nat} (h : okN n v = true) : 1 ≤ n ∧ n ≤ 128 ∧ v < 2 ^ n.toNat := by
  unfold okN mayBe at h
  simp at h
  exact ⟨by omega, by omega, h.2⟩
theorem prs_some {l : List UInt8} {n v : Nat} (h : prs l = some (n, v)) : okN n v = true ∧ tx n v = l := by
  unfold prs at h
  split at h
  · rename_i hh
    obtain ⟨h1, h2⟩ := hh
    have hb := okN_bd h1
    simp only [Option.some.injEq, Prod.mk.injEq] at h
    obtain ⟨rfl, rfl⟩ := h
    exact ⟨by rw [show (((gsN l).toNat : Nat) : Int) = gsN l by omega]; exact h1, h2⟩
  · cases h
theorem okN_ltop {n : Nat} {v : Nat} (h : okN n v = true) : v < top := by
  have hb := okN_bd h
  rw [Int.toNat_natCast] at hb
  have : (2 : Nat) ^ n ≤ 2 ^ 128 := Nat.pow_le_pow_right (by decide) (by omega)
  rw [top_eq]
  omega
theorem prs_tx {n v : Nat} (h : okN n v = true) : prs (tx n v) = some (n, v) := by
  have hb := okN_bd h
  have ht := okN_ltop h
  have hg := gs_tx n v (by omega) (by unfold top at ht; exact ht)
  have hN : gsN (tx n v) = (n : Int) := by unfold gsN; rw [hg.1, IntKind.wrap_i64]; omega
  have hV : gsV (tx n v) = v := by unfold gsV; rw [hg.2.1, hg.2.2]; omega
  unfold prs
  rw [hN, hV, Int.toNat_natCast, if_pos ⟨h, rfl⟩]
def prsV : Option (Nat × Nat) → Value
  | some (n, v) => .tuple #[.agg #[.int .i64 (n : Int), .int .u64 (wHi v), .int .u64 (wLo v)], .int .i64 0]
  | none => .tuple #[.agg #[.int .i64 0, .int .u64 0, .int .u64 0], .int .i64 8]
theorem txt_inj {a b : List UInt8} (h : txt a = txt b) : a = b := by
  have := congrArg (fun x => x.data.toList) h
  simpa only [txt_data] using this
theorem txt_ne {a b : List UInt8} (h : ¬ a = b) : ((txt a).toList == (txt b).toList) = false := by
  rw [Lib.toList_data, Lib.toList_data, txt_data, txt_data]
  simpa using h
theorem hao (w : World) (o : Obj) (k : Nat) (h : k < w.heap.size) : (w.alloc o).heap[k]? = w.heap[k]? := ((Below.refl _ w).alloc (Nat.le_refl _) o).block k h
set_option maxRecDepth 100000 in
theorem parseW_ok (T R : ByteArray) (n h1 l1 : Int) (w : World) (hL : Ld w) (hR : R = T)
    (HG : Hid (∀ W, Ld W → Calls Tryz.prog 22 #[.string T] W fun e w' => e = .returned (.agg #[.int .i64 n, .int .u64 h1, .int .u64 l1]) ∧ Below W.heap.size W w'))
    (HT : Hid (∀ W, Ld W → Calls Tryz.prog 5 #[.agg #[.int .i64 n, .int .u64 h1, .int .u64 l1]] W fun e w' => e = .returned (.tuple #[.string R, .int .i64 0]) ∧ Below W.heap.size W w')) :
    Calls Tryz.prog 9 #[.string T] w fun e w' => e = .returned (.tuple #[.agg #[.int .i64 n, .int .u64 h1, .int .u64 l1], .int .i64 0]) ∧ Below w.heap.size w w' := by
  have HL := hide hL
  clear hL
  go_enter Tryz.func9, Tryz.ntmps9
  go_wp2_with fail
  refine (HG.out _ (HL.out.below ((Below.refl _ _).alloc (Nat.le_refl _) _))).mono ?_
  rintro e w1 ⟨rfl, hb⟩
  have hz : w.heap.size < w1.heap.size := by have := hb.size; simp at this; omega
  have HW : Hid (Below w.heap.size w w1) := ((Below.refl _ _).alloc (Nat.le_refl _) _).trans (hb.mono (by simp))
  have hblk : w1.heap[w.heap.size]? = some (.cells #[.int .i64 0, .int .u64 0, .int .u64 0] 24 (0, 0)) := (hb.block _ (by simp)).trans (heap_alloc_new w _)
  clear hb
  go_wp2_with fail
  refine (HT.out _ (HL.out.below (HW.out.alloc (by omega) _))).mono ?_
  rintro e w2 ⟨rfl, hb⟩
  have h2a := cells_of3 (((hb.block w.heap.size (by simp; omega)).trans (hao w1 _ _ hz)).trans hblk)
  have h2b := cells_of3 ((hb.block w1.heap.size (by simp)).trans (heap_alloc_new w1 _))
  have HW2 : Hid (Below w.heap.size w w2) := (HW.out.alloc (by omega) _).trans (hb.mono (by simp; omega))
  have hsh : Sh3 w.heap.size w2 := ⟨_, ((hb.block w.heap.size (by simp; omega)).trans (hao w1 _ _ hz)).trans hblk, rfl⟩
  obtain ⟨a0, a1, a2, f0, f1, f2⟩ := h2a
  obtain ⟨b0, b1, b2, g0, g1, g2⟩ := h2b
  clear hb hblk
  have HSh := hide hsh
  clear hsh
  have hne : ¬ (w1.heap.size = w.heap.size) := by omega
  have hne' : ¬ (w.heap.size = w1.heap.size) := by omega
  go_wp2
  have hg := cells_of3 (HSh.out.got (.int .i64 n) (.int .u64 h1) (.int .u64 l1))
  have HB := hide (((HW2.out.setCell (p := ⟨w.heap.size, 0, none⟩) (Nat.le_refl _) (.int .i64 n)).setCell (p := ⟨w.heap.size, 1, none⟩) (Nat.le_refl _) (.int .u64 h1)).setCell (p := ⟨w.heap.size, 2, none⟩) (Nat.le_refl _) (.int .u64 l1))
  obtain ⟨q0, q1, q2, _, _, _⟩ := hg
  refine bodyPost_ret (v := .tuple #[.agg #[.int .i64 n, .int .u64 h1, .int .u64 l1], .int .i64 0]) (by simp [results, Tryz.results9, go_sem, q0, q1, q2]) rfl ⟨rfl, HB.out⟩
set_option maxRecDepth 100000 in
theorem parseW_ne (T R : ByteArray) (n h1 l1 : Int) (w : World) (hL : Ld w) (hR : (R.toList == T.toList) = false)
    (HG : Hid (∀ W, Ld W → Calls Tryz.prog 22 #[.string T] W fun e w' => e = .returned (.agg #[.int .i64 n, .int .u64 h1, .int .u64 l1]) ∧ Below W.heap.size W w'))
    (HT : Hid (∀ W, Ld W → Calls Tryz.prog 5 #[.agg #[.int .i64 n, .int .u64 h1, .int .u64 l1]] W fun e w' => e = .returned (.tuple #[.string R, .int .i64 0]) ∧ Below W.heap.size W w')) :
    Calls Tryz.prog 9 #[.string T] w fun e w' => e = .returned (.tuple #[.agg #[.int .i64 0, .int .u64 0, .int .u64 0], .int .i64 8]) ∧ Below w.heap.size w w' := by
  have HL := hide hL
  clear hL
  go_enter Tryz.func9, Tryz.ntmps9
  go_wp2_with fail
  refine (HG.out _ (HL.out.below ((Below.refl _ _).alloc (Nat.le_refl _) _))).mono ?_
  rintro e w1 ⟨rfl, hb⟩
  have hz : w.heap.size < w1.heap.size := by have := hb.size; simp at this; omega
  have HW : Hid (Below w.heap.size w w1) := ((Below.refl _ _).alloc (Nat.le_refl _) _).trans (hb.mono (by simp))
  have hblk : w1.heap[w.heap.size]? = some (.cells #[.int .i64 0, .int .u64 0, .int .u64 0] 24 (0, 0)) := (hb.block _ (by simp)).trans (heap_alloc_new w _)
  clear hb
  go_wp2_with fail
  refine (HT.out _ (HL.out.below (HW.out.alloc (by omega) _))).mono ?_
  rintro e w2 ⟨rfl, hb⟩
  have h2a := cells_of3 (((hb.block w.heap.size (by simp; omega)).trans (hao w1 _ _ hz)).trans hblk)
  have h2b := cells_of3 ((hb.block w1.heap.size (by simp)).trans (heap_alloc_new w1 _))
  have HW2 : Hid (Below w.heap.size w w2) := (HW.out.alloc (by omega) _).trans (hb.mono (by simp; omega))
  have hsh : Sh3 w.heap.size w2 := ⟨_, ((hb.block w.heap.size (by simp; omega)).trans (hao w1 _ _ hz)).trans hblk, rfl⟩
  obtain ⟨a0, a1, a2, f0, f1, f2⟩ := h2a
  obtain ⟨b0, b1, b2, g0, g1, g2⟩ := h2b
  clear hb hblk
  have HSh := hide hsh
  clear hsh
  have hne : ¬ (w1.heap.size = w.heap.size) := by omega
  have hne' : ¬ (w.heap.size = w1.heap.size) := by omega
  go_wp2
  have hg := cells_of3 (HSh.out.got (.int .i64 0) (.int .u64 0) (.int .u64 0))
  have HB := hide (((HW2.out.setCell (p := ⟨w.heap.size, 0, none⟩) (Nat.le_refl _) (.int .i64 0)).setCell (p := ⟨w.heap.size, 1, none⟩) (Nat.le_refl _) (.int .u64 0)).setCell (p := ⟨w.heap.size, 2, none⟩) (Nat.le_refl _) (.int .u64 0))
  obtain ⟨q0, q1, q2, _, _, _⟩ := hg
  refine bodyPost_ret (v := .tuple #[.agg #[.int .i64 0, .int .u64 0, .int .u64 0], .int .i64 8]) (by simp [results, Tryz.results9, go_sem, q0, q1, q2]) rfl ⟨rfl, HB.out⟩
set_option maxRecDepth 100000 in
theorem parseW_no (T R : ByteArray) (n h1 l1 : Int) (w : World) (hL : Ld w)
    (HG : Hid (∀ W, Ld W → Calls Tryz.prog 22 #[.string T] W fun e w' => e = .returned (.agg #[.int .i64 n, .int .u64 h1, .int .u64 l1]) ∧ Below W.heap.size W w'))
    (HT : Hid (∀ W, Ld W → Calls Tryz.prog 5 #[.agg #[.int .i64 n, .int .u64 h1, .int .u64 l1]] W fun e w' => e = .returned (.tuple #[.string R, .int .i64 1]) ∧ Below W.heap.size W w')) :
    Calls Tryz.prog 9 #[.string T] w fun e w' => e = .returned (.tuple #[.agg #[.int .i64 0, .int .u64 0, .int .u64 0], .int .i64 8]) ∧ Below w.heap.size w w' := by
  have HL := hide hL
  clear hL
  go_enter Tryz.func9, Tryz.ntmps9
  go_wp2_with fail
  refine (HG.out _ (HL.out.below ((Below.refl _ _).alloc (Nat.le_refl _) _))).mono ?_
  rintro e w1 ⟨rfl, hb⟩
  have hz : w.heap.size < w1.heap.size := by have := hb.size; simp at this; omega
  have HW : Hid (Below w.heap.size w w1) := ((Below.refl _ _).alloc (Nat.le_refl _) _).trans (hb.mono (by simp))
  have hblk : w1.heap[w.heap.size]? = some (.cells #[.int .i64 0, .int .u64 0, .int .u64 0] 24 (0, 0)) := (hb.block _ (by simp)).trans (heap_alloc_new w _)
  clear hb
  go_wp2_with fail
  refine (HT.out _ (HL.out.below (HW.out.alloc (by omega) _))).mono ?_
  rintro e w2 ⟨rfl, hb⟩
  have h2a := cells_of3 (((hb.block w.heap.size (by simp; omega)).trans (hao w1 _ _ hz)).trans hblk)
  have h2b := cells_of3 ((hb.block w1.heap.size (by simp)).trans (heap_alloc_new w1 _))
  have HW2 : Hid (Below w.heap.size w w2) := (HW.out.alloc (by omega) _).trans (hb.mono (by simp; omega))
  have hsh : Sh3 w.heap.size w2 := ⟨_, ((hb.block w.heap.size (by simp; omega)).trans (hao w1 _ _ hz)).trans hblk, rfl⟩
  obtain ⟨a0, a1, a2, f0, f1, f2⟩ := h2a
  obtain ⟨b0, b1, b2, g0, g1, g2⟩ := h2b
  clear hb hblk
  have HSh := hide hsh
  clear hsh
  have hne : ¬ (w1.heap.size = w.heap.size) := by omega
  have hne' : ¬ (w.heap.size = w1.heap.size) := by omega
  go_wp2
  have hg := cells_of3 (HSh.out.got (.int .i64 0) (.int .u64 0) (.int .u64 0))
  have HB := hide (((HW2.out.setCell (p := ⟨w.heap.size, 0, none⟩) (Nat.le_refl _) (.int .i64 0)).setCell (p := ⟨w.heap.size, 1, none⟩) (Nat.le_refl _) (.int .u64 0)).setCell (p := ⟨w.heap.size, 2, none⟩) (Nat.le_refl _) (.int .u64 0))
  obtain ⟨q0, q1, q2, _, _, _⟩ := hg
  refine bodyPost_ret (v := .tuple #[.agg #[.int .i64 0, .int .u64 0, .int .u64 0], .int .i64 8]) (by simp [results, Tryz.results9, go_sem, q0, q1, q2]) rfl ⟨rfl, HB.out⟩
theorem parse_any (l : List UInt8) (hl : l.length ≤ 281474976710656) (w : World) (hL : Ld w) :
    Calls Tryz.prog 9 #[.string (txt l)] w fun e w' => e = .returned (prsV (prs l)) ∧ Below w.heap.size w w' := by
  have HG : Hid (∀ W, Ld W → _) := fun W h => guess_any l hl W h
  have hw := gsV_w l
  have htop := gsV_top l
  rw [hw.1, hw.2] at HG
  by_cases ho : okN (gsN l) (gsV l) = true
  · have hb := okN_bd ho
    have HT : Hid (∀ W, Ld W → _) := fun W h => text_yes (gsN l) (gsV l) W h htop ho
    by_cases he : tx (gsN l).toNat (gsV l) = l
    · have hp : prs l = some ((gsN l).toNat, gsV l) := by unfold prs; rw [if_pos ⟨ho, he⟩]
      rw [hp]
      simp only [prsV]
      rw [show (((gsN l).toNat : Nat) : Int) = gsN l by omega]
      exact parseW_ok _ _ _ _ _ w hL (by rw [he]) HG HT
    · have hp : prs l = none := by unfold prs; rw [if_neg (fun h => he h.2)]
      rw [hp]
      exact parseW_ne _ _ _ _ _ w hL (txt_ne he) HG HT
  · have hp : prs l = none := by unfold prs; rw [if_neg (fun h => ho h.1)]
    rw [hp]
    exact parseW_no _ (txt []) _ _ _ w hL HG (fun W h => text_no (gsN l) (gsV l) W htop (by simpa using ho))
end Go.Proofs.YtbbnjilajkllpaaGreatDoor
