/- pointsmanref02: the document's Take. -/
import Derived.Test.YtlddnpgcoekaaaaGreatDoorCuR
import Derived.OwnWalk
namespace Go.Proofs.YtlddnpgcoekaaaaGreatDoor
open Go.RowKit

theorem rtake_wide {w : World} {B g : Nat} {v : Value} {xs : List Nat} {t : Nat} (_ : RC w B g v xs t) (n : Int) (hn : ¬ (1 ≤ n ∧ n ≤ 128)) : Calls Tryz.prog 9 #[.pointer (some ⟨g, 0, none⟩), .int .i64 n] w fun e w' => e = .returned (.tuple #[.agg #[.int .i64 0, .int .u64 0, .int .u64 0], .int .i64 1]) ∧ Below w.heap.size w w' := by
  by_cases h1 : n < 1
  · have d1 : (n < 1) = True := eq_true h1
    clear hn h1
    go_enter Tryz.func9, Tryz.ntmps9
    go_wp2
    refine bodyPost_ret (v := .tuple #[.agg #[.int .i64 0, .int .u64 0, .int .u64 0], .int .i64 1]) (by simp [results, Tryz.results9, go_sem]) rfl ⟨rfl, ?_⟩
    exact (Below.refl _ _).alloc (Nat.le_refl _) _
  · have d1 : (n < 1) = False := eq_false h1
    have d2 : (n > 128) = True := eq_true (by omega)
    have d2' : ((128 : Int) < n) = True := eq_true (by omega)
    clear hn h1
    go_enter Tryz.func9, Tryz.ntmps9
    go_wp2
    refine bodyPost_ret (v := .tuple #[.agg #[.int .i64 0, .int .u64 0, .int .u64 0], .int .i64 1]) (by simp [results, Tryz.results9, go_sem]) rfl ⟨rfl, ?_⟩
    exact (Below.refl _ _).alloc (Nat.le_refl _) _
theorem rtake_short {w : World} {B g : Nat} {v : Value} {xs : List Nat} {t : Nat} (h : RC w B g v xs t) (n : Nat) (h0 : 1 ≤ n) (h1 : n ≤ 128) (hs : 8 * xs.length < t + n) : Calls Tryz.prog 9 #[.pointer (some ⟨g, 0, none⟩), .int .i64 n] w fun e w' => e = .returned (.tuple #[.agg #[.int .i64 0, .int .u64 0, .int .u64 0], .int .i64 9]) ∧ Below w.heap.size w w' := by
  have d1 : ((n : Int) < 1) = False := eq_false (by omega)
  have d2 : ((n : Int) > 128) = False := eq_false (by omega)
  have d2' : ((128 : Int) < (n : Int)) = False := eq_false (by omega)
  have hle := h.le
  have d3 : (((8 * xs.length - t : Nat) : Int) < (n : Int)) = True := eq_true (by omega)
  have d3' : ((n : Int) > ((8 * xs.length - t : Nat) : Int)) = True := eq_true (by omega)
  obtain ⟨z, hz⟩ : ∃ z, z = Obj.cells #[.int .i64 0, .int .u64 0, .int .u64 0] 71 := ⟨_, rfl⟩
  have HL := hide (rleft_any (h.next ((Below.refl _ w).alloc (Nat.le_refl _) z)))
  have HZ := hide (heap_alloc_new w z)
  rw [hz] at HL HZ
  clear h h0 h1 hs hz
  generalize ((8 * xs.length - t : Nat) : Int) = M at *
  go_enter Tryz.func9, Tryz.ntmps9
  go_wp2_with fail
  refine HL.out.mono ?_
  rintro e w1 ⟨rfl, hb⟩
  have hz1 := (hb.block w.heap.size (by simp)).trans HZ.out
  have B1 := hide hb
  have c0 : w1.cell? ⟨w.heap.size, 0, none⟩ = some (.int .i64 0) := by unfold World.cell?; simp only [hz1]; rfl
  have c1 : w1.cell? ⟨w.heap.size, 1, none⟩ = some (.int .u64 0) := by unfold World.cell?; simp only [hz1]; rfl
  have c2 : w1.cell? ⟨w.heap.size, 2, none⟩ = some (.int .u64 0) := by unfold World.cell?; simp only [hz1]; rfl
  have f0 : ∀ o, w1.frozen? ⟨w.heap.size, o, none⟩ = false := fun o => by unfold World.frozen?; simp only [hz1]; simp
  clear hb hz1
  go_wp2
  refine bodyPost_ret (v := .tuple #[.agg #[.int .i64 0, .int .u64 0, .int .u64 0], .int .i64 9]) (by simp [results, Tryz.results9, go_sem, c0, c1, c2]) rfl ⟨rfl, ?_⟩
  have := ((Below.refl _ w).alloc (Nat.le_refl _) (.cells #[.int .i64 0, .int .u64 0, .int .u64 0] 71)).trans (B1.out.mono (by simp))
  exact ((this.setCell (Nat.le_refl _) _).setCell (Nat.le_refl _) _).setCell (Nat.le_refl _) _
/- The bits that have been laid so far. -/
def tkL (xs : List Nat) (t n i : Nat) : List Bool := (List.range n).map (fun k => decide (n - 1 - k < i) && (bitOf xs (t + (n - 1 - k)) == 1))
theorem tkL_length (xs : List Nat) (t n i : Nat) : (tkL xs t n i).length = n := by simp [tkL]
theorem tkL_set (xs : List Nat) (t n i : Nat) (hi : i < n) : (tkL xs t n i).set (n - 1 - i) (bitOf xs (t + i) == 1) = tkL xs t n (i + 1) := by
  refine List.ext_getElem (by simp [tkL]) fun k h1 h2 => ?_
  have hk : k < n := by simpa [tkL] using h2
  rw [List.getElem_set]
  by_cases e : n - 1 - i = k
  · subst e
    have e2 : n - 1 - (n - 1 - i) = i := by omega
    simp [tkL, e2]
  · rw [if_neg e]
    simp only [tkL, List.getElem_map, List.getElem_range]
    congr 1
    have : (n - 1 - k < i) ↔ (n - 1 - k < i + 1) := by omega
    simp [this]
theorem tkL_val (xs : List Nat) (t n : Nat) : valL (tkL xs t n n) = bval xs t n := by
  refine Nat.eq_of_testBit_eq fun j => ?_
  rw [valL_testBit]
  by_cases h : j < n
  · rw [bval_testBit _ _ _ _ h]
    have : n - 1 - j < n := by omega
    simp [tkL, List.getD_eq_getElem?_getD, h, this]
  · have hb : (bval xs t n).testBit j = false := Nat.testBit_lt_two_pow (Nat.lt_of_lt_of_le (bval_lt xs t n) (Nat.pow_le_pow_right (by decide) (by omega)))
    rw [hb]
    simp [tkL, List.getD_eq_getElem?_getD, h]
theorem Tryz.infoB : (Tryz.prog.info? 4).map (fun i => (i.zero, i.size, i.bytes)) = some (some (.bool false), 1, 1) := by kernel_rfl
theorem made_bools (xs : List Nat) (t n : Nat) : (madeCells (Value.bool false).cells (n * 1)).toList = (tkL xs t n 0).map Value.bool := by
  refine List.ext_getElem (by simp [madeCells, tkL]) fun i h1 h2 => ?_
  simp [madeCells, tkL, Value.cells, Nat.mod_one]
end Go.Proofs.YtlddnpgcoekaaaaGreatDoor
