/- Pieces of the proof: RDoA, RDoB. -/
import Derived.Test.YtlipcmonlhdgfaaGreatM26
/- The document's own Do, operation by operation (add, sub, mul). -/
namespace Go.Proofs.YtlipcmonlhdgfaaGreat
open Go.RowKit

theorem notL_length (l : List Bool) : (notL l).length = l.length := by simp [notL]
theorem sub_mod {u v n : Nat} (hn : n ≤ 128) (hv : v < 2 ^ n) : (u + (2 ^ n - 1 - v) + Bool.toNat true) % 2 ^ n = (u + top - v) % 2 ^ n := by
  have e : top = 2 ^ n * 2 ^ (128 - n) := by rw [top_eq, ← Nat.pow_add]; congr 1; omega
  obtain ⟨k, hk⟩ : ∃ k, 2 ^ (128 - n) = k + 1 := ⟨2 ^ (128 - n) - 1, by have := Nat.pow_pos (n := 128 - n) (by decide : 0 < 2); omega⟩
  have e2 : u + top - v = (u + (2 ^ n - 1 - v) + Bool.toNat true) + 2 ^ n * k := by rw [e, hk, Nat.mul_add]; simp; omega
  rw [e2, Nat.add_mul_mod_self_left]
set_option maxRecDepth 1000000 in
set_option maxHeartbeats 4000000 in
theorem refDo5_yes (n1 n m : Int) (u v : Nat) (w : World) (o1 : okN n1 u = true) (o2 : okN n1 v = true) :
    Calls Tryz.prog 186 #[.int .u8 5, .agg #[.int .i64 n1, .int .u64 (wHi u), .int .u64 (wLo u)], .agg #[.int .i64 n1, .int .u64 (wHi v), .int .u64 (wLo v)], .int .i64 n, .int .i64 m] w fun e w' => e = .returned (.tuple #[.agg #[.int .i64 n1, .int .u64 (wHi ((u + v) % 2 ^ n1.toNat)), .int .u64 (wLo ((u + v) % 2 ^ n1.toNat))], .int .i64 0]) ∧ Below w.heap.size w w' := by
  obtain ⟨b0, b1, b2, b3⟩ := okN_parts o1
  obtain ⟨c0, c1, c2, c3⟩ := okN_parts o2
  have HC2 := hide (fun W => refCheckV n1 v W c3 true o2)
  have HC1 := hide (fun W => refCheckV n1 u W b3 true o1)
  have HB1 := hide (fun W => refBitsV n1 u W b3 b1)
  have ea := lst_length n1 u; have va := lst_val b1 b2
  have HB2 := hide (fun W => refBitsV n1 v W c3 c1)
  have eb := lst_length n1 v; have vb := lst_val c1 c2
  have HN := hide (fun r W (hr : Row W r (addL (lst n1 u) (lst n1 v) false)) => refNumberV r (addL (lst n1 u) (lst n1 v) false) W (n1) (((u + v) % 2 ^ n1.toNat)) (by rw [addL_length]; omega) (by rw [addL_length, ea]; omega) (by rw [addL_val _ _ _ (by omega), va, vb, ea]; simp) hr)
  generalize hrh : wHi (((u + v) % 2 ^ n1.toNat)) = rh at *
  generalize hrl : wLo (((u + v) % 2 ^ n1.toNat)) = rl at *
  clear hrh hrl
  generalize wHi u = h1 at *
  generalize wLo u = l1 at *
  generalize wHi v = h2 at *
  generalize wLo v = l2 at *
  go_enter Tryz.func186, Tryz.ntmps186
  go_wp2_with fail
  refine (two_5 _).mono ?_
  rintro e w0 ⟨rfl, hw⟩
  subst hw
  go_wp2_with fail
  refine (HC1.out _).mono ?_
  rintro e w1 ⟨rfl, hb⟩
  obtain ⟨hc, hf⟩ := bcell hb
  have hz : w.heap.size + 2 < w1.heap.size := by have := hb.size; simp at this; omega
  go_wp2_with fail
  refine (HC2.out _).mono ?_
  rintro e w2 ⟨rfl, hb2⟩
  have hb' := hb.trans (hb2.mono hb.size)
  clear hc hf hz
  clear hb
  have hb := hb'
  clear hb'
  obtain ⟨hc, hf⟩ := bcell hb
  have hz : w.heap.size + 2 < w2.heap.size := by have := hb.size; simp at this; omega
  go_wp2_with fail
  refine (HB1.out _).mono ?_
  rintro e w3 ⟨r1, rfl, ho1, hb3⟩
  have HO1 := hide ho1
  clear ho1
  have hb' := hb.trans (hb3.mono hb.size)
  clear hc hf hz
  clear hb
  have hb := hb'
  clear hb'
  obtain ⟨hc, hf⟩ := bcell hb
  have hz : w.heap.size + 2 < w3.heap.size := by have := hb.size; simp at this; omega
  go_wp2_with fail
  refine (HB2.out _).mono ?_
  rintro e w4 ⟨r2, rfl, ho2, hb4⟩
  have HO2 := hide ho2
  have HR1 := hide ((own_row1 HO1.out (by omega)).keep hb4)
  have HR2 := hide (own_row1 HO2.out (by omega))
  clear ho2
  have hb' := hb.trans (hb4.mono hb.size)
  clear hc hf hz
  clear hb
  have hb := hb'
  clear hb'
  obtain ⟨hc, hf⟩ := bcell hb
  have hz : w.heap.size + 2 < w4.heap.size := by have := hb.size; simp at this; omega
  go_wp2_with fail
  refine (refAdd_any (lst n1 u) (lst n1 v) false (by omega) (by omega) _ _ _ HR1.out HR2.out).mono ?_
  rintro e w5 ⟨r3, rfl, ho3, hb5⟩
  have HR := hide (own_row ho3 (by rw [addL_length]; omega))
  clear ho3
  have hb' := hb.trans (hb5.mono hb.size)
  clear hc hf hz
  clear hb
  have hb := hb'
  clear hb'
  obtain ⟨hc, hf⟩ := bcell hb
  have hz : w.heap.size + 2 < w5.heap.size := by have := hb.size; simp at this; omega
  go_wp2_with fail
  refine (HN.out _ _ HR.out).mono ?_
  rintro e w9 ⟨rfl, hb9⟩
  have hb' := hb.trans (hb9.mono hb.size)
  clear hc hf hz
  clear hb
  have hb := hb'
  clear hb'
  obtain ⟨hc, hf⟩ := bcell hb
  have hz : w.heap.size + 2 < w9.heap.size := by have := hb.size; simp at this; omega
  go_wp2
  refine bodyPost_ret (v := .tuple #[.agg #[.int .i64 n1, .int .u64 rh, .int .u64 rl], .int .i64 0]) (by simp [results, Tryz.results186, go_sem, hc]) rfl ⟨rfl, ?_⟩
  exact (((((((Below.refl _ _).alloc (Nat.le_refl _) _).alloc (by simp) _).alloc (by simp; omega) _).trans (hb.mono (by simp; omega))).setCell (by simp; omega) _).setCell (by simp; omega) _).setCell (by simp; omega) _
set_option maxRecDepth 1000000 in
set_option maxHeartbeats 4000000 in
theorem refDo6_yes (n1 n m : Int) (u v : Nat) (w : World) (o1 : okN n1 u = true) (o2 : okN n1 v = true) :
    Calls Tryz.prog 186 #[.int .u8 6, .agg #[.int .i64 n1, .int .u64 (wHi u), .int .u64 (wLo u)], .agg #[.int .i64 n1, .int .u64 (wHi v), .int .u64 (wLo v)], .int .i64 n, .int .i64 m] w fun e w' => e = .returned (.tuple #[.agg #[.int .i64 n1, .int .u64 (wHi ((u + top - v) % 2 ^ n1.toNat)), .int .u64 (wLo ((u + top - v) % 2 ^ n1.toNat))], .int .i64 0]) ∧ Below w.heap.size w w' := by
  obtain ⟨b0, b1, b2, b3⟩ := okN_parts o1
  obtain ⟨c0, c1, c2, c3⟩ := okN_parts o2
  have HC2 := hide (fun W => refCheckV n1 v W c3 true o2)
  have HC1 := hide (fun W => refCheckV n1 u W b3 true o1)
  have HB1 := hide (fun W => refBitsV n1 u W b3 b1)
  have ea := lst_length n1 u; have va := lst_val b1 b2
  have HB2 := hide (fun W => refBitsV n1 v W c3 c1)
  have eb := lst_length n1 v; have vb := lst_val c1 c2
  have HN := hide (fun r W (hr : Row W r (addL (lst n1 u) (notL (lst n1 v)) true)) => refNumberV r (addL (lst n1 u) (notL (lst n1 v)) true) W (n1) (((u + top - v) % 2 ^ n1.toNat)) (by rw [addL_length]; omega) (by rw [addL_length, ea]; omega) (by rw [addL_val _ _ _ (by rw [notL_length]; omega), notL_val, va, vb, ea, eb]; exact sub_mod (by omega) c2) hr)
  generalize hrh : wHi (((u + top - v) % 2 ^ n1.toNat)) = rh at *
  generalize hrl : wLo (((u + top - v) % 2 ^ n1.toNat)) = rl at *
  clear hrh hrl
  generalize wHi u = h1 at *
  generalize wLo u = l1 at *
  generalize wHi v = h2 at *
  generalize wLo v = l2 at *
  go_enter Tryz.func186, Tryz.ntmps186
  go_wp2_with fail
  refine (two_6 _).mono ?_
  rintro e w0 ⟨rfl, hw⟩
  subst hw
  go_wp2_with fail
  refine (HC1.out _).mono ?_
  rintro e w1 ⟨rfl, hb⟩
  obtain ⟨hc, hf⟩ := bcell hb
  have hz : w.heap.size + 2 < w1.heap.size := by have := hb.size; simp at this; omega
  go_wp2_with fail
  refine (HC2.out _).mono ?_
  rintro e w2 ⟨rfl, hb2⟩
  have hb' := hb.trans (hb2.mono hb.size)
  clear hc hf hz
  clear hb
  have hb := hb'
  clear hb'
  obtain ⟨hc, hf⟩ := bcell hb
  have hz : w.heap.size + 2 < w2.heap.size := by have := hb.size; simp at this; omega
  go_wp2_with fail
  refine (HB1.out _).mono ?_
  rintro e w3 ⟨r1, rfl, ho1, hb3⟩
  have HO1 := hide ho1
  clear ho1
  have hb' := hb.trans (hb3.mono hb.size)
  clear hc hf hz
  clear hb
  have hb := hb'
  clear hb'
  obtain ⟨hc, hf⟩ := bcell hb
  have hz : w.heap.size + 2 < w3.heap.size := by have := hb.size; simp at this; omega
  go_wp2_with fail
  refine (HB2.out _).mono ?_
  rintro e w4 ⟨r2, rfl, ho2, hb4⟩
  have HO2 := hide ho2
  have HR1 := hide ((own_row1 HO1.out (by omega)).keep hb4)
  have HR2 := hide (own_row1 HO2.out (by omega))
  clear ho2
  have hb' := hb.trans (hb4.mono hb.size)
  clear hc hf hz
  clear hb
  have hb := hb'
  clear hb'
  obtain ⟨hc, hf⟩ := bcell hb
  have hz : w.heap.size + 2 < w4.heap.size := by have := hb.size; simp at this; omega
  go_wp2_with fail
  refine (refNot_any (lst n1 v) (by omega) _ _ HR2.out).mono ?_
  rintro e w5 ⟨r3, rfl, ho3, hb5⟩
  have HR3 := hide (own_row ho3 (by rw [notL_length]; omega))
  have HR1' := hide (HR1.out.keep hb5)
  clear ho3
  have hb' := hb.trans (hb5.mono hb.size)
  clear hc hf hz
  clear hb
  have hb := hb'
  clear hb'
  obtain ⟨hc, hf⟩ := bcell hb
  have hz : w.heap.size + 2 < w5.heap.size := by have := hb.size; simp at this; omega
  go_wp2_with fail
  refine (refAdd_any (lst n1 u) (notL (lst n1 v)) true (by omega) (by rw [notL_length]; omega) _ _ _ HR1'.out HR3.out).mono ?_
  rintro e w6 ⟨r4, rfl, ho4, hb6⟩
  have HR := hide (own_row ho4 (by rw [addL_length]; omega))
  clear ho4
  have hb' := hb.trans (hb6.mono hb.size)
  clear hc hf hz
  clear hb
  have hb := hb'
  clear hb'
  obtain ⟨hc, hf⟩ := bcell hb
  have hz : w.heap.size + 2 < w6.heap.size := by have := hb.size; simp at this; omega
  go_wp2_with fail
  refine (HN.out _ _ HR.out).mono ?_
  rintro e w9 ⟨rfl, hb9⟩
  have hb' := hb.trans (hb9.mono hb.size)
  clear hc hf hz
  clear hb
  have hb := hb'
  clear hb'
  obtain ⟨hc, hf⟩ := bcell hb
  have hz : w.heap.size + 2 < w9.heap.size := by have := hb.size; simp at this; omega
  go_wp2
  refine bodyPost_ret (v := .tuple #[.agg #[.int .i64 n1, .int .u64 rh, .int .u64 rl], .int .i64 0]) (by simp [results, Tryz.results186, go_sem, hc]) rfl ⟨rfl, ?_⟩
  exact (((((((Below.refl _ _).alloc (Nat.le_refl _) _).alloc (by simp) _).alloc (by simp; omega) _).trans (hb.mono (by simp; omega))).setCell (by simp; omega) _).setCell (by simp; omega) _).setCell (by simp; omega) _
set_option maxRecDepth 1000000 in
set_option maxHeartbeats 4000000 in
theorem refDo7_yes (n1 n m : Int) (u v : Nat) (w : World) (o1 : okN n1 u = true) (o2 : okN n1 v = true) :
    Calls Tryz.prog 186 #[.int .u8 7, .agg #[.int .i64 n1, .int .u64 (wHi u), .int .u64 (wLo u)], .agg #[.int .i64 n1, .int .u64 (wHi v), .int .u64 (wLo v)], .int .i64 n, .int .i64 m] w fun e w' => e = .returned (.tuple #[.agg #[.int .i64 n1, .int .u64 (wHi (u * v % 2 ^ n1.toNat)), .int .u64 (wLo (u * v % 2 ^ n1.toNat))], .int .i64 0]) ∧ Below w.heap.size w w' := by
  obtain ⟨b0, b1, b2, b3⟩ := okN_parts o1
  obtain ⟨c0, c1, c2, c3⟩ := okN_parts o2
  have HC2 := hide (fun W => refCheckV n1 v W c3 true o2)
  have HC1 := hide (fun W => refCheckV n1 u W b3 true o1)
  have HB1 := hide (fun W => refBitsV n1 u W b3 b1)
  have ea := lst_length n1 u; have va := lst_val b1 b2
  have HB2 := hide (fun W => refBitsV n1 v W c3 c1)
  have eb := lst_length n1 v; have vb := lst_val c1 c2
  have HN := hide (fun r W (hr : Row W r (mulTo (lst n1 u) (lst n1 v) (lst n1 u).length)) => refNumberV r (mulTo (lst n1 u) (lst n1 v) (lst n1 u).length) W (n1) ((u * v % 2 ^ n1.toNat)) (by rw [mulTo_length]; omega) (by rw [mulTo_length, ea]; omega) (by have := mulTo_all (lst n1 u) (lst n1 v); rw [show (lst n1 v).length = (lst n1 u).length by omega, va, vb] at this; rw [← ea]; exact this) hr)
  generalize hrh : wHi ((u * v % 2 ^ n1.toNat)) = rh at *
  generalize hrl : wLo ((u * v % 2 ^ n1.toNat)) = rl at *
  clear hrh hrl
  generalize wHi u = h1 at *
  generalize wLo u = l1 at *
  generalize wHi v = h2 at *
  generalize wLo v = l2 at *
  go_enter Tryz.func186, Tryz.ntmps186
  go_wp2_with fail
  refine (two_7 _).mono ?_
  rintro e w0 ⟨rfl, hw⟩
  subst hw
  go_wp2_with fail
  refine (HC1.out _).mono ?_
  rintro e w1 ⟨rfl, hb⟩
  obtain ⟨hc, hf⟩ := bcell hb
  have hz : w.heap.size + 2 < w1.heap.size := by have := hb.size; simp at this; omega
  go_wp2_with fail
  refine (HC2.out _).mono ?_
  rintro e w2 ⟨rfl, hb2⟩
  have hb' := hb.trans (hb2.mono hb.size)
  clear hc hf hz
  clear hb
  have hb := hb'
  clear hb'
  obtain ⟨hc, hf⟩ := bcell hb
  have hz : w.heap.size + 2 < w2.heap.size := by have := hb.size; simp at this; omega
  go_wp2_with fail
  refine (HB1.out _).mono ?_
  rintro e w3 ⟨r1, rfl, ho1, hb3⟩
  have HO1 := hide ho1
  clear ho1
  have hb' := hb.trans (hb3.mono hb.size)
  clear hc hf hz
  clear hb
  have hb := hb'
  clear hb'
  obtain ⟨hc, hf⟩ := bcell hb
  have hz : w.heap.size + 2 < w3.heap.size := by have := hb.size; simp at this; omega
  go_wp2_with fail
  refine (HB2.out _).mono ?_
  rintro e w4 ⟨r2, rfl, ho2, hb4⟩
  have HO2 := hide ho2
  have HR1 := hide ((own_row1 HO1.out (by omega)).keep hb4)
  have HR2 := hide (own_row1 HO2.out (by omega))
  clear ho2
  have hb' := hb.trans (hb4.mono hb.size)
  clear hc hf hz
  clear hb
  have hb := hb'
  clear hb'
  obtain ⟨hc, hf⟩ := bcell hb
  have hz : w.heap.size + 2 < w4.heap.size := by have := hb.size; simp at this; omega
  go_wp2_with fail
  refine (refMul_any (lst n1 u) (lst n1 v) (by omega) (by omega) (by omega) _ _ _ HR1.out HR2.out).mono ?_
  rintro e w5 ⟨r3, rfl, ho3, hb5⟩
  have HR := hide ho3
  clear ho3
  have hb' := hb.trans (hb5.mono hb.size)
  clear hc hf hz
  clear hb
  have hb := hb'
  clear hb'
  obtain ⟨hc, hf⟩ := bcell hb
  have hz : w.heap.size + 2 < w5.heap.size := by have := hb.size; simp at this; omega
  go_wp2_with fail
  refine (HN.out _ _ HR.out).mono ?_
  rintro e w9 ⟨rfl, hb9⟩
  have hb' := hb.trans (hb9.mono hb.size)
  clear hc hf hz
  clear hb
  have hb := hb'
  clear hb'
  obtain ⟨hc, hf⟩ := bcell hb
  have hz : w.heap.size + 2 < w9.heap.size := by have := hb.size; simp at this; omega
  go_wp2
  refine bodyPost_ret (v := .tuple #[.agg #[.int .i64 n1, .int .u64 rh, .int .u64 rl], .int .i64 0]) (by simp [results, Tryz.results186, go_sem, hc]) rfl ⟨rfl, ?_⟩
  exact (((((((Below.refl _ _).alloc (Nat.le_refl _) _).alloc (by simp) _).alloc (by simp; omega) _).trans (hb.mono (by simp; omega))).setCell (by simp; omega) _).setCell (by simp; omega) _).setCell (by simp; omega) _
end Go.Proofs.YtlipcmonlhdgfaaGreat
/- The document's own Do, operation by operation (bit by bit). -/
namespace Go.Proofs.YtlipcmonlhdgfaaGreat
open Go.RowKit

set_option maxRecDepth 1000000 in
set_option maxHeartbeats 4000000 in
theorem refDo8_yes (n1 n m : Int) (u v : Nat) (w : World) (o1 : okN n1 u = true) (o2 : okN n1 v = true) :
    Calls Tryz.prog 186 #[.int .u8 8, .agg #[.int .i64 n1, .int .u64 (wHi u), .int .u64 (wLo u)], .agg #[.int .i64 n1, .int .u64 (wHi v), .int .u64 (wLo v)], .int .i64 n, .int .i64 m] w fun e w' => e = .returned (.tuple #[.agg #[.int .i64 n1, .int .u64 (wHi (u &&& v)), .int .u64 (wLo (u &&& v))], .int .i64 0]) ∧ Below w.heap.size w w' := by
  obtain ⟨b0, b1, b2, b3⟩ := okN_parts o1
  obtain ⟨c0, c1, c2, c3⟩ := okN_parts o2
  have HC2 := hide (fun W => refCheckV n1 v W c3 true o2)
  have HC1 := hide (fun W => refCheckV n1 u W b3 true o1)
  have HB1 := hide (fun W => refBitsV n1 u W b3 b1)
  have ea := lst_length n1 u; have va := lst_val b1 b2
  have HB2 := hide (fun W => refBitsV n1 v W c3 c1)
  have eb := lst_length n1 v; have vb := lst_val c1 c2
  have HN := hide (fun r W (hr : Row W r (eachTo (fun x y => x && y) (lst n1 u) (lst n1 v) (lst n1 u).length)) => refNumberV r (eachTo (fun x y => x && y) (lst n1 u) (lst n1 v) (lst n1 u).length) W (n1) ((u &&& v)) (by rw [eachTo_length]; omega) (by rw [eachTo_length, ea]; omega) (by have := eachTo_val (fun x y => x && y) (fun x y => x &&& y) (fun x y j => Nat.testBit_and x y j) rfl (lst n1 u) (lst n1 v) (by omega); rw [va, vb] at this; exact this) hr)
  generalize hrh : wHi ((u &&& v)) = rh at *
  generalize hrl : wLo ((u &&& v)) = rl at *
  clear hrh hrl
  generalize wHi u = h1 at *
  generalize wLo u = l1 at *
  generalize wHi v = h2 at *
  generalize wLo v = l2 at *
  go_enter Tryz.func186, Tryz.ntmps186
  go_wp2_with fail
  refine (two_8 _).mono ?_
  rintro e w0 ⟨rfl, hw⟩
  subst hw
  go_wp2_with fail
  refine (HC1.out _).mono ?_
  rintro e w1 ⟨rfl, hb⟩
  obtain ⟨hc, hf⟩ := bcell hb
  have hz : w.heap.size + 2 < w1.heap.size := by have := hb.size; simp at this; omega
  go_wp2_with fail
  refine (HC2.out _).mono ?_
  rintro e w2 ⟨rfl, hb2⟩
  have hb' := hb.trans (hb2.mono hb.size)
  clear hc hf hz
  clear hb
  have hb := hb'
  clear hb'
  obtain ⟨hc, hf⟩ := bcell hb
  have hz : w.heap.size + 2 < w2.heap.size := by have := hb.size; simp at this; omega
  go_wp2_with fail
  refine (HB1.out _).mono ?_
  rintro e w3 ⟨r1, rfl, ho1, hb3⟩
  have HO1 := hide ho1
  clear ho1
  have hb' := hb.trans (hb3.mono hb.size)
  clear hc hf hz
  clear hb
  have hb := hb'
  clear hb'
  obtain ⟨hc, hf⟩ := bcell hb
  have hz : w.heap.size + 2 < w3.heap.size := by have := hb.size; simp at this; omega
  go_wp2_with fail
  refine (HB2.out _).mono ?_
  rintro e w4 ⟨r2, rfl, ho2, hb4⟩
  have HO2 := hide ho2
  have HR1 := hide ((own_row1 HO1.out (by omega)).keep hb4)
  have HR2 := hide (own_row1 HO2.out (by omega))
  clear ho2
  have hb' := hb.trans (hb4.mono hb.size)
  clear hc hf hz
  clear hb
  have hb := hb'
  clear hb'
  obtain ⟨hc, hf⟩ := bcell hb
  have hz : w.heap.size + 2 < w4.heap.size := by have := hb.size; simp at this; omega
  go_wp2_with fail
  refine (refEachAnd (lst n1 u) (lst n1 v) (by omega) (by omega) _ _ _ HR1.out HR2.out).mono ?_
  rintro e w5 ⟨r3, rfl, ho3, hb5⟩
  have HR := hide (own_row ho3 (by rw [eachTo_length]; omega))
  clear ho3
  have hb' := hb.trans (hb5.mono hb.size)
  clear hc hf hz
  clear hb
  have hb := hb'
  clear hb'
  obtain ⟨hc, hf⟩ := bcell hb
  have hz : w.heap.size + 2 < w5.heap.size := by have := hb.size; simp at this; omega
  go_wp2_with fail
  refine (HN.out _ _ HR.out).mono ?_
  rintro e w9 ⟨rfl, hb9⟩
  have hb' := hb.trans (hb9.mono hb.size)
  clear hc hf hz
  clear hb
  have hb := hb'
  clear hb'
  obtain ⟨hc, hf⟩ := bcell hb
  have hz : w.heap.size + 2 < w9.heap.size := by have := hb.size; simp at this; omega
  go_wp2
  refine bodyPost_ret (v := .tuple #[.agg #[.int .i64 n1, .int .u64 rh, .int .u64 rl], .int .i64 0]) (by simp [results, Tryz.results186, go_sem, hc]) rfl ⟨rfl, ?_⟩
  exact (((((((Below.refl _ _).alloc (Nat.le_refl _) _).alloc (by simp) _).alloc (by simp; omega) _).trans (hb.mono (by simp; omega))).setCell (by simp; omega) _).setCell (by simp; omega) _).setCell (by simp; omega) _
set_option maxRecDepth 1000000 in
set_option maxHeartbeats 4000000 in
theorem refDo9_yes (n1 n m : Int) (u v : Nat) (w : World) (o1 : okN n1 u = true) (o2 : okN n1 v = true) :
    Calls Tryz.prog 186 #[.int .u8 9, .agg #[.int .i64 n1, .int .u64 (wHi u), .int .u64 (wLo u)], .agg #[.int .i64 n1, .int .u64 (wHi v), .int .u64 (wLo v)], .int .i64 n, .int .i64 m] w fun e w' => e = .returned (.tuple #[.agg #[.int .i64 n1, .int .u64 (wHi (u ||| v)), .int .u64 (wLo (u ||| v))], .int .i64 0]) ∧ Below w.heap.size w w' := by
  obtain ⟨b0, b1, b2, b3⟩ := okN_parts o1
  obtain ⟨c0, c1, c2, c3⟩ := okN_parts o2
  have HC2 := hide (fun W => refCheckV n1 v W c3 true o2)
  have HC1 := hide (fun W => refCheckV n1 u W b3 true o1)
  have HB1 := hide (fun W => refBitsV n1 u W b3 b1)
  have ea := lst_length n1 u; have va := lst_val b1 b2
  have HB2 := hide (fun W => refBitsV n1 v W c3 c1)
  have eb := lst_length n1 v; have vb := lst_val c1 c2
  have HN := hide (fun r W (hr : Row W r (eachTo (fun x y => x || y) (lst n1 u) (lst n1 v) (lst n1 u).length)) => refNumberV r (eachTo (fun x y => x || y) (lst n1 u) (lst n1 v) (lst n1 u).length) W (n1) ((u ||| v)) (by rw [eachTo_length]; omega) (by rw [eachTo_length, ea]; omega) (by have := eachTo_val (fun x y => x || y) (fun x y => x ||| y) (fun x y j => Nat.testBit_or x y j) rfl (lst n1 u) (lst n1 v) (by omega); rw [va, vb] at this; exact this) hr)
  generalize hrh : wHi ((u ||| v)) = rh at *
  generalize hrl : wLo ((u ||| v)) = rl at *
  clear hrh hrl
  generalize wHi u = h1 at *
  generalize wLo u = l1 at *
  generalize wHi v = h2 at *
  generalize wLo v = l2 at *
  go_enter Tryz.func186, Tryz.ntmps186
  go_wp2_with fail
  refine (two_9 _).mono ?_
  rintro e w0 ⟨rfl, hw⟩
  subst hw
  go_wp2_with fail
  refine (HC1.out _).mono ?_
  rintro e w1 ⟨rfl, hb⟩
  obtain ⟨hc, hf⟩ := bcell hb
  have hz : w.heap.size + 2 < w1.heap.size := by have := hb.size; simp at this; omega
  go_wp2_with fail
  refine (HC2.out _).mono ?_
  rintro e w2 ⟨rfl, hb2⟩
  have hb' := hb.trans (hb2.mono hb.size)
  clear hc hf hz
  clear hb
  have hb := hb'
  clear hb'
  obtain ⟨hc, hf⟩ := bcell hb
  have hz : w.heap.size + 2 < w2.heap.size := by have := hb.size; simp at this; omega
  go_wp2_with fail
  refine (HB1.out _).mono ?_
  rintro e w3 ⟨r1, rfl, ho1, hb3⟩
  have HO1 := hide ho1
  clear ho1
  have hb' := hb.trans (hb3.mono hb.size)
  clear hc hf hz
  clear hb
  have hb := hb'
  clear hb'
  obtain ⟨hc, hf⟩ := bcell hb
  have hz : w.heap.size + 2 < w3.heap.size := by have := hb.size; simp at this; omega
  go_wp2_with fail
  refine (HB2.out _).mono ?_
  rintro e w4 ⟨r2, rfl, ho2, hb4⟩
  have HO2 := hide ho2
  have HR1 := hide ((own_row1 HO1.out (by omega)).keep hb4)
  have HR2 := hide (own_row1 HO2.out (by omega))
  clear ho2
  have hb' := hb.trans (hb4.mono hb.size)
  clear hc hf hz
  clear hb
  have hb := hb'
  clear hb'
  obtain ⟨hc, hf⟩ := bcell hb
  have hz : w.heap.size + 2 < w4.heap.size := by have := hb.size; simp at this; omega
  go_wp2_with fail
  refine (refEachOr (lst n1 u) (lst n1 v) (by omega) (by omega) _ _ _ HR1.out HR2.out).mono ?_
  rintro e w5 ⟨r3, rfl, ho3, hb5⟩
  have HR := hide (own_row ho3 (by rw [eachTo_length]; omega))
  clear ho3
  have hb' := hb.trans (hb5.mono hb.size)
  clear hc hf hz
  clear hb
  have hb := hb'
  clear hb'
  obtain ⟨hc, hf⟩ := bcell hb
  have hz : w.heap.size + 2 < w5.heap.size := by have := hb.size; simp at this; omega
  go_wp2_with fail
  refine (HN.out _ _ HR.out).mono ?_
  rintro e w9 ⟨rfl, hb9⟩
  have hb' := hb.trans (hb9.mono hb.size)
  clear hc hf hz
  clear hb
  have hb := hb'
  clear hb'
  obtain ⟨hc, hf⟩ := bcell hb
  have hz : w.heap.size + 2 < w9.heap.size := by have := hb.size; simp at this; omega
  go_wp2
  refine bodyPost_ret (v := .tuple #[.agg #[.int .i64 n1, .int .u64 rh, .int .u64 rl], .int .i64 0]) (by simp [results, Tryz.results186, go_sem, hc]) rfl ⟨rfl, ?_⟩
  exact (((((((Below.refl _ _).alloc (Nat.le_refl _) _).alloc (by simp) _).alloc (by simp; omega) _).trans (hb.mono (by simp; omega))).setCell (by simp; omega) _).setCell (by simp; omega) _).setCell (by simp; omega) _
set_option maxRecDepth 1000000 in
set_option maxHeartbeats 4000000 in
theorem refDo10_yes (n1 n m : Int) (u v : Nat) (w : World) (o1 : okN n1 u = true) (o2 : okN n1 v = true) :
    Calls Tryz.prog 186 #[.int .u8 10, .agg #[.int .i64 n1, .int .u64 (wHi u), .int .u64 (wLo u)], .agg #[.int .i64 n1, .int .u64 (wHi v), .int .u64 (wLo v)], .int .i64 n, .int .i64 m] w fun e w' => e = .returned (.tuple #[.agg #[.int .i64 n1, .int .u64 (wHi (u ^^^ v)), .int .u64 (wLo (u ^^^ v))], .int .i64 0]) ∧ Below w.heap.size w w' := by
  obtain ⟨b0, b1, b2, b3⟩ := okN_parts o1
  obtain ⟨c0, c1, c2, c3⟩ := okN_parts o2
  have HC2 := hide (fun W => refCheckV n1 v W c3 true o2)
  have HC1 := hide (fun W => refCheckV n1 u W b3 true o1)
  have HB1 := hide (fun W => refBitsV n1 u W b3 b1)
  have ea := lst_length n1 u; have va := lst_val b1 b2
  have HB2 := hide (fun W => refBitsV n1 v W c3 c1)
  have eb := lst_length n1 v; have vb := lst_val c1 c2
  have HN := hide (fun r W (hr : Row W r (eachTo (fun x y => x != y) (lst n1 u) (lst n1 v) (lst n1 u).length)) => refNumberV r (eachTo (fun x y => x != y) (lst n1 u) (lst n1 v) (lst n1 u).length) W (n1) ((u ^^^ v)) (by rw [eachTo_length]; omega) (by rw [eachTo_length, ea]; omega) (by have := eachTo_val (fun x y => x != y) (fun x y => x ^^^ y) (fun x y j => Nat.testBit_xor x y j) rfl (lst n1 u) (lst n1 v) (by omega); rw [va, vb] at this; exact this) hr)
  generalize hrh : wHi ((u ^^^ v)) = rh at *
  generalize hrl : wLo ((u ^^^ v)) = rl at *
  clear hrh hrl
  generalize wHi u = h1 at *
  generalize wLo u = l1 at *
  generalize wHi v = h2 at *
  generalize wLo v = l2 at *
  go_enter Tryz.func186, Tryz.ntmps186
  go_wp2_with fail
  refine (two_10 _).mono ?_
  rintro e w0 ⟨rfl, hw⟩
  subst hw
  go_wp2_with fail
  refine (HC1.out _).mono ?_
  rintro e w1 ⟨rfl, hb⟩
  obtain ⟨hc, hf⟩ := bcell hb
  have hz : w.heap.size + 2 < w1.heap.size := by have := hb.size; simp at this; omega
  go_wp2_with fail
  refine (HC2.out _).mono ?_
  rintro e w2 ⟨rfl, hb2⟩
  have hb' := hb.trans (hb2.mono hb.size)
  clear hc hf hz
  clear hb
  have hb := hb'
  clear hb'
  obtain ⟨hc, hf⟩ := bcell hb
  have hz : w.heap.size + 2 < w2.heap.size := by have := hb.size; simp at this; omega
  go_wp2_with fail
  refine (HB1.out _).mono ?_
  rintro e w3 ⟨r1, rfl, ho1, hb3⟩
  have HO1 := hide ho1
  clear ho1
  have hb' := hb.trans (hb3.mono hb.size)
  clear hc hf hz
  clear hb
  have hb := hb'
  clear hb'
  obtain ⟨hc, hf⟩ := bcell hb
  have hz : w.heap.size + 2 < w3.heap.size := by have := hb.size; simp at this; omega
  go_wp2_with fail
  refine (HB2.out _).mono ?_
  rintro e w4 ⟨r2, rfl, ho2, hb4⟩
  have HO2 := hide ho2
  have HR1 := hide ((own_row1 HO1.out (by omega)).keep hb4)
  have HR2 := hide (own_row1 HO2.out (by omega))
  clear ho2
  have hb' := hb.trans (hb4.mono hb.size)
  clear hc hf hz
  clear hb
  have hb := hb'
  clear hb'
  obtain ⟨hc, hf⟩ := bcell hb
  have hz : w.heap.size + 2 < w4.heap.size := by have := hb.size; simp at this; omega
  go_wp2_with fail
  refine (refEachXor (lst n1 u) (lst n1 v) (by omega) (by omega) _ _ _ HR1.out HR2.out).mono ?_
  rintro e w5 ⟨r3, rfl, ho3, hb5⟩
  have HR := hide (own_row ho3 (by rw [eachTo_length]; omega))
  clear ho3
  have hb' := hb.trans (hb5.mono hb.size)
  clear hc hf hz
  clear hb
  have hb := hb'
  clear hb'
  obtain ⟨hc, hf⟩ := bcell hb
  have hz : w.heap.size + 2 < w5.heap.size := by have := hb.size; simp at this; omega
  go_wp2_with fail
  refine (HN.out _ _ HR.out).mono ?_
  rintro e w9 ⟨rfl, hb9⟩
  have hb' := hb.trans (hb9.mono hb.size)
  clear hc hf hz
  clear hb
  have hb := hb'
  clear hb'
  obtain ⟨hc, hf⟩ := bcell hb
  have hz : w.heap.size + 2 < w9.heap.size := by have := hb.size; simp at this; omega
  go_wp2
  refine bodyPost_ret (v := .tuple #[.agg #[.int .i64 n1, .int .u64 rh, .int .u64 rl], .int .i64 0]) (by simp [results, Tryz.results186, go_sem, hc]) rfl ⟨rfl, ?_⟩
  exact (((((((Below.refl _ _).alloc (Nat.le_refl _) _).alloc (by simp) _).alloc (by simp; omega) _).trans (hb.mono (by simp; omega))).setCell (by simp; omega) _).setCell (by simp; omega) _).setCell (by simp; omega) _
end Go.Proofs.YtlipcmonlhdgfaaGreat
