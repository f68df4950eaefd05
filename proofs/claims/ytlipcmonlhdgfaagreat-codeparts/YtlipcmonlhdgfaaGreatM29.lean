/- Pieces of the proof: RDoE. -/
import Derived.Test.YtlipcmonlhdgfaaGreatM27
/- The document's own Do, operation by operation (questions). -/
namespace Go.Proofs.YtlipcmonlhdgfaaGreat
open Go.RowKit

set_option maxRecDepth 1000000 in
set_option maxHeartbeats 4000000 in
theorem refDo17_yes (n1 n m : Int) (u v : Nat) (w : World) (o1 : okN n1 u = true) (o2 : okN n1 v = true) :
    Calls Tryz.prog 186 #[.int .u8 17, .agg #[.int .i64 n1, .int .u64 (wHi u), .int .u64 (wLo u)], .agg #[.int .i64 n1, .int .u64 (wHi v), .int .u64 (wLo v)], .int .i64 n, .int .i64 m] w fun e w' => e = .returned (.tuple #[.agg #[.int .i64 1, .int .u64 (wHi (decide (u = v)).toNat), .int .u64 (wLo (decide (u = v)).toNat)], .int .i64 0]) ∧ Below w.heap.size w w' := by
  obtain ⟨b0, b1, b2, b3⟩ := okN_parts o1
  obtain ⟨c0, c1, c2, c3⟩ := okN_parts o2
  have HC2 := hide (fun W => refCheckV n1 v W c3 true o2)
  have HC1 := hide (fun W => refCheckV n1 u W b3 true o1)
  have HB1 := hide (fun W => refBitsV n1 u W b3 b1)
  have ea := lst_length n1 u; have va := lst_val b1 b2
  have HB2 := hide (fun W => refBitsV n1 v W c3 c1)
  have eb := lst_length n1 v; have vb := lst_val c1 c2
  have HEQ := hide (w_eq u v)
  have HN := hide (fun r W (hr : Row W r ([decide (u = v)])) => refNumberV r ([decide (u = v)]) W (1) ((decide (u = v)).toNat) (by simp) (by simp) (by simp [valL]) hr)
  generalize hrh : wHi ((decide (u = v)).toNat) = rh at *
  generalize hrl : wLo ((decide (u = v)).toNat) = rl at *
  clear hrh hrl
  generalize wHi u = h1 at *
  generalize wLo u = l1 at *
  generalize wHi v = h2 at *
  generalize wLo v = l2 at *
  generalize hd : decide (u = v) = d at *
  clear hd
  cases e1 : (h1 == h2)
  · cases e2 : (l1 == l2)
    · go_enter Tryz.func186, Tryz.ntmps186
      go_wp2_with fail
      refine (two_17 _).mono ?_
      rintro e w0 ⟨rfl, hw⟩
      subst hw
      go_wp2_with fail
      refine (HC1.out _).mono ?_
      rintro e w1 ⟨rfl, hb⟩
      obtain ⟨hc, hf⟩ := bcell hb
      have hz : w.heap.size + 2 < w1.heap.size := by have := hb.size; simp at this; omega
      go_wp2_with fail
      refine (HC2.out _).mono ?_
      rintro e w2 ⟨rfl, hb2⟩
      have hb' := hb.trans (hb2.mono hb.size)
      clear hc hf hz
      clear hb
      have hb := hb'
      clear hb'
      obtain ⟨hc, hf⟩ := bcell hb
      have hz : w.heap.size + 2 < w2.heap.size := by have := hb.size; simp at this; omega
      go_wp2_with fail
      refine (HB1.out _).mono ?_
      rintro e w3 ⟨r1, rfl, ho1, hb3⟩
      have HO1 := hide ho1
      clear ho1
      have hb' := hb.trans (hb3.mono hb.size)
      clear hc hf hz
      clear hb
      have hb := hb'
      clear hb'
      obtain ⟨hc, hf⟩ := bcell hb
      have hz : w.heap.size + 2 < w3.heap.size := by have := hb.size; simp at this; omega
      go_wp2_with fail
      refine (HB2.out _).mono ?_
      rintro e w4 ⟨r2, rfl, ho2, hb4⟩
      have HO2 := hide ho2
      have HR1 := hide ((own_row1 HO1.out (by omega)).keep hb4)
      have HR2 := hide (own_row1 HO2.out (by omega))
      clear ho2
      have hb' := hb.trans (hb4.mono hb.size)
      clear hc hf hz
      clear hb
      have hb := hb'
      clear hb'
      obtain ⟨hc, hf⟩ := bcell hb
      have hz : w.heap.size + 2 < w4.heap.size := by have := hb.size; simp at this; omega
      have hd : d = false := by have := HEQ.out; rw [e1, e2] at this; exact this.symm
      subst hd
      go_wp2_with fail
      refine (refOne_any _ _).mono ?_
      rintro e w5 ⟨r3, rfl, ho3, hb5⟩
      have HR := hide (own_row ho3 (by simp))
      clear ho3
      have hb' := hb.trans (hb5.mono hb.size)
      clear hc hf hz
      clear hb
      have hb := hb'
      clear hb'
      obtain ⟨hc, hf⟩ := bcell hb
      have hz : w.heap.size + 2 < w5.heap.size := by have := hb.size; simp at this; omega
      go_wp2_with fail
      refine (HN.out _ _ HR.out).mono ?_
      rintro e w9 ⟨rfl, hb9⟩
      have hb' := hb.trans (hb9.mono hb.size)
      clear hc hf hz
      clear hb
      have hb := hb'
      clear hb'
      obtain ⟨hc, hf⟩ := bcell hb
      have hz : w.heap.size + 2 < w9.heap.size := by have := hb.size; simp at this; omega
      go_wp2
      refine bodyPost_ret (v := .tuple #[.agg #[.int .i64 1, .int .u64 rh, .int .u64 rl], .int .i64 0]) (by simp [results, Tryz.results186, go_sem, hc]) rfl ⟨rfl, ?_⟩
      exact (((((((Below.refl _ _).alloc (Nat.le_refl _) _).alloc (by simp) _).alloc (by simp; omega) _).trans (hb.mono (by simp; omega))).setCell (by simp; omega) _).setCell (by simp; omega) _).setCell (by simp; omega) _
    · go_enter Tryz.func186, Tryz.ntmps186
      go_wp2_with fail
      refine (two_17 _).mono ?_
      rintro e w0 ⟨rfl, hw⟩
      subst hw
      go_wp2_with fail
      refine (HC1.out _).mono ?_
      rintro e w1 ⟨rfl, hb⟩
      obtain ⟨hc, hf⟩ := bcell hb
      have hz : w.heap.size + 2 < w1.heap.size := by have := hb.size; simp at this; omega
      go_wp2_with fail
      refine (HC2.out _).mono ?_
      rintro e w2 ⟨rfl, hb2⟩
      have hb' := hb.trans (hb2.mono hb.size)
      clear hc hf hz
      clear hb
      have hb := hb'
      clear hb'
      obtain ⟨hc, hf⟩ := bcell hb
      have hz : w.heap.size + 2 < w2.heap.size := by have := hb.size; simp at this; omega
      go_wp2_with fail
      refine (HB1.out _).mono ?_
      rintro e w3 ⟨r1, rfl, ho1, hb3⟩
      have HO1 := hide ho1
      clear ho1
      have hb' := hb.trans (hb3.mono hb.size)
      clear hc hf hz
      clear hb
      have hb := hb'
      clear hb'
      obtain ⟨hc, hf⟩ := bcell hb
      have hz : w.heap.size + 2 < w3.heap.size := by have := hb.size; simp at this; omega
      go_wp2_with fail
      refine (HB2.out _).mono ?_
      rintro e w4 ⟨r2, rfl, ho2, hb4⟩
      have HO2 := hide ho2
      have HR1 := hide ((own_row1 HO1.out (by omega)).keep hb4)
      have HR2 := hide (own_row1 HO2.out (by omega))
      clear ho2
      have hb' := hb.trans (hb4.mono hb.size)
      clear hc hf hz
      clear hb
      have hb := hb'
      clear hb'
      obtain ⟨hc, hf⟩ := bcell hb
      have hz : w.heap.size + 2 < w4.heap.size := by have := hb.size; simp at this; omega
      have hd : d = false := by have := HEQ.out; rw [e1, e2] at this; exact this.symm
      subst hd
      go_wp2_with fail
      refine (refOne_any _ _).mono ?_
      rintro e w5 ⟨r3, rfl, ho3, hb5⟩
      have HR := hide (own_row ho3 (by simp))
      clear ho3
      have hb' := hb.trans (hb5.mono hb.size)
      clear hc hf hz
      clear hb
      have hb := hb'
      clear hb'
      obtain ⟨hc, hf⟩ := bcell hb
      have hz : w.heap.size + 2 < w5.heap.size := by have := hb.size; simp at this; omega
      go_wp2_with fail
      refine (HN.out _ _ HR.out).mono ?_
      rintro e w9 ⟨rfl, hb9⟩
      have hb' := hb.trans (hb9.mono hb.size)
      clear hc hf hz
      clear hb
      have hb := hb'
      clear hb'
      obtain ⟨hc, hf⟩ := bcell hb
      have hz : w.heap.size + 2 < w9.heap.size := by have := hb.size; simp at this; omega
      go_wp2
      refine bodyPost_ret (v := .tuple #[.agg #[.int .i64 1, .int .u64 rh, .int .u64 rl], .int .i64 0]) (by simp [results, Tryz.results186, go_sem, hc]) rfl ⟨rfl, ?_⟩
      exact (((((((Below.refl _ _).alloc (Nat.le_refl _) _).alloc (by simp) _).alloc (by simp; omega) _).trans (hb.mono (by simp; omega))).setCell (by simp; omega) _).setCell (by simp; omega) _).setCell (by simp; omega) _
  · cases e2 : (l1 == l2)
    · go_enter Tryz.func186, Tryz.ntmps186
      go_wp2_with fail
      refine (two_17 _).mono ?_
      rintro e w0 ⟨rfl, hw⟩
      subst hw
      go_wp2_with fail
      refine (HC1.out _).mono ?_
      rintro e w1 ⟨rfl, hb⟩
      obtain ⟨hc, hf⟩ := bcell hb
      have hz : w.heap.size + 2 < w1.heap.size := by have := hb.size; simp at this; omega
      go_wp2_with fail
      refine (HC2.out _).mono ?_
      rintro e w2 ⟨rfl, hb2⟩
      have hb' := hb.trans (hb2.mono hb.size)
      clear hc hf hz
      clear hb
      have hb := hb'
      clear hb'
      obtain ⟨hc, hf⟩ := bcell hb
      have hz : w.heap.size + 2 < w2.heap.size := by have := hb.size; simp at this; omega
      go_wp2_with fail
      refine (HB1.out _).mono ?_
      rintro e w3 ⟨r1, rfl, ho1, hb3⟩
      have HO1 := hide ho1
      clear ho1
      have hb' := hb.trans (hb3.mono hb.size)
      clear hc hf hz
      clear hb
      have hb := hb'
      clear hb'
      obtain ⟨hc, hf⟩ := bcell hb
      have hz : w.heap.size + 2 < w3.heap.size := by have := hb.size; simp at this; omega
      go_wp2_with fail
      refine (HB2.out _).mono ?_
      rintro e w4 ⟨r2, rfl, ho2, hb4⟩
      have HO2 := hide ho2
      have HR1 := hide ((own_row1 HO1.out (by omega)).keep hb4)
      have HR2 := hide (own_row1 HO2.out (by omega))
      clear ho2
      have hb' := hb.trans (hb4.mono hb.size)
      clear hc hf hz
      clear hb
      have hb := hb'
      clear hb'
      obtain ⟨hc, hf⟩ := bcell hb
      have hz : w.heap.size + 2 < w4.heap.size := by have := hb.size; simp at this; omega
      have hd : d = false := by have := HEQ.out; rw [e1, e2] at this; exact this.symm
      subst hd
      go_wp2_with fail
      refine (refOne_any _ _).mono ?_
      rintro e w5 ⟨r3, rfl, ho3, hb5⟩
      have HR := hide (own_row ho3 (by simp))
      clear ho3
      have hb' := hb.trans (hb5.mono hb.size)
      clear hc hf hz
      clear hb
      have hb := hb'
      clear hb'
      obtain ⟨hc, hf⟩ := bcell hb
      have hz : w.heap.size + 2 < w5.heap.size := by have := hb.size; simp at this; omega
      go_wp2_with fail
      refine (HN.out _ _ HR.out).mono ?_
      rintro e w9 ⟨rfl, hb9⟩
      have hb' := hb.trans (hb9.mono hb.size)
      clear hc hf hz
      clear hb
      have hb := hb'
      clear hb'
      obtain ⟨hc, hf⟩ := bcell hb
      have hz : w.heap.size + 2 < w9.heap.size := by have := hb.size; simp at this; omega
      go_wp2
      refine bodyPost_ret (v := .tuple #[.agg #[.int .i64 1, .int .u64 rh, .int .u64 rl], .int .i64 0]) (by simp [results, Tryz.results186, go_sem, hc]) rfl ⟨rfl, ?_⟩
      exact (((((((Below.refl _ _).alloc (Nat.le_refl _) _).alloc (by simp) _).alloc (by simp; omega) _).trans (hb.mono (by simp; omega))).setCell (by simp; omega) _).setCell (by simp; omega) _).setCell (by simp; omega) _
    · go_enter Tryz.func186, Tryz.ntmps186
      go_wp2_with fail
      refine (two_17 _).mono ?_
      rintro e w0 ⟨rfl, hw⟩
      subst hw
      go_wp2_with fail
      refine (HC1.out _).mono ?_
      rintro e w1 ⟨rfl, hb⟩
      obtain ⟨hc, hf⟩ := bcell hb
      have hz : w.heap.size + 2 < w1.heap.size := by have := hb.size; simp at this; omega
      go_wp2_with fail
      refine (HC2.out _).mono ?_
      rintro e w2 ⟨rfl, hb2⟩
      have hb' := hb.trans (hb2.mono hb.size)
      clear hc hf hz
      clear hb
      have hb := hb'
      clear hb'
      obtain ⟨hc, hf⟩ := bcell hb
      have hz : w.heap.size + 2 < w2.heap.size := by have := hb.size; simp at this; omega
      go_wp2_with fail
      refine (HB1.out _).mono ?_
      rintro e w3 ⟨r1, rfl, ho1, hb3⟩
      have HO1 := hide ho1
      clear ho1
      have hb' := hb.trans (hb3.mono hb.size)
      clear hc hf hz
      clear hb
      have hb := hb'
      clear hb'
      obtain ⟨hc, hf⟩ := bcell hb
      have hz : w.heap.size + 2 < w3.heap.size := by have := hb.size; simp at this; omega
      go_wp2_with fail
      refine (HB2.out _).mono ?_
      rintro e w4 ⟨r2, rfl, ho2, hb4⟩
      have HO2 := hide ho2
      have HR1 := hide ((own_row1 HO1.out (by omega)).keep hb4)
      have HR2 := hide (own_row1 HO2.out (by omega))
      clear ho2
      have hb' := hb.trans (hb4.mono hb.size)
      clear hc hf hz
      clear hb
      have hb := hb'
      clear hb'
      obtain ⟨hc, hf⟩ := bcell hb
      have hz : w.heap.size + 2 < w4.heap.size := by have := hb.size; simp at this; omega
      have hd : d = true := by have := HEQ.out; rw [e1, e2] at this; exact this.symm
      subst hd
      go_wp2_with fail
      refine (refOne_any _ _).mono ?_
      rintro e w5 ⟨r3, rfl, ho3, hb5⟩
      have HR := hide (own_row ho3 (by simp))
      clear ho3
      have hb' := hb.trans (hb5.mono hb.size)
      clear hc hf hz
      clear hb
      have hb := hb'
      clear hb'
      obtain ⟨hc, hf⟩ := bcell hb
      have hz : w.heap.size + 2 < w5.heap.size := by have := hb.size; simp at this; omega
      go_wp2_with fail
      refine (HN.out _ _ HR.out).mono ?_
      rintro e w9 ⟨rfl, hb9⟩
      have hb' := hb.trans (hb9.mono hb.size)
      clear hc hf hz
      clear hb
      have hb := hb'
      clear hb'
      obtain ⟨hc, hf⟩ := bcell hb
      have hz : w.heap.size + 2 < w9.heap.size := by have := hb.size; simp at this; omega
      go_wp2
      refine bodyPost_ret (v := .tuple #[.agg #[.int .i64 1, .int .u64 rh, .int .u64 rl], .int .i64 0]) (by simp [results, Tryz.results186, go_sem, hc]) rfl ⟨rfl, ?_⟩
      exact (((((((Below.refl _ _).alloc (Nat.le_refl _) _).alloc (by simp) _).alloc (by simp; omega) _).trans (hb.mono (by simp; omega))).setCell (by simp; omega) _).setCell (by simp; omega) _).setCell (by simp; omega) _
set_option maxRecDepth 1000000 in
set_option maxHeartbeats 4000000 in
theorem refDo18_yes (n1 n m : Int) (u v : Nat) (w : World) (o1 : okN n1 u = true) (o2 : okN n1 v = true) :
    Calls Tryz.prog 186 #[.int .u8 18, .agg #[.int .i64 n1, .int .u64 (wHi u), .int .u64 (wLo u)], .agg #[.int .i64 n1, .int .u64 (wHi v), .int .u64 (wLo v)], .int .i64 n, .int .i64 m] w fun e w' => e = .returned (.tuple #[.agg #[.int .i64 1, .int .u64 (wHi (!decide (u = v)).toNat), .int .u64 (wLo (!decide (u = v)).toNat)], .int .i64 0]) ∧ Below w.heap.size w w' := by
  obtain ⟨b0, b1, b2, b3⟩ := okN_parts o1
  obtain ⟨c0, c1, c2, c3⟩ := okN_parts o2
  have HC2 := hide (fun W => refCheckV n1 v W c3 true o2)
  have HC1 := hide (fun W => refCheckV n1 u W b3 true o1)
  have HB1 := hide (fun W => refBitsV n1 u W b3 b1)
  have ea := lst_length n1 u; have va := lst_val b1 b2
  have HB2 := hide (fun W => refBitsV n1 v W c3 c1)
  have eb := lst_length n1 v; have vb := lst_val c1 c2
  have HEQ := hide (w_eq u v)
  have HN := hide (fun r W (hr : Row W r ([!decide (u = v)])) => refNumberV r ([!decide (u = v)]) W (1) ((!decide (u = v)).toNat) (by simp) (by simp) (by simp [valL]) hr)
  generalize hrh : wHi ((!decide (u = v)).toNat) = rh at *
  generalize hrl : wLo ((!decide (u = v)).toNat) = rl at *
  clear hrh hrl
  generalize wHi u = h1 at *
  generalize wLo u = l1 at *
  generalize wHi v = h2 at *
  generalize wLo v = l2 at *
  generalize hd : decide (u = v) = d at *
  clear hd
  cases e1 : (h1 == h2)
  · cases e2 : (l1 == l2)
    · go_enter Tryz.func186, Tryz.ntmps186
      go_wp2_with fail
      refine (two_18 _).mono ?_
      rintro e w0 ⟨rfl, hw⟩
      subst hw
      go_wp2_with fail
      refine (HC1.out _).mono ?_
      rintro e w1 ⟨rfl, hb⟩
      obtain ⟨hc, hf⟩ := bcell hb
      have hz : w.heap.size + 2 < w1.heap.size := by have := hb.size; simp at this; omega
      go_wp2_with fail
      refine (HC2.out _).mono ?_
      rintro e w2 ⟨rfl, hb2⟩
      have hb' := hb.trans (hb2.mono hb.size)
      clear hc hf hz
      clear hb
      have hb := hb'
      clear hb'
      obtain ⟨hc, hf⟩ := bcell hb
      have hz : w.heap.size + 2 < w2.heap.size := by have := hb.size; simp at this; omega
      go_wp2_with fail
      refine (HB1.out _).mono ?_
      rintro e w3 ⟨r1, rfl, ho1, hb3⟩
      have HO1 := hide ho1
      clear ho1
      have hb' := hb.trans (hb3.mono hb.size)
      clear hc hf hz
      clear hb
      have hb := hb'
      clear hb'
      obtain ⟨hc, hf⟩ := bcell hb
      have hz : w.heap.size + 2 < w3.heap.size := by have := hb.size; simp at this; omega
      go_wp2_with fail
      refine (HB2.out _).mono ?_
      rintro e w4 ⟨r2, rfl, ho2, hb4⟩
      have HO2 := hide ho2
      have HR1 := hide ((own_row1 HO1.out (by omega)).keep hb4)
      have HR2 := hide (own_row1 HO2.out (by omega))
      clear ho2
      have hb' := hb.trans (hb4.mono hb.size)
      clear hc hf hz
      clear hb
      have hb := hb'
      clear hb'
      obtain ⟨hc, hf⟩ := bcell hb
      have hz : w.heap.size + 2 < w4.heap.size := by have := hb.size; simp at this; omega
      have hd : d = false := by have := HEQ.out; rw [e1, e2] at this; exact this.symm
      subst hd
      go_wp2_with fail
      refine (refOne_any _ _).mono ?_
      rintro e w5 ⟨r3, rfl, ho3, hb5⟩
      have HR := hide (own_row ho3 (by simp))
      clear ho3
      have hb' := hb.trans (hb5.mono hb.size)
      clear hc hf hz
      clear hb
      have hb := hb'
      clear hb'
      obtain ⟨hc, hf⟩ := bcell hb
      have hz : w.heap.size + 2 < w5.heap.size := by have := hb.size; simp at this; omega
      go_wp2_with fail
      refine (HN.out _ _ HR.out).mono ?_
      rintro e w9 ⟨rfl, hb9⟩
      have hb' := hb.trans (hb9.mono hb.size)
      clear hc hf hz
      clear hb
      have hb := hb'
      clear hb'
      obtain ⟨hc, hf⟩ := bcell hb
      have hz : w.heap.size + 2 < w9.heap.size := by have := hb.size; simp at this; omega
      go_wp2
      refine bodyPost_ret (v := .tuple #[.agg #[.int .i64 1, .int .u64 rh, .int .u64 rl], .int .i64 0]) (by simp [results, Tryz.results186, go_sem, hc]) rfl ⟨rfl, ?_⟩
      exact (((((((Below.refl _ _).alloc (Nat.le_refl _) _).alloc (by simp) _).alloc (by simp; omega) _).trans (hb.mono (by simp; omega))).setCell (by simp; omega) _).setCell (by simp; omega) _).setCell (by simp; omega) _
    · go_enter Tryz.func186, Tryz.ntmps186
      go_wp2_with fail
      refine (two_18 _).mono ?_
      rintro e w0 ⟨rfl, hw⟩
      subst hw
      go_wp2_with fail
      refine (HC1.out _).mono ?_
      rintro e w1 ⟨rfl, hb⟩
      obtain ⟨hc, hf⟩ := bcell hb
      have hz : w.heap.size + 2 < w1.heap.size := by have := hb.size; simp at this; omega
      go_wp2_with fail
      refine (HC2.out _).mono ?_
      rintro e w2 ⟨rfl, hb2⟩
      have hb' := hb.trans (hb2.mono hb.size)
      clear hc hf hz
      clear hb
      have hb := hb'
      clear hb'
      obtain ⟨hc, hf⟩ := bcell hb
      have hz : w.heap.size + 2 < w2.heap.size := by have := hb.size; simp at this; omega
      go_wp2_with fail
      refine (HB1.out _).mono ?_
      rintro e w3 ⟨r1, rfl, ho1, hb3⟩
      have HO1 := hide ho1
      clear ho1
      have hb' := hb.trans (hb3.mono hb.size)
      clear hc hf hz
      clear hb
      have hb := hb'
      clear hb'
      obtain ⟨hc, hf⟩ := bcell hb
      have hz : w.heap.size + 2 < w3.heap.size := by have := hb.size; simp at this; omega
      go_wp2_with fail
      refine (HB2.out _).mono ?_
      rintro e w4 ⟨r2, rfl, ho2, hb4⟩
      have HO2 := hide ho2
      have HR1 := hide ((own_row1 HO1.out (by omega)).keep hb4)
      have HR2 := hide (own_row1 HO2.out (by omega))
      clear ho2
      have hb' := hb.trans (hb4.mono hb.size)
      clear hc hf hz
      clear hb
      have hb := hb'
      clear hb'
      obtain ⟨hc, hf⟩ := bcell hb
      have hz : w.heap.size + 2 < w4.heap.size := by have := hb.size; simp at this; omega
      have hd : d = false := by have := HEQ.out; rw [e1, e2] at this; exact this.symm
      subst hd
      go_wp2_with fail
      refine (refOne_any _ _).mono ?_
      rintro e w5 ⟨r3, rfl, ho3, hb5⟩
      have HR := hide (own_row ho3 (by simp))
      clear ho3
      have hb' := hb.trans (hb5.mono hb.size)
      clear hc hf hz
      clear hb
      have hb := hb'
      clear hb'
      obtain ⟨hc, hf⟩ := bcell hb
      have hz : w.heap.size + 2 < w5.heap.size := by have := hb.size; simp at this; omega
      go_wp2_with fail
      refine (HN.out _ _ HR.out).mono ?_
      rintro e w9 ⟨rfl, hb9⟩
      have hb' := hb.trans (hb9.mono hb.size)
      clear hc hf hz
      clear hb
      have hb := hb'
      clear hb'
      obtain ⟨hc, hf⟩ := bcell hb
      have hz : w.heap.size + 2 < w9.heap.size := by have := hb.size; simp at this; omega
      go_wp2
      refine bodyPost_ret (v := .tuple #[.agg #[.int .i64 1, .int .u64 rh, .int .u64 rl], .int .i64 0]) (by simp [results, Tryz.results186, go_sem, hc]) rfl ⟨rfl, ?_⟩
      exact (((((((Below.refl _ _).alloc (Nat.le_refl _) _).alloc (by simp) _).alloc (by simp; omega) _).trans (hb.mono (by simp; omega))).setCell (by simp; omega) _).setCell (by simp; omega) _).setCell (by simp; omega) _
  · cases e2 : (l1 == l2)
    · go_enter Tryz.func186, Tryz.ntmps186
      go_wp2_with fail
      refine (two_18 _).mono ?_
      rintro e w0 ⟨rfl, hw⟩
      subst hw
      go_wp2_with fail
      refine (HC1.out _).mono ?_
      rintro e w1 ⟨rfl, hb⟩
      obtain ⟨hc, hf⟩ := bcell hb
      have hz : w.heap.size + 2 < w1.heap.size := by have := hb.size; simp at this; omega
      go_wp2_with fail
      refine (HC2.out _).mono ?_
      rintro e w2 ⟨rfl, hb2⟩
      have hb' := hb.trans (hb2.mono hb.size)
      clear hc hf hz
      clear hb
      have hb := hb'
      clear hb'
      obtain ⟨hc, hf⟩ := bcell hb
      have hz : w.heap.size + 2 < w2.heap.size := by have := hb.size; simp at this; omega
      go_wp2_with fail
      refine (HB1.out _).mono ?_
      rintro e w3 ⟨r1, rfl, ho1, hb3⟩
      have HO1 := hide ho1
      clear ho1
      have hb' := hb.trans (hb3.mono hb.size)
      clear hc hf hz
      clear hb
      have hb := hb'
      clear hb'
      obtain ⟨hc, hf⟩ := bcell hb
      have hz : w.heap.size + 2 < w3.heap.size := by have := hb.size; simp at this; omega
      go_wp2_with fail
      refine (HB2.out _).mono ?_
      rintro e w4 ⟨r2, rfl, ho2, hb4⟩
      have HO2 := hide ho2
      have HR1 := hide ((own_row1 HO1.out (by omega)).keep hb4)
      have HR2 := hide (own_row1 HO2.out (by omega))
      clear ho2
      have hb' := hb.trans (hb4.mono hb.size)
      clear hc hf hz
      clear hb
      have hb := hb'
      clear hb'
      obtain ⟨hc, hf⟩ := bcell hb
      have hz : w.heap.size + 2 < w4.heap.size := by have := hb.size; simp at this; omega
      have hd : d = false := by have := HEQ.out; rw [e1, e2] at this; exact this.symm
      subst hd
      go_wp2_with fail
      refine (refOne_any _ _).mono ?_
      rintro e w5 ⟨r3, rfl, ho3, hb5⟩
      have HR := hide (own_row ho3 (by simp))
      clear ho3
      have hb' := hb.trans (hb5.mono hb.size)
      clear hc hf hz
      clear hb
      have hb := hb'
      clear hb'
      obtain ⟨hc, hf⟩ := bcell hb
      have hz : w.heap.size + 2 < w5.heap.size := by have := hb.size; simp at this; omega
      go_wp2_with fail
      refine (HN.out _ _ HR.out).mono ?_
      rintro e w9 ⟨rfl, hb9⟩
      have hb' := hb.trans (hb9.mono hb.size)
      clear hc hf hz
      clear hb
      have hb := hb'
      clear hb'
      obtain ⟨hc, hf⟩ := bcell hb
      have hz : w.heap.size + 2 < w9.heap.size := by have := hb.size; simp at this; omega
      go_wp2
      refine bodyPost_ret (v := .tuple #[.agg #[.int .i64 1, .int .u64 rh, .int .u64 rl], .int .i64 0]) (by simp [results, Tryz.results186, go_sem, hc]) rfl ⟨rfl, ?_⟩
      exact (((((((Below.refl _ _).alloc (Nat.le_refl _) _).alloc (by simp) _).alloc (by simp; omega) _).trans (hb.mono (by simp; omega))).setCell (by simp; omega) _).setCell (by simp; omega) _).setCell (by simp; omega) _
    · go_enter Tryz.func186, Tryz.ntmps186
      go_wp2_with fail
      refine (two_18 _).mono ?_
      rintro e w0 ⟨rfl, hw⟩
      subst hw
      go_wp2_with fail
      refine (HC1.out _).mono ?_
      rintro e w1 ⟨rfl, hb⟩
      obtain ⟨hc, hf⟩ := bcell hb
      have hz : w.heap.size + 2 < w1.heap.size := by have := hb.size; simp at this; omega
      go_wp2_with fail
      refine (HC2.out _).mono ?_
      rintro e w2 ⟨rfl, hb2⟩
      have hb' := hb.trans (hb2.mono hb.size)
      clear hc hf hz
      clear hb
      have hb := hb'
      clear hb'
      obtain ⟨hc, hf⟩ := bcell hb
      have hz : w.heap.size + 2 < w2.heap.size := by have := hb.size; simp at this; omega
      go_wp2_with fail
      refine (HB1.out _).mono ?_
      rintro e w3 ⟨r1, rfl, ho1, hb3⟩
      have HO1 := hide ho1
      clear ho1
      have hb' := hb.trans (hb3.mono hb.size)
      clear hc hf hz
      clear hb
      have hb := hb'
      clear hb'
      obtain ⟨hc, hf⟩ := bcell hb
      have hz : w.heap.size + 2 < w3.heap.size := by have := hb.size; simp at this; omega
      go_wp2_with fail
      refine (HB2.out _).mono ?_
      rintro e w4 ⟨r2, rfl, ho2, hb4⟩
      have HO2 := hide ho2
      have HR1 := hide ((own_row1 HO1.out (by omega)).keep hb4)
      have HR2 := hide (own_row1 HO2.out (by omega))
      clear ho2
      have hb' := hb.trans (hb4.mono hb.size)
      clear hc hf hz
      clear hb
      have hb := hb'
      clear hb'
      obtain ⟨hc, hf⟩ := bcell hb
      have hz : w.heap.size + 2 < w4.heap.size := by have := hb.size; simp at this; omega
      have hd : d = true := by have := HEQ.out; rw [e1, e2] at this; exact this.symm
      subst hd
      go_wp2_with fail
      refine (refOne_any _ _).mono ?_
      rintro e w5 ⟨r3, rfl, ho3, hb5⟩
      have HR := hide (own_row ho3 (by simp))
      clear ho3
      have hb' := hb.trans (hb5.mono hb.size)
      clear hc hf hz
      clear hb
      have hb := hb'
      clear hb'
      obtain ⟨hc, hf⟩ := bcell hb
      have hz : w.heap.size + 2 < w5.heap.size := by have := hb.size; simp at this; omega
      go_wp2_with fail
      refine (HN.out _ _ HR.out).mono ?_
      rintro e w9 ⟨rfl, hb9⟩
      have hb' := hb.trans (hb9.mono hb.size)
      clear hc hf hz
      clear hb
      have hb := hb'
      clear hb'
      obtain ⟨hc, hf⟩ := bcell hb
      have hz : w.heap.size + 2 < w9.heap.size := by have := hb.size; simp at this; omega
      go_wp2
      refine bodyPost_ret (v := .tuple #[.agg #[.int .i64 1, .int .u64 rh, .int .u64 rl], .int .i64 0]) (by simp [results, Tryz.results186, go_sem, hc]) rfl ⟨rfl, ?_⟩
      exact (((((((Below.refl _ _).alloc (Nat.le_refl _) _).alloc (by simp) _).alloc (by simp; omega) _).trans (hb.mono (by simp; omega))).setCell (by simp; omega) _).setCell (by simp; omega) _).setCell (by simp; omega) _
set_option maxRecDepth 1000000 in
set_option maxHeartbeats 4000000 in
theorem refDo19_yes (n1 n m : Int) (u v : Nat) (w : World) (o1 : okN n1 u = true) (o2 : okN n1 v = true) :
    Calls Tryz.prog 186 #[.int .u8 19, .agg #[.int .i64 n1, .int .u64 (wHi u), .int .u64 (wLo u)], .agg #[.int .i64 n1, .int .u64 (wHi v), .int .u64 (wLo v)], .int .i64 n, .int .i64 m] w fun e w' => e = .returned (.tuple #[.agg #[.int .i64 1, .int .u64 (wHi (decide (u < v)).toNat), .int .u64 (wLo (decide (u < v)).toNat)], .int .i64 0]) ∧ Below w.heap.size w w' := by
  obtain ⟨b0, b1, b2, b3⟩ := okN_parts o1
  obtain ⟨c0, c1, c2, c3⟩ := okN_parts o2
  have HC2 := hide (fun W => refCheckV n1 v W c3 true o2)
  have HC1 := hide (fun W => refCheckV n1 u W b3 true o1)
  have HB1 := hide (fun W => refBitsV n1 u W b3 b1)
  have ea := lst_length n1 u; have va := lst_val b1 b2
  have HB2 := hide (fun W => refBitsV n1 v W c3 c1)
  have eb := lst_length n1 v; have vb := lst_val c1 c2
  have HN := hide (fun r W (hr : Row W r ([decide (u < v)])) => refNumberV r ([decide (u < v)]) W (1) ((decide (u < v)).toNat) (by simp) (by simp) (by simp [valL]) hr)
  generalize hrh : wHi ((decide (u < v)).toNat) = rh at *
  generalize hrl : wLo ((decide (u < v)).toNat) = rl at *
  clear hrh hrl
  generalize wHi u = h1 at *
  generalize wLo u = l1 at *
  generalize wHi v = h2 at *
  generalize wLo v = l2 at *
  go_enter Tryz.func186, Tryz.ntmps186
  go_wp2_with fail
  refine (two_19 _).mono ?_
  rintro e w0 ⟨rfl, hw⟩
  subst hw
  go_wp2_with fail
  refine (HC1.out _).mono ?_
  rintro e w1 ⟨rfl, hb⟩
  obtain ⟨hc, hf⟩ := bcell hb
  have hz : w.heap.size + 2 < w1.heap.size := by have := hb.size; simp at this; omega
  go_wp2_with fail
  refine (HC2.out _).mono ?_
  rintro e w2 ⟨rfl, hb2⟩
  have hb' := hb.trans (hb2.mono hb.size)
  clear hc hf hz
  clear hb
  have hb := hb'
  clear hb'
  obtain ⟨hc, hf⟩ := bcell hb
  have hz : w.heap.size + 2 < w2.heap.size := by have := hb.size; simp at this; omega
  go_wp2_with fail
  refine (HB1.out _).mono ?_
  rintro e w3 ⟨r1, rfl, ho1, hb3⟩
  have HO1 := hide ho1
  clear ho1
  have hb' := hb.trans (hb3.mono hb.size)
  clear hc hf hz
  clear hb
  have hb := hb'
  clear hb'
  obtain ⟨hc, hf⟩ := bcell hb
  have hz : w.heap.size + 2 < w3.heap.size := by have := hb.size; simp at this; omega
  go_wp2_with fail
  refine (HB2.out _).mono ?_
  rintro e w4 ⟨r2, rfl, ho2, hb4⟩
  have HO2 := hide ho2
  have HR1 := hide ((own_row1 HO1.out (by omega)).keep hb4)
  have HR2 := hide (own_row1 HO2.out (by omega))
  clear ho2
  have hb' := hb.trans (hb4.mono hb.size)
  clear hc hf hz
  clear hb
  have hb := hb'
  clear hb'
  obtain ⟨hc, hf⟩ := bcell hb
  have hz : w.heap.size + 2 < w4.heap.size := by have := hb.size; simp at this; omega
  go_wp2_with fail
  refine (refBelow_any (lst n1 u) (lst n1 v) (by omega) (by omega) _ _ _ HR1.out HR2.out).mono ?_
  rintro e w5 ⟨rfl, hb5⟩
  rw [va, vb]
  have hb' := hb.trans (hb5.mono hb.size)
  clear hc hf hz
  clear hb
  have hb := hb'
  clear hb'
  obtain ⟨hc, hf⟩ := bcell hb
  have hz : w.heap.size + 2 < w5.heap.size := by have := hb.size; simp at this; omega
  go_wp2_with fail
  refine (refOne_any _ _).mono ?_
  rintro e w6 ⟨r3, rfl, ho3, hb6⟩
  have HR := hide (own_row ho3 (by simp))
  clear ho3
  have hb' := hb.trans (hb6.mono hb.size)
  clear hc hf hz
  clear hb
  have hb := hb'
  clear hb'
  obtain ⟨hc, hf⟩ := bcell hb
  have hz : w.heap.size + 2 < w6.heap.size := by have := hb.size; simp at this; omega
  go_wp2_with fail
  refine (HN.out _ _ HR.out).mono ?_
  rintro e w9 ⟨rfl, hb9⟩
  have hb' := hb.trans (hb9.mono hb.size)
  clear hc hf hz
  clear hb
  have hb := hb'
  clear hb'
  obtain ⟨hc, hf⟩ := bcell hb
  have hz : w.heap.size + 2 < w9.heap.size := by have := hb.size; simp at this; omega
  go_wp2
  refine bodyPost_ret (v := .tuple #[.agg #[.int .i64 1, .int .u64 rh, .int .u64 rl], .int .i64 0]) (by simp [results, Tryz.results186, go_sem, hc]) rfl ⟨rfl, ?_⟩
  exact (((((((Below.refl _ _).alloc (Nat.le_refl _) _).alloc (by simp) _).alloc (by simp; omega) _).trans (hb.mono (by simp; omega))).setCell (by simp; omega) _).setCell (by simp; omega) _).setCell (by simp; omega) _
set_option maxRecDepth 1000000 in
set_option maxHeartbeats 4000000 in
theorem refDo20_yes (n1 n m : Int) (u v : Nat) (w : World) (o1 : okN n1 u = true) (o2 : okN n1 v = true) :
    Calls Tryz.prog 186 #[.int .u8 20, .agg #[.int .i64 n1, .int .u64 (wHi u), .int .u64 (wLo u)], .agg #[.int .i64 n1, .int .u64 (wHi v), .int .u64 (wLo v)], .int .i64 n, .int .i64 m] w fun e w' => e = .returned (.tuple #[.agg #[.int .i64 1, .int .u64 (wHi (decide (u ≤ v)).toNat), .int .u64 (wLo (decide (u ≤ v)).toNat)], .int .i64 0]) ∧ Below w.heap.size w w' := by
  obtain ⟨b0, b1, b2, b3⟩ := okN_parts o1
  obtain ⟨c0, c1, c2, c3⟩ := okN_parts o2
  have HC2 := hide (fun W => refCheckV n1 v W c3 true o2)
  have HC1 := hide (fun W => refCheckV n1 u W b3 true o1)
  have HB1 := hide (fun W => refBitsV n1 u W b3 b1)
  have ea := lst_length n1 u; have va := lst_val b1 b2
  have HB2 := hide (fun W => refBitsV n1 v W c3 c1)
  have eb := lst_length n1 v; have vb := lst_val c1 c2
  have HN := hide (fun r W (hr : Row W r ([!decide (v < u)])) => refNumberV r ([!decide (v < u)]) W (1) ((decide (u ≤ v)).toNat) (by simp) (by simp) (by rw [show decide (u ≤ v) = !decide (v < u) by by_cases h : v < u <;> simp [h] <;> omega]; simp [valL]) hr)
  generalize hrh : wHi ((decide (u ≤ v)).toNat) = rh at *
  generalize hrl : wLo ((decide (u ≤ v)).toNat) = rl at *
  clear hrh hrl
  generalize wHi u = h1 at *
  generalize wLo u = l1 at *
  generalize wHi v = h2 at *
  generalize wLo v = l2 at *
  go_enter Tryz.func186, Tryz.ntmps186
  go_wp2_with fail
  refine (two_20 _).mono ?_
  rintro e w0 ⟨rfl, hw⟩
  subst hw
  go_wp2_with fail
  refine (HC1.out _).mono ?_
  rintro e w1 ⟨rfl, hb⟩
  obtain ⟨hc, hf⟩ := bcell hb
  have hz : w.heap.size + 2 < w1.heap.size := by have := hb.size; simp at this; omega
  go_wp2_with fail
  refine (HC2.out _).mono ?_
  rintro e w2 ⟨rfl, hb2⟩
  have hb' := hb.trans (hb2.mono hb.size)
  clear hc hf hz
  clear hb
  have hb := hb'
  clear hb'
  obtain ⟨hc, hf⟩ := bcell hb
  have hz : w.heap.size + 2 < w2.heap.size := by have := hb.size; simp at this; omega
  go_wp2_with fail
  refine (HB1.out _).mono ?_
  rintro e w3 ⟨r1, rfl, ho1, hb3⟩
  have HO1 := hide ho1
  clear ho1
  have hb' := hb.trans (hb3.mono hb.size)
  clear hc hf hz
  clear hb
  have hb := hb'
  clear hb'
  obtain ⟨hc, hf⟩ := bcell hb
  have hz : w.heap.size + 2 < w3.heap.size := by have := hb.size; simp at this; omega
  go_wp2_with fail
  refine (HB2.out _).mono ?_
  rintro e w4 ⟨r2, rfl, ho2, hb4⟩
  have HO2 := hide ho2
  have HR1 := hide ((own_row1 HO1.out (by omega)).keep hb4)
  have HR2 := hide (own_row1 HO2.out (by omega))
  clear ho2
  have hb' := hb.trans (hb4.mono hb.size)
  clear hc hf hz
  clear hb
  have hb := hb'
  clear hb'
  obtain ⟨hc, hf⟩ := bcell hb
  have hz : w.heap.size + 2 < w4.heap.size := by have := hb.size; simp at this; omega
  go_wp2_with fail
  refine (refBelow_any (lst n1 v) (lst n1 u) (by omega) (by omega) _ _ _ HR2.out HR1.out).mono ?_
  rintro e w5 ⟨rfl, hb5⟩
  rw [va, vb]
  have hb' := hb.trans (hb5.mono hb.size)
  clear hc hf hz
  clear hb
  have hb := hb'
  clear hb'
  obtain ⟨hc, hf⟩ := bcell hb
  have hz : w.heap.size + 2 < w5.heap.size := by have := hb.size; simp at this; omega
  go_wp2_with fail
  refine (refOne_any _ _).mono ?_
  rintro e w6 ⟨r3, rfl, ho3, hb6⟩
  have HR := hide (own_row ho3 (by simp))
  clear ho3
  have hb' := hb.trans (hb6.mono hb.size)
  clear hc hf hz
  clear hb
  have hb := hb'
  clear hb'
  obtain ⟨hc, hf⟩ := bcell hb
  have hz : w.heap.size + 2 < w6.heap.size := by have := hb.size; simp at this; omega
  go_wp2_with fail
  refine (HN.out _ _ HR.out).mono ?_
  rintro e w9 ⟨rfl, hb9⟩
  have hb' := hb.trans (hb9.mono hb.size)
  clear hc hf hz
  clear hb
  have hb := hb'
  clear hb'
  obtain ⟨hc, hf⟩ := bcell hb
  have hz : w.heap.size + 2 < w9.heap.size := by have := hb.size; simp at this; omega
  go_wp2
  refine bodyPost_ret (v := .tuple #[.agg #[.int .i64 1, .int .u64 rh, .int .u64 rl], .int .i64 0]) (by simp [results, Tryz.results186, go_sem, hc]) rfl ⟨rfl, ?_⟩
  exact (((((((Below.refl _ _).alloc (Nat.le_refl _) _).alloc (by simp) _).alloc (by simp; omega) _).trans (hb.mono (by simp; omega))).setCell (by simp; omega) _).setCell (by simp; omega) _).setCell (by simp; omega) _
end Go.Proofs.YtlipcmonlhdgfaaGreat
