/- Pieces of the proof: RDoG. -/
import Derived.Test.YtlipcmonlhdgfaaGreatM27
/- The document's own Do, operation by operation (both, any). -/
namespace Go.Proofs.YtlipcmonlhdgfaaGreat
open Go.RowKit

theorem one_len {n1 : Int} {x : Bool} (g : n1 = 1) : (([x] : List Bool).length : Int) = n1 := by rw [g]; rfl
theorem single_and {n1 : Int} {u v : Nat} (g : n1 = 1) (hu : u < 2 ^ n1.toNat) (hv : v < 2 ^ n1.toNat) (va : valL (lst n1 u) = u) (vb : valL (lst n1 v) = v) : valL [bitAt (lst n1 u) 0 && bitAt (lst n1 v) 0] = u &&& v := by
  rw [← valL_bit, ← valL_bit, va, vb]
  subst g
  have h1 : u = 0 ∨ u = 1 := by simp at hu; omega
  have h2 : v = 0 ∨ v = 1 := by simp at hv; omega
  rcases h1 with rfl | rfl <;> rcases h2 with rfl | rfl <;> rfl
theorem single_or {n1 : Int} {u v : Nat} (g : n1 = 1) (hu : u < 2 ^ n1.toNat) (hv : v < 2 ^ n1.toNat) (va : valL (lst n1 u) = u) (vb : valL (lst n1 v) = v) : valL [bitAt (lst n1 u) 0 || bitAt (lst n1 v) 0] = u ||| v := by
  rw [← valL_bit, ← valL_bit, va, vb]
  subst g
  have h1 : u = 0 ∨ u = 1 := by simp at hu; omega
  have h2 : v = 0 ∨ v = 1 := by simp at hv; omega
  rcases h1 with rfl | rfl <;> rcases h2 with rfl | rfl <;> rfl
set_option maxRecDepth 1000000 in
set_option maxHeartbeats 4000000 in
theorem refDo21_yes (n1 n m : Int) (u v : Nat) (w : World) (o1 : okN n1 u = true) (o2 : okN n1 v = true) (g1 : (n1 != 1) = false) :
    Calls Tryz.prog 186 #[.int .u8 21, .agg #[.int .i64 n1, .int .u64 (wHi u), .int .u64 (wLo u)], .agg #[.int .i64 n1, .int .u64 (wHi v), .int .u64 (wLo v)], .int .i64 n, .int .i64 m] w fun e w' => e = .returned (.tuple #[.agg #[.int .i64 n1, .int .u64 (wHi (u &&& v)), .int .u64 (wLo (u &&& v))], .int .i64 0]) ∧ Below w.heap.size w w' := by
  obtain ⟨b0, b1, b2, b3⟩ := okN_parts o1
  obtain ⟨c0, c1, c2, c3⟩ := okN_parts o2
  have HC2 := hide (fun W => refCheckV n1 v W c3 true o2)
  have HC1 := hide (fun W => refCheckV n1 u W b3 true o1)
  have HB1 := hide (fun W => refBitsV n1 u W b3 b1)
  have ea := lst_length n1 u; have va := lst_val b1 b2
  have HB2 := hide (fun W => refBitsV n1 v W c3 c1)
  have eb := lst_length n1 v; have vb := lst_val c1 c2
  have HN := hide (fun r W (hr : Row W r ([bitAt (lst n1 u) 0 && bitAt (lst n1 v) 0])) => refNumberV r ([bitAt (lst n1 u) 0 && bitAt (lst n1 v) 0]) W (n1) ((u &&& v)) (by simp) (one_len (by simpa using g1)) (single_and (by simpa using g1) b2 c2 va vb) hr)
  generalize hrh : wHi ((u &&& v)) = rh at *
  generalize hrl : wLo ((u &&& v)) = rl at *
  clear hrh hrl
  generalize wHi u = h1 at *
  generalize wLo u = l1 at *
  generalize wHi v = h2 at *
  generalize wLo v = l2 at *
  generalize hx : bitAt (lst n1 u) 0 = x at *
  generalize hy : bitAt (lst n1 v) 0 = y at *
  have HX := hide hx; have HY := hide hy
  clear hx hy
  cases x
  · cases y
    · go_enter Tryz.func186, Tryz.ntmps186
      go_wp2_with fail
      refine (two_21 _).mono ?_
      rintro e w0 ⟨rfl, hw⟩
      subst hw
      go_wp2_with fail
      refine (HC1.out _).mono ?_
      rintro e w1 ⟨rfl, hb⟩
      obtain ⟨hc, hf⟩ := bcell hb
      have hz : w.heap.size + 2 < w1.heap.size := by have := hb.size; simp at this; omega
      go_wp2_with fail
      refine (HC2.out _).mono ?_
      rintro e w2 ⟨rfl, hb2⟩
      have hb' := hb.trans (hb2.mono hb.size)
      clear hc hf hz
      clear hb
      have hb := hb'
      clear hb'
      obtain ⟨hc, hf⟩ := bcell hb
      have hz : w.heap.size + 2 < w2.heap.size := by have := hb.size; simp at this; omega
      go_wp2_with fail
      refine (HB1.out _).mono ?_
      rintro e w3 ⟨r1, rfl, ho1, hb3⟩
      have HO1 := hide ho1
      clear ho1
      have hb' := hb.trans (hb3.mono hb.size)
      clear hc hf hz
      clear hb
      have hb := hb'
      clear hb'
      obtain ⟨hc, hf⟩ := bcell hb
      have hz : w.heap.size + 2 < w3.heap.size := by have := hb.size; simp at this; omega
      go_wp2_with fail
      refine (HB2.out _).mono ?_
      rintro e w4 ⟨r2, rfl, ho2, hb4⟩
      have HO2 := hide ho2
      have HR1 := hide ((own_row1 HO1.out (by omega)).keep hb4)
      have HR2 := hide (own_row1 HO2.out (by omega))
      clear ho2
      have hb' := hb.trans (hb4.mono hb.size)
      clear hc hf hz
      clear hb
      have hb := hb'
      clear hb'
      obtain ⟨hc, hf⟩ := bcell hb
      have hz : w.heap.size + 2 < w4.heap.size := by have := hb.size; simp at this; omega
      have hra := HR1.out; have hrb := HR2.out
      obtain ⟨ga, oa, ca, ra, hca⟩ := hra
      obtain ⟨gb, ob, cb, rb, hcb⟩ := hrb
      have hla : (0 : Int) < ((lst n1 u).length : Int) := by omega
      have hlb : (0 : Int) < ((lst n1 v).length : Int) := by omega
      have hcx := hca 0 (by omega)
      have hcy := hcb 0 (by omega)
      rw [HX.out, Nat.add_zero] at hcx
      rw [HY.out, Nat.add_zero] at hcy
      clear hca hcb HR1 HR2 HO1 HO2
      subst ra rb
      go_wp2_with fail
      refine (refOne_any _ _).mono ?_
      rintro e w5 ⟨r3, rfl, ho3, hb5⟩
      have HR := hide (own_row ho3 (by simp))
      clear ho3
      have hb' := hb.trans (hb5.mono hb.size)
      clear hc hf hz
      clear hb
      have hb := hb'
      clear hb'
      obtain ⟨hc, hf⟩ := bcell hb
      have hz : w.heap.size + 2 < w5.heap.size := by have := hb.size; simp at this; omega
      go_wp2_with fail
      refine (HN.out _ _ HR.out).mono ?_
      rintro e w9 ⟨rfl, hb9⟩
      have hb' := hb.trans (hb9.mono hb.size)
      clear hc hf hz
      clear hb
      have hb := hb'
      clear hb'
      obtain ⟨hc, hf⟩ := bcell hb
      have hz : w.heap.size + 2 < w9.heap.size := by have := hb.size; simp at this; omega
      go_wp2
      refine bodyPost_ret (v := .tuple #[.agg #[.int .i64 n1, .int .u64 rh, .int .u64 rl], .int .i64 0]) (by simp [results, Tryz.results186, go_sem, hc]) rfl ⟨rfl, ?_⟩
      exact (((((((Below.refl _ _).alloc (Nat.le_refl _) _).alloc (by simp) _).alloc (by simp; omega) _).trans (hb.mono (by simp; omega))).setCell (by simp; omega) _).setCell (by simp; omega) _).setCell (by simp; omega) _
    · go_enter Tryz.func186, Tryz.ntmps186
      go_wp2_with fail
      refine (two_21 _).mono ?_
      rintro e w0 ⟨rfl, hw⟩
      subst hw
      go_wp2_with fail
      refine (HC1.out _).mono ?_
      rintro e w1 ⟨rfl, hb⟩
      obtain ⟨hc, hf⟩ := bcell hb
      have hz : w.heap.size + 2 < w1.heap.size := by have := hb.size; simp at this; omega
      go_wp2_with fail
      refine (HC2.out _).mono ?_
      rintro e w2 ⟨rfl, hb2⟩
      have hb' := hb.trans (hb2.mono hb.size)
      clear hc hf hz
      clear hb
      have hb := hb'
      clear hb'
      obtain ⟨hc, hf⟩ := bcell hb
      have hz : w.heap.size + 2 < w2.heap.size := by have := hb.size; simp at this; omega
      go_wp2_with fail
      refine (HB1.out _).mono ?_
      rintro e w3 ⟨r1, rfl, ho1, hb3⟩
      have HO1 := hide ho1
      clear ho1
      have hb' := hb.trans (hb3.mono hb.size)
      clear hc hf hz
      clear hb
      have hb := hb'
      clear hb'
      obtain ⟨hc, hf⟩ := bcell hb
      have hz : w.heap.size + 2 < w3.heap.size := by have := hb.size; simp at this; omega
      go_wp2_with fail
      refine (HB2.out _).mono ?_
      rintro e w4 ⟨r2, rfl, ho2, hb4⟩
      have HO2 := hide ho2
      have HR1 := hide ((own_row1 HO1.out (by omega)).keep hb4)
      have HR2 := hide (own_row1 HO2.out (by omega))
      clear ho2
      have hb' := hb.trans (hb4.mono hb.size)
      clear hc hf hz
      clear hb
      have hb := hb'
      clear hb'
      obtain ⟨hc, hf⟩ := bcell hb
      have hz : w.heap.size + 2 < w4.heap.size := by have := hb.size; simp at this; omega
      have hra := HR1.out; have hrb := HR2.out
      obtain ⟨ga, oa, ca, ra, hca⟩ := hra
      obtain ⟨gb, ob, cb, rb, hcb⟩ := hrb
      have hla : (0 : Int) < ((lst n1 u).length : Int) := by omega
      have hlb : (0 : Int) < ((lst n1 v).length : Int) := by omega
      have hcx := hca 0 (by omega)
      have hcy := hcb 0 (by omega)
      rw [HX.out, Nat.add_zero] at hcx
      rw [HY.out, Nat.add_zero] at hcy
      clear hca hcb HR1 HR2 HO1 HO2
      subst ra rb
      go_wp2_with fail
      refine (refOne_any _ _).mono ?_
      rintro e w5 ⟨r3, rfl, ho3, hb5⟩
      have HR := hide (own_row ho3 (by simp))
      clear ho3
      have hb' := hb.trans (hb5.mono hb.size)
      clear hc hf hz
      clear hb
      have hb := hb'
      clear hb'
      obtain ⟨hc, hf⟩ := bcell hb
      have hz : w.heap.size + 2 < w5.heap.size := by have := hb.size; simp at this; omega
      go_wp2_with fail
      refine (HN.out _ _ HR.out).mono ?_
      rintro e w9 ⟨rfl, hb9⟩
      have hb' := hb.trans (hb9.mono hb.size)
      clear hc hf hz
      clear hb
      have hb := hb'
      clear hb'
      obtain ⟨hc, hf⟩ := bcell hb
      have hz : w.heap.size + 2 < w9.heap.size := by have := hb.size; simp at this; omega
      go_wp2
      refine bodyPost_ret (v := .tuple #[.agg #[.int .i64 n1, .int .u64 rh, .int .u64 rl], .int .i64 0]) (by simp [results, Tryz.results186, go_sem, hc]) rfl ⟨rfl, ?_⟩
      exact (((((((Below.refl _ _).alloc (Nat.le_refl _) _).alloc (by simp) _).alloc (by simp; omega) _).trans (hb.mono (by simp; omega))).setCell (by simp; omega) _).setCell (by simp; omega) _).setCell (by simp; omega) _
  · cases y
    · go_enter Tryz.func186, Tryz.ntmps186
      go_wp2_with fail
      refine (two_21 _).mono ?_
      rintro e w0 ⟨rfl, hw⟩
      subst hw
      go_wp2_with fail
      refine (HC1.out _).mono ?_
      rintro e w1 ⟨rfl, hb⟩
      obtain ⟨hc, hf⟩ := bcell hb
      have hz : w.heap.size + 2 < w1.heap.size := by have := hb.size; simp at this; omega
      go_wp2_with fail
      refine (HC2.out _).mono ?_
      rintro e w2 ⟨rfl, hb2⟩
      have hb' := hb.trans (hb2.mono hb.size)
      clear hc hf hz
      clear hb
      have hb := hb'
      clear hb'
      obtain ⟨hc, hf⟩ := bcell hb
      have hz : w.heap.size + 2 < w2.heap.size := by have := hb.size; simp at this; omega
      go_wp2_with fail
      refine (HB1.out _).mono ?_
      rintro e w3 ⟨r1, rfl, ho1, hb3⟩
      have HO1 := hide ho1
      clear ho1
      have hb' := hb.trans (hb3.mono hb.size)
      clear hc hf hz
      clear hb
      have hb := hb'
      clear hb'
      obtain ⟨hc, hf⟩ := bcell hb
      have hz : w.heap.size + 2 < w3.heap.size := by have := hb.size; simp at this; omega
      go_wp2_with fail
      refine (HB2.out _).mono ?_
      rintro e w4 ⟨r2, rfl, ho2, hb4⟩
      have HO2 := hide ho2
      have HR1 := hide ((own_row1 HO1.out (by omega)).keep hb4)
      have HR2 := hide (own_row1 HO2.out (by omega))
      clear ho2
      have hb' := hb.trans (hb4.mono hb.size)
      clear hc hf hz
      clear hb
      have hb := hb'
      clear hb'
      obtain ⟨hc, hf⟩ := bcell hb
      have hz : w.heap.size + 2 < w4.heap.size := by have := hb.size; simp at this; omega
      have hra := HR1.out; have hrb := HR2.out
      obtain ⟨ga, oa, ca, ra, hca⟩ := hra
      obtain ⟨gb, ob, cb, rb, hcb⟩ := hrb
      have hla : (0 : Int) < ((lst n1 u).length : Int) := by omega
      have hlb : (0 : Int) < ((lst n1 v).length : Int) := by omega
      have hcx := hca 0 (by omega)
      have hcy := hcb 0 (by omega)
      rw [HX.out, Nat.add_zero] at hcx
      rw [HY.out, Nat.add_zero] at hcy
      clear hca hcb HR1 HR2 HO1 HO2
      subst ra rb
      go_wp2_with fail
      refine (refOne_any _ _).mono ?_
      rintro e w5 ⟨r3, rfl, ho3, hb5⟩
      have HR := hide (own_row ho3 (by simp))
      clear ho3
      have hb' := hb.trans (hb5.mono hb.size)
      clear hc hf hz
      clear hb
      have hb := hb'
      clear hb'
      obtain ⟨hc, hf⟩ := bcell hb
      have hz : w.heap.size + 2 < w5.heap.size := by have := hb.size; simp at this; omega
      go_wp2_with fail
      refine (HN.out _ _ HR.out).mono ?_
      rintro e w9 ⟨rfl, hb9⟩
      have hb' := hb.trans (hb9.mono hb.size)
      clear hc hf hz
      clear hb
      have hb := hb'
      clear hb'
      obtain ⟨hc, hf⟩ := bcell hb
      have hz : w.heap.size + 2 < w9.heap.size := by have := hb.size; simp at this; omega
      go_wp2
      refine bodyPost_ret (v := .tuple #[.agg #[.int .i64 n1, .int .u64 rh, .int .u64 rl], .int .i64 0]) (by simp [results, Tryz.results186, go_sem, hc]) rfl ⟨rfl, ?_⟩
      exact (((((((Below.refl _ _).alloc (Nat.le_refl _) _).alloc (by simp) _).alloc (by simp; omega) _).trans (hb.mono (by simp; omega))).setCell (by simp; omega) _).setCell (by simp; omega) _).setCell (by simp; omega) _
    · go_enter Tryz.func186, Tryz.ntmps186
      go_wp2_with fail
      refine (two_21 _).mono ?_
      rintro e w0 ⟨rfl, hw⟩
      subst hw
      go_wp2_with fail
      refine (HC1.out _).mono ?_
      rintro e w1 ⟨rfl, hb⟩
      obtain ⟨hc, hf⟩ := bcell hb
      have hz : w.heap.size + 2 < w1.heap.size := by have := hb.size; simp at this; omega
      go_wp2_with fail
      refine (HC2.out _).mono ?_
      rintro e w2 ⟨rfl, hb2⟩
      have hb' := hb.trans (hb2.mono hb.size)
      clear hc hf hz
      clear hb
      have hb := hb'
      clear hb'
      obtain ⟨hc, hf⟩ := bcell hb
      have hz : w.heap.size + 2 < w2.heap.size := by have := hb.size; simp at this; omega
      go_wp2_with fail
      refine (HB1.out _).mono ?_
      rintro e w3 ⟨r1, rfl, ho1, hb3⟩
      have HO1 := hide ho1
      clear ho1
      have hb' := hb.trans (hb3.mono hb.size)
      clear hc hf hz
      clear hb
      have hb := hb'
      clear hb'
      obtain ⟨hc, hf⟩ := bcell hb
      have hz : w.heap.size + 2 < w3.heap.size := by have := hb.size; simp at this; omega
      go_wp2_with fail
      refine (HB2.out _).mono ?_
      rintro e w4 ⟨r2, rfl, ho2, hb4⟩
      have HO2 := hide ho2
      have HR1 := hide ((own_row1 HO1.out (by omega)).keep hb4)
      have HR2 := hide (own_row1 HO2.out (by omega))
      clear ho2
      have hb' := hb.trans (hb4.mono hb.size)
      clear hc hf hz
      clear hb
      have hb := hb'
      clear hb'
      obtain ⟨hc, hf⟩ := bcell hb
      have hz : w.heap.size + 2 < w4.heap.size := by have := hb.size; simp at this; omega
      have hra := HR1.out; have hrb := HR2.out
      obtain ⟨ga, oa, ca, ra, hca⟩ := hra
      obtain ⟨gb, ob, cb, rb, hcb⟩ := hrb
      have hla : (0 : Int) < ((lst n1 u).length : Int) := by omega
      have hlb : (0 : Int) < ((lst n1 v).length : Int) := by omega
      have hcx := hca 0 (by omega)
      have hcy := hcb 0 (by omega)
      rw [HX.out, Nat.add_zero] at hcx
      rw [HY.out, Nat.add_zero] at hcy
      clear hca hcb HR1 HR2 HO1 HO2
      subst ra rb
      go_wp2_with fail
      refine (refOne_any _ _).mono ?_
      rintro e w5 ⟨r3, rfl, ho3, hb5⟩
      have HR := hide (own_row ho3 (by simp))
      clear ho3
      have hb' := hb.trans (hb5.mono hb.size)
      clear hc hf hz
      clear hb
      have hb := hb'
      clear hb'
      obtain ⟨hc, hf⟩ := bcell hb
      have hz : w.heap.size + 2 < w5.heap.size := by have := hb.size; simp at this; omega
      go_wp2_with fail
      refine (HN.out _ _ HR.out).mono ?_
      rintro e w9 ⟨rfl, hb9⟩
      have hb' := hb.trans (hb9.mono hb.size)
      clear hc hf hz
      clear hb
      have hb := hb'
      clear hb'
      obtain ⟨hc, hf⟩ := bcell hb
      have hz : w.heap.size + 2 < w9.heap.size := by have := hb.size; simp at this; omega
      go_wp2
      refine bodyPost_ret (v := .tuple #[.agg #[.int .i64 n1, .int .u64 rh, .int .u64 rl], .int .i64 0]) (by simp [results, Tryz.results186, go_sem, hc]) rfl ⟨rfl, ?_⟩
      exact (((((((Below.refl _ _).alloc (Nat.le_refl _) _).alloc (by simp) _).alloc (by simp; omega) _).trans (hb.mono (by simp; omega))).setCell (by simp; omega) _).setCell (by simp; omega) _).setCell (by simp; omega) _
set_option maxRecDepth 1000000 in
set_option maxHeartbeats 4000000 in
theorem refDo22_yes (n1 n m : Int) (u v : Nat) (w : World) (o1 : okN n1 u = true) (o2 : okN n1 v = true) (g1 : (n1 != 1) = false) :
    Calls Tryz.prog 186 #[.int .u8 22, .agg #[.int .i64 n1, .int .u64 (wHi u), .int .u64 (wLo u)], .agg #[.int .i64 n1, .int .u64 (wHi v), .int .u64 (wLo v)], .int .i64 n, .int .i64 m] w fun e w' => e = .returned (.tuple #[.agg #[.int .i64 n1, .int .u64 (wHi (u ||| v)), .int .u64 (wLo (u ||| v))], .int .i64 0]) ∧ Below w.heap.size w w' := by
  obtain ⟨b0, b1, b2, b3⟩ := okN_parts o1
  obtain ⟨c0, c1, c2, c3⟩ := okN_parts o2
  have HC2 := hide (fun W => refCheckV n1 v W c3 true o2)
  have HC1 := hide (fun W => refCheckV n1 u W b3 true o1)
  have HB1 := hide (fun W => refBitsV n1 u W b3 b1)
  have ea := lst_length n1 u; have va := lst_val b1 b2
  have HB2 := hide (fun W => refBitsV n1 v W c3 c1)
  have eb := lst_length n1 v; have vb := lst_val c1 c2
  have HN := hide (fun r W (hr : Row W r ([bitAt (lst n1 u) 0 || bitAt (lst n1 v) 0])) => refNumberV r ([bitAt (lst n1 u) 0 || bitAt (lst n1 v) 0]) W (n1) ((u ||| v)) (by simp) (one_len (by simpa using g1)) (single_or (by simpa using g1) b2 c2 va vb) hr)
  generalize hrh : wHi ((u ||| v)) = rh at *
  generalize hrl : wLo ((u ||| v)) = rl at *
  clear hrh hrl
  generalize wHi u = h1 at *
  generalize wLo u = l1 at *
  generalize wHi v = h2 at *
  generalize wLo v = l2 at *
  generalize hx : bitAt (lst n1 u) 0 = x at *
  generalize hy : bitAt (lst n1 v) 0 = y at *
  have HX := hide hx; have HY := hide hy
  clear hx hy
  cases x
  · cases y
    · go_enter Tryz.func186, Tryz.ntmps186
      go_wp2_with fail
      refine (two_22 _).mono ?_
      rintro e w0 ⟨rfl, hw⟩
      subst hw
      go_wp2_with fail
      refine (HC1.out _).mono ?_
      rintro e w1 ⟨rfl, hb⟩
      obtain ⟨hc, hf⟩ := bcell hb
      have hz : w.heap.size + 2 < w1.heap.size := by have := hb.size; simp at this; omega
      go_wp2_with fail
      refine (HC2.out _).mono ?_
      rintro e w2 ⟨rfl, hb2⟩
      have hb' := hb.trans (hb2.mono hb.size)
      clear hc hf hz
      clear hb
      have hb := hb'
      clear hb'
      obtain ⟨hc, hf⟩ := bcell hb
      have hz : w.heap.size + 2 < w2.heap.size := by have := hb.size; simp at this; omega
      go_wp2_with fail
      refine (HB1.out _).mono ?_
      rintro e w3 ⟨r1, rfl, ho1, hb3⟩
      have HO1 := hide ho1
      clear ho1
      have hb' := hb.trans (hb3.mono hb.size)
      clear hc hf hz
      clear hb
      have hb := hb'
      clear hb'
      obtain ⟨hc, hf⟩ := bcell hb
      have hz : w.heap.size + 2 < w3.heap.size := by have := hb.size; simp at this; omega
      go_wp2_with fail
      refine (HB2.out _).mono ?_
      rintro e w4 ⟨r2, rfl, ho2, hb4⟩
      have HO2 := hide ho2
      have HR1 := hide ((own_row1 HO1.out (by omega)).keep hb4)
      have HR2 := hide (own_row1 HO2.out (by omega))
      clear ho2
      have hb' := hb.trans (hb4.mono hb.size)
      clear hc hf hz
      clear hb
      have hb := hb'
      clear hb'
      obtain ⟨hc, hf⟩ := bcell hb
      have hz : w.heap.size + 2 < w4.heap.size := by have := hb.size; simp at this; omega
      have hra := HR1.out; have hrb := HR2.out
      obtain ⟨ga, oa, ca, ra, hca⟩ := hra
      obtain ⟨gb, ob, cb, rb, hcb⟩ := hrb
      have hla : (0 : Int) < ((lst n1 u).length : Int) := by omega
      have hlb : (0 : Int) < ((lst n1 v).length : Int) := by omega
      have hcx := hca 0 (by omega)
      have hcy := hcb 0 (by omega)
      rw [HX.out, Nat.add_zero] at hcx
      rw [HY.out, Nat.add_zero] at hcy
      clear hca hcb HR1 HR2 HO1 HO2
      subst ra rb
      go_wp2_with fail
      refine (refOne_any _ _).mono ?_
      rintro e w5 ⟨r3, rfl, ho3, hb5⟩
      have HR := hide (own_row ho3 (by simp))
      clear ho3
      have hb' := hb.trans (hb5.mono hb.size)
      clear hc hf hz
      clear hb
      have hb := hb'
      clear hb'
      obtain ⟨hc, hf⟩ := bcell hb
      have hz : w.heap.size + 2 < w5.heap.size := by have := hb.size; simp at this; omega
      go_wp2_with fail
      refine (HN.out _ _ HR.out).mono ?_
      rintro e w9 ⟨rfl, hb9⟩
      have hb' := hb.trans (hb9.mono hb.size)
      clear hc hf hz
      clear hb
      have hb := hb'
      clear hb'
      obtain ⟨hc, hf⟩ := bcell hb
      have hz : w.heap.size + 2 < w9.heap.size := by have := hb.size; simp at this; omega
      go_wp2
      refine bodyPost_ret (v := .tuple #[.agg #[.int .i64 n1, .int .u64 rh, .int .u64 rl], .int .i64 0]) (by simp [results, Tryz.results186, go_sem, hc]) rfl ⟨rfl, ?_⟩
      exact (((((((Below.refl _ _).alloc (Nat.le_refl _) _).alloc (by simp) _).alloc (by simp; omega) _).trans (hb.mono (by simp; omega))).setCell (by simp; omega) _).setCell (by simp; omega) _).setCell (by simp; omega) _
    · go_enter Tryz.func186, Tryz.ntmps186
      go_wp2_with fail
      refine (two_22 _).mono ?_
      rintro e w0 ⟨rfl, hw⟩
      subst hw
      go_wp2_with fail
      refine (HC1.out _).mono ?_
      rintro e w1 ⟨rfl, hb⟩
      obtain ⟨hc, hf⟩ := bcell hb
      have hz : w.heap.size + 2 < w1.heap.size := by have := hb.size; simp at this; omega
      go_wp2_with fail
      refine (HC2.out _).mono ?_
      rintro e w2 ⟨rfl, hb2⟩
      have hb' := hb.trans (hb2.mono hb.size)
      clear hc hf hz
      clear hb
      have hb := hb'
      clear hb'
      obtain ⟨hc, hf⟩ := bcell hb
      have hz : w.heap.size + 2 < w2.heap.size := by have := hb.size; simp at this; omega
      go_wp2_with fail
      refine (HB1.out _).mono ?_
      rintro e w3 ⟨r1, rfl, ho1, hb3⟩
      have HO1 := hide ho1
      clear ho1
      have hb' := hb.trans (hb3.mono hb.size)
      clear hc hf hz
      clear hb
      have hb := hb'
      clear hb'
      obtain ⟨hc, hf⟩ := bcell hb
      have hz : w.heap.size + 2 < w3.heap.size := by have := hb.size; simp at this; omega
      go_wp2_with fail
      refine (HB2.out _).mono ?_
      rintro e w4 ⟨r2, rfl, ho2, hb4⟩
      have HO2 := hide ho2
      have HR1 := hide ((own_row1 HO1.out (by omega)).keep hb4)
      have HR2 := hide (own_row1 HO2.out (by omega))
      clear ho2
      have hb' := hb.trans (hb4.mono hb.size)
      clear hc hf hz
      clear hb
      have hb := hb'
      clear hb'
      obtain ⟨hc, hf⟩ := bcell hb
      have hz : w.heap.size + 2 < w4.heap.size := by have := hb.size; simp at this; omega
      have hra := HR1.out; have hrb := HR2.out
      obtain ⟨ga, oa, ca, ra, hca⟩ := hra
      obtain ⟨gb, ob, cb, rb, hcb⟩ := hrb
      have hla : (0 : Int) < ((lst n1 u).length : Int) := by omega
      have hlb : (0 : Int) < ((lst n1 v).length : Int) := by omega
      have hcx := hca 0 (by omega)
      have hcy := hcb 0 (by omega)
      rw [HX.out, Nat.add_zero] at hcx
      rw [HY.out, Nat.add_zero] at hcy
      clear hca hcb HR1 HR2 HO1 HO2
      subst ra rb
      go_wp2_with fail
      refine (refOne_any _ _).mono ?_
      rintro e w5 ⟨r3, rfl, ho3, hb5⟩
      have HR := hide (own_row ho3 (by simp))
      clear ho3
      have hb' := hb.trans (hb5.mono hb.size)
      clear hc hf hz
      clear hb
      have hb := hb'
      clear hb'
      obtain ⟨hc, hf⟩ := bcell hb
      have hz : w.heap.size + 2 < w5.heap.size := by have := hb.size; simp at this; omega
      go_wp2_with fail
      refine (HN.out _ _ HR.out).mono ?_
      rintro e w9 ⟨rfl, hb9⟩
      have hb' := hb.trans (hb9.mono hb.size)
      clear hc hf hz
      clear hb
      have hb := hb'
      clear hb'
      obtain ⟨hc, hf⟩ := bcell hb
      have hz : w.heap.size + 2 < w9.heap.size := by have := hb.size; simp at this; omega
      go_wp2
      refine bodyPost_ret (v := .tuple #[.agg #[.int .i64 n1, .int .u64 rh, .int .u64 rl], .int .i64 0]) (by simp [results, Tryz.results186, go_sem, hc]) rfl ⟨rfl, ?_⟩
      exact (((((((Below.refl _ _).alloc (Nat.le_refl _) _).alloc (by simp) _).alloc (by simp; omega) _).trans (hb.mono (by simp; omega))).setCell (by simp; omega) _).setCell (by simp; omega) _).setCell (by simp; omega) _
  · cases y
    · go_enter Tryz.func186, Tryz.ntmps186
      go_wp2_with fail
      refine (two_22 _).mono ?_
      rintro e w0 ⟨rfl, hw⟩
      subst hw
      go_wp2_with fail
      refine (HC1.out _).mono ?_
      rintro e w1 ⟨rfl, hb⟩
      obtain ⟨hc, hf⟩ := bcell hb
      have hz : w.heap.size + 2 < w1.heap.size := by have := hb.size; simp at this; omega
      go_wp2_with fail
      refine (HC2.out _).mono ?_
      rintro e w2 ⟨rfl, hb2⟩
      have hb' := hb.trans (hb2.mono hb.size)
      clear hc hf hz
      clear hb
      have hb := hb'
      clear hb'
      obtain ⟨hc, hf⟩ := bcell hb
      have hz : w.heap.size + 2 < w2.heap.size := by have := hb.size; simp at this; omega
      go_wp2_with fail
      refine (HB1.out _).mono ?_
      rintro e w3 ⟨r1, rfl, ho1, hb3⟩
      have HO1 := hide ho1
      clear ho1
      have hb' := hb.trans (hb3.mono hb.size)
      clear hc hf hz
      clear hb
      have hb := hb'
      clear hb'
      obtain ⟨hc, hf⟩ := bcell hb
      have hz : w.heap.size + 2 < w3.heap.size := by have := hb.size; simp at this; omega
      go_wp2_with fail
      refine (HB2.out _).mono ?_
      rintro e w4 ⟨r2, rfl, ho2, hb4⟩
      have HO2 := hide ho2
      have HR1 := hide ((own_row1 HO1.out (by omega)).keep hb4)
      have HR2 := hide (own_row1 HO2.out (by omega))
      clear ho2
      have hb' := hb.trans (hb4.mono hb.size)
      clear hc hf hz
      clear hb
      have hb := hb'
      clear hb'
      obtain ⟨hc, hf⟩ := bcell hb
      have hz : w.heap.size + 2 < w4.heap.size := by have := hb.size; simp at this; omega
      have hra := HR1.out; have hrb := HR2.out
      obtain ⟨ga, oa, ca, ra, hca⟩ := hra
      obtain ⟨gb, ob, cb, rb, hcb⟩ := hrb
      have hla : (0 : Int) < ((lst n1 u).length : Int) := by omega
      have hlb : (0 : Int) < ((lst n1 v).length : Int) := by omega
      have hcx := hca 0 (by omega)
      have hcy := hcb 0 (by omega)
      rw [HX.out, Nat.add_zero] at hcx
      rw [HY.out, Nat.add_zero] at hcy
      clear hca hcb HR1 HR2 HO1 HO2
      subst ra rb
      go_wp2_with fail
      refine (refOne_any _ _).mono ?_
      rintro e w5 ⟨r3, rfl, ho3, hb5⟩
      have HR := hide (own_row ho3 (by simp))
      clear ho3
      have hb' := hb.trans (hb5.mono hb.size)
      clear hc hf hz
      clear hb
      have hb := hb'
      clear hb'
      obtain ⟨hc, hf⟩ := bcell hb
      have hz : w.heap.size + 2 < w5.heap.size := by have := hb.size; simp at this; omega
      go_wp2_with fail
      refine (HN.out _ _ HR.out).mono ?_
      rintro e w9 ⟨rfl, hb9⟩
      have hb' := hb.trans (hb9.mono hb.size)
      clear hc hf hz
      clear hb
      have hb := hb'
      clear hb'
      obtain ⟨hc, hf⟩ := bcell hb
      have hz : w.heap.size + 2 < w9.heap.size := by have := hb.size; simp at this; omega
      go_wp2
      refine bodyPost_ret (v := .tuple #[.agg #[.int .i64 n1, .int .u64 rh, .int .u64 rl], .int .i64 0]) (by simp [results, Tryz.results186, go_sem, hc]) rfl ⟨rfl, ?_⟩
      exact (((((((Below.refl _ _).alloc (Nat.le_refl _) _).alloc (by simp) _).alloc (by simp; omega) _).trans (hb.mono (by simp; omega))).setCell (by simp; omega) _).setCell (by simp; omega) _).setCell (by simp; omega) _
    · go_enter Tryz.func186, Tryz.ntmps186
      go_wp2_with fail
      refine (two_22 _).mono ?_
      rintro e w0 ⟨rfl, hw⟩
      subst hw
      go_wp2_with fail
      refine (HC1.out _).mono ?_
      rintro e w1 ⟨rfl, hb⟩
      obtain ⟨hc, hf⟩ := bcell hb
      have hz : w.heap.size + 2 < w1.heap.size := by have := hb.size; simp at this; omega
      go_wp2_with fail
      refine (HC2.out _).mono ?_
      rintro e w2 ⟨rfl, hb2⟩
      have hb' := hb.trans (hb2.mono hb.size)
      clear hc hf hz
      clear hb
      have hb := hb'
      clear hb'
      obtain ⟨hc, hf⟩ := bcell hb
      have hz : w.heap.size + 2 < w2.heap.size := by have := hb.size; simp at this; omega
      go_wp2_with fail
      refine (HB1.out _).mono ?_
      rintro e w3 ⟨r1, rfl, ho1, hb3⟩
      have HO1 := hide ho1
      clear ho1
      have hb' := hb.trans (hb3.mono hb.size)
      clear hc hf hz
      clear hb
      have hb := hb'
      clear hb'
      obtain ⟨hc, hf⟩ := bcell hb
      have hz : w.heap.size + 2 < w3.heap.size := by have := hb.size; simp at this; omega
      go_wp2_with fail
      refine (HB2.out _).mono ?_
      rintro e w4 ⟨r2, rfl, ho2, hb4⟩
      have HO2 := hide ho2
      have HR1 := hide ((own_row1 HO1.out (by omega)).keep hb4)
      have HR2 := hide (own_row1 HO2.out (by omega))
      clear ho2
      have hb' := hb.trans (hb4.mono hb.size)
      clear hc hf hz
      clear hb
      have hb := hb'
      clear hb'
      obtain ⟨hc, hf⟩ := bcell hb
      have hz : w.heap.size + 2 < w4.heap.size := by have := hb.size; simp at this; omega
      have hra := HR1.out; have hrb := HR2.out
      obtain ⟨ga, oa, ca, ra, hca⟩ := hra
      obtain ⟨gb, ob, cb, rb, hcb⟩ := hrb
      have hla : (0 : Int) < ((lst n1 u).length : Int) := by omega
      have hlb : (0 : Int) < ((lst n1 v).length : Int) := by omega
      have hcx := hca 0 (by omega)
      have hcy := hcb 0 (by omega)
      rw [HX.out, Nat.add_zero] at hcx
      rw [HY.out, Nat.add_zero] at hcy
      clear hca hcb HR1 HR2 HO1 HO2
      subst ra rb
      go_wp2_with fail
      refine (refOne_any _ _).mono ?_
      rintro e w5 ⟨r3, rfl, ho3, hb5⟩
      have HR := hide (own_row ho3 (by simp))
      clear ho3
      have hb' := hb.trans (hb5.mono hb.size)
      clear hc hf hz
      clear hb
      have hb := hb'
      clear hb'
      obtain ⟨hc, hf⟩ := bcell hb
      have hz : w.heap.size + 2 < w5.heap.size := by have := hb.size; simp at this; omega
      go_wp2_with fail
      refine (HN.out _ _ HR.out).mono ?_
      rintro e w9 ⟨rfl, hb9⟩
      have hb' := hb.trans (hb9.mono hb.size)
      clear hc hf hz
      clear hb
      have hb := hb'
      clear hb'
      obtain ⟨hc, hf⟩ := bcell hb
      have hz : w.heap.size + 2 < w9.heap.size := by have := hb.size; simp at this; omega
      go_wp2
      refine bodyPost_ret (v := .tuple #[.agg #[.int .i64 n1, .int .u64 rh, .int .u64 rl], .int .i64 0]) (by simp [results, Tryz.results186, go_sem, hc]) rfl ⟨rfl, ?_⟩
      exact (((((((Below.refl _ _).alloc (Nat.le_refl _) _).alloc (by simp) _).alloc (by simp; omega) _).trans (hb.mono (by simp; omega))).setCell (by simp; omega) _).setCell (by simp; omega) _).setCell (by simp; omega) _
end Go.Proofs.YtlipcmonlhdgfaaGreat
