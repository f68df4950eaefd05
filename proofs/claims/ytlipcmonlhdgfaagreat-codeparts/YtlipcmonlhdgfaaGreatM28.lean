/- Pieces of the proof: RDoC, RDoD. -/
import Derived.Test.YtlipcmonlhdgfaaGreatM27
/- The document's own Do, operation by operation (not, and moves). -/
namespace Go.Proofs.YtlipcmonlhdgfaaGreat
open Go.RowKit

theorem up_cap {u v n : Nat} (hn : n ≤ 128) : u * 2 ^ min v 1000 % 2 ^ n = u * 2 ^ v % 2 ^ n := by
  by_cases h : v ≤ 1000
  · rw [Nat.min_eq_left h]
  · have z : ∀ k, n ≤ k → u * 2 ^ k % 2 ^ n = 0 := fun k hk => Nat.mod_eq_zero_of_dvd (Nat.dvd_trans (Nat.pow_dvd_pow 2 hk) (Nat.dvd_mul_left _ _))
    rw [z _ (by omega), z _ (by omega)]
theorem down_cap {u v n : Nat} (hu : u < top) (hn : u < 2 ^ n) : u / 2 ^ min v 1000 = u / 2 ^ v % 2 ^ n := by
  rw [Nat.mod_eq_of_lt (Nat.lt_of_le_of_lt (Nat.div_le_self _ _) hn)]
  by_cases h : v ≤ 1000
  · rw [Nat.min_eq_left h]
  · have z : ∀ k, 128 ≤ k → u / 2 ^ k = 0 := fun k hk => Nat.div_eq_of_lt (Nat.lt_of_lt_of_le (by rw [top_eq] at hu; exact hu) (Nat.pow_le_pow_right (by decide) hk))
    rw [z _ (by omega), z _ (by omega)]
theorem own_keep {w w1 : World} {base : Nat} {e : TypeId} {v : Value} {k : Nat} {xs : List Value} (h : w.ownsRow base e 1 v k xs) (hb : Below w.heap.size w w1) : w1.ownsRow base e 1 v k xs := by
  refine ⟨h.1, ?_⟩
  rcases h.2 with h0 | ⟨g, cap, cur, hv, hg, hh, rest⟩
  · exact .inl h0
  · exact .inr ⟨g, cap, cur, hv, hg, (hb.block g (lt_of_block hh)).trans hh, rest⟩
set_option maxRecDepth 1000000 in
set_option maxHeartbeats 4000000 in
theorem refDo11_yes (n1 n2 n m : Int) (u v : Nat) (w : World) (o1 : okN n1 u = true) (hv : v < top) :
    Calls Tryz.prog 186 #[.int .u8 11, .agg #[.int .i64 n1, .int .u64 (wHi u), .int .u64 (wLo u)], .agg #[.int .i64 n2, .int .u64 (wHi v), .int .u64 (wLo v)], .int .i64 n, .int .i64 m] w fun e w' => e = .returned (.tuple #[.agg #[.int .i64 n1, .int .u64 (wHi (2 ^ n1.toNat - 1 - u)), .int .u64 (wLo (2 ^ n1.toNat - 1 - u))], .int .i64 0]) ∧ Below w.heap.size w w' := by
  obtain ⟨b0, b1, b2, b3⟩ := okN_parts o1
  have HC1 := hide (fun W => refCheckV n1 u W b3 true o1)
  have HB1 := hide (fun W => refBitsV n1 u W b3 b1)
  have ea := lst_length n1 u; have va := lst_val b1 b2
  have HB2 := hide (fun W => refBits_any n2 (wHi v) (wLo v) W (wHi_bd hv).1 (wHi_bd hv).2 (wLo_bd v).1 (wLo_bd v).2)
  have HN := hide (fun r W (hr : Row W r (notL (lst n1 u))) => refNumberV r (notL (lst n1 u)) W (n1) ((2 ^ n1.toNat - 1 - u)) (by rw [notL_length]; omega) (by rw [notL_length, ea]; omega) (by rw [notL_val, va, ea]) hr)
  generalize hrh : wHi ((2 ^ n1.toNat - 1 - u)) = rh at *
  generalize hrl : wLo ((2 ^ n1.toNat - 1 - u)) = rl at *
  clear hrh hrl
  generalize wHi u = h1 at *
  generalize wLo u = l1 at *
  generalize wHi v = h2 at *
  generalize wLo v = l2 at *
  go_enter Tryz.func186, Tryz.ntmps186
  go_wp2_with fail
  refine (two_11 _).mono ?_
  rintro e w0 ⟨rfl, hw⟩
  subst hw
  go_wp2_with fail
  refine (HC1.out _).mono ?_
  rintro e w1 ⟨rfl, hb⟩
  obtain ⟨hc, hf⟩ := bcell hb
  have hz : w.heap.size + 2 < w1.heap.size := by have := hb.size; simp at this; omega
  go_wp2_with fail
  refine (HB1.out _).mono ?_
  rintro e w3 ⟨r1, rfl, ho1, hb3⟩
  have HO1 := hide ho1
  clear ho1
  have hb' := hb.trans (hb3.mono hb.size)
  clear hc hf hz
  clear hb
  have hb := hb'
  clear hb'
  obtain ⟨hc, hf⟩ := bcell hb
  have hz : w.heap.size + 2 < w3.heap.size := by have := hb.size; simp at this; omega
  go_wp2_with fail
  refine (HB2.out _).mono ?_
  rintro e w4 ⟨r2, rfl, ho2, hb4⟩
  have HR1 := hide ((own_row1 HO1.out (by omega)).keep hb4)
  have HO1' := hide (own_keep HO1.out hb4)
  clear ho2
  have hb' := hb.trans (hb4.mono hb.size)
  clear hc hf hz
  clear hb
  have hb := hb'
  clear hb'
  obtain ⟨hc, hf⟩ := bcell hb
  have hz : w.heap.size + 2 < w4.heap.size := by have := hb.size; simp at this; omega
  go_wp2_with fail
  refine (refNot_any (lst n1 u) (by omega) _ _ HR1.out).mono ?_
  rintro e w5 ⟨r3, rfl, ho3, hb5⟩
  have HR := hide (own_row ho3 (by rw [notL_length]; omega))
  clear ho3
  have hb' := hb.trans (hb5.mono hb.size)
  clear hc hf hz
  clear hb
  have hb := hb'
  clear hb'
  obtain ⟨hc, hf⟩ := bcell hb
  have hz : w.heap.size + 2 < w5.heap.size := by have := hb.size; simp at this; omega
  go_wp2_with fail
  refine (HN.out _ _ HR.out).mono ?_
  rintro e w9 ⟨rfl, hb9⟩
  have hb' := hb.trans (hb9.mono hb.size)
  clear hc hf hz
  clear hb
  have hb := hb'
  clear hb'
  obtain ⟨hc, hf⟩ := bcell hb
  have hz : w.heap.size + 2 < w9.heap.size := by have := hb.size; simp at this; omega
  go_wp2
  refine bodyPost_ret (v := .tuple #[.agg #[.int .i64 n1, .int .u64 rh, .int .u64 rl], .int .i64 0]) (by simp [results, Tryz.results186, go_sem, hc]) rfl ⟨rfl, ?_⟩
  exact (((((((Below.refl _ _).alloc (Nat.le_refl _) _).alloc (by simp) _).alloc (by simp; omega) _).trans (hb.mono (by simp; omega))).setCell (by simp; omega) _).setCell (by simp; omega) _).setCell (by simp; omega) _
set_option maxRecDepth 1000000 in
set_option maxHeartbeats 4000000 in
theorem refDo12_yes (n1 n2 n m : Int) (u v : Nat) (w : World) (o1 : okN n1 u = true) (o2 : okN n2 v = true) :
    Calls Tryz.prog 186 #[.int .u8 12, .agg #[.int .i64 n1, .int .u64 (wHi u), .int .u64 (wLo u)], .agg #[.int .i64 n2, .int .u64 (wHi v), .int .u64 (wLo v)], .int .i64 n, .int .i64 m] w fun e w' => e = .returned (.tuple #[.agg #[.int .i64 n1, .int .u64 (wHi (u * 2 ^ v % 2 ^ n1.toNat)), .int .u64 (wLo (u * 2 ^ v % 2 ^ n1.toNat))], .int .i64 0]) ∧ Below w.heap.size w w' := by
  obtain ⟨b0, b1, b2, b3⟩ := okN_parts o1
  obtain ⟨c0, c1, c2, c3⟩ := okN_parts o2
  have HC2 := hide (fun W => refCheckV n2 v W c3 true o2)
  have HC1 := hide (fun W => refCheckV n1 u W b3 true o1)
  have HB1 := hide (fun W => refBitsV n1 u W b3 b1)
  have ea := lst_length n1 u; have va := lst_val b1 b2
  have HB2 := hide (fun W => refBitsV n2 v W c3 c1)
  have eb := lst_length n2 v; have vb := lst_val c1 c2
  have HN := hide (fun r W (hr : Row W r (upL (lst n1 u) ((min v 1000 : Nat) : Int))) => refNumberV r (upL (lst n1 u) ((min v 1000 : Nat) : Int)) W (n1) ((u * 2 ^ v % 2 ^ n1.toNat)) (by rw [upL_length]; omega) (by rw [upL_length, ea]; omega) (by rw [upL_val_up, va, ea]; exact up_cap (by omega)) hr)
  generalize hrh : wHi ((u * 2 ^ v % 2 ^ n1.toNat)) = rh at *
  generalize hrl : wLo ((u * 2 ^ v % 2 ^ n1.toNat)) = rl at *
  clear hrh hrl
  generalize wHi u = h1 at *
  generalize wLo u = l1 at *
  generalize wHi v = h2 at *
  generalize wLo v = l2 at *
  go_enter Tryz.func186, Tryz.ntmps186
  go_wp2_with fail
  refine (two_12 _).mono ?_
  rintro e w0 ⟨rfl, hw⟩
  subst hw
  go_wp2_with fail
  refine (HC1.out _).mono ?_
  rintro e w1 ⟨rfl, hb⟩
  obtain ⟨hc, hf⟩ := bcell hb
  have hz : w.heap.size + 2 < w1.heap.size := by have := hb.size; simp at this; omega
  go_wp2_with fail
  refine (HC2.out _).mono ?_
  rintro e w2 ⟨rfl, hb2⟩
  have hb' := hb.trans (hb2.mono hb.size)
  clear hc hf hz
  clear hb
  have hb := hb'
  clear hb'
  obtain ⟨hc, hf⟩ := bcell hb
  have hz : w.heap.size + 2 < w2.heap.size := by have := hb.size; simp at this; omega
  go_wp2_with fail
  refine (HB1.out _).mono ?_
  rintro e w3 ⟨r1, rfl, ho1, hb3⟩
  have HO1 := hide ho1
  clear ho1
  have hb' := hb.trans (hb3.mono hb.size)
  clear hc hf hz
  clear hb
  have hb := hb'
  clear hb'
  obtain ⟨hc, hf⟩ := bcell hb
  have hz : w.heap.size + 2 < w3.heap.size := by have := hb.size; simp at this; omega
  go_wp2_with fail
  refine (HB2.out _).mono ?_
  rintro e w4 ⟨r2, rfl, ho2, hb4⟩
  have HO2 := hide ho2
  have HR1 := hide ((own_row1 HO1.out (by omega)).keep hb4)
  have HR2 := hide (own_row1 HO2.out (by omega))
  clear ho2
  have hb' := hb.trans (hb4.mono hb.size)
  clear hc hf hz
  clear hb
  have hb := hb'
  clear hb'
  obtain ⟨hc, hf⟩ := bcell hb
  have hz : w.heap.size + 2 < w4.heap.size := by have := hb.size; simp at this; omega
  go_wp2_with fail
  refine (refValue_any (lst n2 v) (by omega) _ _ HR2.out).mono ?_
  rintro e w5 ⟨rfl, hw⟩
  subst hw
  rw [vb]
  go_wp2_with fail
  refine (refUp_any (lst n1 u) (by omega) _ (by omega) (by omega) _ _ HR1.out).mono ?_
  rintro e w6 ⟨r4, rfl, ho4, hb6⟩
  have HR := hide (own_row ho4 (by rw [upL_length]; omega))
  clear ho4
  have hb' := hb.trans (hb6.mono hb.size)
  clear hc hf hz
  clear hb
  have hb := hb'
  clear hb'
  obtain ⟨hc, hf⟩ := bcell hb
  have hz : w.heap.size + 2 < w6.heap.size := by have := hb.size; simp at this; omega
  go_wp2_with fail
  refine (HN.out _ _ HR.out).mono ?_
  rintro e w9 ⟨rfl, hb9⟩
  have hb' := hb.trans (hb9.mono hb.size)
  clear hc hf hz
  clear hb
  have hb := hb'
  clear hb'
  obtain ⟨hc, hf⟩ := bcell hb
  have hz : w.heap.size + 2 < w9.heap.size := by have := hb.size; simp at this; omega
  go_wp2
  refine bodyPost_ret (v := .tuple #[.agg #[.int .i64 n1, .int .u64 rh, .int .u64 rl], .int .i64 0]) (by simp [results, Tryz.results186, go_sem, hc]) rfl ⟨rfl, ?_⟩
  exact (((((((Below.refl _ _).alloc (Nat.le_refl _) _).alloc (by simp) _).alloc (by simp; omega) _).trans (hb.mono (by simp; omega))).setCell (by simp; omega) _).setCell (by simp; omega) _).setCell (by simp; omega) _
set_option maxRecDepth 1000000 in
set_option maxHeartbeats 4000000 in
theorem refDo13_yes (n1 n2 n m : Int) (u v : Nat) (w : World) (o1 : okN n1 u = true) (o2 : okN n2 v = true) :
    Calls Tryz.prog 186 #[.int .u8 13, .agg #[.int .i64 n1, .int .u64 (wHi u), .int .u64 (wLo u)], .agg #[.int .i64 n2, .int .u64 (wHi v), .int .u64 (wLo v)], .int .i64 n, .int .i64 m] w fun e w' => e = .returned (.tuple #[.agg #[.int .i64 n1, .int .u64 (wHi (u / 2 ^ v % 2 ^ n1.toNat)), .int .u64 (wLo (u / 2 ^ v % 2 ^ n1.toNat))], .int .i64 0]) ∧ Below w.heap.size w w' := by
  obtain ⟨b0, b1, b2, b3⟩ := okN_parts o1
  obtain ⟨c0, c1, c2, c3⟩ := okN_parts o2
  have HC2 := hide (fun W => refCheckV n2 v W c3 true o2)
  have HC1 := hide (fun W => refCheckV n1 u W b3 true o1)
  have HB1 := hide (fun W => refBitsV n1 u W b3 b1)
  have ea := lst_length n1 u; have va := lst_val b1 b2
  have HB2 := hide (fun W => refBitsV n2 v W c3 c1)
  have eb := lst_length n2 v; have vb := lst_val c1 c2
  have HN := hide (fun r W (hr : Row W r (upL (lst n1 u) (0 - ((min v 1000 : Nat) : Int)))) => refNumberV r (upL (lst n1 u) (0 - ((min v 1000 : Nat) : Int))) W (n1) ((u / 2 ^ v % 2 ^ n1.toNat)) (by rw [upL_length]; omega) (by rw [upL_length, ea]; omega) (by rw [upL_val_down, va]; exact down_cap b3 b2) hr)
  generalize hrh : wHi ((u / 2 ^ v % 2 ^ n1.toNat)) = rh at *
  generalize hrl : wLo ((u / 2 ^ v % 2 ^ n1.toNat)) = rl at *
  clear hrh hrl
  generalize wHi u = h1 at *
  generalize wLo u = l1 at *
  generalize wHi v = h2 at *
  generalize wLo v = l2 at *
  go_enter Tryz.func186, Tryz.ntmps186
  go_wp2_with fail
  refine (two_13 _).mono ?_
  rintro e w0 ⟨rfl, hw⟩
  subst hw
  go_wp2_with fail
  refine (HC1.out _).mono ?_
  rintro e w1 ⟨rfl, hb⟩
  obtain ⟨hc, hf⟩ := bcell hb
  have hz : w.heap.size + 2 < w1.heap.size := by have := hb.size; simp at this; omega
  go_wp2_with fail
  refine (HC2.out _).mono ?_
  rintro e w2 ⟨rfl, hb2⟩
  have hb' := hb.trans (hb2.mono hb.size)
  clear hc hf hz
  clear hb
  have hb := hb'
  clear hb'
  obtain ⟨hc, hf⟩ := bcell hb
  have hz : w.heap.size + 2 < w2.heap.size := by have := hb.size; simp at this; omega
  go_wp2_with fail
  refine (HB1.out _).mono ?_
  rintro e w3 ⟨r1, rfl, ho1, hb3⟩
  have HO1 := hide ho1
  clear ho1
  have hb' := hb.trans (hb3.mono hb.size)
  clear hc hf hz
  clear hb
  have hb := hb'
  clear hb'
  obtain ⟨hc, hf⟩ := bcell hb
  have hz : w.heap.size + 2 < w3.heap.size := by have := hb.size; simp at this; omega
  go_wp2_with fail
  refine (HB2.out _).mono ?_
  rintro e w4 ⟨r2, rfl, ho2, hb4⟩
  have HO2 := hide ho2
  have HR1 := hide ((own_row1 HO1.out (by omega)).keep hb4)
  have HR2 := hide (own_row1 HO2.out (by omega))
  clear ho2
  have hb' := hb.trans (hb4.mono hb.size)
  clear hc hf hz
  clear hb
  have hb := hb'
  clear hb'
  obtain ⟨hc, hf⟩ := bcell hb
  have hz : w.heap.size + 2 < w4.heap.size := by have := hb.size; simp at this; omega
  go_wp2_with fail
  refine (refValue_any (lst n2 v) (by omega) _ _ HR2.out).mono ?_
  rintro e w5 ⟨rfl, hw⟩
  subst hw
  rw [vb]
  have ew : (0 : Int) - ((min v 1000 : Nat) : Int) = -((min v 1000 : Nat) : Int) := by omega
  have hmin : ((min v 1000 : Nat) : Int) ≤ 1000 := by omega
  have hmin0 : (0 : Int) ≤ ((min v 1000 : Nat) : Int) := by omega
  rw [ew] at HN
  clear ew
  generalize ((min v 1000 : Nat) : Int) = kk at *
  go_wp2_with fail
  refine (refUp_any (lst n1 u) (by omega) _ (by omega) (by omega) _ _ HR1.out).mono ?_
  rintro e w6 ⟨r4, rfl, ho4, hb6⟩
  have HR := hide (own_row ho4 (by rw [upL_length]; omega))
  clear ho4
  have hb' := hb.trans (hb6.mono hb.size)
  clear hc hf hz
  clear hb
  have hb := hb'
  clear hb'
  obtain ⟨hc, hf⟩ := bcell hb
  have hz : w.heap.size + 2 < w6.heap.size := by have := hb.size; simp at this; omega
  go_wp2_with fail
  refine (HN.out _ _ HR.out).mono ?_
  rintro e w9 ⟨rfl, hb9⟩
  have hb' := hb.trans (hb9.mono hb.size)
  clear hc hf hz
  clear hb
  have hb := hb'
  clear hb'
  obtain ⟨hc, hf⟩ := bcell hb
  have hz : w.heap.size + 2 < w9.heap.size := by have := hb.size; simp at this; omega
  go_wp2
  refine bodyPost_ret (v := .tuple #[.agg #[.int .i64 n1, .int .u64 rh, .int .u64 rl], .int .i64 0]) (by simp [results, Tryz.results186, go_sem, hc]) rfl ⟨rfl, ?_⟩
  exact (((((((Below.refl _ _).alloc (Nat.le_refl _) _).alloc (by simp) _).alloc (by simp; omega) _).trans (hb.mono (by simp; omega))).setCell (by simp; omega) _).setCell (by simp; omega) _).setCell (by simp; omega) _
end Go.Proofs.YtlipcmonlhdgfaaGreat
/- The document's own Do, operation by operation (cat). -/
namespace Go.Proofs.YtlipcmonlhdgfaaGreat
open Go.RowKit

theorem row_news {w : World} {l : List Bool} {b off : Nat} (h : ∀ i, i < l.length → w.cell? ⟨b, off + i, none⟩ = some (.bool (bitAt l i))) : ∀ j u, (l.map Value.bool)[j]? = some u → w.cell? ((⟨b, off, none⟩ : Addr).add j) = some u := by
  intro j u hu
  rw [List.getElem?_map] at hu
  by_cases hj : j < l.length
  · rw [List.getElem?_eq_getElem hj] at hu
    simp at hu
    subst hu
    have := h j hj
    rw [bitAt_get hj] at this
    by_cases h0 : j = 0
    · subst h0; simpa [Addr.add] using this
    · simpa [Addr.add, h0] using this
  · rw [List.getElem?_eq_none (by omega)] at hu; simp at hu
theorem bools_one (l : List Bool) : ∀ u ∈ l.map Value.bool, u.oneCell' = true := by
  intro u hu
  obtain ⟨x, _, rfl⟩ := List.mem_map.1 hu
  rfl
set_option maxRecDepth 1000000 in
set_option maxHeartbeats 4000000 in
theorem refDo14_yes (n1 n2 n m : Int) (u v : Nat) (w : World) (o1 : okN n1 u = true) (o2 : okN n2 v = true) (hcat : n1 + n2 ≤ 128) :
    Calls Tryz.prog 186 #[.int .u8 14, .agg #[.int .i64 n1, .int .u64 (wHi u), .int .u64 (wLo u)], .agg #[.int .i64 n2, .int .u64 (wHi v), .int .u64 (wLo v)], .int .i64 n, .int .i64 m] w fun e w' => e = .returned (.tuple #[.agg #[.int .i64 (n1 + n2), .int .u64 (wHi (u * 2 ^ n2.toNat + v)), .int .u64 (wLo (u * 2 ^ n2.toNat + v))], .int .i64 0]) ∧ Below w.heap.size w w' := by
  obtain ⟨b0, b1, b2, b3⟩ := okN_parts o1
  obtain ⟨c0, c1, c2, c3⟩ := okN_parts o2
  have HC2 := hide (fun W => refCheckV n2 v W c3 true o2)
  have HC1 := hide (fun W => refCheckV n1 u W b3 true o1)
  have HB1 := hide (fun W => refBitsV n1 u W b3 b1)
  have ea := lst_length n1 u; have va := lst_val b1 b2
  have HB2 := hide (fun W => refBitsV n2 v W c3 c1)
  have eb := lst_length n2 v; have vb := lst_val c1 c2
  have HN := hide (fun r W (hr : Row W r (lst n2 v ++ lst n1 u)) => refNumberV r (lst n2 v ++ lst n1 u) W ((n1 + n2)) ((u * 2 ^ n2.toNat + v)) (by rw [List.length_append]; omega) (by rw [List.length_append, ea, eb]; omega) (by rw [valL_append, va, vb, eb, Nat.mul_comm u, Nat.add_comm]) hr)
  generalize hrh : wHi ((u * 2 ^ n2.toNat + v)) = rh at *
  generalize hrl : wLo ((u * 2 ^ n2.toNat + v)) = rl at *
  clear hrh hrl
  generalize wHi u = h1 at *
  generalize wLo u = l1 at *
  generalize wHi v = h2 at *
  generalize wLo v = l2 at *
  go_enter Tryz.func186, Tryz.ntmps186
  go_wp2_with fail
  refine (two_14 _).mono ?_
  rintro e w0 ⟨rfl, hw⟩
  subst hw
  go_wp2_with fail
  refine (HC1.out _).mono ?_
  rintro e w1 ⟨rfl, hb⟩
  obtain ⟨hc, hf⟩ := bcell hb
  have hz : w.heap.size + 2 < w1.heap.size := by have := hb.size; simp at this; omega
  go_wp2_with fail
  refine (HC2.out _).mono ?_
  rintro e w2 ⟨rfl, hb2⟩
  have hb' := hb.trans (hb2.mono hb.size)
  clear hc hf hz
  clear hb
  have hb := hb'
  clear hb'
  obtain ⟨hc, hf⟩ := bcell hb
  have hz : w.heap.size + 2 < w2.heap.size := by have := hb.size; simp at this; omega
  go_wp2_with fail
  refine (HB1.out _).mono ?_
  rintro e w3 ⟨r1, rfl, ho1, hb3⟩
  have HO1 := hide ho1
  have hz3 : (((w.alloc (.cells #[.int .i64 n1, .int .u64 h1, .int .u64 l1] 56)).alloc (.cells #[.int .i64 n2, .int .u64 h2, .int .u64 l2] 56)).alloc (.cells #[.int .i64 0, .int .u64 0, .int .u64 0] 56)).heap.size ≤ w3.heap.size + 1 := by have := hb.size; have := hb3.size; omega
  clear ho1
  have hb' := hb.trans (hb3.mono hb.size)
  clear hc hf hz
  clear hb
  have hb := hb'
  clear hb'
  obtain ⟨hc, hf⟩ := bcell hb
  have hz : w.heap.size + 2 < w3.heap.size := by have := hb.size; simp at this; omega
  go_wp2_with fail
  refine (HB2.out _).mono ?_
  rintro e w4 ⟨r2, rfl, ho2, hb4⟩
  have HO2 := hide ho2
  have HR1 := hide ((own_row1 HO1.out (by omega)).keep hb4)
  have HR2 := hide (own_row1 HO2.out (by omega))
  clear ho2
  have hb' := hb.trans (hb4.mono hb.size)
  clear hc hf hz
  clear hb
  have hb := hb'
  clear hb'
  obtain ⟨hc, hf⟩ := bcell hb
  have hz : w.heap.size + 2 < w4.heap.size := by have := hb.size; simp at this; omega
  obtain ⟨i0, hi0, hz0, hz1, hz2⟩ := info_parts Tryz.info4
  have hra := HR1.out
  obtain ⟨ga, oa, ca, ra, hca⟩ := hra
  have HCA := hide hca
  have HBB := hide hb
  have hbase : w3.heap.size + 1 ≤ w4.heap.size := by
    rcases HO2.out.2 with ⟨_, h0⟩ | ⟨g, cap, cur, hv, hg, hh, _⟩
    · omega
    · have := lt_of_block hh; omega
  clear hca
  subst ra
  go_wp2_with (at_builtin; refine wpList_append_own _ rfl _ _ 124 rfl (w3.heap.size + 1) 4 i0 (.bool false) 1 1 Tryz.underlying124 hi0 hz0 hz1 hz2 rfl (by decide) _ _ _ rfl (unhide HO2) ⟨ga, oa, none⟩ n1.toNat ca ((lst n1 u).map Value.bool) rfl (by simp [ea]) (row_news (unhide HCA)) (bools_one _) (by unfold maxLen; omega) (by omega) hbase ?_; intro r5 w5 ho5 hg5; intro hnil5)
  have HO5 := hide ho5; have HG5 := hide hg5
  clear ho5 hg5 hnil5
  have HR := hide (own_row1 (l := lst n2 v ++ lst n1 u) (by rw [List.map_append]; exact HO5.out) (by rw [List.length_append]; omega))
  have hb' := hb.grown HG5.out hb.size (fun k e => Nat.le_trans (Nat.le_trans (by simp) hz3) (HO2.out.lt k e).1)
  clear hc hf hz
  clear hb
  have hb := hb'
  clear hb'
  obtain ⟨hc, hf⟩ := bcell hb
  have hz : w.heap.size + 2 < w5.heap.size := by have := hb.size; simp at this; omega
  go_wp2_with fail
  refine (HN.out _ _ HR.out).mono ?_
  rintro e w9 ⟨rfl, hb9⟩
  have hb' := hb.trans (hb9.mono hb.size)
  clear hc hf hz
  clear hb
  have hb := hb'
  clear hb'
  obtain ⟨hc, hf⟩ := bcell hb
  have hz : w.heap.size + 2 < w9.heap.size := by have := hb.size; simp at this; omega
  go_wp2
  refine bodyPost_ret (v := .tuple #[.agg #[.int .i64 (n1 + n2), .int .u64 rh, .int .u64 rl], .int .i64 0]) (by simp [results, Tryz.results186, go_sem, hc]) rfl ⟨rfl, ?_⟩
  exact (((((((Below.refl _ _).alloc (Nat.le_refl _) _).alloc (by simp) _).alloc (by simp; omega) _).trans (hb.mono (by simp; omega))).setCell (by simp; omega) _).setCell (by simp; omega) _).setCell (by simp; omega) _
end Go.Proofs.YtlipcmonlhdgfaaGreat
