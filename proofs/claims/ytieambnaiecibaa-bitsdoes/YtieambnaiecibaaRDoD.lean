/- The document's own Do, operation by operation (cat). -/
import Derived.Test.YtieambnaiecibaaRDoC
namespace Go.Proofs.Ytieambnaiecibaa
open Go.RowKit

theorem row_news {w : World} {l : List Bool} {b off : Nat} (h : ∀ i, i < l.length → w.cell? ⟨b, off + i, none⟩ = some (.bool (bitAt l i))) : ∀ j u, (l.map Value.bool)[j]? = some u → w.cell? ((⟨b, off, none⟩ : Addr).add j) = some u := by
  intro j u hu
  rw [List.getElem?_map] at hu
  by_cases hj : j < l.length
  · rw [List.getElem?_eq_getElem hj] at hu
    simp at hu
    subst hu
    have := h j hj
    rw [bitAt_get hj] at this
    by_cases h0 : j = 0
    · subst h0; simpa [Addr.add] using this
    · simpa [Addr.add, h0] using this
  · rw [List.getElem?_eq_none (by omega)] at hu; simp at hu
theorem bools_one (l : List Bool) : ∀ u ∈ l.map Value.bool, u.oneCell' = true := by
  intro u hu
  obtain ⟨x, _, rfl⟩ := List.mem_map.1 hu
  rfl
set_option maxRecDepth 1000000 in
set_option maxHeartbeats 4000000 in
theorem refDo14_yes (n1 n2 n m : Int) (u v : Nat) (w : World) (o1 : okN n1 u = true) (o2 : okN n2 v = true) (hcat : n1 + n2 ≤ 128) :
    Calls Try.prog 10 #[.int .u8 14, .agg #[.int .i64 n1, .int .u64 (wHi u), .int .u64 (wLo u)], .agg #[.int .i64 n2, .int .u64 (wHi v), .int .u64 (wLo v)], .int .i64 n, .int .i64 m] w fun e w' => e = .returned (.tuple #[.agg #[.int .i64 (n1 + n2), .int .u64 (wHi (u * 2 ^ n2.toNat + v)), .int .u64 (wLo (u * 2 ^ n2.toNat + v))], .int .i64 0]) ∧ Below w.heap.size w w' := by
  obtain ⟨b0, b1, b2, b3⟩ := okN_parts o1
  obtain ⟨c0, c1, c2, c3⟩ := okN_parts o2
  have HC2 := hide (fun W => refCheckV n2 v W c3 true o2)
  have HC1 := hide (fun W => refCheckV n1 u W b3 true o1)
  have HB1 := hide (fun W => refBitsV n1 u W b3 b1)
  have ea := lst_length n1 u; have va := lst_val b1 b2
  have HB2 := hide (fun W => refBitsV n2 v W c3 c1)
  have eb := lst_length n2 v; have vb := lst_val c1 c2
  have HN := hide (fun r W (hr : Row W r (lst n2 v ++ lst n1 u)) => refNumberV r (lst n2 v ++ lst n1 u) W ((n1 + n2)) ((u * 2 ^ n2.toNat + v)) (by rw [List.length_append]; omega) (by rw [List.length_append, ea, eb]; omega) (by rw [valL_append, va, vb, eb, Nat.mul_comm u, Nat.add_comm]) hr)
  generalize hrh : wHi ((u * 2 ^ n2.toNat + v)) = rh at *
  generalize hrl : wLo ((u * 2 ^ n2.toNat + v)) = rl at *
  clear hrh hrl
  generalize wHi u = h1 at *
  generalize wLo u = l1 at *
  generalize wHi v = h2 at *
  generalize wLo v = l2 at *
  go_enter Try.func10, Try.ntmps10
  go_wp2_with fail
  refine (two_14 _).mono ?_
  rintro e w0 ⟨rfl, hw⟩
  subst hw
  go_wp2_with fail
  refine (HC1.out _).mono ?_
  rintro e w1 ⟨rfl, hb⟩
  obtain ⟨hc, hf⟩ := bcell hb
  have hz : w.heap.size + 2 < w1.heap.size := by have := hb.size; simp at this; omega
  go_wp2_with fail
  refine (HC2.out _).mono ?_
  rintro e w2 ⟨rfl, hb2⟩
  have hb' := hb.trans (hb2.mono hb.size)
  clear hc hf hz
  clear hb
  have hb := hb'
  clear hb'
  obtain ⟨hc, hf⟩ := bcell hb
  have hz : w.heap.size + 2 < w2.heap.size := by have := hb.size; simp at this; omega
  go_wp2_with fail
  refine (HB1.out _).mono ?_
  rintro e w3 ⟨r1, rfl, ho1, hb3⟩
  have HO1 := hide ho1
  have hz3 : (((w.alloc (.cells #[.int .i64 n1, .int .u64 h1, .int .u64 l1] 24)).alloc (.cells #[.int .i64 n2, .int .u64 h2, .int .u64 l2] 24)).alloc (.cells #[.int .i64 0, .int .u64 0, .int .u64 0] 24)).heap.size ≤ w3.heap.size + 1 := by have := hb.size; have := hb3.size; omega
  clear ho1
  have hb' := hb.trans (hb3.mono hb.size)
  clear hc hf hz
  clear hb
  have hb := hb'
  clear hb'
  obtain ⟨hc, hf⟩ := bcell hb
  have hz : w.heap.size + 2 < w3.heap.size := by have := hb.size; simp at this; omega
  go_wp2_with fail
  refine (HB2.out _).mono ?_
  rintro e w4 ⟨r2, rfl, ho2, hb4⟩
  have HO2 := hide ho2
  have HR1 := hide ((own_row1 HO1.out (by omega)).keep hb4)
  have HR2 := hide (own_row1 HO2.out (by omega))
  clear ho2
  have hb' := hb.trans (hb4.mono hb.size)
  clear hc hf hz
  clear hb
  have hb := hb'
  clear hb'
  obtain ⟨hc, hf⟩ := bcell hb
  have hz : w.heap.size + 2 < w4.heap.size := by have := hb.size; simp at this; omega
  obtain ⟨i0, hi0, hz0, hz1, hz2⟩ := info_parts Try.info4
  have hra := HR1.out
  obtain ⟨ga, oa, ca, ra, hca⟩ := hra
  have HCA := hide hca
  have HBB := hide hb
  have hbase : w3.heap.size + 1 ≤ w4.heap.size := by
    rcases HO2.out.2 with ⟨_, h0⟩ | ⟨g, cap, cur, hv, hg, hh, _⟩
    · omega
    · have := lt_of_block hh; omega
  clear hca
  subst ra
  go_wp2_with (at_builtin; go_loud (refine wpList_append_own _ rfl _ _ 38 rfl (w3.heap.size + 1) 4 i0 (.bool false) 1 1 Try.underlying38 hi0 hz0 hz1 hz2 rfl (by decide) _ _ _ rfl (unhide HO2) ⟨ga, oa, none⟩ n1.toNat ca ((lst n1 u).map Value.bool) rfl (by simp [ea]) (row_news (unhide HCA)) (bools_one _) (by unfold maxLen; omega) (by omega) hbase ?_); intro r5 w5 ho5 hg5; intro hnil5)
  have HO5 := hide ho5; have HG5 := hide hg5
  clear ho5 hg5 hnil5
  have HR := hide (own_row1 (l := lst n2 v ++ lst n1 u) (by rw [List.map_append]; exact HO5.out) (by rw [List.length_append]; omega))
  have hb' := hb.grown HG5.out hb.size (fun k e => Nat.le_trans (Nat.le_trans (by simp) hz3) (HO2.out.lt k e).1)
  clear hc hf hz
  clear hb
  have hb := hb'
  clear hb'
  obtain ⟨hc, hf⟩ := bcell hb
  have hz : w.heap.size + 2 < w5.heap.size := by have := hb.size; simp at this; omega
  go_wp2_with fail
  refine (HN.out _ _ HR.out).mono ?_
  rintro e w9 ⟨rfl, hb9⟩
  have hb' := hb.trans (hb9.mono hb.size)
  clear hc hf hz
  clear hb
  have hb := hb'
  clear hb'
  obtain ⟨hc, hf⟩ := bcell hb
  have hz : w.heap.size + 2 < w9.heap.size := by have := hb.size; simp at this; omega
  go_wp2
  refine bodyPost_ret (v := .tuple #[.agg #[.int .i64 (n1 + n2), .int .u64 rh, .int .u64 rl], .int .i64 0]) (by simp [results, Try.results10, go_sem, hc]) rfl ⟨rfl, ?_⟩
  exact (((((((Below.refl _ _).alloc (Nat.le_refl _) _).alloc (by simp) _).alloc (by simp; omega) _).trans (hb.mono (by simp; omega))).setCell (by simp; omega) _).setCell (by simp; omega) _).setCell (by simp; omega) _
end Go.Proofs.Ytieambnaiecibaa
