/- The document's own Do, operation by operation (slice). -/
import Derived.Test.YtieambnaiecibaaRDoC
namespace Go.Proofs.Ytieambnaiecibaa
open Go.RowKit

theorem slice_val {l : List Bool} {u a b : Nat} (h : valL l = u) : valL ((l.drop a).take b) = u / 2 ^ a % 2 ^ b := by
  refine Nat.eq_of_testBit_eq fun j => ?_
  rw [valL_testBit, Nat.testBit_mod_two_pow, Nat.testBit_div_two_pow, ← h, valL_testBit, List.getD_eq_getElem?_getD, List.getD_eq_getElem?_getD, List.getElem?_take, List.getElem?_drop]
  by_cases hj : j < b
  · simp [hj, Nat.add_comm]
  · simp [hj]
set_option maxRecDepth 1000000 in
set_option maxHeartbeats 4000000 in
theorem refDo15_yes (n1 n2 n m : Int) (u v : Nat) (w : World) (o1 : okN n1 u = true) (hv : v < top) (m0 : 0 ≤ m) (m1 : m ≤ n) (m2 : n < n1) :
    Calls Try.prog 10 #[.int .u8 15, .agg #[.int .i64 n1, .int .u64 (wHi u), .int .u64 (wLo u)], .agg #[.int .i64 n2, .int .u64 (wHi v), .int .u64 (wLo v)], .int .i64 n, .int .i64 m] w fun e w' => e = .returned (.tuple #[.agg #[.int .i64 (n - m + 1), .int .u64 (wHi (u / 2 ^ m.toNat % 2 ^ (n - m + 1).toNat)), .int .u64 (wLo (u / 2 ^ m.toNat % 2 ^ (n - m + 1).toNat))], .int .i64 0]) ∧ Below w.heap.size w w' := by
  obtain ⟨b0, b1, b2, b3⟩ := okN_parts o1
  have HC1 := hide (fun W => refCheckV n1 u W b3 true o1)
  have HB1 := hide (fun W => refBitsV n1 u W b3 b1)
  have ea := lst_length n1 u; have va := lst_val b1 b2
  have HB2 := hide (fun W => refBits_any n2 (wHi v) (wLo v) W (wHi_bd hv).1 (wHi_bd hv).2 (wLo_bd v).1 (wLo_bd v).2)
  have HN := hide (fun r W (hr : Row W r (((lst n1 u).drop m.toNat).take (n - m + 1).toNat)) => refNumberV r (((lst n1 u).drop m.toNat).take (n - m + 1).toNat) W ((n - m + 1)) ((u / 2 ^ m.toNat % 2 ^ (n - m + 1).toNat)) (by rw [List.length_take, List.length_drop]; omega) (by rw [List.length_take, List.length_drop, ea]; omega) (slice_val va) hr)
  generalize hrh : wHi ((u / 2 ^ m.toNat % 2 ^ (n - m + 1).toNat)) = rh at *
  generalize hrl : wLo ((u / 2 ^ m.toNat % 2 ^ (n - m + 1).toNat)) = rl at *
  clear hrh hrl
  generalize wHi u = h1 at *
  generalize wLo u = l1 at *
  generalize wHi v = h2 at *
  generalize wLo v = l2 at *
  have q0 : decide (m < 0) = false := by simp; omega
  have q1 : decide (n < m) = false := by simp; omega
  have q2 : decide (n1 ≤ n) = false := by simp; omega
  go_enter Try.func10, Try.ntmps10
  go_wp2_with fail
  refine (two_15 _).mono ?_
  rintro e w0 ⟨rfl, hw⟩
  subst hw
  go_wp2_with fail
  refine (HC1.out _).mono ?_
  rintro e w1 ⟨rfl, hb⟩
  obtain ⟨hc, hf⟩ := bcell hb
  have hz : w.heap.size + 2 < w1.heap.size := by have := hb.size; simp at this; omega
  go_wp2_with fail
  refine (HB1.out _).mono ?_
  rintro e w3 ⟨r1, rfl, ho1, hb3⟩
  have HO1 := hide ho1
  clear ho1
  have hb' := hb.trans (hb3.mono hb.size)
  clear hc hf hz
  clear hb
  have hb := hb'
  clear hb'
  obtain ⟨hc, hf⟩ := bcell hb
  have hz : w.heap.size + 2 < w3.heap.size := by have := hb.size; simp at this; omega
  go_wp2_with fail
  refine (HB2.out _).mono ?_
  rintro e w4 ⟨r2, rfl, ho2, hb4⟩
  have HR1 := hide ((own_row1 HO1.out (by omega)).keep hb4)
  have HO1' := hide (own_keep HO1.out hb4)
  clear ho2
  have hb' := hb.trans (hb4.mono hb.size)
  clear hc hf hz
  clear hb
  have hb := hb'
  clear hb'
  obtain ⟨hc, hf⟩ := bcell hb
  have hz : w.heap.size + 2 < w4.heap.size := by have := hb.size; simp at this; omega
  have hra := HR1.out
  obtain ⟨ga, oa, ca, ra, hca⟩ := hra
  have HCA := hide hca
  have hcap : ((lst n1 u).length : Int) ≤ (ca : Int) := by
    rcases HO1'.out.2 with ⟨hv, _⟩ | ⟨g, cap, cur, hv, hg, hh, hle, _⟩
    · rw [ra] at hv; injection hv with e1; cases e1
    · rw [ra] at hv; injection hv with e1 e2 e3; omega
  clear hca
  subst ra
  have HR : Hid (Row w4 (.slice (some ⟨ga, oa + m.toNat, none⟩) ((n + 1).toNat - m.toNat) (ca - m.toNat)) (((lst n1 u).drop m.toNat).take (n - m + 1).toNat)) :=
    ⟨ga, oa + m.toNat, _, by rw [List.length_take, List.length_drop, show min (n - m + 1).toNat ((lst n1 u).length - m.toNat) = (n + 1).toNat - m.toNat by omega], fun i hi => by
      rw [List.length_take, List.length_drop] at hi
      rw [Nat.add_assoc, HCA.out (m.toNat + i) (by omega)]
      congr 2
      unfold bitAt
      rw [List.getD_eq_getElem?_getD, List.getD_eq_getElem?_getD, List.getElem?_take, List.getElem?_drop, if_pos (by omega)]⟩
  go_wp2_with fail
  refine (HN.out _ _ HR.out).mono ?_
  rintro e w9 ⟨rfl, hb9⟩
  have hb' := hb.trans (hb9.mono hb.size)
  clear hc hf hz
  clear hb
  have hb := hb'
  clear hb'
  obtain ⟨hc, hf⟩ := bcell hb
  have hz : w.heap.size + 2 < w9.heap.size := by have := hb.size; simp at this; omega
  go_wp2
  refine bodyPost_ret (v := .tuple #[.agg #[.int .i64 (n - m + 1), .int .u64 rh, .int .u64 rl], .int .i64 0]) (by simp [results, Try.results10, go_sem, hc]) rfl ⟨rfl, ?_⟩
  exact (((((((Below.refl _ _).alloc (Nat.le_refl _) _).alloc (by simp) _).alloc (by simp; omega) _).trans (hb.mono (by simp; omega))).setCell (by simp; omega) _).setCell (by simp; omega) _).setCell (by simp; omega) _
end Go.Proofs.Ytieambnaiecibaa
