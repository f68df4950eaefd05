/- Pieces of the proof: RDoK, RDoS. -/
import Derived.Test.YtlipcmonlhdgfaaGreatM28
/- The document's own Do, operation by operation (cast). -/
namespace Go.Proofs.YtlipcmonlhdgfaaGreat
open Go.RowKit

def sliceLen : Value → Nat
  | .slice _ n _ => n
  | _ => 0
def castL (l : List Bool) (N k : Nat) : List Bool := l ++ List.replicate (k - N) false
theorem castL_start (l : List Bool) (N : Nat) : castL l N N = l := by simp [castL]
theorem own_formK {w : World} {base : Nat} {e : TypeId} {v : Value} {k : Nat} {xs : List Value} (h : w.ownsRow base e 1 v k xs) (hk : 0 < k) : ∃ g cap, v = .slice (some ⟨g, 0, none⟩) k cap := by
  rcases h.2 with ⟨_, h0⟩ | ⟨g, cap, cur, hv, _⟩
  · omega
  · exact ⟨g, cap, hv⟩
theorem cast_step {w : World} {base : Nat} {v : Value} {k N : Nat} {l : List Bool} (h : w.ownsRow base 4 1 v (k + 1) ((castL l N k).map Value.bool ++ [.bool false])) (hk : N ≤ k) : w.ownsRow base 4 1 v (k + 1) ((castL l N (k + 1)).map Value.bool) := by
  unfold castL at *
  rw [show k + 1 - N = (k - N) + 1 by omega, List.replicate_succ', ← List.append_assoc, List.map_append]
  exact h
theorem cast_val {l : List Bool} {u a n : Nat} (h : valL l = u) : valL ((l ++ List.replicate a false).take n) = u % 2 ^ n := by
  have z : valL (List.replicate a false) = 0 := by
    induction a with
    | zero => rfl
    | succ a ih => simp [List.replicate_succ, valL, ih]
  refine Nat.eq_of_testBit_eq fun j => ?_
  have e : valL (l ++ List.replicate a false) = u := by rw [valL_append, z, h]; simp
  rw [valL_testBit, Nat.testBit_mod_two_pow, ← e, valL_testBit, List.getD_eq_getElem?_getD, List.getD_eq_getElem?_getD, List.getElem?_take]
  by_cases hj : j < n <;> simp [hj]
theorem cast_row {w : World} {g off c len n : Nat} {l : List Bool} (h : Row w (.slice (some ⟨g, off, none⟩) len c) l) (hn : n ≤ l.length) : Row w (.slice (some ⟨g, off, none⟩) n c) (l.take n) := by
  obtain ⟨b, o, cap, hv, hc⟩ := h
  injection hv with e1 e2 e3
  injection e1 with e1
  injection e1 with e4 e5
  subst e4 e5
  refine ⟨g, off, c, by rw [List.length_take, Nat.min_eq_left hn], fun i hi => ?_⟩
  rw [List.length_take] at hi
  rw [hc i (by omega)]
  congr 2
  unfold bitAt
  rw [List.getD_eq_getElem?_getD, List.getD_eq_getElem?_getD, List.getElem?_take, if_pos (by omega)]
set_option maxRecDepth 1000000 in
set_option maxHeartbeats 4000000 in
theorem refDo16_yes (n1 n2 n m : Int) (u v : Nat) (w : World) (o1 : okN n1 u = true) (hv : v < top) (m0 : 1 ≤ n) (m1 : n ≤ 128) :
    Calls Tryz.prog 186 #[.int .u8 16, .agg #[.int .i64 n1, .int .u64 (wHi u), .int .u64 (wLo u)], .agg #[.int .i64 n2, .int .u64 (wHi v), .int .u64 (wLo v)], .int .i64 n, .int .i64 m] w fun e w' => e = .returned (.tuple #[.agg #[.int .i64 n, .int .u64 (wHi (u % 2 ^ n.toNat)), .int .u64 (wLo (u % 2 ^ n.toNat))], .int .i64 0]) ∧ Below w.heap.size w w' := by
  obtain ⟨b0, b1, b2, b3⟩ := okN_parts o1
  have HC1 := hide (fun W => refCheckV n1 u W b3 true o1)
  have HB1 := hide (fun W => refBitsV n1 u W b3 b1)
  have ea := lst_length n1 u; have va := lst_val b1 b2
  have HB2 := hide (fun W => refBits_any n2 (wHi v) (wLo v) W (wHi_bd hv).1 (wHi_bd hv).2 (wLo_bd v).1 (wLo_bd v).2)
  have HN := hide (fun r W (hr : Row W r ((lst n1 u ++ List.replicate (max n1.toNat n.toNat - n1.toNat) false).take n.toNat)) => refNumberV r ((lst n1 u ++ List.replicate (max n1.toNat n.toNat - n1.toNat) false).take n.toNat) W (n) ((u % 2 ^ n.toNat)) (by rw [List.length_take]; omega) (by rw [List.length_take, List.length_append, List.length_replicate, ea]; omega) (cast_val va) hr)
  generalize hrh : wHi ((u % 2 ^ n.toNat)) = rh at *
  generalize hrl : wLo ((u % 2 ^ n.toNat)) = rl at *
  clear hrh hrl
  generalize wHi u = h1 at *
  generalize wLo u = l1 at *
  generalize wHi v = h2 at *
  generalize wLo v = l2 at *
  have q0 : decide (n < 1) = false := by simp; omega
  have q1 : decide (128 < n) = false := by simp; omega
  go_enter Tryz.func186, Tryz.ntmps186
  go_wp2_with fail
  refine (two_16 _).mono ?_
  rintro e w0 ⟨rfl, hw⟩
  subst hw
  go_wp2_with fail
  refine (HC1.out _).mono ?_
  rintro e w1 ⟨rfl, hb⟩
  obtain ⟨hc, hf⟩ := bcell hb
  have hz : w.heap.size + 2 < w1.heap.size := by have := hb.size; simp at this; omega
  go_wp2_with fail
  refine (HB1.out _).mono ?_
  rintro e w3 ⟨r1, rfl, ho1, hb3⟩
  have HO1 := hide ho1
  have hz3 : (((w.alloc (.cells #[.int .i64 n1, .int .u64 h1, .int .u64 l1] 56)).alloc (.cells #[.int .i64 n2, .int .u64 h2, .int .u64 l2] 56)).alloc (.cells #[.int .i64 0, .int .u64 0, .int .u64 0] 56)).heap.size ≤ w1.heap.size + 1 := by have := hb.size; omega
  clear ho1
  have hb' := hb.trans (hb3.mono hb.size)
  clear hc hf hz
  clear hb
  have hb := hb'
  clear hb'
  obtain ⟨hc, hf⟩ := bcell hb
  have hz : w.heap.size + 2 < w3.heap.size := by have := hb.size; simp at this; omega
  go_wp2_with fail
  refine (HB2.out _).mono ?_
  rintro e w4 ⟨r2, rfl, ho2, hb4⟩
  have HR1 := hide ((own_row1 HO1.out (by omega)).keep hb4)
  have HO1' := hide (own_keep HO1.out hb4)
  clear ho2
  have hb' := hb.trans (hb4.mono hb.size)
  clear hc hf hz
  clear hb
  have hb := hb'
  clear hb'
  obtain ⟨hc, hf⟩ := bcell hb
  have hz : w.heap.size + 2 < w4.heap.size := by have := hb.size; simp at this; omega
  obtain ⟨i0, hi0, hz0, hz1, hz2⟩ := info_parts Tryz.info4
  obtain ⟨ga, cap0, hr1, hbase⟩ : ∃ g cap, r1 = .slice (some ⟨g, 0, none⟩) n1.toNat cap ∧ w1.heap.size + 1 ≤ w4.heap.size := by
    rcases HO1'.out.2 with ⟨_, h0⟩ | ⟨g, cap, cur, hv, hg, hh, _⟩
    · omega
    · exact ⟨g, cap, hv, by have := lt_of_block hh; omega⟩
  have HRR := hide hr1
  clear hr1
  have HBB := hide hb
  have HEA := hide ea
  clear hb hc hf hz ea
  have HW3 : Hid (Below w.heap.size w (((w.alloc (.cells #[.int .i64 n1, .int .u64 h1, .int .u64 l1] 56)).alloc (.cells #[.int .i64 n2, .int .u64 h2, .int .u64 l2] 56)).alloc (.cells #[.int .i64 0, .int .u64 0, .int .u64 0] 56))) := ((((Below.refl _ _).alloc (Nat.le_refl _) _).alloc (by simp) _).alloc (by simp; omega) _)
  have hW3s : (((w.alloc (.cells #[.int .i64 n1, .int .u64 h1, .int .u64 l1] 56)).alloc (.cells #[.int .i64 n2, .int .u64 h2, .int .u64 l2] 56)).alloc (.cells #[.int .i64 0, .int .u64 0, .int .u64 0] 56)).heap.size = w.heap.size + 3 := by simp
  have hW3k : (((w.alloc (.cells #[.int .i64 n1, .int .u64 h1, .int .u64 l1] 56)).alloc (.cells #[.int .i64 n2, .int .u64 h2, .int .u64 l2] 56)).alloc (.cells #[.int .i64 0, .int .u64 0, .int .u64 0] 56)).heap[w.heap.size + 2]? = some (.cells #[.int .i64 0, .int .u64 0, .int .u64 0] 56 (0, 0)) := by
    have := blk_new ((w.alloc (.cells #[.int .i64 n1, .int .u64 h1, .int .u64 l1] 56)).alloc (.cells #[.int .i64 n2, .int .u64 h2, .int .u64 l2] 56)) #[.int .i64 0, .int .u64 0, .int .u64 0] 56
    simpa using this
  have hW3b : w.heap.size ≤ (((w.alloc (.cells #[.int .i64 n1, .int .u64 h1, .int .u64 l1] 56)).alloc (.cells #[.int .i64 n2, .int .u64 h2, .int .u64 l2] 56)).alloc (.cells #[.int .i64 0, .int .u64 0, .int .u64 0] 56)).heap.size := by simp; omega
  obtain ⟨x0, x1, x2, y0, y1, y2⟩ := blk3 hW3k
  have HKK := hide hW3k
  clear hW3k
  generalize (((w.alloc (.cells #[.int .i64 n1, .int .u64 h1, .int .u64 l1] 56)).alloc (.cells #[.int .i64 n2, .int .u64 h2, .int .u64 l2] 56)).alloc (.cells #[.int .i64 0, .int .u64 0, .int .u64 0] 56)) = W3 at *
  go_wp2
  go_loopw [14] (fun v wr => ∃ k g cap, v = .slice (some ⟨g, 0, none⟩) k cap ∧ n1.toNat ≤ k ∧ k ≤ max n1.toNat n.toNat ∧ wr.ownsRow (w1.heap.size + 1) 4 1 v k ((castL (lst n1 u) n1.toNat k).map Value.bool) ∧ Below W3.heap.size W3 wr ∧ w1.heap.size + 1 ≤ wr.heap.size) (fun v _ => n.toNat - sliceLen v)
  case atStart => exact ⟨n1.toNat, ga, cap0, HRR.out, Nat.le_refl _, Nat.le_max_left _ _, by rw [castL_start]; exact HO1'.out, HBB.out, hbase⟩
  case round =>
    obtain ⟨k, g, cap, rfl, hk1, hk2, hown, hnx, hsz⟩ := hrel
    by_cases hlt : (k : Int) < n
    · go_wp2_with (at_builtin; refine wpList_append_own _ rfl _ _ 124 rfl (w1.heap.size + 1) 4 i0 (.bool false) 1 1 Tryz.underlying124 hi0 hz0 hz1 hz2 rfl (by decide) _ _ _ rfl (hown.alloc _) ⟨wr.heap.size, 0, none⟩ 1 1 [.bool false] rfl rfl (cell_one_new _ _ _) (bool_one _) (by unfold maxLen; omega) (by omega) (by simp; omega) ?_)
      intro v' w5 hown' hgrow _
      have hr1 := hide (cast_step hown' hk1)
      have hr2 := hide (grow_any (wr := wr) (hnx.alloc (Nat.le_trans hz3 hsz) _) hgrow (Nat.le_trans hz3 hsz) (by simp; omega) (fun k e => Nat.le_trans hz3 (hown.lt k e).1))
      have hs5 : w1.heap.size + 1 ≤ w5.heap.size := by have := hgrow.size; simp at this; omega
      obtain ⟨g', cap', hv'⟩ := own_formK hr1.out (by omega)
      clear hown hown' hgrow hnx
      go_wp2
      go_roundw
      case rel => exact ⟨k + 1, g', cap', hv', by omega, by omega, hr1.out, hr2.out, hs5⟩
      case measure => rw [hv']; simp [sliceLen]; omega
    · have hkk : Hid (k = max n1.toNat n.toNat) := by unfold Hid; omega
      have hnk : (n : Int) ≤ (k : Int) := by omega
      have hcap : (k : Int) ≤ (cap : Int) := by
        rcases hown.2 with ⟨hv, _⟩ | ⟨g2, cap2, cur, hv, hg, hh, hle, _⟩
        · cases hv
        · injection hv with e1 e2 e3; omega
      have HOW := hide hown
      have hb := hnx
      obtain ⟨hc, hf⟩ := bcell hb
      have hlt' : decide ((k : Int) < n) = false := by simpa using hlt
      have HR : Hid (Row wr (.slice (some ⟨g, 0, none⟩) n.toNat cap) ((lst n1 u ++ List.replicate (max n1.toNat n.toNat - n1.toNat) false).take n.toNat)) := by
        have hrow := own_row1 HOW.out (by unfold castL; rw [List.length_append, HEA.out]; omega)
        rw [hkk.out] at hrow
        exact cast_row hrow (by rw [List.length_append, List.length_replicate, HEA.out]; omega)
      clear hown hnx hkk hlt
      go_wp2_with fail
      refine (HN.out _ _ HR.out).mono ?_
      rintro e w9 ⟨rfl, hb9⟩
      have hb' := hb.trans (hb9.mono hb.size)
      clear hc hf
      clear hb
      have hb := hb'
      clear hb'
      obtain ⟨hc, hf⟩ := bcell hb
      have hz : w.heap.size + 2 < w9.heap.size := by have := hb.size; omega
      go_wp2
      refine bodyPost_ret (v := .tuple #[.agg #[.int .i64 n, .int .u64 rh, .int .u64 rl], .int .i64 0]) (by simp [results, Tryz.results186, go_sem, hc, hW3s, x0, x1, x2]) rfl ⟨rfl, ?_⟩
      exact (((HW3.out.trans (hb.mono hW3b)).setCell (by simp; omega) _).setCell (by simp; omega) _).setCell (by simp; omega) _
end Go.Proofs.YtlipcmonlhdgfaaGreat
/- The document's own Do, operation by operation (slice). -/
namespace Go.Proofs.YtlipcmonlhdgfaaGreat
open Go.RowKit

theorem slice_val {l : List Bool} {u a b : Nat} (h : valL l = u) : valL ((l.drop a).take b) = u / 2 ^ a % 2 ^ b := by
  refine Nat.eq_of_testBit_eq fun j => ?_
  rw [valL_testBit, Nat.testBit_mod_two_pow, Nat.testBit_div_two_pow, ← h, valL_testBit, List.getD_eq_getElem?_getD, List.getD_eq_getElem?_getD, List.getElem?_take, List.getElem?_drop]
  by_cases hj : j < b
  · simp [hj, Nat.add_comm]
  · simp [hj]
set_option maxRecDepth 1000000 in
set_option maxHeartbeats 4000000 in
theorem refDo15_yes (n1 n2 n m : Int) (u v : Nat) (w : World) (o1 : okN n1 u = true) (hv : v < top) (m0 : 0 ≤ m) (m1 : m ≤ n) (m2 : n < n1) :
    Calls Tryz.prog 186 #[.int .u8 15, .agg #[.int .i64 n1, .int .u64 (wHi u), .int .u64 (wLo u)], .agg #[.int .i64 n2, .int .u64 (wHi v), .int .u64 (wLo v)], .int .i64 n, .int .i64 m] w fun e w' => e = .returned (.tuple #[.agg #[.int .i64 (n - m + 1), .int .u64 (wHi (u / 2 ^ m.toNat % 2 ^ (n - m + 1).toNat)), .int .u64 (wLo (u / 2 ^ m.toNat % 2 ^ (n - m + 1).toNat))], .int .i64 0]) ∧ Below w.heap.size w w' := by
  obtain ⟨b0, b1, b2, b3⟩ := okN_parts o1
  have HC1 := hide (fun W => refCheckV n1 u W b3 true o1)
  have HB1 := hide (fun W => refBitsV n1 u W b3 b1)
  have ea := lst_length n1 u; have va := lst_val b1 b2
  have HB2 := hide (fun W => refBits_any n2 (wHi v) (wLo v) W (wHi_bd hv).1 (wHi_bd hv).2 (wLo_bd v).1 (wLo_bd v).2)
  have HN := hide (fun r W (hr : Row W r (((lst n1 u).drop m.toNat).take (n - m + 1).toNat)) => refNumberV r (((lst n1 u).drop m.toNat).take (n - m + 1).toNat) W ((n - m + 1)) ((u / 2 ^ m.toNat % 2 ^ (n - m + 1).toNat)) (by rw [List.length_take, List.length_drop]; omega) (by rw [List.length_take, List.length_drop, ea]; omega) (slice_val va) hr)
  generalize hrh : wHi ((u / 2 ^ m.toNat % 2 ^ (n - m + 1).toNat)) = rh at *
  generalize hrl : wLo ((u / 2 ^ m.toNat % 2 ^ (n - m + 1).toNat)) = rl at *
  clear hrh hrl
  generalize wHi u = h1 at *
  generalize wLo u = l1 at *
  generalize wHi v = h2 at *
  generalize wLo v = l2 at *
  have q0 : decide (m < 0) = false := by simp; omega
  have q1 : decide (n < m) = false := by simp; omega
  have q2 : decide (n1 ≤ n) = false := by simp; omega
  go_enter Tryz.func186, Tryz.ntmps186
  go_wp2_with fail
  refine (two_15 _).mono ?_
  rintro e w0 ⟨rfl, hw⟩
  subst hw
  go_wp2_with fail
  refine (HC1.out _).mono ?_
  rintro e w1 ⟨rfl, hb⟩
  obtain ⟨hc, hf⟩ := bcell hb
  have hz : w.heap.size + 2 < w1.heap.size := by have := hb.size; simp at this; omega
  go_wp2_with fail
  refine (HB1.out _).mono ?_
  rintro e w3 ⟨r1, rfl, ho1, hb3⟩
  have HO1 := hide ho1
  clear ho1
  have hb' := hb.trans (hb3.mono hb.size)
  clear hc hf hz
  clear hb
  have hb := hb'
  clear hb'
  obtain ⟨hc, hf⟩ := bcell hb
  have hz : w.heap.size + 2 < w3.heap.size := by have := hb.size; simp at this; omega
  go_wp2_with fail
  refine (HB2.out _).mono ?_
  rintro e w4 ⟨r2, rfl, ho2, hb4⟩
  have HR1 := hide ((own_row1 HO1.out (by omega)).keep hb4)
  have HO1' := hide (own_keep HO1.out hb4)
  clear ho2
  have hb' := hb.trans (hb4.mono hb.size)
  clear hc hf hz
  clear hb
  have hb := hb'
  clear hb'
  obtain ⟨hc, hf⟩ := bcell hb
  have hz : w.heap.size + 2 < w4.heap.size := by have := hb.size; simp at this; omega
  have hra := HR1.out
  obtain ⟨ga, oa, ca, ra, hca⟩ := hra
  have HCA := hide hca
  have hcap : ((lst n1 u).length : Int) ≤ (ca : Int) := by
    rcases HO1'.out.2 with ⟨hv, _⟩ | ⟨g, cap, cur, hv, hg, hh, hle, _⟩
    · rw [ra] at hv; injection hv with e1; cases e1
    · rw [ra] at hv; injection hv with e1 e2 e3; omega
  clear hca
  subst ra
  have HR : Hid (Row w4 (.slice (some ⟨ga, oa + m.toNat, none⟩) ((n + 1).toNat - m.toNat) (ca - m.toNat)) (((lst n1 u).drop m.toNat).take (n - m + 1).toNat)) :=
    ⟨ga, oa + m.toNat, _, by rw [List.length_take, List.length_drop, show min (n - m + 1).toNat ((lst n1 u).length - m.toNat) = (n + 1).toNat - m.toNat by omega], fun i hi => by
      rw [List.length_take, List.length_drop] at hi
      rw [Nat.add_assoc, HCA.out (m.toNat + i) (by omega)]
      congr 2
      unfold bitAt
      rw [List.getD_eq_getElem?_getD, List.getD_eq_getElem?_getD, List.getElem?_take, List.getElem?_drop, if_pos (by omega)]⟩
  go_wp2_with fail
  refine (HN.out _ _ HR.out).mono ?_
  rintro e w9 ⟨rfl, hb9⟩
  have hb' := hb.trans (hb9.mono hb.size)
  clear hc hf hz
  clear hb
  have hb := hb'
  clear hb'
  obtain ⟨hc, hf⟩ := bcell hb
  have hz : w.heap.size + 2 < w9.heap.size := by have := hb.size; simp at this; omega
  go_wp2
  refine bodyPost_ret (v := .tuple #[.agg #[.int .i64 (n - m + 1), .int .u64 rh, .int .u64 rl], .int .i64 0]) (by simp [results, Tryz.results186, go_sem, hc]) rfl ⟨rfl, ?_⟩
  exact (((((((Below.refl _ _).alloc (Nat.le_refl _) _).alloc (by simp) _).alloc (by simp; omega) _).trans (hb.mono (by simp; omega))).setCell (by simp; omega) _).setCell (by simp; omega) _).setCell (by simp; omega) _
end Go.Proofs.YtlipcmonlhdgfaaGreat
