/- Pieces of the proof: TsCode. -/
import Derived.Test.YtlipcmonlhdgfaaGreatM43
import Derived.Test.YtlipcmonlhdgfaaGreatM44
/- CodeSize. -/
namespace Go.Proofs.YtlipcmonlhdgfaaGreat
open Go.RowKit

set_option maxRecDepth 100000 in
set_option maxHeartbeats 4000000 in
theorem szCode_any (y : CoL) (w : World) (hy : CoO w y) : Calls Tryz.prog 5 #[.agg y.cells.toArray] w fun e w' => ∃ n : Nat, e = .returned (.int .i64 n) ∧ n ≤ 9007199254740992 ∧ (n ≤ 1048576 → smCode n y) ∧ Below w.heap.size w w' := by
  have K0 := hide (heap_alloc_new w (.cells y.cells.toArray 30))
  have B0 := hide (below1 w (.cells y.cells.toArray 30))
  have H0 : Hid (∀ W, _) := fun W => zsSize_any y.sa y.sl.length y.sc W
  have l0 : Hid (y.sl.length ≤ 140737488355328) := hy.sl.ln
  have H1 : Hid (∀ W, Below w.heap.size w W → _) := fun W hb => szHeads_any y.ha y.hc y.hd W (hy.hd.below hb (fun h hb => IsO.below h hb))
  have H2 : Hid (∀ W, _) := fun W => zsSize_any y.ma y.mt.length y.mc W
  have l2 : Hid (y.mt.length ≤ 140737488355328) := hy.mt.ln
  have H3 : Hid (∀ W, Below w.heap.size w W → _) := fun W hb => szNodes_any y.ta y.tc y.st W (hy.st.below hb NdO.below)
  have H4 : Hid (∀ W, Below w.heap.size w W → _) := fun W hb => szInses_any y.na y.nc y.mn W (hy.mn.below hb InO.below)
  have H5 : Hid (∀ W, Below w.heap.size w W → _) := fun W hb => szActs_any y.aa y.acc y.ac W (hy.ac.below hb AcO.below)
  have H6 : Hid (∀ W, Below w.heap.size w W → _) := fun W hb => szTables_any y.ba y.bc y.tb W (hy.tb.below hb TaO.below)
  have H7 : Hid (∀ W, _) := fun W => zsSize_any y.ea y.em.length y.ec W
  have l7 : Hid (y.em.length ≤ 140737488355328) := hy.em.ln
  have H8 : Hid (∀ W, Below w.heap.size w W → _) := fun W hb => szArrs_any y.ra y.rc y.ar W (hy.ar.below hb (fun h _ => h))
  clear hy
  obtain ⟨sl, sa, sc, hd, ha, hc, mt, ma, mc, st, ta, tc, mn, na, nc, ac, aa, acc, tb, ba, bc, em, ea, ec, ar, ra, rc⟩ := y
  simp only [CoL.cells] at *
  have c0 := (cellA K0.out 0).trans rfl
  have c1 := (cellA K0.out 1).trans rfl
  have c2 := (cellA K0.out 2).trans rfl
  have c3 := (cellA K0.out 3).trans rfl
  have c4 := (cellA K0.out 4).trans rfl
  have c5 := (cellA K0.out 5).trans rfl
  have c6 := (cellA K0.out 6).trans rfl
  have c7 := (cellA K0.out 7).trans rfl
  have c8 := (cellA K0.out 8).trans rfl
  go_enter Tryz.func5, Tryz.ntmps5
  go_wp2_with fail
  refine (H0.out _).mono ?_
  rintro e w1 ⟨rfl, rfl⟩
  obtain ⟨N1, hN1⟩ : ∃ x, x = 1 + sl.length := ⟨_, rfl⟩
  have e1 : IntKind.i64.wrap (1 + (sl.length : Int)) = (N1 : Int) := by rw [IntKind.wrap_i64]; have := l0.out; omega
  have HN1 := hide hN1
  clear hN1
  clear H0
  by_cases q1 : N1 ≤ 1048576
  rotate_left
  · have dq : ((N1 : Int) ≤ 1048576) = False := by simp; omega
    clear H1 H2 H3 H4 H5 H6 H7 H8
    go_wp2
    go_ret
    exact ⟨N1, rfl, by have := l0.out; have := HN1.out; omega, fun h => absurd h q1, B0.out⟩
  have dq1 : ((N1 : Int) ≤ 1048576) = True := by simp; omega
  go_wp2_with fail
  refine (H1.out _ B0.out).mono ?_
  rintro e w2 ⟨m1, rfl, hm1, hs1, hb⟩
  have S1 := hide hs1
  have B2 := hide (bstep B0.out hb)
  have K2 := hide (heap_below hb K0.out)
  obtain ⟨N2, hN2⟩ : ∃ x, x = N1 + m1 := ⟨_, rfl⟩
  have Hm1 := hide hm1
  clear hm1
  have e2 : IntKind.i64.wrap ((N1 : Int) + (m1 : Int)) = (N2 : Int) := by rw [IntKind.wrap_i64]; have := l0.out; have := HN1.out; have := Hm1.out; omega
  have HN2 := hide hN2
  clear hN2
  clear H1 hb hs1 c0 c1 c2 c3 c4 c5 c6 c7 c8
  have c0 := (cellA K2.out 0).trans rfl
  have c1 := (cellA K2.out 1).trans rfl
  have c2 := (cellA K2.out 2).trans rfl
  have c3 := (cellA K2.out 3).trans rfl
  have c4 := (cellA K2.out 4).trans rfl
  have c5 := (cellA K2.out 5).trans rfl
  have c6 := (cellA K2.out 6).trans rfl
  have c7 := (cellA K2.out 7).trans rfl
  have c8 := (cellA K2.out 8).trans rfl
  by_cases q2 : N2 ≤ 1048576
  rotate_left
  · have dq : ((N2 : Int) ≤ 1048576) = False := by simp; omega
    clear H2 H3 H4 H5 H6 H7 H8
    go_wp2
    go_ret
    exact ⟨N2, rfl, by have := l0.out; have := HN1.out; have := Hm1.out; have := HN2.out; omega, fun h => absurd h q2, B2.out⟩
  have dq2 : ((N2 : Int) ≤ 1048576) = True := by simp; omega
  go_wp2_with fail
  refine (H2.out _).mono ?_
  rintro e w3 ⟨rfl, rfl⟩
  obtain ⟨N3, hN3⟩ : ∃ x, x = N2 + mt.length := ⟨_, rfl⟩
  have e3 : IntKind.i64.wrap ((N2 : Int) + (mt.length : Int)) = (N3 : Int) := by rw [IntKind.wrap_i64]; have := l0.out; have := HN1.out; have := Hm1.out; have := HN2.out; have := l2.out; omega
  have HN3 := hide hN3
  clear hN3
  clear H2
  by_cases q3 : N3 ≤ 1048576
  rotate_left
  · have dq : ((N3 : Int) ≤ 1048576) = False := by simp; omega
    clear H3 H4 H5 H6 H7 H8
    go_wp2
    go_ret
    exact ⟨N3, rfl, by have := l0.out; have := HN1.out; have := Hm1.out; have := HN2.out; have := l2.out; have := HN3.out; omega, fun h => absurd h q3, B2.out⟩
  have dq3 : ((N3 : Int) ≤ 1048576) = True := by simp; omega
  go_wp2_with fail
  refine (H3.out _ B2.out).mono ?_
  rintro e w4 ⟨m3, rfl, hm3, hs3, hb⟩
  have S3 := hide hs3
  have B4 := hide (bstep B2.out hb)
  have K4 := hide (heap_below hb K2.out)
  obtain ⟨N4, hN4⟩ : ∃ x, x = N3 + m3 := ⟨_, rfl⟩
  have Hm3 := hide hm3
  clear hm3
  have e4 : IntKind.i64.wrap ((N3 : Int) + (m3 : Int)) = (N4 : Int) := by rw [IntKind.wrap_i64]; have := l0.out; have := HN1.out; have := Hm1.out; have := HN2.out; have := l2.out; have := HN3.out; have := Hm3.out; omega
  have HN4 := hide hN4
  clear hN4
  clear H3 hb hs3 c0 c1 c2 c3 c4 c5 c6 c7 c8
  have c0 := (cellA K4.out 0).trans rfl
  have c1 := (cellA K4.out 1).trans rfl
  have c2 := (cellA K4.out 2).trans rfl
  have c3 := (cellA K4.out 3).trans rfl
  have c4 := (cellA K4.out 4).trans rfl
  have c5 := (cellA K4.out 5).trans rfl
  have c6 := (cellA K4.out 6).trans rfl
  have c7 := (cellA K4.out 7).trans rfl
  have c8 := (cellA K4.out 8).trans rfl
  by_cases q4 : N4 ≤ 1048576
  rotate_left
  · have dq : ((N4 : Int) ≤ 1048576) = False := by simp; omega
    clear H4 H5 H6 H7 H8
    go_wp2
    go_ret
    exact ⟨N4, rfl, by have := l0.out; have := HN1.out; have := Hm1.out; have := HN2.out; have := l2.out; have := HN3.out; have := Hm3.out; have := HN4.out; omega, fun h => absurd h q4, B4.out⟩
  have dq4 : ((N4 : Int) ≤ 1048576) = True := by simp; omega
  go_wp2_with fail
  refine (H4.out _ B4.out).mono ?_
  rintro e w5 ⟨m4, rfl, hm4, hs4, hb⟩
  have S4 := hide hs4
  have B5 := hide (bstep B4.out hb)
  have K5 := hide (heap_below hb K4.out)
  obtain ⟨N5, hN5⟩ : ∃ x, x = N4 + m4 := ⟨_, rfl⟩
  have Hm4 := hide hm4
  clear hm4
  have e5 : IntKind.i64.wrap ((N4 : Int) + (m4 : Int)) = (N5 : Int) := by rw [IntKind.wrap_i64]; have := l0.out; have := HN1.out; have := Hm1.out; have := HN2.out; have := l2.out; have := HN3.out; have := Hm3.out; have := HN4.out; have := Hm4.out; omega
  have HN5 := hide hN5
  clear hN5
  clear H4 hb hs4 c0 c1 c2 c3 c4 c5 c6 c7 c8
  have c0 := (cellA K5.out 0).trans rfl
  have c1 := (cellA K5.out 1).trans rfl
  have c2 := (cellA K5.out 2).trans rfl
  have c3 := (cellA K5.out 3).trans rfl
  have c4 := (cellA K5.out 4).trans rfl
  have c5 := (cellA K5.out 5).trans rfl
  have c6 := (cellA K5.out 6).trans rfl
  have c7 := (cellA K5.out 7).trans rfl
  have c8 := (cellA K5.out 8).trans rfl
  by_cases q5 : N5 ≤ 1048576
  rotate_left
  · have dq : ((N5 : Int) ≤ 1048576) = False := by simp; omega
    clear H5 H6 H7 H8
    go_wp2
    go_ret
    exact ⟨N5, rfl, by have := l0.out; have := HN1.out; have := Hm1.out; have := HN2.out; have := l2.out; have := HN3.out; have := Hm3.out; have := HN4.out; have := Hm4.out; have := HN5.out; omega, fun h => absurd h q5, B5.out⟩
  have dq5 : ((N5 : Int) ≤ 1048576) = True := by simp; omega
  go_wp2_with fail
  refine (H5.out _ B5.out).mono ?_
  rintro e w6 ⟨m5, rfl, hm5, hs5, hb⟩
  have S5 := hide hs5
  have B6 := hide (bstep B5.out hb)
  have K6 := hide (heap_below hb K5.out)
  obtain ⟨N6, hN6⟩ : ∃ x, x = N5 + m5 := ⟨_, rfl⟩
  have Hm5 := hide hm5
  clear hm5
  have e6 : IntKind.i64.wrap ((N5 : Int) + (m5 : Int)) = (N6 : Int) := by rw [IntKind.wrap_i64]; have := l0.out; have := HN1.out; have := Hm1.out; have := HN2.out; have := l2.out; have := HN3.out; have := Hm3.out; have := HN4.out; have := Hm4.out; have := HN5.out; have := Hm5.out; omega
  have HN6 := hide hN6
  clear hN6
  clear H5 hb hs5 c0 c1 c2 c3 c4 c5 c6 c7 c8
  have c0 := (cellA K6.out 0).trans rfl
  have c1 := (cellA K6.out 1).trans rfl
  have c2 := (cellA K6.out 2).trans rfl
  have c3 := (cellA K6.out 3).trans rfl
  have c4 := (cellA K6.out 4).trans rfl
  have c5 := (cellA K6.out 5).trans rfl
  have c6 := (cellA K6.out 6).trans rfl
  have c7 := (cellA K6.out 7).trans rfl
  have c8 := (cellA K6.out 8).trans rfl
  by_cases q6 : N6 ≤ 1048576
  rotate_left
  · have dq : ((N6 : Int) ≤ 1048576) = False := by simp; omega
    clear H6 H7 H8
    go_wp2
    go_ret
    exact ⟨N6, rfl, by have := l0.out; have := HN1.out; have := Hm1.out; have := HN2.out; have := l2.out; have := HN3.out; have := Hm3.out; have := HN4.out; have := Hm4.out; have := HN5.out; have := Hm5.out; have := HN6.out; omega, fun h => absurd h q6, B6.out⟩
  have dq6 : ((N6 : Int) ≤ 1048576) = True := by simp; omega
  go_wp2_with fail
  refine (H6.out _ B6.out).mono ?_
  rintro e w7 ⟨m6, rfl, hm6, hs6, hb⟩
  have S6 := hide hs6
  have B7 := hide (bstep B6.out hb)
  have K7 := hide (heap_below hb K6.out)
  obtain ⟨N7, hN7⟩ : ∃ x, x = N6 + m6 := ⟨_, rfl⟩
  have Hm6 := hide hm6
  clear hm6
  have e7 : IntKind.i64.wrap ((N6 : Int) + (m6 : Int)) = (N7 : Int) := by rw [IntKind.wrap_i64]; have := l0.out; have := HN1.out; have := Hm1.out; have := HN2.out; have := l2.out; have := HN3.out; have := Hm3.out; have := HN4.out; have := Hm4.out; have := HN5.out; have := Hm5.out; have := HN6.out; have := Hm6.out; omega
  have HN7 := hide hN7
  clear hN7
  clear H6 hb hs6 c0 c1 c2 c3 c4 c5 c6 c7 c8
  have c0 := (cellA K7.out 0).trans rfl
  have c1 := (cellA K7.out 1).trans rfl
  have c2 := (cellA K7.out 2).trans rfl
  have c3 := (cellA K7.out 3).trans rfl
  have c4 := (cellA K7.out 4).trans rfl
  have c5 := (cellA K7.out 5).trans rfl
  have c6 := (cellA K7.out 6).trans rfl
  have c7 := (cellA K7.out 7).trans rfl
  have c8 := (cellA K7.out 8).trans rfl
  by_cases q7 : N7 ≤ 1048576
  rotate_left
  · have dq : ((N7 : Int) ≤ 1048576) = False := by simp; omega
    clear H7 H8
    go_wp2
    go_ret
    exact ⟨N7, rfl, by have := l0.out; have := HN1.out; have := Hm1.out; have := HN2.out; have := l2.out; have := HN3.out; have := Hm3.out; have := HN4.out; have := Hm4.out; have := HN5.out; have := Hm5.out; have := HN6.out; have := Hm6.out; have := HN7.out; omega, fun h => absurd h q7, B7.out⟩
  have dq7 : ((N7 : Int) ≤ 1048576) = True := by simp; omega
  go_wp2_with fail
  refine (H7.out _).mono ?_
  rintro e w8 ⟨rfl, rfl⟩
  obtain ⟨N8, hN8⟩ : ∃ x, x = N7 + em.length := ⟨_, rfl⟩
  have e8 : IntKind.i64.wrap ((N7 : Int) + (em.length : Int)) = (N8 : Int) := by rw [IntKind.wrap_i64]; have := l0.out; have := HN1.out; have := Hm1.out; have := HN2.out; have := l2.out; have := HN3.out; have := Hm3.out; have := HN4.out; have := Hm4.out; have := HN5.out; have := Hm5.out; have := HN6.out; have := Hm6.out; have := HN7.out; have := l7.out; omega
  have HN8 := hide hN8
  clear hN8
  clear H7
  by_cases q8 : N8 ≤ 1048576
  rotate_left
  · have dq : ((N8 : Int) ≤ 1048576) = False := by simp; omega
    clear H8
    go_wp2
    go_ret
    exact ⟨N8, rfl, by have := l0.out; have := HN1.out; have := Hm1.out; have := HN2.out; have := l2.out; have := HN3.out; have := Hm3.out; have := HN4.out; have := Hm4.out; have := HN5.out; have := Hm5.out; have := HN6.out; have := Hm6.out; have := HN7.out; have := l7.out; have := HN8.out; omega, fun h => absurd h q8, B7.out⟩
  have dq8 : ((N8 : Int) ≤ 1048576) = True := by simp; omega
  go_wp2_with fail
  refine (H8.out _ B7.out).mono ?_
  rintro e w9 ⟨m8, rfl, hm8, hs8, hb⟩
  have S8 := hide hs8
  have B9 := hide (bstep B7.out hb)
  have K9 := hide (heap_below hb K7.out)
  obtain ⟨N9, hN9⟩ : ∃ x, x = N8 + m8 := ⟨_, rfl⟩
  have Hm8 := hide hm8
  clear hm8
  have e9 : IntKind.i64.wrap ((N8 : Int) + (m8 : Int)) = (N9 : Int) := by rw [IntKind.wrap_i64]; have := l0.out; have := HN1.out; have := Hm1.out; have := HN2.out; have := l2.out; have := HN3.out; have := Hm3.out; have := HN4.out; have := Hm4.out; have := HN5.out; have := Hm5.out; have := HN6.out; have := Hm6.out; have := HN7.out; have := l7.out; have := HN8.out; have := Hm8.out; omega
  have HN9 := hide hN9
  clear hN9
  clear H8 hb hs8 c0 c1 c2 c3 c4 c5 c6 c7 c8
  have c0 := (cellA K9.out 0).trans rfl
  have c1 := (cellA K9.out 1).trans rfl
  have c2 := (cellA K9.out 2).trans rfl
  have c3 := (cellA K9.out 3).trans rfl
  have c4 := (cellA K9.out 4).trans rfl
  have c5 := (cellA K9.out 5).trans rfl
  have c6 := (cellA K9.out 6).trans rfl
  have c7 := (cellA K9.out 7).trans rfl
  have c8 := (cellA K9.out 8).trans rfl
  go_wp2
  go_ret
  exact ⟨N9, rfl, by have := l0.out; have := HN1.out; have := Hm1.out; have := HN2.out; have := l2.out; have := HN3.out; have := Hm3.out; have := HN4.out; have := Hm4.out; have := HN5.out; have := Hm5.out; have := HN6.out; have := Hm6.out; have := HN7.out; have := l7.out; have := HN8.out; have := Hm8.out; have := HN9.out; omega, fun h => ⟨by simp only; have := l0.out; have := HN1.out; have := Hm1.out; have := HN2.out; have := l2.out; have := HN3.out; have := Hm3.out; have := HN4.out; have := Hm4.out; have := HN5.out; have := Hm5.out; have := HN6.out; have := Hm6.out; have := HN7.out; have := l7.out; have := HN8.out; have := Hm8.out; have := HN9.out; omega, (S1.out (by have := l0.out; have := HN1.out; have := Hm1.out; have := HN2.out; have := l2.out; have := HN3.out; have := Hm3.out; have := HN4.out; have := Hm4.out; have := HN5.out; have := Hm5.out; have := HN6.out; have := Hm6.out; have := HN7.out; have := l7.out; have := HN8.out; have := Hm8.out; have := HN9.out; omega)).mono (by have := l0.out; have := HN1.out; have := Hm1.out; have := HN2.out; have := l2.out; have := HN3.out; have := Hm3.out; have := HN4.out; have := Hm4.out; have := HN5.out; have := Hm5.out; have := HN6.out; have := Hm6.out; have := HN7.out; have := l7.out; have := HN8.out; have := Hm8.out; have := HN9.out; omega) smHead.mono, by simp only; have := l0.out; have := HN1.out; have := Hm1.out; have := HN2.out; have := l2.out; have := HN3.out; have := Hm3.out; have := HN4.out; have := Hm4.out; have := HN5.out; have := Hm5.out; have := HN6.out; have := Hm6.out; have := HN7.out; have := l7.out; have := HN8.out; have := Hm8.out; have := HN9.out; omega, (S3.out (by have := l0.out; have := HN1.out; have := Hm1.out; have := HN2.out; have := l2.out; have := HN3.out; have := Hm3.out; have := HN4.out; have := Hm4.out; have := HN5.out; have := Hm5.out; have := HN6.out; have := Hm6.out; have := HN7.out; have := l7.out; have := HN8.out; have := Hm8.out; have := HN9.out; omega)).mono (by have := l0.out; have := HN1.out; have := Hm1.out; have := HN2.out; have := l2.out; have := HN3.out; have := Hm3.out; have := HN4.out; have := Hm4.out; have := HN5.out; have := Hm5.out; have := HN6.out; have := Hm6.out; have := HN7.out; have := l7.out; have := HN8.out; have := Hm8.out; have := HN9.out; omega) smNode.mono, (S4.out (by have := l0.out; have := HN1.out; have := Hm1.out; have := HN2.out; have := l2.out; have := HN3.out; have := Hm3.out; have := HN4.out; have := Hm4.out; have := HN5.out; have := Hm5.out; have := HN6.out; have := Hm6.out; have := HN7.out; have := l7.out; have := HN8.out; have := Hm8.out; have := HN9.out; omega)).mono (by have := l0.out; have := HN1.out; have := Hm1.out; have := HN2.out; have := l2.out; have := HN3.out; have := Hm3.out; have := HN4.out; have := Hm4.out; have := HN5.out; have := Hm5.out; have := HN6.out; have := Hm6.out; have := HN7.out; have := l7.out; have := HN8.out; have := Hm8.out; have := HN9.out; omega) smIns.mono, (S5.out (by have := l0.out; have := HN1.out; have := Hm1.out; have := HN2.out; have := l2.out; have := HN3.out; have := Hm3.out; have := HN4.out; have := Hm4.out; have := HN5.out; have := Hm5.out; have := HN6.out; have := Hm6.out; have := HN7.out; have := l7.out; have := HN8.out; have := Hm8.out; have := HN9.out; omega)).mono (by have := l0.out; have := HN1.out; have := Hm1.out; have := HN2.out; have := l2.out; have := HN3.out; have := Hm3.out; have := HN4.out; have := Hm4.out; have := HN5.out; have := Hm5.out; have := HN6.out; have := Hm6.out; have := HN7.out; have := l7.out; have := HN8.out; have := Hm8.out; have := HN9.out; omega) smAct.mono, (S6.out (by have := l0.out; have := HN1.out; have := Hm1.out; have := HN2.out; have := l2.out; have := HN3.out; have := Hm3.out; have := HN4.out; have := Hm4.out; have := HN5.out; have := Hm5.out; have := HN6.out; have := Hm6.out; have := HN7.out; have := l7.out; have := HN8.out; have := Hm8.out; have := HN9.out; omega)).mono (by have := l0.out; have := HN1.out; have := Hm1.out; have := HN2.out; have := l2.out; have := HN3.out; have := Hm3.out; have := HN4.out; have := Hm4.out; have := HN5.out; have := Hm5.out; have := HN6.out; have := Hm6.out; have := HN7.out; have := l7.out; have := HN8.out; have := Hm8.out; have := HN9.out; omega) smTable.mono, by simp only; have := l0.out; have := HN1.out; have := Hm1.out; have := HN2.out; have := l2.out; have := HN3.out; have := Hm3.out; have := HN4.out; have := Hm4.out; have := HN5.out; have := Hm5.out; have := HN6.out; have := Hm6.out; have := HN7.out; have := l7.out; have := HN8.out; have := Hm8.out; have := HN9.out; omega, (S8.out (by have := l0.out; have := HN1.out; have := Hm1.out; have := HN2.out; have := l2.out; have := HN3.out; have := Hm3.out; have := HN4.out; have := Hm4.out; have := HN5.out; have := Hm5.out; have := HN6.out; have := Hm6.out; have := HN7.out; have := l7.out; have := HN8.out; have := Hm8.out; have := HN9.out; omega)).mono (by have := l0.out; have := HN1.out; have := Hm1.out; have := HN2.out; have := l2.out; have := HN3.out; have := Hm3.out; have := HN4.out; have := Hm4.out; have := HN5.out; have := Hm5.out; have := HN6.out; have := Hm6.out; have := HN7.out; have := l7.out; have := HN8.out; have := Hm8.out; have := HN9.out; omega) smArr.mono⟩, B9.out⟩
end Go.Proofs.YtlipcmonlhdgfaaGreat
