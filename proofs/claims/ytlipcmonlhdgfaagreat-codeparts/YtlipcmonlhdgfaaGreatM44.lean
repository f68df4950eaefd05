/- Pieces of the proof: TsLNodes, TsAct, TsLActs, TsTable, TsLTables, TsLArrs. -/
import Derived.Test.YtlipcmonlhdgfaaGreatM43
import Derived.Test.YtlipcmonlhdgfaaGreatM7
import Derived.Test.YtlipcmonlhdgfaaGreatM8
import Derived.Test.YtlipcmonlhdgfaaGreatM9
/- NodesSize. -/
namespace Go.Proofs.YtlipcmonlhdgfaaGreat
open Go.RowKit

set_option maxRecDepth 100000 in
set_option maxHeartbeats 4000000 in
theorem szNodes_any (a : Option Addr) (cap : Nat) (l : List NdL) (w : World) (hr : LsO 5 NdL.cells NdO w a l) : Calls Tryz.prog 13 #[.slice a l.length cap] w fun e w' => ∃ n : Nat, e = .returned (.int .i64 n) ∧ n ≤ 2251799813685248 ∧ (n ≤ 1048576 → smL smNode n l) ∧ Below w.heap.size w w' := by
  have HR := hide hr.rd
  have HC : Hid (∀ k (h : k < l.length) W, Below w.heap.size w W → _) := fun k h W hb => szNode_any l[k] W ((hr.ok _ (List.getElem_mem h)).below hb)
  have HL : Hid (l.length ≤ 140737488355328) := hr.ln
  clear hr
  have hL := HL.out
  go_enter Tryz.func13, Tryz.ntmps13
  go_wp2
  go_loopw [3, 4] (fun n i wr => ∃ k m : Nat, k ≤ l.length ∧ i = .int .i64 k ∧ n = .int .i64 m ∧ l.length ≤ m ∧ m ≤ 2251799813685248 ∧ (m ≤ 1048576 → ∀ x ∈ l.take k, smNode m x) ∧ Below w.heap.size w wr) (fun _ i _ => l.length - (intOf i).toNat)
  case atStart => exact ⟨0, l.length, by omega, rfl, rfl, Nat.le_refl _, by omega, fun _ x hx => by simp at hx, Below.refl _ _⟩
  case round =>
    obtain ⟨k, m, hk, rfl, rfl, hlm, hm, hsm, hb⟩ := hrel
    have HS := hide hsm
    have HW := hide hb
    clear hsm hb
    by_cases hlt : k < l.length
    · have hlI : (k : Int) < (l.length : Int) := by omega
      by_cases hmost : m ≤ 1048576
      · have d1 : ((m : Int) ≤ 1048576) = True := by simp; omega
        obtain ⟨p, off, rfl, hp, hcl⟩ := (HR.out.below HW.out).some (by omega)
        have hc := hcl k hlt
        have HD := hide (HC.out k hlt _ HW.out)
        have HT := hide (List.take_succ_eq_append_getElem hlt)
        clear hcl hp HR HC
        have HLN : Hid (l[k].cells.length = 5) := rfl
        have HCC := hide hc
        clear hc
        generalize hxx : l[k] = x at *
        clear hxx
        generalize x.cells = cs at *
        have hkb : k < 140737488355328 := by omega
        go_wp2_with (first
          | (refine wpList_loadW rfl 79 _ rfl p (off + k * 5) cs rfl agqNodes (by rw [HLN.out]; exact szqNodes) HCC.out ?_)
          | (go_at_call 42; refine HD.out.mono ?_; rintro e w1 ⟨z, rfl, hz, hsz, hb⟩; have B1 := hide hb; have SZ := hide hsz; clear hb hsz; have hw1 : IntKind.i64.wrap ((m : Int) + (z : Int)) = ((m + z : Nat) : Int) := (by rw [IntKind.wrap_i64]; omega)))
        go_roundw
        case rel => exact ⟨k + 1, m + z, by omega, by go_num, by first | rfl | (go_num; done), by omega, by omega, fun hle y hy => (by
          rw [HT.out] at hy
          rcases List.mem_append.1 hy with hy | hy
          · exact smNode.mono (HS.out hmost y hy) (by omega)
          · obtain rfl := List.mem_singleton.1 hy
            exact smNode.mono (SZ.out (by omega)) (by omega)), bstep HW.out B1.out⟩
        case measure => simp [intOf]; omega
      · have d1 : ((m : Int) ≤ 1048576) = False := by simp; omega
        clear HR HC
        go_wp2
        go_ret
        exact ⟨m, rfl, hm, fun h => absurd h hmost, HW.out⟩
    · obtain rfl : k = l.length := by omega
      clear HR HC
      go_wp2
      go_ret
      exact ⟨m, rfl, hm, fun h => ⟨hlm, fun x hx => HS.out h x (by rw [List.take_length]; exact hx)⟩, HW.out⟩
end Go.Proofs.YtlipcmonlhdgfaaGreat
/- ActSize. -/
namespace Go.Proofs.YtlipcmonlhdgfaaGreat
open Go.RowKit

set_option maxRecDepth 100000 in
set_option maxHeartbeats 4000000 in
theorem szAct_any (y : AcL) (w : World) (hy : AcO w y) : Calls Tryz.prog 44 #[.agg y.cells.toArray] w fun e w' => ∃ n : Nat, e = .returned (.int .i64 n) ∧ n ≤ 1125899906842624 ∧ (n ≤ 1048576 → smAct n y) ∧ Below w.heap.size w w' := by
  have K0 := hide (heap_alloc_new w (.cells y.cells.toArray 43))
  have B0 := hide (below1 w (.cells y.cells.toArray 43))
  have H0 : Hid (∀ W, _) := fun W => zsSize_any y.pa y.ps.length y.pc W
  have l0 : Hid (y.ps.length ≤ 140737488355328) := hy.ps.ln
  have H1 : Hid (∀ W, Below w.heap.size w W → _) := fun W hb => szInses_any y.ca y.cc y.cd W (hy.cd.below hb InO.below)
  have lm : Hid (y.name.size ≤ 140737488355328) := hy.nm
  clear hy
  obtain ⟨name, ps, pa, pc, cd, ca, cc⟩ := y
  simp only [AcL.cells] at *
  obtain ⟨N0, hN0⟩ : ∃ x, x = 1 + name.size := ⟨_, rfl⟩
  have e0 : IntKind.i64.wrap (1 + (name.size : Int)) = (N0 : Int) := by rw [IntKind.wrap_i64]; have := lm.out; omega
  have HN0 := hide hN0
  clear hN0
  have c0 := (cellA K0.out 0).trans rfl
  have c1 := (cellA K0.out 1).trans rfl
  have c2 := (cellA K0.out 2).trans rfl
  go_enter Tryz.func44, Tryz.ntmps44
  by_cases q0 : N0 ≤ 1048576
  rotate_left
  · have dq : ((N0 : Int) ≤ 1048576) = False := by simp; omega
    clear H0 H1
    go_wp2
    go_ret
    exact ⟨N0, rfl, by have := lm.out; have := HN0.out; omega, fun h => absurd h q0, B0.out⟩
  have dq0 : ((N0 : Int) ≤ 1048576) = True := by simp; omega
  go_wp2_with fail
  refine (H0.out _).mono ?_
  rintro e w1 ⟨rfl, rfl⟩
  obtain ⟨N1, hN1⟩ : ∃ x, x = N0 + ps.length := ⟨_, rfl⟩
  have e1 : IntKind.i64.wrap ((N0 : Int) + (ps.length : Int)) = (N1 : Int) := by rw [IntKind.wrap_i64]; have := lm.out; have := HN0.out; have := l0.out; omega
  have HN1 := hide hN1
  clear hN1
  clear H0
  by_cases q1 : N1 ≤ 1048576
  rotate_left
  · have dq : ((N1 : Int) ≤ 1048576) = False := by simp; omega
    clear H1
    go_wp2
    go_ret
    exact ⟨N1, rfl, by have := lm.out; have := HN0.out; have := l0.out; have := HN1.out; omega, fun h => absurd h q1, B0.out⟩
  have dq1 : ((N1 : Int) ≤ 1048576) = True := by simp; omega
  go_wp2_with fail
  refine (H1.out _ B0.out).mono ?_
  rintro e w2 ⟨m1, rfl, hm1, hs1, hb⟩
  have S1 := hide hs1
  have B2 := hide (bstep B0.out hb)
  have K2 := hide (heap_below hb K0.out)
  obtain ⟨N2, hN2⟩ : ∃ x, x = N1 + m1 := ⟨_, rfl⟩
  have Hm1 := hide hm1
  clear hm1
  have e2 : IntKind.i64.wrap ((N1 : Int) + (m1 : Int)) = (N2 : Int) := by rw [IntKind.wrap_i64]; have := lm.out; have := HN0.out; have := l0.out; have := HN1.out; have := Hm1.out; omega
  have HN2 := hide hN2
  clear hN2
  clear H1 hb hs1 c0 c1 c2
  have c0 := (cellA K2.out 0).trans rfl
  have c1 := (cellA K2.out 1).trans rfl
  have c2 := (cellA K2.out 2).trans rfl
  go_wp2
  go_ret
  exact ⟨N2, rfl, by have := lm.out; have := HN0.out; have := l0.out; have := HN1.out; have := Hm1.out; have := HN2.out; omega, fun h => ⟨by simp only; have := lm.out; have := HN0.out; have := l0.out; have := HN1.out; have := Hm1.out; have := HN2.out; omega, (S1.out (by have := lm.out; have := HN0.out; have := l0.out; have := HN1.out; have := Hm1.out; have := HN2.out; omega)).mono (by have := lm.out; have := HN0.out; have := l0.out; have := HN1.out; have := Hm1.out; have := HN2.out; omega) smIns.mono⟩, B2.out⟩
end Go.Proofs.YtlipcmonlhdgfaaGreat
/- ActsSize. -/
namespace Go.Proofs.YtlipcmonlhdgfaaGreat
open Go.RowKit

set_option maxRecDepth 100000 in
set_option maxHeartbeats 4000000 in
theorem szActs_any (a : Option Addr) (cap : Nat) (l : List AcL) (w : World) (hr : LsO 3 AcL.cells AcO w a l) : Calls Tryz.prog 15 #[.slice a l.length cap] w fun e w' => ∃ n : Nat, e = .returned (.int .i64 n) ∧ n ≤ 2251799813685248 ∧ (n ≤ 1048576 → smL smAct n l) ∧ Below w.heap.size w w' := by
  have HR := hide hr.rd
  have HC : Hid (∀ k (h : k < l.length) W, Below w.heap.size w W → _) := fun k h W hb => szAct_any l[k] W ((hr.ok _ (List.getElem_mem h)).below hb)
  have HL : Hid (l.length ≤ 140737488355328) := hr.ln
  clear hr
  have hL := HL.out
  go_enter Tryz.func15, Tryz.ntmps15
  go_wp2
  go_loopw [3, 4] (fun n i wr => ∃ k m : Nat, k ≤ l.length ∧ i = .int .i64 k ∧ n = .int .i64 m ∧ l.length ≤ m ∧ m ≤ 2251799813685248 ∧ (m ≤ 1048576 → ∀ x ∈ l.take k, smAct m x) ∧ Below w.heap.size w wr) (fun _ i _ => l.length - (intOf i).toNat)
  case atStart => exact ⟨0, l.length, by omega, rfl, rfl, Nat.le_refl _, by omega, fun _ x hx => by simp at hx, Below.refl _ _⟩
  case round =>
    obtain ⟨k, m, hk, rfl, rfl, hlm, hm, hsm, hb⟩ := hrel
    have HS := hide hsm
    have HW := hide hb
    clear hsm hb
    by_cases hlt : k < l.length
    · have hlI : (k : Int) < (l.length : Int) := by omega
      by_cases hmost : m ≤ 1048576
      · have d1 : ((m : Int) ≤ 1048576) = True := by simp; omega
        obtain ⟨p, off, rfl, hp, hcl⟩ := (HR.out.below HW.out).some (by omega)
        have hc := hcl k hlt
        have HD := hide (HC.out k hlt _ HW.out)
        have HT := hide (List.take_succ_eq_append_getElem hlt)
        clear hcl hp HR HC
        have HLN : Hid (l[k].cells.length = 3) := rfl
        have HCC := hide hc
        clear hc
        generalize hxx : l[k] = x at *
        clear hxx
        generalize x.cells = cs at *
        have hkb : k < 140737488355328 := by omega
        go_wp2_with (first
          | (refine wpList_loadW rfl 43 _ rfl p (off + k * 3) cs rfl agqActs (by rw [HLN.out]; exact szqActs) HCC.out ?_)
          | (go_at_call 44; refine HD.out.mono ?_; rintro e w1 ⟨z, rfl, hz, hsz, hb⟩; have B1 := hide hb; have SZ := hide hsz; clear hb hsz; have hw1 : IntKind.i64.wrap ((m : Int) + (z : Int)) = ((m + z : Nat) : Int) := (by rw [IntKind.wrap_i64]; omega)))
        go_roundw
        case rel => exact ⟨k + 1, m + z, by omega, by go_num, by first | rfl | (go_num; done), by omega, by omega, fun hle y hy => (by
          rw [HT.out] at hy
          rcases List.mem_append.1 hy with hy | hy
          · exact smAct.mono (HS.out hmost y hy) (by omega)
          · obtain rfl := List.mem_singleton.1 hy
            exact smAct.mono (SZ.out (by omega)) (by omega)), bstep HW.out B1.out⟩
        case measure => simp [intOf]; omega
      · have d1 : ((m : Int) ≤ 1048576) = False := by simp; omega
        clear HR HC
        go_wp2
        go_ret
        exact ⟨m, rfl, hm, fun h => absurd h hmost, HW.out⟩
    · obtain rfl : k = l.length := by omega
      clear HR HC
      go_wp2
      go_ret
      exact ⟨m, rfl, hm, fun h => ⟨hlm, fun x hx => HS.out h x (by rw [List.take_length]; exact hx)⟩, HW.out⟩
end Go.Proofs.YtlipcmonlhdgfaaGreat
/- TableSize. -/
namespace Go.Proofs.YtlipcmonlhdgfaaGreat
open Go.RowKit

set_option maxRecDepth 100000 in
set_option maxHeartbeats 4000000 in
theorem szTable_any (y : TaL) (w : World) (hy : TaO w y) : Calls Tryz.prog 45 #[.agg y.cells.toArray] w fun e w' => ∃ n : Nat, e = .returned (.int .i64 n) ∧ n ≤ 1125899906842624 ∧ (n ≤ 1048576 → smTable n y) ∧ Below w.heap.size w w' := by
  have K0 := hide (heap_alloc_new w (.cells y.cells.toArray 41))
  have B0 := hide (below1 w (.cells y.cells.toArray 41))
  have H0 : Hid (∀ W, _) := fun W => zsSize_any y.ka y.ks.length y.kc W
  have l0 : Hid (y.ks.length ≤ 140737488355328) := hy.ks.ln
  have H1 : Hid (∀ W, _) := fun W => ksSize_any y.da y.kd.length y.dc W
  have l1 : Hid (y.kd.length ≤ 140737488355328) := hy.kd.ln
  have H2 : Hid (∀ W, _) := fun W => zsSize_any y.aa y.ats.length y.ac W
  have l2 : Hid (y.ats.length ≤ 140737488355328) := hy.ats.ln
  have H3 : Hid (∀ W, _) := fun W => nsSize_any y.ga y.gs.length y.gc W
  have l3 : Hid (y.gs.length ≤ 140737488355328) := hy.gs.ln
  have H4 : Hid (∀ W, Below w.heap.size w W → _) := fun W hb => szInses_any y.ba y.bc y.bf W (hy.bf.below hb InO.below)
  have lm : Hid (y.name.size ≤ 140737488355328) := hy.nm
  clear hy
  obtain ⟨name, ks, ka, kc, kd, da, dc, ats, aa, ac, df, gs, ga, gc, size, bf, ba, bc⟩ := y
  simp only [TaL.cells] at *
  obtain ⟨N0, hN0⟩ : ∃ x, x = 1 + name.size := ⟨_, rfl⟩
  have e0 : IntKind.i64.wrap (1 + (name.size : Int)) = (N0 : Int) := by rw [IntKind.wrap_i64]; have := lm.out; omega
  have HN0 := hide hN0
  clear hN0
  have c0 := (cellA K0.out 0).trans rfl
  have c1 := (cellA K0.out 1).trans rfl
  have c2 := (cellA K0.out 2).trans rfl
  have c3 := (cellA K0.out 3).trans rfl
  have c4 := (cellA K0.out 4).trans rfl
  have c5 := (cellA K0.out 5).trans rfl
  have c6 := (cellA K0.out 6).trans rfl
  have c7 := (cellA K0.out 7).trans rfl
  go_enter Tryz.func45, Tryz.ntmps45
  by_cases q0 : N0 ≤ 1048576
  rotate_left
  · have dq : ((N0 : Int) ≤ 1048576) = False := by simp; omega
    clear H0 H1 H2 H3 H4
    go_wp2
    go_ret
    exact ⟨N0, rfl, by have := lm.out; have := HN0.out; omega, fun h => absurd h q0, B0.out⟩
  have dq0 : ((N0 : Int) ≤ 1048576) = True := by simp; omega
  go_wp2_with fail
  refine (H0.out _).mono ?_
  rintro e w1 ⟨rfl, rfl⟩
  obtain ⟨N1, hN1⟩ : ∃ x, x = N0 + ks.length := ⟨_, rfl⟩
  have e1 : IntKind.i64.wrap ((N0 : Int) + (ks.length : Int)) = (N1 : Int) := by rw [IntKind.wrap_i64]; have := lm.out; have := HN0.out; have := l0.out; omega
  have HN1 := hide hN1
  clear hN1
  clear H0
  by_cases q1 : N1 ≤ 1048576
  rotate_left
  · have dq : ((N1 : Int) ≤ 1048576) = False := by simp; omega
    clear H1 H2 H3 H4
    go_wp2
    go_ret
    exact ⟨N1, rfl, by have := lm.out; have := HN0.out; have := l0.out; have := HN1.out; omega, fun h => absurd h q1, B0.out⟩
  have dq1 : ((N1 : Int) ≤ 1048576) = True := by simp; omega
  go_wp2_with fail
  refine (H1.out _).mono ?_
  rintro e w2 ⟨rfl, rfl⟩
  obtain ⟨N2, hN2⟩ : ∃ x, x = N1 + kd.length := ⟨_, rfl⟩
  have e2 : IntKind.i64.wrap ((N1 : Int) + (kd.length : Int)) = (N2 : Int) := by rw [IntKind.wrap_i64]; have := lm.out; have := HN0.out; have := l0.out; have := HN1.out; have := l1.out; omega
  have HN2 := hide hN2
  clear hN2
  clear H1
  by_cases q2 : N2 ≤ 1048576
  rotate_left
  · have dq : ((N2 : Int) ≤ 1048576) = False := by simp; omega
    clear H2 H3 H4
    go_wp2
    go_ret
    exact ⟨N2, rfl, by have := lm.out; have := HN0.out; have := l0.out; have := HN1.out; have := l1.out; have := HN2.out; omega, fun h => absurd h q2, B0.out⟩
  have dq2 : ((N2 : Int) ≤ 1048576) = True := by simp; omega
  go_wp2_with fail
  refine (H2.out _).mono ?_
  rintro e w3 ⟨rfl, rfl⟩
  obtain ⟨N3, hN3⟩ : ∃ x, x = N2 + ats.length := ⟨_, rfl⟩
  have e3 : IntKind.i64.wrap ((N2 : Int) + (ats.length : Int)) = (N3 : Int) := by rw [IntKind.wrap_i64]; have := lm.out; have := HN0.out; have := l0.out; have := HN1.out; have := l1.out; have := HN2.out; have := l2.out; omega
  have HN3 := hide hN3
  clear hN3
  clear H2
  by_cases q3 : N3 ≤ 1048576
  rotate_left
  · have dq : ((N3 : Int) ≤ 1048576) = False := by simp; omega
    clear H3 H4
    go_wp2
    go_ret
    exact ⟨N3, rfl, by have := lm.out; have := HN0.out; have := l0.out; have := HN1.out; have := l1.out; have := HN2.out; have := l2.out; have := HN3.out; omega, fun h => absurd h q3, B0.out⟩
  have dq3 : ((N3 : Int) ≤ 1048576) = True := by simp; omega
  go_wp2_with fail
  refine (H3.out _).mono ?_
  rintro e w4 ⟨rfl, rfl⟩
  obtain ⟨N4, hN4⟩ : ∃ x, x = N3 + gs.length := ⟨_, rfl⟩
  have e4 : IntKind.i64.wrap ((N3 : Int) + (gs.length : Int)) = (N4 : Int) := by rw [IntKind.wrap_i64]; have := lm.out; have := HN0.out; have := l0.out; have := HN1.out; have := l1.out; have := HN2.out; have := l2.out; have := HN3.out; have := l3.out; omega
  have HN4 := hide hN4
  clear hN4
  clear H3
  by_cases q4 : N4 ≤ 1048576
  rotate_left
  · have dq : ((N4 : Int) ≤ 1048576) = False := by simp; omega
    clear H4
    go_wp2
    go_ret
    exact ⟨N4, rfl, by have := lm.out; have := HN0.out; have := l0.out; have := HN1.out; have := l1.out; have := HN2.out; have := l2.out; have := HN3.out; have := l3.out; have := HN4.out; omega, fun h => absurd h q4, B0.out⟩
  have dq4 : ((N4 : Int) ≤ 1048576) = True := by simp; omega
  go_wp2_with fail
  refine (H4.out _ B0.out).mono ?_
  rintro e w5 ⟨m4, rfl, hm4, hs4, hb⟩
  have S4 := hide hs4
  have B5 := hide (bstep B0.out hb)
  have K5 := hide (heap_below hb K0.out)
  obtain ⟨N5, hN5⟩ : ∃ x, x = N4 + m4 := ⟨_, rfl⟩
  have Hm4 := hide hm4
  clear hm4
  have e5 : IntKind.i64.wrap ((N4 : Int) + (m4 : Int)) = (N5 : Int) := by rw [IntKind.wrap_i64]; have := lm.out; have := HN0.out; have := l0.out; have := HN1.out; have := l1.out; have := HN2.out; have := l2.out; have := HN3.out; have := l3.out; have := HN4.out; have := Hm4.out; omega
  have HN5 := hide hN5
  clear hN5
  clear H4 hb hs4 c0 c1 c2 c3 c4 c5 c6 c7
  have c0 := (cellA K5.out 0).trans rfl
  have c1 := (cellA K5.out 1).trans rfl
  have c2 := (cellA K5.out 2).trans rfl
  have c3 := (cellA K5.out 3).trans rfl
  have c4 := (cellA K5.out 4).trans rfl
  have c5 := (cellA K5.out 5).trans rfl
  have c6 := (cellA K5.out 6).trans rfl
  have c7 := (cellA K5.out 7).trans rfl
  go_wp2
  go_ret
  exact ⟨N5, rfl, by have := lm.out; have := HN0.out; have := l0.out; have := HN1.out; have := l1.out; have := HN2.out; have := l2.out; have := HN3.out; have := l3.out; have := HN4.out; have := Hm4.out; have := HN5.out; omega, fun h => ⟨by simp only; have := lm.out; have := HN0.out; have := l0.out; have := HN1.out; have := l1.out; have := HN2.out; have := l2.out; have := HN3.out; have := l3.out; have := HN4.out; have := Hm4.out; have := HN5.out; omega, by simp only; have := lm.out; have := HN0.out; have := l0.out; have := HN1.out; have := l1.out; have := HN2.out; have := l2.out; have := HN3.out; have := l3.out; have := HN4.out; have := Hm4.out; have := HN5.out; omega, by simp only; have := lm.out; have := HN0.out; have := l0.out; have := HN1.out; have := l1.out; have := HN2.out; have := l2.out; have := HN3.out; have := l3.out; have := HN4.out; have := Hm4.out; have := HN5.out; omega, by simp only; have := lm.out; have := HN0.out; have := l0.out; have := HN1.out; have := l1.out; have := HN2.out; have := l2.out; have := HN3.out; have := l3.out; have := HN4.out; have := Hm4.out; have := HN5.out; omega, (S4.out (by have := lm.out; have := HN0.out; have := l0.out; have := HN1.out; have := l1.out; have := HN2.out; have := l2.out; have := HN3.out; have := l3.out; have := HN4.out; have := Hm4.out; have := HN5.out; omega)).mono (by have := lm.out; have := HN0.out; have := l0.out; have := HN1.out; have := l1.out; have := HN2.out; have := l2.out; have := HN3.out; have := l3.out; have := HN4.out; have := Hm4.out; have := HN5.out; omega) smIns.mono⟩, B5.out⟩
end Go.Proofs.YtlipcmonlhdgfaaGreat
/- TablesSize. -/
namespace Go.Proofs.YtlipcmonlhdgfaaGreat
open Go.RowKit

set_option maxRecDepth 100000 in
set_option maxHeartbeats 4000000 in
theorem szTables_any (a : Option Addr) (cap : Nat) (l : List TaL) (w : World) (hr : LsO 8 TaL.cells TaO w a l) : Calls Tryz.prog 16 #[.slice a l.length cap] w fun e w' => ∃ n : Nat, e = .returned (.int .i64 n) ∧ n ≤ 2251799813685248 ∧ (n ≤ 1048576 → smL smTable n l) ∧ Below w.heap.size w w' := by
  have HR := hide hr.rd
  have HC : Hid (∀ k (h : k < l.length) W, Below w.heap.size w W → _) := fun k h W hb => szTable_any l[k] W ((hr.ok _ (List.getElem_mem h)).below hb)
  have HL : Hid (l.length ≤ 140737488355328) := hr.ln
  clear hr
  have hL := HL.out
  go_enter Tryz.func16, Tryz.ntmps16
  go_wp2
  go_loopw [3, 4] (fun n i wr => ∃ k m : Nat, k ≤ l.length ∧ i = .int .i64 k ∧ n = .int .i64 m ∧ l.length ≤ m ∧ m ≤ 2251799813685248 ∧ (m ≤ 1048576 → ∀ x ∈ l.take k, smTable m x) ∧ Below w.heap.size w wr) (fun _ i _ => l.length - (intOf i).toNat)
  case atStart => exact ⟨0, l.length, by omega, rfl, rfl, Nat.le_refl _, by omega, fun _ x hx => by simp at hx, Below.refl _ _⟩
  case round =>
    obtain ⟨k, m, hk, rfl, rfl, hlm, hm, hsm, hb⟩ := hrel
    have HS := hide hsm
    have HW := hide hb
    clear hsm hb
    by_cases hlt : k < l.length
    · have hlI : (k : Int) < (l.length : Int) := by omega
      by_cases hmost : m ≤ 1048576
      · have d1 : ((m : Int) ≤ 1048576) = True := by simp; omega
        obtain ⟨p, off, rfl, hp, hcl⟩ := (HR.out.below HW.out).some (by omega)
        have hc := hcl k hlt
        have HD := hide (HC.out k hlt _ HW.out)
        have HT := hide (List.take_succ_eq_append_getElem hlt)
        clear hcl hp HR HC
        have HLN : Hid (l[k].cells.length = 8) := rfl
        have HCC := hide hc
        clear hc
        generalize hxx : l[k] = x at *
        clear hxx
        generalize x.cells = cs at *
        have hkb : k < 140737488355328 := by omega
        go_wp2_with (first
          | (refine wpList_loadW rfl 41 _ rfl p (off + k * 8) cs rfl agqTables (by rw [HLN.out]; exact szqTables) HCC.out ?_)
          | (go_at_call 45; refine HD.out.mono ?_; rintro e w1 ⟨z, rfl, hz, hsz, hb⟩; have B1 := hide hb; have SZ := hide hsz; clear hb hsz; have hw1 : IntKind.i64.wrap ((m : Int) + (z : Int)) = ((m + z : Nat) : Int) := (by rw [IntKind.wrap_i64]; omega)))
        go_roundw
        case rel => exact ⟨k + 1, m + z, by omega, by go_num, by first | rfl | (go_num; done), by omega, by omega, fun hle y hy => (by
          rw [HT.out] at hy
          rcases List.mem_append.1 hy with hy | hy
          · exact smTable.mono (HS.out hmost y hy) (by omega)
          · obtain rfl := List.mem_singleton.1 hy
            exact smTable.mono (SZ.out (by omega)) (by omega)), bstep HW.out B1.out⟩
        case measure => simp [intOf]; omega
      · have d1 : ((m : Int) ≤ 1048576) = False := by simp; omega
        clear HR HC
        go_wp2
        go_ret
        exact ⟨m, rfl, hm, fun h => absurd h hmost, HW.out⟩
    · obtain rfl : k = l.length := by omega
      clear HR HC
      go_wp2
      go_ret
      exact ⟨m, rfl, hm, fun h => ⟨hlm, fun x hx => HS.out h x (by rw [List.take_length]; exact hx)⟩, HW.out⟩
end Go.Proofs.YtlipcmonlhdgfaaGreat
/- ArrsSize. -/
namespace Go.Proofs.YtlipcmonlhdgfaaGreat
open Go.RowKit

set_option maxRecDepth 100000 in
set_option maxHeartbeats 4000000 in
theorem szArrs_any (a : Option Addr) (cap : Nat) (l : List Ay) (w : World) (hr : LsO 3 Ay.cells AyO w a l) : Calls Tryz.prog 17 #[.slice a l.length cap] w fun e w' => ∃ n : Nat, e = .returned (.int .i64 n) ∧ n ≤ 281474976710656 ∧ (n ≤ 1048576 → smL smArr n l) ∧ Below w.heap.size w w' := by
  have HR := hide hr.rd
  have HC : Hid (∀ k (h : k < l.length), l[k].name.size ≤ 140737488355328) := fun k h => (hr.ok _ (List.getElem_mem h)).1
  have HL : Hid (l.length ≤ 140737488355328) := hr.ln
  clear hr
  have hL := HL.out
  go_enter Tryz.func17, Tryz.ntmps17
  go_wp2
  go_loopw [3, 4] (fun n i wr => ∃ k m : Nat, k ≤ l.length ∧ i = .int .i64 k ∧ n = .int .i64 m ∧ l.length ≤ m ∧ m ≤ 281474976710656 ∧ Below w.heap.size w wr) (fun _ i _ => l.length - (intOf i).toNat)
  case atStart => exact ⟨0, l.length, by omega, rfl, rfl, Nat.le_refl _, by omega, Below.refl _ _⟩
  case round =>
    obtain ⟨k, m, hk, rfl, rfl, hlm, hm, hb⟩ := hrel
    have HW := hide hb
    clear hb
    by_cases hlt : k < l.length
    · have hlI : (k : Int) < (l.length : Int) := by omega
      by_cases hmost : m ≤ 1048576
      · have d1 : ((m : Int) ≤ 1048576) = True := by simp; omega
        obtain ⟨p, off, rfl, hp, hcl⟩ := (HR.out.below HW.out).some (by omega)
        have hz := HC.out k hlt
        obtain ⟨x, hx⟩ : ∃ x, l[k] = x := ⟨_, rfl⟩
        rw [hx] at hz
        obtain ⟨nm, kind, n⟩ := x
        have c0 := hcl k hlt 0 (.string nm) (by rw [hx]; rfl)
        rw [Nat.add_zero] at c0
        simp only at hz
        have hw1 : IntKind.i64.wrap ((m : Int) + (nm.size : Int)) = ((m + nm.size : Nat) : Int) := by rw [IntKind.wrap_i64]; omega
        have HZ := hide hz
        have hkb : k < 140737488355328 := by omega
        clear hcl hp HR HC hx hz
        go_wp2
        go_roundw
        case rel => exact ⟨k + 1, m + nm.size, by omega, by go_num, by first | rfl | (go_num; done), by omega, by have := HZ.out; omega, HW.out⟩
        case measure => simp [intOf]; omega
      · have d1 : ((m : Int) ≤ 1048576) = False := by simp; omega
        clear HR HC
        go_wp2
        go_ret
        exact ⟨m, rfl, hm, fun h => absurd h hmost, HW.out⟩
    · obtain rfl : k = l.length := by omega
      clear HR HC
      go_wp2
      go_ret
      exact ⟨m, rfl, hm, fun h => ⟨hlm, fun x hx => trivial⟩, HW.out⟩
end Go.Proofs.YtlipcmonlhdgfaaGreat
