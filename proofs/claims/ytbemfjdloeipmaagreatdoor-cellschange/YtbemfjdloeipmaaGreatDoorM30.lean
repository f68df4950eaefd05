/- Pieces of the proof: CfG. -/
import Derived.Test.YtbemfjdloeipmaaGreatDoorM29
/- The document's own Meter (chapter 14). -/
namespace Go.Proofs.YtbemfjdloeipmaaGreatDoor
open Go.RowKit

set_option maxRecDepth 100000 in
set_option maxHeartbeats 4000000 in
theorem refMeter14_a (x : ArL) (i : Nb) (now : Int) (w : World) (d : Int) (HF : Hid (∀ W, Below w.heap.size w W → Calls Tryz.prog 30 #[x.val, .int .u8 5, i.val] W fun e w' => e = .returned (.tuple #[.int .i64 d, .int .i64 1]) ∧ Below W.heap.size W w'))  :
    Calls Tryz.prog 14 #[x.val, i.val, .int .i64 now] w fun e w' => e = .returned (.tuple #[zeroV, .agg #[.int .i64 0, .int .u64 0, .int .u64 0], .int .i64 1]) ∧ Below w.heap.size w w' := by
  obtain ⟨⟨name, kind, aw, rate, burst, cs, ls⟩, ca, cc, la, lc⟩ := x
  obtain ⟨iw, ih, il⟩ := i
  simp only [ArL.val, Nb.val, zeroV] at *
  generalize cs.length = n1 at *
  generalize ls.length = n2 at *
  go_enter Tryz.func14, Tryz.ntmps14
  go_wp2_with fail
  refine (HF.out _ (below4 _ _ _ _ _)).mono ?_
  rintro e w2 ⟨rfl, hb⟩
  have BB := hide (bstep (below4 _ _ _ _ _) hb)
  have K4 := hide (heap_below hb (heap_fth _ _ _ _ _ _))
  have K3 := hide (heap_below hb (heap_past _ (heap_trd _ _ _ _ _)))
  clear hb
  go_wp2_with (first
    | (refine wpList_storeA rfl 26 _ _ rfl (w.heap.size + 1 + 1) zeroC _ 26 rfl rfl sz33 K3.out rfl zero_one ?_; intro w6 hw6; have F6 := hide (fr_of hw6); have R6 := hide (got_of hw6 K3.out rfl); have K46 := hide ((F6.out.block _ (lt_heap K4.out) (by omega)).trans K4.out); clear hw6)
    | (refine wpList_storeA rfl 29 _ _ rfl (w.heap.size + 1 + 1 + 1) [.int .i64 0, .int .u64 0, .int .u64 0] _ 29 rfl rfl szNb K46.out rfl (nb_one nb0) ?_; intro w7 hw7; have F7 := hide (fr_of hw7); have R7 := hide (got_of hw7 K46.out rfl); clear hw7))
  have R6' := (F7.out.block _ (lt_heap R6.out) (by omega)).trans R6.out
  refine bodyPost_ret (res_triple (cs := zeroC) (cs2 := [.int .i64 0, .int .u64 0, .int .u64 0]) (v := .int .i64 1) Tryz.results14 (by simp) (by simp) (by simp) agg33 sz33 R6' aggNb szNb R7.out) rfl ⟨rfl, ?_⟩
  have h6 := BB.out.trans (F6.out.below (fun b e => by omega) BB.out.size)
  exact h6.trans (F7.out.below (fun b e => by omega) h6.size)
set_option maxRecDepth 100000 in
set_option maxHeartbeats 4000000 in
theorem refMeter14_b (x : ArL) (i : Nb) (now : Int) (w : World) (d c : Int) (HF : Hid (∀ W, Below w.heap.size w W → Calls Tryz.prog 30 #[x.val, .int .u8 5, i.val] W fun e w' => e = .returned (.tuple #[.int .i64 d, .int .i64 c]) ∧ Below W.heap.size W w')) (h1 : (c == 1) = false) (_h1' : (c = 1) = False) (hn : now < 0) :
    Calls Tryz.prog 14 #[x.val, i.val, .int .i64 now] w fun e w' => e = .returned (.tuple #[zeroV, .agg #[.int .i64 0, .int .u64 0, .int .u64 0], .int .i64 1]) ∧ Below w.heap.size w w' := by
  obtain ⟨⟨name, kind, aw, rate, burst, cs, ls⟩, ca, cc, la, lc⟩ := x
  obtain ⟨iw, ih, il⟩ := i
  simp only [ArL.val, Nb.val, zeroV] at *
  generalize cs.length = n1 at *
  generalize ls.length = n2 at *
  go_enter Tryz.func14, Tryz.ntmps14
  go_wp2_with fail
  refine (HF.out _ (below4 _ _ _ _ _)).mono ?_
  rintro e w2 ⟨rfl, hb⟩
  have BB := hide (bstep (below4 _ _ _ _ _) hb)
  have K4 := hide (heap_below hb (heap_fth _ _ _ _ _ _))
  have K3 := hide (heap_below hb (heap_past _ (heap_trd _ _ _ _ _)))
  clear hb
  go_wp2_with (first
    | (refine wpList_storeA rfl 26 _ _ rfl (w.heap.size + 1 + 1) zeroC _ 26 rfl rfl sz33 K3.out rfl zero_one ?_; intro w6 hw6; have F6 := hide (fr_of hw6); have R6 := hide (got_of hw6 K3.out rfl); have K46 := hide ((F6.out.block _ (lt_heap K4.out) (by omega)).trans K4.out); clear hw6)
    | (refine wpList_storeA rfl 29 _ _ rfl (w.heap.size + 1 + 1 + 1) [.int .i64 0, .int .u64 0, .int .u64 0] _ 29 rfl rfl szNb K46.out rfl (nb_one nb0) ?_; intro w7 hw7; have F7 := hide (fr_of hw7); have R7 := hide (got_of hw7 K46.out rfl); clear hw7))
  have R6' := (F7.out.block _ (lt_heap R6.out) (by omega)).trans R6.out
  refine bodyPost_ret (res_triple (cs := zeroC) (cs2 := [.int .i64 0, .int .u64 0, .int .u64 0]) (v := .int .i64 1) Tryz.results14 (by simp) (by simp) (by simp) agg33 sz33 R6' aggNb szNb R7.out) rfl ⟨rfl, ?_⟩
  have h6 := BB.out.trans (F6.out.below (fun b e => by omega) BB.out.size)
  exact h6.trans (F7.out.below (fun b e => by omega) h6.size)
set_option maxRecDepth 100000 in
set_option maxHeartbeats 4000000 in
theorem refMeter14_c (x : ArL) (i : Nb) (now : Int) (w : World) (d c : Int) (HF : Hid (∀ W, Below w.heap.size w W → Calls Tryz.prog 30 #[x.val, .int .u8 5, i.val] W fun e w' => e = .returned (.tuple #[.int .i64 d, .int .i64 c]) ∧ Below W.heap.size W w')) (h1 : (c == 1) = false) (_h1' : (c = 1) = False) (hn : ¬ now < 0) (h0 : (c == 0) = false) (_h0' : (c = 0) = False) :
    Calls Tryz.prog 14 #[x.val, i.val, .int .i64 now] w fun e w' => e = .returned (.tuple #[zeroV, .agg #[.int .i64 0, .int .u64 0, .int .u64 0], .int .i64 c]) ∧ Below w.heap.size w w' := by
  obtain ⟨⟨name, kind, aw, rate, burst, cs, ls⟩, ca, cc, la, lc⟩ := x
  obtain ⟨iw, ih, il⟩ := i
  simp only [ArL.val, Nb.val, zeroV] at *
  generalize cs.length = n1 at *
  generalize ls.length = n2 at *
  go_enter Tryz.func14, Tryz.ntmps14
  go_wp2_with fail
  refine (HF.out _ (below4 _ _ _ _ _)).mono ?_
  rintro e w2 ⟨rfl, hb⟩
  have BB := hide (bstep (below4 _ _ _ _ _) hb)
  have K4 := hide (heap_below hb (heap_fth _ _ _ _ _ _))
  have K3 := hide (heap_below hb (heap_past _ (heap_trd _ _ _ _ _)))
  clear hb
  go_wp2_with (first
    | (refine wpList_storeA rfl 26 _ _ rfl (w.heap.size + 1 + 1) zeroC _ 26 rfl rfl sz33 K3.out rfl zero_one ?_; intro w6 hw6; have F6 := hide (fr_of hw6); have R6 := hide (got_of hw6 K3.out rfl); have K46 := hide ((F6.out.block _ (lt_heap K4.out) (by omega)).trans K4.out); clear hw6)
    | (refine wpList_storeA rfl 29 _ _ rfl (w.heap.size + 1 + 1 + 1) [.int .i64 0, .int .u64 0, .int .u64 0] _ 29 rfl rfl szNb K46.out rfl (nb_one nb0) ?_; intro w7 hw7; have F7 := hide (fr_of hw7); have R7 := hide (got_of hw7 K46.out rfl); clear hw7))
  have R6' := (F7.out.block _ (lt_heap R6.out) (by omega)).trans R6.out
  refine bodyPost_ret (res_triple (cs := zeroC) (cs2 := [.int .i64 0, .int .u64 0, .int .u64 0]) (v := .int .i64 c) Tryz.results14 (by simp) (by simp) (by simp) agg33 sz33 R6' aggNb szNb R7.out) rfl ⟨rfl, ?_⟩
  have h6 := BB.out.trans (F6.out.below (fun b e => by omega) BB.out.size)
  exact h6.trans (F7.out.below (fun b e => by omega) h6.size)
set_option maxRecDepth 100000 in
set_option maxHeartbeats 16000000 in
theorem refMeter14_yes (x : ArL) (i : Nb) (now : Int) (w : World) (hx : ArR w x) (hln : x.la = none → x.lc = 0) (hi : NbR i) (h0 : 0 ≤ now) (h1 : now < 9223372036854775808) (hc : (findA 5 x.a i).2 = 0) :
    Calls Tryz.prog 14 #[x.val, i.val, .int .i64 now] w fun e w' => ∃ y : ArL, y.a = metA x.a i.lo.toNat now ∧ e = .returned (.tuple #[y.val, .agg #[.int .i64 1, .int .u64 0, .int .u64 (min (tokA x.a i.lo.toNat now) 1)], .int .i64 0]) ∧ ArR w' y ∧ Below w.heap.size w w' := by
  have HF : Hid (∀ W, Below w.heap.size w W → _) := fun W hb => refAt14_any 5 x i W (hx.below hb) hi
  obtain ⟨hk5, hm, -, -, h5, h6⟩ := findA_yes hc
  rw [hc, h6] at HF
  obtain ⟨-, hl1, hl2⟩ := may_len hm
  obtain ⟨r0, r1, b0, b1, hll, hlq, hcb⟩ := may_five hm hk5
  obtain ⟨k, hk⟩ := Int.eq_ofNat_of_zero_le hi.lo.1
  have hkc : k < x.a.cs.length := by omega
  have hkl : k < x.a.ls.length := by omega
  have hkI : ((k : Int) < (x.a.cs.length : Int)) := by omega
  have hkL : ((k : Int) < (x.a.ls.length : Int)) := by omega
  obtain ⟨w64, hi0⟩ := may_64 hm (.inr hk5) k hkc
  rw [hk, Int.toNat_natCast]
  have gl : x.a.ls.getD k 0 = x.a.ls[k] := by rw [List.getD_eq_getElem?_getD, List.getElem?_eq_getElem hkl]; rfl
  have gc : x.a.cs.getD k nb0 = x.a.cs[k] := by rw [List.getD_eq_getElem?_getD, List.getElem?_eq_getElem hkc]; rfl
  have hlast : 0 ≤ x.a.ls.getD k 0 := by rw [gl]; exact hlq _ (List.getElem_mem hkl)
  have hlast2 : x.a.ls.getD k 0 < 9223372036854775808 := by rw [gl]; exact (hx.lr _ (List.getElem_mem hkl)).2
  have hcell : (x.a.cs.getD k nb0).lo ≤ x.a.burst := by rw [gc]; exact hcb _ (List.getElem_mem hkc)
  have hcell0 : 0 ≤ (x.a.cs.getD k nb0).lo := by rw [gc]; exact (hx.cr _ (List.getElem_mem hkc)).lo.1
  obtain ⟨tk0, tk1⟩ := tok_r (now := now) r0 b0 b1 hcell0
  have hgm : ArG (metA x.a k now) := by
    have g := hx.g
    refine ⟨by simp only [metA, List.length_set]; exact g.cn, by simp only [metA, List.length_set]; exact g.ln, fun b hb => ?_, fun n hn => ?_, g.wr, g.rr, g.br, g.kr⟩
    · rcases List.mem_or_eq_of_mem_set hb with h | h
      · exact g.cr b h
      · rw [h]; refine ⟨by simp [i64R], by simp [u64R], ?_⟩
        simp only [u64R, Int.min_def]; split <;> omega
    · rcases List.mem_or_eq_of_mem_set hn with h | h
      · exact g.lr n h
      · rw [h]; simp only [i64R, Int.max_def]; split <;> omega
  obtain ⟨t, ht⟩ : ∃ t, t = tokA x.a k now := ⟨_, rfl⟩
  have HWI : Hid (∀ W, Below w.heap.size w W → _) := fun W hb => refWith14_any x k ⟨64, 0, t - min t 1⟩ W (hx.below hb) hln (by omega) (by omega) hkc
  have HC : Hid (∀ W, Below w.heap.size w W → ∃ p off, x.ca = some ⟨p, off, none⟩ ∧ W.cell? ⟨p, off + k * 3, none⟩ = some (.int .i64 64) ∧ W.cell? ⟨p, off + k * 3 + 1, none⟩ = some (.int .u64 0) ∧ W.cell? ⟨p, off + k * 3 + 2, none⟩ = some (.int .u64 (x.a.cs.getD k nb0).lo)) := fun W hb => by
    obtain ⟨p, off, e, _, hcl⟩ := (hx.cs.below hb).some (by omega)
    have := hcl k hkc
    rw [← gc, w64, hi0] at this
    exact ⟨p, off, e, this⟩
  have HL : Hid (∀ W, Below w.heap.size w W → ∃ p off, x.la = some ⟨p, off, none⟩ ∧ W.cell? ⟨p, off + k, none⟩ = some (.int .i64 (x.a.ls.getD k 0))) := fun W hb => by
    obtain ⟨p, off, e, _, hcl⟩ := (hx.ls.below hb).some (by omega)
    have := hcl k hkl
    rw [← gl] at this
    exact ⟨p, off, e, this⟩
  suffices H : ∀ Q : Ending → World → Prop, (∀ ca cc la lc W', W'.ownsRow w.heap.size 29 3 (.slice ca x.a.cs.length cc) x.a.cs.length (flat Nb.cells (x.a.cs.set k ⟨64, 0, t - min t 1⟩)) → W'.ownsRow w.heap.size 3 1 (.slice la x.a.ls.length lc) x.a.ls.length ((flat intC x.a.ls).set k (.int .i64 (max (x.a.ls.getD k 0) now))) → Below w.heap.size w W' → Q (.returned (.tuple #[.agg #[.string x.a.name, .int .u8 x.a.kind, .int .i64 x.a.w, .int .i64 x.a.rate, .int .i64 x.a.burst, .slice ca x.a.cs.length cc, .slice la x.a.ls.length lc], .agg #[.int .i64 1, .int .u64 0, .int .u64 (min t 1)], .int .i64 0])) W') → Calls Tryz.prog 14 #[x.val, i.val, .int .i64 now] w Q from
    H _ (fun ca cc la lc W' h1 h2 h3 => ⟨⟨metA x.a k now, ca, cc, la, lc⟩, rfl, by simp [ArL.val, metA, ht], ⟨(rdN_own (by rw [ht] at h1; exact h1)).2.1, own_rdZ (l := (metA x.a k now).ls) (by rw [flat_setZ] at h2; exact h2), hgm.cn, hgm.ln, hgm.cr, hgm.lr, hgm.wr, hgm.rr, hgm.br, hgm.kr⟩, h3⟩)
  intro Q hQ
  have HQ := hide hQ
  have HKL := hide hkl
  unfold tokA tickA at ht
  clear hQ hx hi hc hm h5 h6 hl1 hl2 hkc hgm hln w64 hi0 gl gc hk5 hll hlq hcb hkl tk0 tk1
  generalize flat Nb.cells (x.a.cs.set k ⟨64, 0, t - min t 1⟩) = CS at *
  obtain ⟨⟨name, kind, aw, rate, burst, cs, ls⟩, ca, cc, la, lc⟩ := x
  obtain ⟨iw, ih, il⟩ := i
  simp only [ArL.val, Nb.val] at *
  subst hk
  generalize (cs.getD k nb0).lo = u at *
  generalize ls.getD k 0 = l at *
  generalize hLS : flat intC ls = LS at *
  have HLL : Hid (LS.length = ls.length) := by show _ = _; rw [← hLS, flat_length int_len, Nat.mul_one]
  clear hLS
  generalize cs.length = n1 at *
  generalize ls.length = n2 at *
  have wl : IntKind.i64.wrap (now - l) = now - l := by rw [IntKind.wrap_i64]; omega
  have wb : IntKind.u64.wrap burst = burst := by rw [IntKind.wrap_u64]; omega
  have wr : IntKind.u64.wrap rate = rate := by rw [IntKind.wrap_u64]; omega
  go_enter Tryz.func14, Tryz.ntmps14
  go_wp2_with fail
  refine (HF.out _ (below4 _ _ _ _ _)).mono ?_
  rintro e w2 ⟨rfl, hb⟩
  have BB := hide (bstep (below4 _ _ _ _ _) hb)
  have K4 := hide (heap_below hb (heap_fth _ _ _ _ _ _))
  have K3 := hide (heap_below hb (heap_past _ (heap_trd _ _ _ _ _)))
  have k1 := heap_below hb (heap_past _ (heap_past _ (heap_past _ (heap_alloc_new w _))))
  have K1 := hide k1
  have HZ := hide (show w.heap.size + 4 ≤ w2.heap.size by have := hb.size; simp at this; omega)
  obtain ⟨p0, p1, p2, p3, p4, p5, p6⟩ := at7 k1
  obtain ⟨p, off, rfl, q0, q1, q2⟩ := HC.out _ BB.out
  obtain ⟨pl, ol, rfl, m0⟩ := HL.out _ BB.out
  have m1 : ∀ A : Obj, (w2.alloc A).cell? ⟨pl, ol + k, none⟩ = some (.int .i64 l) := fun A => ((below1 w2 A).cell (p := ⟨pl, ol + k, none⟩) (World.block_lt_of_cell? w2 _ m0)).trans m0
  have P0 := fun A => (at7 (heap_past A K1.out)).1
  have P1 := fun A => (at7 (heap_past A K1.out)).2.1
  have P2 := fun A => (at7 (heap_past A K1.out)).2.2.1
  have P3 := fun A => (at7 (heap_past A K1.out)).2.2.2.1
  have P4 := fun A => (at7 (heap_past A K1.out)).2.2.2.2.1
  have P5 := fun A => (at7 (heap_past A K1.out)).2.2.2.2.2.1
  have P6 := fun A => (at7 (heap_past A K1.out)).2.2.2.2.2.2
  have S0 := fun A B => (at7 (heap_past B (heap_past A K1.out))).1
  have S1 := fun A B => (at7 (heap_past B (heap_past A K1.out))).2.1
  have S2 := fun A B => (at7 (heap_past B (heap_past A K1.out))).2.2.1
  have S3 := fun A B => (at7 (heap_past B (heap_past A K1.out))).2.2.2.1
  have S4 := fun A B => (at7 (heap_past B (heap_past A K1.out))).2.2.2.2.1
  have S5 := fun A B => (at7 (heap_past B (heap_past A K1.out))).2.2.2.2.2.1
  have S6 := fun A B => (at7 (heap_past B (heap_past A K1.out))).2.2.2.2.2.2
  clear hb k1
  by_cases g1 : l < now
  · by_cases g2 : burst < now - l
    · have hmin : min (max (now - l) 0) burst = burst := by simp only [Int.min_def, Int.max_def]; split <;> (try split) <;> omega
      rw [hmin] at ht
      clear hmin
      by_cases g3 : 0 < rate
      · have wn : IntKind.u64.wrap burst = burst := by rw [IntKind.wrap_u64]; omega
        have hp0 : 0 ≤ burst * rate := Int.mul_nonneg (by omega) (by omega)
        have hp1 : burst * rate ≤ 65535 * 65535 := Int.mul_le_mul (by omega) (by omega) (by omega) (by omega)
        obtain ⟨pr, hpr⟩ : ∃ pr, pr = burst * rate := ⟨_, rfl⟩
        rw [← hpr] at ht hp0 hp1
        have wp : IntKind.u64.wrap (burst * rate) = pr := by rw [← hpr, IntKind.wrap_u64]; omega
        obtain ⟨s, hs⟩ : ∃ s, s = u + pr := ⟨_, rfl⟩
        have wq : IntKind.u64.wrap (u + pr) = s := by rw [IntKind.wrap_u64]; omega
        rw [← hs] at ht
        have hs0 : 0 ≤ s := by omega
        have hs1 : s < 18446744073709551616 := by omega
        clear hpr hs hp0 hp1
        by_cases g4 : burst < s
        · have E0 : t = burst := by rw [ht]; simp only [Int.min_def]; split <;> omega
          have wu : IntKind.u64.wrap (burst - 1) = burst - 1 := by rw [IntKind.wrap_u64]; omega
          have g5 : 0 < burst := by omega
          have B2 := hide ((BB.out.alloc BB.out.size (.cells #[.int .i64 64, .int .u64 0, .int .u64 (burst - 1)] 29)).alloc (BB.out.alloc BB.out.size (.cells #[.int .i64 64, .int .u64 0, .int .u64 (burst - 1)] 29)).size (.cells #[.int .i64 1, .int .u64 0, .int .u64 1] 29))
          have E1 : t - min t 1 = burst - 1 := by rw [E0]; simp only [Int.min_def]; split <;> omega
          have E2 : min t 1 = 1 := by rw [E0]; simp only [Int.min_def]; split <;> omega
          have E3 : max l now = now := by simp only [Int.max_def]; split <;> omega
          rw [E1] at HWI
          rw [E2, E3] at HQ
          clear E1 E2 E3 E0 ht
          go_wp2_with fail
          refine (HWI.out _ B2.out).mono ?_
          rintro e w3 ⟨ca1, cc1, la1, lc1, rfl, ho1, ho2, hb⟩
          obtain ⟨g2, cg, hgs⟩ := owR_some ho2 (by have := HKL.out; omega)
          injection hgs with hg1 hg2 hg3
          subst hg1 hg3
          clear hg2
          have o1 := owR_lower (B' := w.heap.size + 4) ho1 (by have := HZ.out; simp; omega)
          have o2 := owR_lower (B' := w.heap.size + 4) ho2 (by have := HZ.out; simp; omega)
          have MF := hide (mf_of (k := k) #[.string name, .int .u8 kind, .int .i64 aw, .int .i64 rate, .int .i64 burst, .slice ca1 n1 cc1, .slice (some ⟨g2, 0, none⟩) n2 lc1] (.int .i64 now) (bstep B2.out hb) (heap_below hb (heap_past _ (heap_past _ K3.out))) (heap_below hb (heap_past _ (heap_past _ K4.out))) (heap_below hb (heap_snd w2 _ _ _)) o1 o2)
          have oa := owR_below o2 (below1 w3 (.cells #[.string name, .int .u8 kind, .int .i64 aw, .int .i64 rate, .int .i64 burst, .slice ca1 n1 cc1, .slice (some ⟨g2, 0, none⟩) n2 lc1] 26))
          have cl : (w3.alloc (.cells #[.string name, .int .u8 kind, .int .i64 aw, .int .i64 rate, .int .i64 burst, .slice ca1 n1 cc1, .slice (some ⟨g2, 0, none⟩) n2 lc1] 26)).cell? ⟨g2, k, none⟩ = some (LS[k]'(by rw [HLL.out]; exact HKL.out)) := by rw [World.ownsRow.cellAt oa k (by have := HKL.out; omega), List.getElem?_eq_getElem]
          have fl := World.ownsRow.frozenAt oa k
          generalize LS[k]'(by rw [HLL.out]; exact HKL.out) = lv at cl
          obtain ⟨a0, a1, a2, a3, a4, a5, a6⟩ := at7 MF.out.bo
          obtain ⟨v0, v1, v2, -⟩ := at3 MF.out.bv
          have hz3 : w2.heap.size + 2 ≤ w3.heap.size := by have := hb.size; simp at this; omega
          have e1 : ¬ (w2.heap.size + 1 = w.heap.size + 1 + 1) := by have := HZ.out; omega
          have e2 : ¬ (w2.heap.size + 1 = w.heap.size + 1 + 1 + 1) := by have := HZ.out; omega
          have e3 : ¬ (w3.heap.size = w.heap.size + 1 + 1) := by have := HZ.out; omega
          have e4 : ¬ (w3.heap.size = w.heap.size + 1 + 1 + 1) := by have := HZ.out; omega
          clear hz3 hb ho1 ho2 o1 o2 oa p0 p1 p2 p3 p4 p5 p6 q0 q1 q2 m0 m1 P0 P1 P2 P3 P4 P5 P6 S0 S1 S2 S3 S4 S5 S6 K3 K4 K1 B2 BB HWI HF HC HL
          have S9 := hide MF.out.drew.s
          clear MF a0 a1 a2 a3 a4 a5 a6 v0 v1 v2
          go_wp2
          refine meter_end (cs7 := [.string name, .int .u8 kind, .int .i64 aw, .int .i64 rate, .int .i64 burst, .slice ca1 n1 cc1, .slice (some ⟨g2, 0, none⟩) n2 lc1]) (V := 1) rfl (ar_one name kind aw rate burst (ca1, n1, cc1) (some ⟨g2, 0, none⟩, n2, lc1)) rfl rfl rfl rfl (by show 100 < 101; decide) S9.out e1 e2 e3 e4 ?_
          intro a' w9 hm h6 h7 t6 t7 t8 td
          have hq := HQ.out _ _ _ _ _ (owR_lower hm.o1 (by omega)) (owR_lower hm.o2 (by omega)) hm.bl
          have R6 := hide h6
          have R7 := hide h7
          have HQ2 := hide hq
          clear hq hm h6 h7 S9
          go_wp2
          exact bodyPost_ret (res_triple (cs := [.string name, .int .u8 kind, .int .i64 aw, .int .i64 rate, .int .i64 burst, .slice ca1 n1 cc1, .slice (some ⟨g2, 0, none⟩) n2 lc1]) (cs2 := [.int .i64 1, .int .u64 0, .int .u64 1]) (v := .int .i64 0) Tryz.results14 t6 t7 t8 agg33 sz33 R6.out aggNb szNb R7.out) (td.trans rfl) HQ2.out
        · have E0 : t = s := by rw [ht]; simp only [Int.min_def]; split <;> omega
          have g4' : (burst < s) = False := by simpa using g4
          by_cases g5 : 0 < s
          · have wu : IntKind.u64.wrap (s - 1) = s - 1 := by rw [IntKind.wrap_u64]; omega
            have B2 := hide ((BB.out.alloc BB.out.size (.cells #[.int .i64 64, .int .u64 0, .int .u64 (s - 1)] 29)).alloc (BB.out.alloc BB.out.size (.cells #[.int .i64 64, .int .u64 0, .int .u64 (s - 1)] 29)).size (.cells #[.int .i64 1, .int .u64 0, .int .u64 1] 29))
            have E1 : t - min t 1 = s - 1 := by rw [E0]; simp only [Int.min_def]; split <;> omega
            have E2 : min t 1 = 1 := by rw [E0]; simp only [Int.min_def]; split <;> omega
            have E3 : max l now = now := by simp only [Int.max_def]; split <;> omega
            rw [E1] at HWI
            rw [E2, E3] at HQ
            clear E1 E2 E3 E0 ht
            go_wp2_with fail
            refine (HWI.out _ B2.out).mono ?_
            rintro e w3 ⟨ca1, cc1, la1, lc1, rfl, ho1, ho2, hb⟩
            obtain ⟨g2, cg, hgs⟩ := owR_some ho2 (by have := HKL.out; omega)
            injection hgs with hg1 hg2 hg3
            subst hg1 hg3
            clear hg2
            have o1 := owR_lower (B' := w.heap.size + 4) ho1 (by have := HZ.out; simp; omega)
            have o2 := owR_lower (B' := w.heap.size + 4) ho2 (by have := HZ.out; simp; omega)
            have MF := hide (mf_of (k := k) #[.string name, .int .u8 kind, .int .i64 aw, .int .i64 rate, .int .i64 burst, .slice ca1 n1 cc1, .slice (some ⟨g2, 0, none⟩) n2 lc1] (.int .i64 now) (bstep B2.out hb) (heap_below hb (heap_past _ (heap_past _ K3.out))) (heap_below hb (heap_past _ (heap_past _ K4.out))) (heap_below hb (heap_snd w2 _ _ _)) o1 o2)
            have oa := owR_below o2 (below1 w3 (.cells #[.string name, .int .u8 kind, .int .i64 aw, .int .i64 rate, .int .i64 burst, .slice ca1 n1 cc1, .slice (some ⟨g2, 0, none⟩) n2 lc1] 26))
            have cl : (w3.alloc (.cells #[.string name, .int .u8 kind, .int .i64 aw, .int .i64 rate, .int .i64 burst, .slice ca1 n1 cc1, .slice (some ⟨g2, 0, none⟩) n2 lc1] 26)).cell? ⟨g2, k, none⟩ = some (LS[k]'(by rw [HLL.out]; exact HKL.out)) := by rw [World.ownsRow.cellAt oa k (by have := HKL.out; omega), List.getElem?_eq_getElem]
            have fl := World.ownsRow.frozenAt oa k
            generalize LS[k]'(by rw [HLL.out]; exact HKL.out) = lv at cl
            obtain ⟨a0, a1, a2, a3, a4, a5, a6⟩ := at7 MF.out.bo
            obtain ⟨v0, v1, v2, -⟩ := at3 MF.out.bv
            have hz3 : w2.heap.size + 2 ≤ w3.heap.size := by have := hb.size; simp at this; omega
            have e1 : ¬ (w2.heap.size + 1 = w.heap.size + 1 + 1) := by have := HZ.out; omega
            have e2 : ¬ (w2.heap.size + 1 = w.heap.size + 1 + 1 + 1) := by have := HZ.out; omega
            have e3 : ¬ (w3.heap.size = w.heap.size + 1 + 1) := by have := HZ.out; omega
            have e4 : ¬ (w3.heap.size = w.heap.size + 1 + 1 + 1) := by have := HZ.out; omega
            clear hz3 hb ho1 ho2 o1 o2 oa p0 p1 p2 p3 p4 p5 p6 q0 q1 q2 m0 m1 P0 P1 P2 P3 P4 P5 P6 S0 S1 S2 S3 S4 S5 S6 K3 K4 K1 B2 BB HWI HF HC HL
            have S9 := hide MF.out.drew.s
            clear MF a0 a1 a2 a3 a4 a5 a6 v0 v1 v2
            go_wp2
            refine meter_end (cs7 := [.string name, .int .u8 kind, .int .i64 aw, .int .i64 rate, .int .i64 burst, .slice ca1 n1 cc1, .slice (some ⟨g2, 0, none⟩) n2 lc1]) (V := 1) rfl (ar_one name kind aw rate burst (ca1, n1, cc1) (some ⟨g2, 0, none⟩, n2, lc1)) rfl rfl rfl rfl (by show 100 < 101; decide) S9.out e1 e2 e3 e4 ?_
            intro a' w9 hm h6 h7 t6 t7 t8 td
            have hq := HQ.out _ _ _ _ _ (owR_lower hm.o1 (by omega)) (owR_lower hm.o2 (by omega)) hm.bl
            have R6 := hide h6
            have R7 := hide h7
            have HQ2 := hide hq
            clear hq hm h6 h7 S9
            go_wp2
            exact bodyPost_ret (res_triple (cs := [.string name, .int .u8 kind, .int .i64 aw, .int .i64 rate, .int .i64 burst, .slice ca1 n1 cc1, .slice (some ⟨g2, 0, none⟩) n2 lc1]) (cs2 := [.int .i64 1, .int .u64 0, .int .u64 1]) (v := .int .i64 0) Tryz.results14 t6 t7 t8 agg33 sz33 R6.out aggNb szNb R7.out) (td.trans rfl) HQ2.out
          · have g5' : (0 < s) = False := by simpa using g5
            have B2 := hide ((BB.out.alloc BB.out.size (.cells #[.int .i64 64, .int .u64 0, .int .u64 (s)] 29)).alloc (BB.out.alloc BB.out.size (.cells #[.int .i64 64, .int .u64 0, .int .u64 (s)] 29)).size (.cells #[.int .i64 1, .int .u64 0, .int .u64 0] 29))
            have E1 : t - min t 1 = s := by rw [E0]; simp only [Int.min_def]; split <;> omega
            have E2 : min t 1 = 0 := by rw [E0]; simp only [Int.min_def]; split <;> omega
            have E3 : max l now = now := by simp only [Int.max_def]; split <;> omega
            rw [E1] at HWI
            rw [E2, E3] at HQ
            clear E1 E2 E3 E0 ht
            go_wp2_with fail
            refine (HWI.out _ B2.out).mono ?_
            rintro e w3 ⟨ca1, cc1, la1, lc1, rfl, ho1, ho2, hb⟩
            obtain ⟨g2, cg, hgs⟩ := owR_some ho2 (by have := HKL.out; omega)
            injection hgs with hg1 hg2 hg3
            subst hg1 hg3
            clear hg2
            have o1 := owR_lower (B' := w.heap.size + 4) ho1 (by have := HZ.out; simp; omega)
            have o2 := owR_lower (B' := w.heap.size + 4) ho2 (by have := HZ.out; simp; omega)
            have MF := hide (mf_of (k := k) #[.string name, .int .u8 kind, .int .i64 aw, .int .i64 rate, .int .i64 burst, .slice ca1 n1 cc1, .slice (some ⟨g2, 0, none⟩) n2 lc1] (.int .i64 now) (bstep B2.out hb) (heap_below hb (heap_past _ (heap_past _ K3.out))) (heap_below hb (heap_past _ (heap_past _ K4.out))) (heap_below hb (heap_snd w2 _ _ _)) o1 o2)
            have oa := owR_below o2 (below1 w3 (.cells #[.string name, .int .u8 kind, .int .i64 aw, .int .i64 rate, .int .i64 burst, .slice ca1 n1 cc1, .slice (some ⟨g2, 0, none⟩) n2 lc1] 26))
            have cl : (w3.alloc (.cells #[.string name, .int .u8 kind, .int .i64 aw, .int .i64 rate, .int .i64 burst, .slice ca1 n1 cc1, .slice (some ⟨g2, 0, none⟩) n2 lc1] 26)).cell? ⟨g2, k, none⟩ = some (LS[k]'(by rw [HLL.out]; exact HKL.out)) := by rw [World.ownsRow.cellAt oa k (by have := HKL.out; omega), List.getElem?_eq_getElem]
            have fl := World.ownsRow.frozenAt oa k
            generalize LS[k]'(by rw [HLL.out]; exact HKL.out) = lv at cl
            obtain ⟨a0, a1, a2, a3, a4, a5, a6⟩ := at7 MF.out.bo
            obtain ⟨v0, v1, v2, -⟩ := at3 MF.out.bv
            have hz3 : w2.heap.size + 2 ≤ w3.heap.size := by have := hb.size; simp at this; omega
            have e1 : ¬ (w2.heap.size + 1 = w.heap.size + 1 + 1) := by have := HZ.out; omega
            have e2 : ¬ (w2.heap.size + 1 = w.heap.size + 1 + 1 + 1) := by have := HZ.out; omega
            have e3 : ¬ (w3.heap.size = w.heap.size + 1 + 1) := by have := HZ.out; omega
            have e4 : ¬ (w3.heap.size = w.heap.size + 1 + 1 + 1) := by have := HZ.out; omega
            clear hz3 hb ho1 ho2 o1 o2 oa p0 p1 p2 p3 p4 p5 p6 q0 q1 q2 m0 m1 P0 P1 P2 P3 P4 P5 P6 S0 S1 S2 S3 S4 S5 S6 K3 K4 K1 B2 BB HWI HF HC HL
            have S9 := hide MF.out.drew.s
            clear MF a0 a1 a2 a3 a4 a5 a6 v0 v1 v2
            go_wp2
            refine meter_end (cs7 := [.string name, .int .u8 kind, .int .i64 aw, .int .i64 rate, .int .i64 burst, .slice ca1 n1 cc1, .slice (some ⟨g2, 0, none⟩) n2 lc1]) (V := 0) rfl (ar_one name kind aw rate burst (ca1, n1, cc1) (some ⟨g2, 0, none⟩, n2, lc1)) rfl rfl rfl rfl (by show 100 < 101; decide) S9.out e1 e2 e3 e4 ?_
            intro a' w9 hm h6 h7 t6 t7 t8 td
            have hq := HQ.out _ _ _ _ _ (owR_lower hm.o1 (by omega)) (owR_lower hm.o2 (by omega)) hm.bl
            have R6 := hide h6
            have R7 := hide h7
            have HQ2 := hide hq
            clear hq hm h6 h7 S9
            go_wp2
            exact bodyPost_ret (res_triple (cs := [.string name, .int .u8 kind, .int .i64 aw, .int .i64 rate, .int .i64 burst, .slice ca1 n1 cc1, .slice (some ⟨g2, 0, none⟩) n2 lc1]) (cs2 := [.int .i64 1, .int .u64 0, .int .u64 0]) (v := .int .i64 0) Tryz.results14 t6 t7 t8 agg33 sz33 R6.out aggNb szNb R7.out) (td.trans rfl) HQ2.out
      · have E0 : t = u := by rw [ht, show rate = 0 by omega, Int.mul_zero]; simp only [Int.min_def]; split <;> omega
        have g3' : (0 < rate) = False := by simpa using g3
        have g4' : (burst < u) = False := by simp; omega
        by_cases g5 : 0 < u
        · have wu : IntKind.u64.wrap (u - 1) = u - 1 := by rw [IntKind.wrap_u64]; omega
          have B2 := hide ((BB.out.alloc BB.out.size (.cells #[.int .i64 64, .int .u64 0, .int .u64 (u - 1)] 29)).alloc (BB.out.alloc BB.out.size (.cells #[.int .i64 64, .int .u64 0, .int .u64 (u - 1)] 29)).size (.cells #[.int .i64 1, .int .u64 0, .int .u64 1] 29))
          have E1 : t - min t 1 = u - 1 := by rw [E0]; simp only [Int.min_def]; split <;> omega
          have E2 : min t 1 = 1 := by rw [E0]; simp only [Int.min_def]; split <;> omega
          have E3 : max l now = now := by simp only [Int.max_def]; split <;> omega
          rw [E1] at HWI
          rw [E2, E3] at HQ
          clear E1 E2 E3 E0 ht
          go_wp2_with fail
          refine (HWI.out _ B2.out).mono ?_
          rintro e w3 ⟨ca1, cc1, la1, lc1, rfl, ho1, ho2, hb⟩
          obtain ⟨g2, cg, hgs⟩ := owR_some ho2 (by have := HKL.out; omega)
          injection hgs with hg1 hg2 hg3
          subst hg1 hg3
          clear hg2
          have o1 := owR_lower (B' := w.heap.size + 4) ho1 (by have := HZ.out; simp; omega)
          have o2 := owR_lower (B' := w.heap.size + 4) ho2 (by have := HZ.out; simp; omega)
          have MF := hide (mf_of (k := k) #[.string name, .int .u8 kind, .int .i64 aw, .int .i64 rate, .int .i64 burst, .slice ca1 n1 cc1, .slice (some ⟨g2, 0, none⟩) n2 lc1] (.int .i64 now) (bstep B2.out hb) (heap_below hb (heap_past _ (heap_past _ K3.out))) (heap_below hb (heap_past _ (heap_past _ K4.out))) (heap_below hb (heap_snd w2 _ _ _)) o1 o2)
          have oa := owR_below o2 (below1 w3 (.cells #[.string name, .int .u8 kind, .int .i64 aw, .int .i64 rate, .int .i64 burst, .slice ca1 n1 cc1, .slice (some ⟨g2, 0, none⟩) n2 lc1] 26))
          have cl : (w3.alloc (.cells #[.string name, .int .u8 kind, .int .i64 aw, .int .i64 rate, .int .i64 burst, .slice ca1 n1 cc1, .slice (some ⟨g2, 0, none⟩) n2 lc1] 26)).cell? ⟨g2, k, none⟩ = some (LS[k]'(by rw [HLL.out]; exact HKL.out)) := by rw [World.ownsRow.cellAt oa k (by have := HKL.out; omega), List.getElem?_eq_getElem]
          have fl := World.ownsRow.frozenAt oa k
          generalize LS[k]'(by rw [HLL.out]; exact HKL.out) = lv at cl
          obtain ⟨a0, a1, a2, a3, a4, a5, a6⟩ := at7 MF.out.bo
          obtain ⟨v0, v1, v2, -⟩ := at3 MF.out.bv
          have hz3 : w2.heap.size + 2 ≤ w3.heap.size := by have := hb.size; simp at this; omega
          have e1 : ¬ (w2.heap.size + 1 = w.heap.size + 1 + 1) := by have := HZ.out; omega
          have e2 : ¬ (w2.heap.size + 1 = w.heap.size + 1 + 1 + 1) := by have := HZ.out; omega
          have e3 : ¬ (w3.heap.size = w.heap.size + 1 + 1) := by have := HZ.out; omega
          have e4 : ¬ (w3.heap.size = w.heap.size + 1 + 1 + 1) := by have := HZ.out; omega
          clear hz3 hb ho1 ho2 o1 o2 oa p0 p1 p2 p3 p4 p5 p6 q0 q1 q2 m0 m1 P0 P1 P2 P3 P4 P5 P6 S0 S1 S2 S3 S4 S5 S6 K3 K4 K1 B2 BB HWI HF HC HL
          have S9 := hide MF.out.drew.s
          clear MF a0 a1 a2 a3 a4 a5 a6 v0 v1 v2
          go_wp2
          refine meter_end (cs7 := [.string name, .int .u8 kind, .int .i64 aw, .int .i64 rate, .int .i64 burst, .slice ca1 n1 cc1, .slice (some ⟨g2, 0, none⟩) n2 lc1]) (V := 1) rfl (ar_one name kind aw rate burst (ca1, n1, cc1) (some ⟨g2, 0, none⟩, n2, lc1)) rfl rfl rfl rfl (by show 100 < 101; decide) S9.out e1 e2 e3 e4 ?_
          intro a' w9 hm h6 h7 t6 t7 t8 td
          have hq := HQ.out _ _ _ _ _ (owR_lower hm.o1 (by omega)) (owR_lower hm.o2 (by omega)) hm.bl
          have R6 := hide h6
          have R7 := hide h7
          have HQ2 := hide hq
          clear hq hm h6 h7 S9
          go_wp2
          exact bodyPost_ret (res_triple (cs := [.string name, .int .u8 kind, .int .i64 aw, .int .i64 rate, .int .i64 burst, .slice ca1 n1 cc1, .slice (some ⟨g2, 0, none⟩) n2 lc1]) (cs2 := [.int .i64 1, .int .u64 0, .int .u64 1]) (v := .int .i64 0) Tryz.results14 t6 t7 t8 agg33 sz33 R6.out aggNb szNb R7.out) (td.trans rfl) HQ2.out
        · have g5' : (0 < u) = False := by simpa using g5
          have B2 := hide ((BB.out.alloc BB.out.size (.cells #[.int .i64 64, .int .u64 0, .int .u64 (u)] 29)).alloc (BB.out.alloc BB.out.size (.cells #[.int .i64 64, .int .u64 0, .int .u64 (u)] 29)).size (.cells #[.int .i64 1, .int .u64 0, .int .u64 0] 29))
          have E1 : t - min t 1 = u := by rw [E0]; simp only [Int.min_def]; split <;> omega
          have E2 : min t 1 = 0 := by rw [E0]; simp only [Int.min_def]; split <;> omega
          have E3 : max l now = now := by simp only [Int.max_def]; split <;> omega
          rw [E1] at HWI
          rw [E2, E3] at HQ
          clear E1 E2 E3 E0 ht
          go_wp2_with fail
          refine (HWI.out _ B2.out).mono ?_
          rintro e w3 ⟨ca1, cc1, la1, lc1, rfl, ho1, ho2, hb⟩
          obtain ⟨g2, cg, hgs⟩ := owR_some ho2 (by have := HKL.out; omega)
          injection hgs with hg1 hg2 hg3
          subst hg1 hg3
          clear hg2
          have o1 := owR_lower (B' := w.heap.size + 4) ho1 (by have := HZ.out; simp; omega)
          have o2 := owR_lower (B' := w.heap.size + 4) ho2 (by have := HZ.out; simp; omega)
          have MF := hide (mf_of (k := k) #[.string name, .int .u8 kind, .int .i64 aw, .int .i64 rate, .int .i64 burst, .slice ca1 n1 cc1, .slice (some ⟨g2, 0, none⟩) n2 lc1] (.int .i64 now) (bstep B2.out hb) (heap_below hb (heap_past _ (heap_past _ K3.out))) (heap_below hb (heap_past _ (heap_past _ K4.out))) (heap_below hb (heap_snd w2 _ _ _)) o1 o2)
          have oa := owR_below o2 (below1 w3 (.cells #[.string name, .int .u8 kind, .int .i64 aw, .int .i64 rate, .int .i64 burst, .slice ca1 n1 cc1, .slice (some ⟨g2, 0, none⟩) n2 lc1] 26))
          have cl : (w3.alloc (.cells #[.string name, .int .u8 kind, .int .i64 aw, .int .i64 rate, .int .i64 burst, .slice ca1 n1 cc1, .slice (some ⟨g2, 0, none⟩) n2 lc1] 26)).cell? ⟨g2, k, none⟩ = some (LS[k]'(by rw [HLL.out]; exact HKL.out)) := by rw [World.ownsRow.cellAt oa k (by have := HKL.out; omega), List.getElem?_eq_getElem]
          have fl := World.ownsRow.frozenAt oa k
          generalize LS[k]'(by rw [HLL.out]; exact HKL.out) = lv at cl
          obtain ⟨a0, a1, a2, a3, a4, a5, a6⟩ := at7 MF.out.bo
          obtain ⟨v0, v1, v2, -⟩ := at3 MF.out.bv
          have hz3 : w2.heap.size + 2 ≤ w3.heap.size := by have := hb.size; simp at this; omega
          have e1 : ¬ (w2.heap.size + 1 = w.heap.size + 1 + 1) := by have := HZ.out; omega
          have e2 : ¬ (w2.heap.size + 1 = w.heap.size + 1 + 1 + 1) := by have := HZ.out; omega
          have e3 : ¬ (w3.heap.size = w.heap.size + 1 + 1) := by have := HZ.out; omega
          have e4 : ¬ (w3.heap.size = w.heap.size + 1 + 1 + 1) := by have := HZ.out; omega
          clear hz3 hb ho1 ho2 o1 o2 oa p0 p1 p2 p3 p4 p5 p6 q0 q1 q2 m0 m1 P0 P1 P2 P3 P4 P5 P6 S0 S1 S2 S3 S4 S5 S6 K3 K4 K1 B2 BB HWI HF HC HL
          have S9 := hide MF.out.drew.s
          clear MF a0 a1 a2 a3 a4 a5 a6 v0 v1 v2
          go_wp2
          refine meter_end (cs7 := [.string name, .int .u8 kind, .int .i64 aw, .int .i64 rate, .int .i64 burst, .slice ca1 n1 cc1, .slice (some ⟨g2, 0, none⟩) n2 lc1]) (V := 0) rfl (ar_one name kind aw rate burst (ca1, n1, cc1) (some ⟨g2, 0, none⟩, n2, lc1)) rfl rfl rfl rfl (by show 100 < 101; decide) S9.out e1 e2 e3 e4 ?_
          intro a' w9 hm h6 h7 t6 t7 t8 td
          have hq := HQ.out _ _ _ _ _ (owR_lower hm.o1 (by omega)) (owR_lower hm.o2 (by omega)) hm.bl
          have R6 := hide h6
          have R7 := hide h7
          have HQ2 := hide hq
          clear hq hm h6 h7 S9
          go_wp2
          exact bodyPost_ret (res_triple (cs := [.string name, .int .u8 kind, .int .i64 aw, .int .i64 rate, .int .i64 burst, .slice ca1 n1 cc1, .slice (some ⟨g2, 0, none⟩) n2 lc1]) (cs2 := [.int .i64 1, .int .u64 0, .int .u64 0]) (v := .int .i64 0) Tryz.results14 t6 t7 t8 agg33 sz33 R6.out aggNb szNb R7.out) (td.trans rfl) HQ2.out
    · have hmin : min (max (now - l) 0) burst = (now - l) := by simp only [Int.min_def, Int.max_def]; split <;> (try split) <;> omega
      have g2' : (burst < now - l) = False := by simpa using g2
      rw [hmin] at ht
      clear hmin
      by_cases g3 : 0 < rate
      · have wn : IntKind.u64.wrap (now - l) = (now - l) := by rw [IntKind.wrap_u64]; omega
        have hp0 : 0 ≤ (now - l) * rate := Int.mul_nonneg (by omega) (by omega)
        have hp1 : (now - l) * rate ≤ 65535 * 65535 := Int.mul_le_mul (by omega) (by omega) (by omega) (by omega)
        obtain ⟨pr, hpr⟩ : ∃ pr, pr = (now - l) * rate := ⟨_, rfl⟩
        rw [← hpr] at ht hp0 hp1
        have wp : IntKind.u64.wrap ((now - l) * rate) = pr := by rw [← hpr, IntKind.wrap_u64]; omega
        obtain ⟨s, hs⟩ : ∃ s, s = u + pr := ⟨_, rfl⟩
        have wq : IntKind.u64.wrap (u + pr) = s := by rw [IntKind.wrap_u64]; omega
        rw [← hs] at ht
        have hs0 : 0 ≤ s := by omega
        have hs1 : s < 18446744073709551616 := by omega
        clear hpr hs hp0 hp1
        by_cases g4 : burst < s
        · have E0 : t = burst := by rw [ht]; simp only [Int.min_def]; split <;> omega
          have wu : IntKind.u64.wrap (burst - 1) = burst - 1 := by rw [IntKind.wrap_u64]; omega
          have g5 : 0 < burst := by omega
          have B2 := hide ((BB.out.alloc BB.out.size (.cells #[.int .i64 64, .int .u64 0, .int .u64 (burst - 1)] 29)).alloc (BB.out.alloc BB.out.size (.cells #[.int .i64 64, .int .u64 0, .int .u64 (burst - 1)] 29)).size (.cells #[.int .i64 1, .int .u64 0, .int .u64 1] 29))
          have E1 : t - min t 1 = burst - 1 := by rw [E0]; simp only [Int.min_def]; split <;> omega
          have E2 : min t 1 = 1 := by rw [E0]; simp only [Int.min_def]; split <;> omega
          have E3 : max l now = now := by simp only [Int.max_def]; split <;> omega
          rw [E1] at HWI
          rw [E2, E3] at HQ
          clear E1 E2 E3 E0 ht
          go_wp2_with fail
          refine (HWI.out _ B2.out).mono ?_
          rintro e w3 ⟨ca1, cc1, la1, lc1, rfl, ho1, ho2, hb⟩
          obtain ⟨g2, cg, hgs⟩ := owR_some ho2 (by have := HKL.out; omega)
          injection hgs with hg1 hg2 hg3
          subst hg1 hg3
          clear hg2
          have o1 := owR_lower (B' := w.heap.size + 4) ho1 (by have := HZ.out; simp; omega)
          have o2 := owR_lower (B' := w.heap.size + 4) ho2 (by have := HZ.out; simp; omega)
          have MF := hide (mf_of (k := k) #[.string name, .int .u8 kind, .int .i64 aw, .int .i64 rate, .int .i64 burst, .slice ca1 n1 cc1, .slice (some ⟨g2, 0, none⟩) n2 lc1] (.int .i64 now) (bstep B2.out hb) (heap_below hb (heap_past _ (heap_past _ K3.out))) (heap_below hb (heap_past _ (heap_past _ K4.out))) (heap_below hb (heap_snd w2 _ _ _)) o1 o2)
          have oa := owR_below o2 (below1 w3 (.cells #[.string name, .int .u8 kind, .int .i64 aw, .int .i64 rate, .int .i64 burst, .slice ca1 n1 cc1, .slice (some ⟨g2, 0, none⟩) n2 lc1] 26))
          have cl : (w3.alloc (.cells #[.string name, .int .u8 kind, .int .i64 aw, .int .i64 rate, .int .i64 burst, .slice ca1 n1 cc1, .slice (some ⟨g2, 0, none⟩) n2 lc1] 26)).cell? ⟨g2, k, none⟩ = some (LS[k]'(by rw [HLL.out]; exact HKL.out)) := by rw [World.ownsRow.cellAt oa k (by have := HKL.out; omega), List.getElem?_eq_getElem]
          have fl := World.ownsRow.frozenAt oa k
          generalize LS[k]'(by rw [HLL.out]; exact HKL.out) = lv at cl
          obtain ⟨a0, a1, a2, a3, a4, a5, a6⟩ := at7 MF.out.bo
          obtain ⟨v0, v1, v2, -⟩ := at3 MF.out.bv
          have hz3 : w2.heap.size + 2 ≤ w3.heap.size := by have := hb.size; simp at this; omega
          have e1 : ¬ (w2.heap.size + 1 = w.heap.size + 1 + 1) := by have := HZ.out; omega
          have e2 : ¬ (w2.heap.size + 1 = w.heap.size + 1 + 1 + 1) := by have := HZ.out; omega
          have e3 : ¬ (w3.heap.size = w.heap.size + 1 + 1) := by have := HZ.out; omega
          have e4 : ¬ (w3.heap.size = w.heap.size + 1 + 1 + 1) := by have := HZ.out; omega
          clear hz3 hb ho1 ho2 o1 o2 oa p0 p1 p2 p3 p4 p5 p6 q0 q1 q2 m0 m1 P0 P1 P2 P3 P4 P5 P6 S0 S1 S2 S3 S4 S5 S6 K3 K4 K1 B2 BB HWI HF HC HL
          have S9 := hide MF.out.drew.s
          clear MF a0 a1 a2 a3 a4 a5 a6 v0 v1 v2
          go_wp2
          refine meter_end (cs7 := [.string name, .int .u8 kind, .int .i64 aw, .int .i64 rate, .int .i64 burst, .slice ca1 n1 cc1, .slice (some ⟨g2, 0, none⟩) n2 lc1]) (V := 1) rfl (ar_one name kind aw rate burst (ca1, n1, cc1) (some ⟨g2, 0, none⟩, n2, lc1)) rfl rfl rfl rfl (by show 100 < 101; decide) S9.out e1 e2 e3 e4 ?_
          intro a' w9 hm h6 h7 t6 t7 t8 td
          have hq := HQ.out _ _ _ _ _ (owR_lower hm.o1 (by omega)) (owR_lower hm.o2 (by omega)) hm.bl
          have R6 := hide h6
          have R7 := hide h7
          have HQ2 := hide hq
          clear hq hm h6 h7 S9
          go_wp2
          exact bodyPost_ret (res_triple (cs := [.string name, .int .u8 kind, .int .i64 aw, .int .i64 rate, .int .i64 burst, .slice ca1 n1 cc1, .slice (some ⟨g2, 0, none⟩) n2 lc1]) (cs2 := [.int .i64 1, .int .u64 0, .int .u64 1]) (v := .int .i64 0) Tryz.results14 t6 t7 t8 agg33 sz33 R6.out aggNb szNb R7.out) (td.trans rfl) HQ2.out
        · have E0 : t = s := by rw [ht]; simp only [Int.min_def]; split <;> omega
          have g4' : (burst < s) = False := by simpa using g4
          by_cases g5 : 0 < s
          · have wu : IntKind.u64.wrap (s - 1) = s - 1 := by rw [IntKind.wrap_u64]; omega
            have B2 := hide ((BB.out.alloc BB.out.size (.cells #[.int .i64 64, .int .u64 0, .int .u64 (s - 1)] 29)).alloc (BB.out.alloc BB.out.size (.cells #[.int .i64 64, .int .u64 0, .int .u64 (s - 1)] 29)).size (.cells #[.int .i64 1, .int .u64 0, .int .u64 1] 29))
            have E1 : t - min t 1 = s - 1 := by rw [E0]; simp only [Int.min_def]; split <;> omega
            have E2 : min t 1 = 1 := by rw [E0]; simp only [Int.min_def]; split <;> omega
            have E3 : max l now = now := by simp only [Int.max_def]; split <;> omega
            rw [E1] at HWI
            rw [E2, E3] at HQ
            clear E1 E2 E3 E0 ht
            go_wp2_with fail
            refine (HWI.out _ B2.out).mono ?_
            rintro e w3 ⟨ca1, cc1, la1, lc1, rfl, ho1, ho2, hb⟩
            obtain ⟨g2, cg, hgs⟩ := owR_some ho2 (by have := HKL.out; omega)
            injection hgs with hg1 hg2 hg3
            subst hg1 hg3
            clear hg2
            have o1 := owR_lower (B' := w.heap.size + 4) ho1 (by have := HZ.out; simp; omega)
            have o2 := owR_lower (B' := w.heap.size + 4) ho2 (by have := HZ.out; simp; omega)
            have MF := hide (mf_of (k := k) #[.string name, .int .u8 kind, .int .i64 aw, .int .i64 rate, .int .i64 burst, .slice ca1 n1 cc1, .slice (some ⟨g2, 0, none⟩) n2 lc1] (.int .i64 now) (bstep B2.out hb) (heap_below hb (heap_past _ (heap_past _ K3.out))) (heap_below hb (heap_past _ (heap_past _ K4.out))) (heap_below hb (heap_snd w2 _ _ _)) o1 o2)
            have oa := owR_below o2 (below1 w3 (.cells #[.string name, .int .u8 kind, .int .i64 aw, .int .i64 rate, .int .i64 burst, .slice ca1 n1 cc1, .slice (some ⟨g2, 0, none⟩) n2 lc1] 26))
            have cl : (w3.alloc (.cells #[.string name, .int .u8 kind, .int .i64 aw, .int .i64 rate, .int .i64 burst, .slice ca1 n1 cc1, .slice (some ⟨g2, 0, none⟩) n2 lc1] 26)).cell? ⟨g2, k, none⟩ = some (LS[k]'(by rw [HLL.out]; exact HKL.out)) := by rw [World.ownsRow.cellAt oa k (by have := HKL.out; omega), List.getElem?_eq_getElem]
            have fl := World.ownsRow.frozenAt oa k
            generalize LS[k]'(by rw [HLL.out]; exact HKL.out) = lv at cl
            obtain ⟨a0, a1, a2, a3, a4, a5, a6⟩ := at7 MF.out.bo
            obtain ⟨v0, v1, v2, -⟩ := at3 MF.out.bv
            have hz3 : w2.heap.size + 2 ≤ w3.heap.size := by have := hb.size; simp at this; omega
            have e1 : ¬ (w2.heap.size + 1 = w.heap.size + 1 + 1) := by have := HZ.out; omega
            have e2 : ¬ (w2.heap.size + 1 = w.heap.size + 1 + 1 + 1) := by have := HZ.out; omega
            have e3 : ¬ (w3.heap.size = w.heap.size + 1 + 1) := by have := HZ.out; omega
            have e4 : ¬ (w3.heap.size = w.heap.size + 1 + 1 + 1) := by have := HZ.out; omega
            clear hz3 hb ho1 ho2 o1 o2 oa p0 p1 p2 p3 p4 p5 p6 q0 q1 q2 m0 m1 P0 P1 P2 P3 P4 P5 P6 S0 S1 S2 S3 S4 S5 S6 K3 K4 K1 B2 BB HWI HF HC HL
            have S9 := hide MF.out.drew.s
            clear MF a0 a1 a2 a3 a4 a5 a6 v0 v1 v2
            go_wp2
            refine meter_end (cs7 := [.string name, .int .u8 kind, .int .i64 aw, .int .i64 rate, .int .i64 burst, .slice ca1 n1 cc1, .slice (some ⟨g2, 0, none⟩) n2 lc1]) (V := 1) rfl (ar_one name kind aw rate burst (ca1, n1, cc1) (some ⟨g2, 0, none⟩, n2, lc1)) rfl rfl rfl rfl (by show 100 < 101; decide) S9.out e1 e2 e3 e4 ?_
            intro a' w9 hm h6 h7 t6 t7 t8 td
            have hq := HQ.out _ _ _ _ _ (owR_lower hm.o1 (by omega)) (owR_lower hm.o2 (by omega)) hm.bl
            have R6 := hide h6
            have R7 := hide h7
            have HQ2 := hide hq
            clear hq hm h6 h7 S9
            go_wp2
            exact bodyPost_ret (res_triple (cs := [.string name, .int .u8 kind, .int .i64 aw, .int .i64 rate, .int .i64 burst, .slice ca1 n1 cc1, .slice (some ⟨g2, 0, none⟩) n2 lc1]) (cs2 := [.int .i64 1, .int .u64 0, .int .u64 1]) (v := .int .i64 0) Tryz.results14 t6 t7 t8 agg33 sz33 R6.out aggNb szNb R7.out) (td.trans rfl) HQ2.out
          · have g5' : (0 < s) = False := by simpa using g5
            have B2 := hide ((BB.out.alloc BB.out.size (.cells #[.int .i64 64, .int .u64 0, .int .u64 (s)] 29)).alloc (BB.out.alloc BB.out.size (.cells #[.int .i64 64, .int .u64 0, .int .u64 (s)] 29)).size (.cells #[.int .i64 1, .int .u64 0, .int .u64 0] 29))
            have E1 : t - min t 1 = s := by rw [E0]; simp only [Int.min_def]; split <;> omega
            have E2 : min t 1 = 0 := by rw [E0]; simp only [Int.min_def]; split <;> omega
            have E3 : max l now = now := by simp only [Int.max_def]; split <;> omega
            rw [E1] at HWI
            rw [E2, E3] at HQ
            clear E1 E2 E3 E0 ht
            go_wp2_with fail
            refine (HWI.out _ B2.out).mono ?_
            rintro e w3 ⟨ca1, cc1, la1, lc1, rfl, ho1, ho2, hb⟩
            obtain ⟨g2, cg, hgs⟩ := owR_some ho2 (by have := HKL.out; omega)
            injection hgs with hg1 hg2 hg3
            subst hg1 hg3
            clear hg2
            have o1 := owR_lower (B' := w.heap.size + 4) ho1 (by have := HZ.out; simp; omega)
            have o2 := owR_lower (B' := w.heap.size + 4) ho2 (by have := HZ.out; simp; omega)
            have MF := hide (mf_of (k := k) #[.string name, .int .u8 kind, .int .i64 aw, .int .i64 rate, .int .i64 burst, .slice ca1 n1 cc1, .slice (some ⟨g2, 0, none⟩) n2 lc1] (.int .i64 now) (bstep B2.out hb) (heap_below hb (heap_past _ (heap_past _ K3.out))) (heap_below hb (heap_past _ (heap_past _ K4.out))) (heap_below hb (heap_snd w2 _ _ _)) o1 o2)
            have oa := owR_below o2 (below1 w3 (.cells #[.string name, .int .u8 kind, .int .i64 aw, .int .i64 rate, .int .i64 burst, .slice ca1 n1 cc1, .slice (some ⟨g2, 0, none⟩) n2 lc1] 26))
            have cl : (w3.alloc (.cells #[.string name, .int .u8 kind, .int .i64 aw, .int .i64 rate, .int .i64 burst, .slice ca1 n1 cc1, .slice (some ⟨g2, 0, none⟩) n2 lc1] 26)).cell? ⟨g2, k, none⟩ = some (LS[k]'(by rw [HLL.out]; exact HKL.out)) := by rw [World.ownsRow.cellAt oa k (by have := HKL.out; omega), List.getElem?_eq_getElem]
            have fl := World.ownsRow.frozenAt oa k
            generalize LS[k]'(by rw [HLL.out]; exact HKL.out) = lv at cl
            obtain ⟨a0, a1, a2, a3, a4, a5, a6⟩ := at7 MF.out.bo
            obtain ⟨v0, v1, v2, -⟩ := at3 MF.out.bv
            have hz3 : w2.heap.size + 2 ≤ w3.heap.size := by have := hb.size; simp at this; omega
            have e1 : ¬ (w2.heap.size + 1 = w.heap.size + 1 + 1) := by have := HZ.out; omega
            have e2 : ¬ (w2.heap.size + 1 = w.heap.size + 1 + 1 + 1) := by have := HZ.out; omega
            have e3 : ¬ (w3.heap.size = w.heap.size + 1 + 1) := by have := HZ.out; omega
            have e4 : ¬ (w3.heap.size = w.heap.size + 1 + 1 + 1) := by have := HZ.out; omega
            clear hz3 hb ho1 ho2 o1 o2 oa p0 p1 p2 p3 p4 p5 p6 q0 q1 q2 m0 m1 P0 P1 P2 P3 P4 P5 P6 S0 S1 S2 S3 S4 S5 S6 K3 K4 K1 B2 BB HWI HF HC HL
            have S9 := hide MF.out.drew.s
            clear MF a0 a1 a2 a3 a4 a5 a6 v0 v1 v2
            go_wp2
            refine meter_end (cs7 := [.string name, .int .u8 kind, .int .i64 aw, .int .i64 rate, .int .i64 burst, .slice ca1 n1 cc1, .slice (some ⟨g2, 0, none⟩) n2 lc1]) (V := 0) rfl (ar_one name kind aw rate burst (ca1, n1, cc1) (some ⟨g2, 0, none⟩, n2, lc1)) rfl rfl rfl rfl (by show 100 < 101; decide) S9.out e1 e2 e3 e4 ?_
            intro a' w9 hm h6 h7 t6 t7 t8 td
            have hq := HQ.out _ _ _ _ _ (owR_lower hm.o1 (by omega)) (owR_lower hm.o2 (by omega)) hm.bl
            have R6 := hide h6
            have R7 := hide h7
            have HQ2 := hide hq
            clear hq hm h6 h7 S9
            go_wp2
            exact bodyPost_ret (res_triple (cs := [.string name, .int .u8 kind, .int .i64 aw, .int .i64 rate, .int .i64 burst, .slice ca1 n1 cc1, .slice (some ⟨g2, 0, none⟩) n2 lc1]) (cs2 := [.int .i64 1, .int .u64 0, .int .u64 0]) (v := .int .i64 0) Tryz.results14 t6 t7 t8 agg33 sz33 R6.out aggNb szNb R7.out) (td.trans rfl) HQ2.out
      · have E0 : t = u := by rw [ht, show rate = 0 by omega, Int.mul_zero]; simp only [Int.min_def]; split <;> omega
        have g3' : (0 < rate) = False := by simpa using g3
        have g4' : (burst < u) = False := by simp; omega
        by_cases g5 : 0 < u
        · have wu : IntKind.u64.wrap (u - 1) = u - 1 := by rw [IntKind.wrap_u64]; omega
          have B2 := hide ((BB.out.alloc BB.out.size (.cells #[.int .i64 64, .int .u64 0, .int .u64 (u - 1)] 29)).alloc (BB.out.alloc BB.out.size (.cells #[.int .i64 64, .int .u64 0, .int .u64 (u - 1)] 29)).size (.cells #[.int .i64 1, .int .u64 0, .int .u64 1] 29))
          have E1 : t - min t 1 = u - 1 := by rw [E0]; simp only [Int.min_def]; split <;> omega
          have E2 : min t 1 = 1 := by rw [E0]; simp only [Int.min_def]; split <;> omega
          have E3 : max l now = now := by simp only [Int.max_def]; split <;> omega
          rw [E1] at HWI
          rw [E2, E3] at HQ
          clear E1 E2 E3 E0 ht
          go_wp2_with fail
          refine (HWI.out _ B2.out).mono ?_
          rintro e w3 ⟨ca1, cc1, la1, lc1, rfl, ho1, ho2, hb⟩
          obtain ⟨g2, cg, hgs⟩ := owR_some ho2 (by have := HKL.out; omega)
          injection hgs with hg1 hg2 hg3
          subst hg1 hg3
          clear hg2
          have o1 := owR_lower (B' := w.heap.size + 4) ho1 (by have := HZ.out; simp; omega)
          have o2 := owR_lower (B' := w.heap.size + 4) ho2 (by have := HZ.out; simp; omega)
          have MF := hide (mf_of (k := k) #[.string name, .int .u8 kind, .int .i64 aw, .int .i64 rate, .int .i64 burst, .slice ca1 n1 cc1, .slice (some ⟨g2, 0, none⟩) n2 lc1] (.int .i64 now) (bstep B2.out hb) (heap_below hb (heap_past _ (heap_past _ K3.out))) (heap_below hb (heap_past _ (heap_past _ K4.out))) (heap_below hb (heap_snd w2 _ _ _)) o1 o2)
          have oa := owR_below o2 (below1 w3 (.cells #[.string name, .int .u8 kind, .int .i64 aw, .int .i64 rate, .int .i64 burst, .slice ca1 n1 cc1, .slice (some ⟨g2, 0, none⟩) n2 lc1] 26))
          have cl : (w3.alloc (.cells #[.string name, .int .u8 kind, .int .i64 aw, .int .i64 rate, .int .i64 burst, .slice ca1 n1 cc1, .slice (some ⟨g2, 0, none⟩) n2 lc1] 26)).cell? ⟨g2, k, none⟩ = some (LS[k]'(by rw [HLL.out]; exact HKL.out)) := by rw [World.ownsRow.cellAt oa k (by have := HKL.out; omega), List.getElem?_eq_getElem]
          have fl := World.ownsRow.frozenAt oa k
          generalize LS[k]'(by rw [HLL.out]; exact HKL.out) = lv at cl
          obtain ⟨a0, a1, a2, a3, a4, a5, a6⟩ := at7 MF.out.bo
          obtain ⟨v0, v1, v2, -⟩ := at3 MF.out.bv
          have hz3 : w2.heap.size + 2 ≤ w3.heap.size := by have := hb.size; simp at this; omega
          have e1 : ¬ (w2.heap.size + 1 = w.heap.size + 1 + 1) := by have := HZ.out; omega
          have e2 : ¬ (w2.heap.size + 1 = w.heap.size + 1 + 1 + 1) := by have := HZ.out; omega
          have e3 : ¬ (w3.heap.size = w.heap.size + 1 + 1) := by have := HZ.out; omega
          have e4 : ¬ (w3.heap.size = w.heap.size + 1 + 1 + 1) := by have := HZ.out; omega
          clear hz3 hb ho1 ho2 o1 o2 oa p0 p1 p2 p3 p4 p5 p6 q0 q1 q2 m0 m1 P0 P1 P2 P3 P4 P5 P6 S0 S1 S2 S3 S4 S5 S6 K3 K4 K1 B2 BB HWI HF HC HL
          have S9 := hide MF.out.drew.s
          clear MF a0 a1 a2 a3 a4 a5 a6 v0 v1 v2
          go_wp2
          refine meter_end (cs7 := [.string name, .int .u8 kind, .int .i64 aw, .int .i64 rate, .int .i64 burst, .slice ca1 n1 cc1, .slice (some ⟨g2, 0, none⟩) n2 lc1]) (V := 1) rfl (ar_one name kind aw rate burst (ca1, n1, cc1) (some ⟨g2, 0, none⟩, n2, lc1)) rfl rfl rfl rfl (by show 100 < 101; decide) S9.out e1 e2 e3 e4 ?_
          intro a' w9 hm h6 h7 t6 t7 t8 td
          have hq := HQ.out _ _ _ _ _ (owR_lower hm.o1 (by omega)) (owR_lower hm.o2 (by omega)) hm.bl
          have R6 := hide h6
          have R7 := hide h7
          have HQ2 := hide hq
          clear hq hm h6 h7 S9
          go_wp2
          exact bodyPost_ret (res_triple (cs := [.string name, .int .u8 kind, .int .i64 aw, .int .i64 rate, .int .i64 burst, .slice ca1 n1 cc1, .slice (some ⟨g2, 0, none⟩) n2 lc1]) (cs2 := [.int .i64 1, .int .u64 0, .int .u64 1]) (v := .int .i64 0) Tryz.results14 t6 t7 t8 agg33 sz33 R6.out aggNb szNb R7.out) (td.trans rfl) HQ2.out
        · have g5' : (0 < u) = False := by simpa using g5
          have B2 := hide ((BB.out.alloc BB.out.size (.cells #[.int .i64 64, .int .u64 0, .int .u64 (u)] 29)).alloc (BB.out.alloc BB.out.size (.cells #[.int .i64 64, .int .u64 0, .int .u64 (u)] 29)).size (.cells #[.int .i64 1, .int .u64 0, .int .u64 0] 29))
          have E1 : t - min t 1 = u := by rw [E0]; simp only [Int.min_def]; split <;> omega
          have E2 : min t 1 = 0 := by rw [E0]; simp only [Int.min_def]; split <;> omega
          have E3 : max l now = now := by simp only [Int.max_def]; split <;> omega
          rw [E1] at HWI
          rw [E2, E3] at HQ
          clear E1 E2 E3 E0 ht
          go_wp2_with fail
          refine (HWI.out _ B2.out).mono ?_
          rintro e w3 ⟨ca1, cc1, la1, lc1, rfl, ho1, ho2, hb⟩
          obtain ⟨g2, cg, hgs⟩ := owR_some ho2 (by have := HKL.out; omega)
          injection hgs with hg1 hg2 hg3
          subst hg1 hg3
          clear hg2
          have o1 := owR_lower (B' := w.heap.size + 4) ho1 (by have := HZ.out; simp; omega)
          have o2 := owR_lower (B' := w.heap.size + 4) ho2 (by have := HZ.out; simp; omega)
          have MF := hide (mf_of (k := k) #[.string name, .int .u8 kind, .int .i64 aw, .int .i64 rate, .int .i64 burst, .slice ca1 n1 cc1, .slice (some ⟨g2, 0, none⟩) n2 lc1] (.int .i64 now) (bstep B2.out hb) (heap_below hb (heap_past _ (heap_past _ K3.out))) (heap_below hb (heap_past _ (heap_past _ K4.out))) (heap_below hb (heap_snd w2 _ _ _)) o1 o2)
          have oa := owR_below o2 (below1 w3 (.cells #[.string name, .int .u8 kind, .int .i64 aw, .int .i64 rate, .int .i64 burst, .slice ca1 n1 cc1, .slice (some ⟨g2, 0, none⟩) n2 lc1] 26))
          have cl : (w3.alloc (.cells #[.string name, .int .u8 kind, .int .i64 aw, .int .i64 rate, .int .i64 burst, .slice ca1 n1 cc1, .slice (some ⟨g2, 0, none⟩) n2 lc1] 26)).cell? ⟨g2, k, none⟩ = some (LS[k]'(by rw [HLL.out]; exact HKL.out)) := by rw [World.ownsRow.cellAt oa k (by have := HKL.out; omega), List.getElem?_eq_getElem]
          have fl := World.ownsRow.frozenAt oa k
          generalize LS[k]'(by rw [HLL.out]; exact HKL.out) = lv at cl
          obtain ⟨a0, a1, a2, a3, a4, a5, a6⟩ := at7 MF.out.bo
          obtain ⟨v0, v1, v2, -⟩ := at3 MF.out.bv
          have hz3 : w2.heap.size + 2 ≤ w3.heap.size := by have := hb.size; simp at this; omega
          have e1 : ¬ (w2.heap.size + 1 = w.heap.size + 1 + 1) := by have := HZ.out; omega
          have e2 : ¬ (w2.heap.size + 1 = w.heap.size + 1 + 1 + 1) := by have := HZ.out; omega
          have e3 : ¬ (w3.heap.size = w.heap.size + 1 + 1) := by have := HZ.out; omega
          have e4 : ¬ (w3.heap.size = w.heap.size + 1 + 1 + 1) := by have := HZ.out; omega
          clear hz3 hb ho1 ho2 o1 o2 oa p0 p1 p2 p3 p4 p5 p6 q0 q1 q2 m0 m1 P0 P1 P2 P3 P4 P5 P6 S0 S1 S2 S3 S4 S5 S6 K3 K4 K1 B2 BB HWI HF HC HL
          have S9 := hide MF.out.drew.s
          clear MF a0 a1 a2 a3 a4 a5 a6 v0 v1 v2
          go_wp2
          refine meter_end (cs7 := [.string name, .int .u8 kind, .int .i64 aw, .int .i64 rate, .int .i64 burst, .slice ca1 n1 cc1, .slice (some ⟨g2, 0, none⟩) n2 lc1]) (V := 0) rfl (ar_one name kind aw rate burst (ca1, n1, cc1) (some ⟨g2, 0, none⟩, n2, lc1)) rfl rfl rfl rfl (by show 100 < 101; decide) S9.out e1 e2 e3 e4 ?_
          intro a' w9 hm h6 h7 t6 t7 t8 td
          have hq := HQ.out _ _ _ _ _ (owR_lower hm.o1 (by omega)) (owR_lower hm.o2 (by omega)) hm.bl
          have R6 := hide h6
          have R7 := hide h7
          have HQ2 := hide hq
          clear hq hm h6 h7 S9
          go_wp2
          exact bodyPost_ret (res_triple (cs := [.string name, .int .u8 kind, .int .i64 aw, .int .i64 rate, .int .i64 burst, .slice ca1 n1 cc1, .slice (some ⟨g2, 0, none⟩) n2 lc1]) (cs2 := [.int .i64 1, .int .u64 0, .int .u64 0]) (v := .int .i64 0) Tryz.results14 t6 t7 t8 agg33 sz33 R6.out aggNb szNb R7.out) (td.trans rfl) HQ2.out
  · have g1' : (l < now) = False := by simpa using g1
    have hmin : min (max (now - l) 0) burst = 0 := by simp only [Int.min_def, Int.max_def]; split <;> (try split) <;> omega
    have E0 : t = u := by rw [ht, hmin, Int.zero_mul]; simp only [Int.min_def]; split <;> omega
    by_cases g5 : 0 < u
    · have wu : IntKind.u64.wrap (u - 1) = u - 1 := by rw [IntKind.wrap_u64]; omega
      have B2 := hide ((BB.out.alloc BB.out.size (.cells #[.int .i64 64, .int .u64 0, .int .u64 (u - 1)] 29)).alloc (BB.out.alloc BB.out.size (.cells #[.int .i64 64, .int .u64 0, .int .u64 (u - 1)] 29)).size (.cells #[.int .i64 1, .int .u64 0, .int .u64 1] 29))
      have E1 : t - min t 1 = u - 1 := by rw [E0]; simp only [Int.min_def]; split <;> omega
      have E2 : min t 1 = 1 := by rw [E0]; simp only [Int.min_def]; split <;> omega
      have E3 : max l now = l := by simp only [Int.max_def]; split <;> omega
      rw [E1] at HWI
      rw [E2, E3] at HQ
      clear E1 E2 E3 E0 ht
      go_wp2_with fail
      refine (HWI.out _ B2.out).mono ?_
      rintro e w3 ⟨ca1, cc1, la1, lc1, rfl, ho1, ho2, hb⟩
      obtain ⟨g2, cg, hgs⟩ := owR_some ho2 (by have := HKL.out; omega)
      injection hgs with hg1 hg2 hg3
      subst hg1 hg3
      clear hg2
      have o1 := owR_lower (B' := w.heap.size + 4) ho1 (by have := HZ.out; simp; omega)
      have o2 := owR_lower (B' := w.heap.size + 4) ho2 (by have := HZ.out; simp; omega)
      have MF := hide (mf_of (k := k) #[.string name, .int .u8 kind, .int .i64 aw, .int .i64 rate, .int .i64 burst, .slice ca1 n1 cc1, .slice (some ⟨g2, 0, none⟩) n2 lc1] (.int .i64 l) (bstep B2.out hb) (heap_below hb (heap_past _ (heap_past _ K3.out))) (heap_below hb (heap_past _ (heap_past _ K4.out))) (heap_below hb (heap_snd w2 _ _ _)) o1 o2)
      have oa := owR_below o2 (below1 w3 (.cells #[.string name, .int .u8 kind, .int .i64 aw, .int .i64 rate, .int .i64 burst, .slice ca1 n1 cc1, .slice (some ⟨g2, 0, none⟩) n2 lc1] 26))
      have cl : (w3.alloc (.cells #[.string name, .int .u8 kind, .int .i64 aw, .int .i64 rate, .int .i64 burst, .slice ca1 n1 cc1, .slice (some ⟨g2, 0, none⟩) n2 lc1] 26)).cell? ⟨g2, k, none⟩ = some (LS[k]'(by rw [HLL.out]; exact HKL.out)) := by rw [World.ownsRow.cellAt oa k (by have := HKL.out; omega), List.getElem?_eq_getElem]
      have fl := World.ownsRow.frozenAt oa k
      generalize LS[k]'(by rw [HLL.out]; exact HKL.out) = lv at cl
      obtain ⟨a0, a1, a2, a3, a4, a5, a6⟩ := at7 MF.out.bo
      obtain ⟨v0, v1, v2, -⟩ := at3 MF.out.bv
      have hz3 : w2.heap.size + 2 ≤ w3.heap.size := by have := hb.size; simp at this; omega
      have e1 : ¬ (w2.heap.size + 1 = w.heap.size + 1 + 1) := by have := HZ.out; omega
      have e2 : ¬ (w2.heap.size + 1 = w.heap.size + 1 + 1 + 1) := by have := HZ.out; omega
      have e3 : ¬ (w3.heap.size = w.heap.size + 1 + 1) := by have := HZ.out; omega
      have e4 : ¬ (w3.heap.size = w.heap.size + 1 + 1 + 1) := by have := HZ.out; omega
      clear hz3 hb ho1 ho2 o1 o2 oa p0 p1 p2 p3 p4 p5 p6 q0 q1 q2 m0 m1 P0 P1 P2 P3 P4 P5 P6 S0 S1 S2 S3 S4 S5 S6 K3 K4 K1 B2 BB HWI HF HC HL
      have S9 := hide MF.out.drew.s
      clear MF a0 a1 a2 a3 a4 a5 a6 v0 v1 v2
      go_wp2
      refine meter_end (cs7 := [.string name, .int .u8 kind, .int .i64 aw, .int .i64 rate, .int .i64 burst, .slice ca1 n1 cc1, .slice (some ⟨g2, 0, none⟩) n2 lc1]) (V := 1) rfl (ar_one name kind aw rate burst (ca1, n1, cc1) (some ⟨g2, 0, none⟩, n2, lc1)) rfl rfl rfl rfl (by show 100 < 101; decide) S9.out e1 e2 e3 e4 ?_
      intro a' w9 hm h6 h7 t6 t7 t8 td
      have hq := HQ.out _ _ _ _ _ (owR_lower hm.o1 (by omega)) (owR_lower hm.o2 (by omega)) hm.bl
      have R6 := hide h6
      have R7 := hide h7
      have HQ2 := hide hq
      clear hq hm h6 h7 S9
      go_wp2
      exact bodyPost_ret (res_triple (cs := [.string name, .int .u8 kind, .int .i64 aw, .int .i64 rate, .int .i64 burst, .slice ca1 n1 cc1, .slice (some ⟨g2, 0, none⟩) n2 lc1]) (cs2 := [.int .i64 1, .int .u64 0, .int .u64 1]) (v := .int .i64 0) Tryz.results14 t6 t7 t8 agg33 sz33 R6.out aggNb szNb R7.out) (td.trans rfl) HQ2.out
    · have g5' : (0 < u) = False := by simpa using g5
      have B2 := hide ((BB.out.alloc BB.out.size (.cells #[.int .i64 64, .int .u64 0, .int .u64 (u)] 29)).alloc (BB.out.alloc BB.out.size (.cells #[.int .i64 64, .int .u64 0, .int .u64 (u)] 29)).size (.cells #[.int .i64 1, .int .u64 0, .int .u64 0] 29))
      have E1 : t - min t 1 = u := by rw [E0]; simp only [Int.min_def]; split <;> omega
      have E2 : min t 1 = 0 := by rw [E0]; simp only [Int.min_def]; split <;> omega
      have E3 : max l now = l := by simp only [Int.max_def]; split <;> omega
      rw [E1] at HWI
      rw [E2, E3] at HQ
      clear E1 E2 E3 E0 ht
      go_wp2_with fail
      refine (HWI.out _ B2.out).mono ?_
      rintro e w3 ⟨ca1, cc1, la1, lc1, rfl, ho1, ho2, hb⟩
      obtain ⟨g2, cg, hgs⟩ := owR_some ho2 (by have := HKL.out; omega)
      injection hgs with hg1 hg2 hg3
      subst hg1 hg3
      clear hg2
      have o1 := owR_lower (B' := w.heap.size + 4) ho1 (by have := HZ.out; simp; omega)
      have o2 := owR_lower (B' := w.heap.size + 4) ho2 (by have := HZ.out; simp; omega)
      have MF := hide (mf_of (k := k) #[.string name, .int .u8 kind, .int .i64 aw, .int .i64 rate, .int .i64 burst, .slice ca1 n1 cc1, .slice (some ⟨g2, 0, none⟩) n2 lc1] (.int .i64 l) (bstep B2.out hb) (heap_below hb (heap_past _ (heap_past _ K3.out))) (heap_below hb (heap_past _ (heap_past _ K4.out))) (heap_below hb (heap_snd w2 _ _ _)) o1 o2)
      have oa := owR_below o2 (below1 w3 (.cells #[.string name, .int .u8 kind, .int .i64 aw, .int .i64 rate, .int .i64 burst, .slice ca1 n1 cc1, .slice (some ⟨g2, 0, none⟩) n2 lc1] 26))
      have cl : (w3.alloc (.cells #[.string name, .int .u8 kind, .int .i64 aw, .int .i64 rate, .int .i64 burst, .slice ca1 n1 cc1, .slice (some ⟨g2, 0, none⟩) n2 lc1] 26)).cell? ⟨g2, k, none⟩ = some (LS[k]'(by rw [HLL.out]; exact HKL.out)) := by rw [World.ownsRow.cellAt oa k (by have := HKL.out; omega), List.getElem?_eq_getElem]
      have fl := World.ownsRow.frozenAt oa k
      generalize LS[k]'(by rw [HLL.out]; exact HKL.out) = lv at cl
      obtain ⟨a0, a1, a2, a3, a4, a5, a6⟩ := at7 MF.out.bo
      obtain ⟨v0, v1, v2, -⟩ := at3 MF.out.bv
      have hz3 : w2.heap.size + 2 ≤ w3.heap.size := by have := hb.size; simp at this; omega
      have e1 : ¬ (w2.heap.size + 1 = w.heap.size + 1 + 1) := by have := HZ.out; omega
      have e2 : ¬ (w2.heap.size + 1 = w.heap.size + 1 + 1 + 1) := by have := HZ.out; omega
      have e3 : ¬ (w3.heap.size = w.heap.size + 1 + 1) := by have := HZ.out; omega
      have e4 : ¬ (w3.heap.size = w.heap.size + 1 + 1 + 1) := by have := HZ.out; omega
      clear hz3 hb ho1 ho2 o1 o2 oa p0 p1 p2 p3 p4 p5 p6 q0 q1 q2 m0 m1 P0 P1 P2 P3 P4 P5 P6 S0 S1 S2 S3 S4 S5 S6 K3 K4 K1 B2 BB HWI HF HC HL
      have S9 := hide MF.out.drew.s
      clear MF a0 a1 a2 a3 a4 a5 a6 v0 v1 v2
      go_wp2
      refine meter_end (cs7 := [.string name, .int .u8 kind, .int .i64 aw, .int .i64 rate, .int .i64 burst, .slice ca1 n1 cc1, .slice (some ⟨g2, 0, none⟩) n2 lc1]) (V := 0) rfl (ar_one name kind aw rate burst (ca1, n1, cc1) (some ⟨g2, 0, none⟩, n2, lc1)) rfl rfl rfl rfl (by show 100 < 101; decide) S9.out e1 e2 e3 e4 ?_
      intro a' w9 hm h6 h7 t6 t7 t8 td
      have hq := HQ.out _ _ _ _ _ (owR_lower hm.o1 (by omega)) (owR_lower hm.o2 (by omega)) hm.bl
      have R6 := hide h6
      have R7 := hide h7
      have HQ2 := hide hq
      clear hq hm h6 h7 S9
      go_wp2
      exact bodyPost_ret (res_triple (cs := [.string name, .int .u8 kind, .int .i64 aw, .int .i64 rate, .int .i64 burst, .slice ca1 n1 cc1, .slice (some ⟨g2, 0, none⟩) n2 lc1]) (cs2 := [.int .i64 1, .int .u64 0, .int .u64 0]) (v := .int .i64 0) Tryz.results14 t6 t7 t8 agg33 sz33 R6.out aggNb szNb R7.out) (td.trans rfl) HQ2.out
end Go.Proofs.YtbemfjdloeipmaaGreatDoor
