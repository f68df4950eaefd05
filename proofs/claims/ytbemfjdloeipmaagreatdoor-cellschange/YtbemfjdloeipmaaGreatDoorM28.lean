/- Pieces of the proof: CfF. -/
import Derived.Test.YtbemfjdloeipmaaGreatDoorM27
/- The document's own Write (chapter 14). -/
namespace Go.Proofs.YtbemfjdloeipmaaGreatDoor
open Go.RowKit

theorem findA_kind {k : Int} {a : Ar} {i : Nb} (h : (findA k a i).2 ≠ 1) : a.kind = k := by
  unfold findA at h
  split at h
  · rename_i h1
    simp only [Bool.and_eq_true, beq_iff_eq] at h1
    exact h1.1
  · exact absurd rfl h
set_option maxRecDepth 100000 in
set_option maxHeartbeats 4000000 in
theorem refWrite14_a (x : ArL) (i v : Nb) (w : World) (d : Int) (HF : Hid (∀ W, Below w.heap.size w W → Calls Tryz.prog 30 #[x.val, .int .u8 3, i.val] W fun e w' => e = .returned (.tuple #[.int .i64 d, .int .i64 1]) ∧ Below W.heap.size W w'))  :
    Calls Tryz.prog 13 #[x.val, i.val, v.val] w fun e w' => e = .returned (.tuple #[zeroV, .int .i64 1]) ∧ Below w.heap.size w w' := by
  obtain ⟨⟨name, kind, aw, rate, burst, cs, ls⟩, ca, cc, la, lc⟩ := x
  obtain ⟨iw, ih, il⟩ := i
  obtain ⟨vw, vh, vl⟩ := v
  simp only [ArL.val, Nb.val, zeroV] at *
  generalize cs.length = n1 at *
  generalize ls.length = n2 at *
  go_enter Tryz.func13, Tryz.ntmps13
  go_wp2_with fail
  refine (HF.out _ (below4 _ _ _ _ _)).mono ?_
  rintro e w2 ⟨rfl, hb⟩
  have BB := hide (bstep (below4 _ _ _ _ _) hb)
  have K4 := hide (heap_below hb (heap_fth _ _ _ _ _ _))
  have K3 := hide (heap_below hb (heap_past _ (heap_trd _ _ _ _ _)))
  have K1 := hide (heap_below hb (heap_past _ (heap_past _ (heap_past _ (heap_alloc_new w _)))))
  obtain ⟨q0, q1, q2, -⟩ := at3 K3.out
  obtain ⟨p0, p1, p2, p3, p4, p5, p6⟩ := at7 K1.out
  clear hb
  go_wp2_with (refine wpList_storeA rfl 26 _ _ rfl (w.heap.size + 1 + 1 + 1) zeroC _ 26 rfl rfl sz33 K4.out rfl zero_one ?_; intro w5 hw5; have F5 := hide (fr_of hw5); have R5 := hide (got_of hw5 K4.out rfl); clear hw5)
  refine bodyPost_ret (res_pair (cs := zeroC) (v := .int .i64 1) Tryz.results13 (by simp) (by simp) agg33 sz33 R5.out) rfl ⟨rfl, ?_⟩
  exact BB.out.trans (F5.out.below (fun b e => by omega) BB.out.size)
set_option maxRecDepth 100000 in
set_option maxHeartbeats 4000000 in
theorem refWrite14_b (x : ArL) (i v : Nb) (w : World) (d c : Int) (HF : Hid (∀ W, Below w.heap.size w W → Calls Tryz.prog 30 #[x.val, .int .u8 3, i.val] W fun e w' => e = .returned (.tuple #[.int .i64 d, .int .i64 c]) ∧ Below W.heap.size W w')) (h1 : (c == 1) = false) (_h1' : (c = 1) = False) (HK : Hid (Pure 32 #[v.val] (.bool false))) :
    Calls Tryz.prog 13 #[x.val, i.val, v.val] w fun e w' => e = .returned (.tuple #[zeroV, .int .i64 1]) ∧ Below w.heap.size w w' := by
  obtain ⟨⟨name, kind, aw, rate, burst, cs, ls⟩, ca, cc, la, lc⟩ := x
  obtain ⟨iw, ih, il⟩ := i
  obtain ⟨vw, vh, vl⟩ := v
  simp only [ArL.val, Nb.val, zeroV] at *
  generalize cs.length = n1 at *
  generalize ls.length = n2 at *
  go_enter Tryz.func13, Tryz.ntmps13
  go_wp2_with fail
  refine (HF.out _ (below4 _ _ _ _ _)).mono ?_
  rintro e w2 ⟨rfl, hb⟩
  have BB := hide (bstep (below4 _ _ _ _ _) hb)
  have K4 := hide (heap_below hb (heap_fth _ _ _ _ _ _))
  have K3 := hide (heap_below hb (heap_past _ (heap_trd _ _ _ _ _)))
  have K1 := hide (heap_below hb (heap_past _ (heap_past _ (heap_past _ (heap_alloc_new w _)))))
  obtain ⟨q0, q1, q2, -⟩ := at3 K3.out
  obtain ⟨p0, p1, p2, p3, p4, p5, p6⟩ := at7 K1.out
  clear hb
  go_wp2_with fail
  refine (HK.out _).mono ?_
  rintro e w3 ⟨rfl, hb⟩
  replace BB := hide (bstep BB.out hb)
  replace K4 := hide (heap_below hb K4.out)
  replace K3 := hide (heap_below hb K3.out)
  replace K1 := hide (heap_below hb K1.out)
  clear hb q0 q1 q2 p0 p1 p2 p3 p4 p5 p6
  obtain ⟨q0, q1, q2, -⟩ := at3 K3.out
  obtain ⟨p0, p1, p2, p3, p4, p5, p6⟩ := at7 K1.out
  go_wp2_with (refine wpList_storeA rfl 26 _ _ rfl (w.heap.size + 1 + 1 + 1) zeroC _ 26 rfl rfl sz33 K4.out rfl zero_one ?_; intro w5 hw5; have F5 := hide (fr_of hw5); have R5 := hide (got_of hw5 K4.out rfl); clear hw5)
  refine bodyPost_ret (res_pair (cs := zeroC) (v := .int .i64 1) Tryz.results13 (by simp) (by simp) agg33 sz33 R5.out) rfl ⟨rfl, ?_⟩
  exact BB.out.trans (F5.out.below (fun b e => by omega) BB.out.size)
set_option maxRecDepth 100000 in
set_option maxHeartbeats 4000000 in
theorem refWrite14_c (x : ArL) (i v : Nb) (w : World) (d c : Int) (HF : Hid (∀ W, Below w.heap.size w W → Calls Tryz.prog 30 #[x.val, .int .u8 3, i.val] W fun e w' => e = .returned (.tuple #[.int .i64 d, .int .i64 c]) ∧ Below W.heap.size W w')) (h1 : (c == 1) = false) (_h1' : (c = 1) = False) (HK : Hid (Pure 32 #[v.val] (.bool true))) (hw : (v.w == x.a.w) = false) (hw' : (v.w = x.a.w) = False) :
    Calls Tryz.prog 13 #[x.val, i.val, v.val] w fun e w' => e = .returned (.tuple #[zeroV, .int .i64 1]) ∧ Below w.heap.size w w' := by
  obtain ⟨⟨name, kind, aw, rate, burst, cs, ls⟩, ca, cc, la, lc⟩ := x
  obtain ⟨iw, ih, il⟩ := i
  obtain ⟨vw, vh, vl⟩ := v
  simp only [ArL.val, Nb.val, zeroV] at *
  generalize cs.length = n1 at *
  generalize ls.length = n2 at *
  go_enter Tryz.func13, Tryz.ntmps13
  go_wp2_with fail
  refine (HF.out _ (below4 _ _ _ _ _)).mono ?_
  rintro e w2 ⟨rfl, hb⟩
  have BB := hide (bstep (below4 _ _ _ _ _) hb)
  have K4 := hide (heap_below hb (heap_fth _ _ _ _ _ _))
  have K3 := hide (heap_below hb (heap_past _ (heap_trd _ _ _ _ _)))
  have K1 := hide (heap_below hb (heap_past _ (heap_past _ (heap_past _ (heap_alloc_new w _)))))
  obtain ⟨q0, q1, q2, -⟩ := at3 K3.out
  obtain ⟨p0, p1, p2, p3, p4, p5, p6⟩ := at7 K1.out
  clear hb
  go_wp2_with fail
  refine (HK.out _).mono ?_
  rintro e w3 ⟨rfl, hb⟩
  replace BB := hide (bstep BB.out hb)
  replace K4 := hide (heap_below hb K4.out)
  replace K3 := hide (heap_below hb K3.out)
  replace K1 := hide (heap_below hb K1.out)
  clear hb q0 q1 q2 p0 p1 p2 p3 p4 p5 p6
  obtain ⟨q0, q1, q2, -⟩ := at3 K3.out
  obtain ⟨p0, p1, p2, p3, p4, p5, p6⟩ := at7 K1.out
  go_wp2_with (refine wpList_storeA rfl 26 _ _ rfl (w.heap.size + 1 + 1 + 1) zeroC _ 26 rfl rfl sz33 K4.out rfl zero_one ?_; intro w5 hw5; have F5 := hide (fr_of hw5); have R5 := hide (got_of hw5 K4.out rfl); clear hw5)
  refine bodyPost_ret (res_pair (cs := zeroC) (v := .int .i64 1) Tryz.results13 (by simp) (by simp) agg33 sz33 R5.out) rfl ⟨rfl, ?_⟩
  exact BB.out.trans (F5.out.below (fun b e => by omega) BB.out.size)
set_option maxRecDepth 100000 in
set_option maxHeartbeats 4000000 in
theorem refWrite14_d (x : ArL) (i v : Nb) (w : World) (d c : Int) (HF : Hid (∀ W, Below w.heap.size w W → Calls Tryz.prog 30 #[x.val, .int .u8 3, i.val] W fun e w' => e = .returned (.tuple #[.int .i64 d, .int .i64 c]) ∧ Below W.heap.size W w')) (h1 : (c == 1) = false) (_h1' : (c = 1) = False) (HK : Hid (Pure 32 #[v.val] (.bool true))) (hw : v.w = x.a.w) (h0 : (c == 0) = false) (_h0' : (c = 0) = False) :
    Calls Tryz.prog 13 #[x.val, i.val, v.val] w fun e w' => e = .returned (.tuple #[zeroV, .int .i64 c]) ∧ Below w.heap.size w w' := by
  obtain ⟨⟨name, kind, aw, rate, burst, cs, ls⟩, ca, cc, la, lc⟩ := x
  obtain ⟨iw, ih, il⟩ := i
  obtain ⟨vw, vh, vl⟩ := v
  simp only [ArL.val, Nb.val, zeroV] at *
  subst hw
  generalize cs.length = n1 at *
  generalize ls.length = n2 at *
  go_enter Tryz.func13, Tryz.ntmps13
  go_wp2_with fail
  refine (HF.out _ (below4 _ _ _ _ _)).mono ?_
  rintro e w2 ⟨rfl, hb⟩
  have BB := hide (bstep (below4 _ _ _ _ _) hb)
  have K4 := hide (heap_below hb (heap_fth _ _ _ _ _ _))
  have K3 := hide (heap_below hb (heap_past _ (heap_trd _ _ _ _ _)))
  have K1 := hide (heap_below hb (heap_past _ (heap_past _ (heap_past _ (heap_alloc_new w _)))))
  obtain ⟨q0, q1, q2, -⟩ := at3 K3.out
  obtain ⟨p0, p1, p2, p3, p4, p5, p6⟩ := at7 K1.out
  clear hb
  go_wp2_with fail
  refine (HK.out _).mono ?_
  rintro e w3 ⟨rfl, hb⟩
  replace BB := hide (bstep BB.out hb)
  replace K4 := hide (heap_below hb K4.out)
  replace K3 := hide (heap_below hb K3.out)
  replace K1 := hide (heap_below hb K1.out)
  clear hb q0 q1 q2 p0 p1 p2 p3 p4 p5 p6
  obtain ⟨q0, q1, q2, -⟩ := at3 K3.out
  obtain ⟨p0, p1, p2, p3, p4, p5, p6⟩ := at7 K1.out
  go_wp2_with (refine wpList_storeA rfl 26 _ _ rfl (w.heap.size + 1 + 1 + 1) zeroC _ 26 rfl rfl sz33 K4.out rfl zero_one ?_; intro w5 hw5; have F5 := hide (fr_of hw5); have R5 := hide (got_of hw5 K4.out rfl); clear hw5)
  refine bodyPost_ret (res_pair (cs := zeroC) (v := .int .i64 c) Tryz.results13 (by simp) (by simp) agg33 sz33 R5.out) rfl ⟨rfl, ?_⟩
  exact BB.out.trans (F5.out.below (fun b e => by omega) BB.out.size)
set_option maxRecDepth 100000 in
set_option maxHeartbeats 8000000 in
theorem refWrite14_yes (x : ArL) (i v : Nb) (w : World) (hx : ArR w x) (hln : x.la = none → x.lc = 0) (hi : NbR i) (hv : NbR v) (hc : writeC x.a i v = 0) :
    Calls Tryz.prog 13 #[x.val, i.val, v.val] w fun e w' => ∃ y : ArL, y.a = x.a.put i.lo.toNat v ∧ e = .returned (.tuple #[y.val, .int .i64 0]) ∧ ArR w' y ∧ Below w.heap.size w w' := by
  have HF : Hid (∀ W, Below w.heap.size w W → _) := fun W hb => refAt14_any 3 x i W (hx.below hb) hi
  have HK : Hid (Pure _ _ _) := refOkC_any v hv
  unfold writeC at hc
  cases ho : holdsB x.a v
  · rw [ho, if_neg (by decide)] at hc
    cases hc
  rw [ho, if_pos rfl] at hc
  simp only [holdsB, Bool.and_eq_true, beq_iff_eq] at ho
  obtain ⟨hvw, hvo, -⟩ := ho
  rw [hvo] at HK
  obtain ⟨-, hm, -, -, h5, h6⟩ := findA_yes hc
  rw [hc, h6] at HF
  obtain ⟨-, hl1, hl2⟩ := may_len hm
  obtain ⟨k, hk⟩ := Int.eq_ofNat_of_zero_le hi.lo.1
  have hk2 : k < x.a.cs.length := by omega
  have hkI : ((k : Int) < (x.a.cs.length : Int)) := by omega
  rw [hk, Int.toNat_natCast]
  have hgx := put_g (k := k) hx.g hv
  have HWI : Hid (∀ W, Below w.heap.size w W → _) := fun W hb => refWith14_any x k v W (hx.below hb) hln (by omega) (by omega) hk2
  suffices H : ∀ Q : Ending → World → Prop, (∀ ca cc la lc W', W'.ownsRow w.heap.size 29 3 (.slice ca x.a.cs.length cc) x.a.cs.length (flat Nb.cells (x.a.cs.set k v)) → W'.ownsRow w.heap.size 3 1 (.slice la x.a.ls.length lc) x.a.ls.length (flat intC x.a.ls) → Below w.heap.size w W' → Q (.returned (.tuple #[.agg #[.string x.a.name, .int .u8 x.a.kind, .int .i64 x.a.w, .int .i64 x.a.rate, .int .i64 x.a.burst, .slice ca x.a.cs.length cc, .slice la x.a.ls.length lc], .int .i64 0])) W') → Calls Tryz.prog 13 #[x.val, i.val, v.val] w Q from
    H _ (fun ca cc la lc W' h1 h2 h3 => ⟨⟨x.a.put k v, ca, cc, la, lc⟩, rfl, by simp [ArL.val, Ar.put], ⟨(rdN_own h1).2.1, own_rdZ h2, hgx.cn, hgx.ln, hgx.cr, hgx.lr, hgx.wr, hgx.rr, hgx.br, hgx.kr⟩, h3⟩)
  intro Q hQ
  have HQ := hide hQ
  clear hQ hx hi hc hm h5 h6 hl1 hl2 hk2 hgx hln hvo hv
  generalize flat Nb.cells (x.a.cs.set k v) = CS at *
  generalize flat intC x.a.ls = LS at *
  obtain ⟨⟨name, kind, aw, rate, burst, cs, ls⟩, ca, cc, la, lc⟩ := x
  obtain ⟨iw, ih, il⟩ := i
  obtain ⟨vw, vh, vl⟩ := v
  simp only at hvw hk
  subst hvw
  subst hk
  simp only [ArL.val, Nb.val] at *
  generalize cs.length = n1 at *
  generalize ls.length = n2 at *
  go_enter Tryz.func13, Tryz.ntmps13
  go_wp2_with fail
  refine (HF.out _ (below4 _ _ _ _ _)).mono ?_
  rintro e w2 ⟨rfl, hb⟩
  have BB := hide (bstep (below4 _ _ _ _ _) hb)
  have K4 := hide (heap_below hb (heap_fth _ _ _ _ _ _))
  have K3 := hide (heap_below hb (heap_past _ (heap_trd _ _ _ _ _)))
  have K1 := hide (heap_below hb (heap_past _ (heap_past _ (heap_past _ (heap_alloc_new w _)))))
  obtain ⟨q0, q1, q2, -⟩ := at3 K3.out
  obtain ⟨p0, p1, p2, p3, p4, p5, p6⟩ := at7 K1.out
  clear hb
  go_wp2_with fail
  refine (HK.out _).mono ?_
  rintro e w3 ⟨rfl, hb⟩
  replace BB := hide (bstep BB.out hb)
  replace K4 := hide (heap_below hb K4.out)
  replace K3 := hide (heap_below hb K3.out)
  replace K1 := hide (heap_below hb K1.out)
  clear hb q0 q1 q2 p0 p1 p2 p3 p4 p5 p6
  obtain ⟨q0, q1, q2, -⟩ := at3 K3.out
  obtain ⟨p0, p1, p2, p3, p4, p5, p6⟩ := at7 K1.out
  have HZ := hide (show w.heap.size + 4 ≤ w3.heap.size by have := lt_heap K4.out; omega)
  go_wp2_with fail
  refine (HWI.out _ BB.out).mono ?_
  rintro e w4 ⟨ca1, cc1, la1, lc1, rfl, ho1, ho2, hb⟩
  have B3 := hide (bstep BB.out hb)
  have K33 := hide (heap_below hb K4.out)
  have HO1 := hide (owR_lower (B' := w.heap.size + 4) ho1 HZ.out)
  have HO2 := hide (owR_lower (B' := w.heap.size + 4) ho2 HZ.out)
  clear ho1 ho2 hb p0 p1 p2 p3 p4 p5 p6 q0 q1 q2
  go_wp2_with (refine wpList_storeA rfl 26 _ _ rfl (w.heap.size + 1 + 1 + 1) [.string name, .int .u8 kind, .int .i64 vw, .int .i64 rate, .int .i64 burst, .slice ca1 n1 cc1, .slice la1 n2 lc1] _ 26 rfl rfl sz33 K33.out rfl (ar_one name kind vw rate burst (ca1, n1, cc1) (la1, n2, lc1)) ?_; intro w5 hw5; have F5 := hide (fr_of hw5); have R5 := hide (got_of hw5 K33.out rfl); clear hw5)
  refine bodyPost_ret (res_pair (cs := [.string name, .int .u8 kind, .int .i64 vw, .int .i64 rate, .int .i64 burst, .slice ca1 n1 cc1, .slice la1 n2 lc1]) (v := .int .i64 0) Tryz.results13 (by simp) (by simp) agg33 sz33 R5.out) rfl ?_
  refine HQ.out _ _ _ _ _ ?_ ?_ ?_
  · exact owR_lower (own_fr1 HO1.out (by omega) F5.out) (by omega)
  · exact owR_lower (own_fr1 HO2.out (by omega) F5.out) (by omega)
  · exact B3.out.trans (F5.out.below (fun b e => by omega) B3.out.size)
theorem refWrite14_any (x : ArL) (i v : Nb) (w : World) (hx : ArR w x) (hln : x.la = none → x.lc = 0) (hi : NbR i) (hv : NbR v) :
    Calls Tryz.prog 13 #[x.val, i.val, v.val] w fun e w' => ∃ y : ArL, y.a = writeA x.a i v ∧ e = .returned (.tuple #[y.val, .int .i64 (writeC x.a i v)]) ∧ ArR w' y ∧ Below w.heap.size w w' := by
  unfold writeA
  by_cases h : writeC x.a i v = 0
  · rw [if_pos h]
    refine (refWrite14_yes x i v w hx hln hi hv h).mono ?_
    rintro e w' ⟨y, hy, rfl, h1, h2⟩
    exact ⟨y, hy, by rw [h], h1, h2⟩
  · rw [if_neg h]
    suffices H : Calls Tryz.prog 13 #[x.val, i.val, v.val] w fun e w' => e = .returned (.tuple #[zeroV, .int .i64 (writeC x.a i v)]) ∧ Below w.heap.size w w' by
      refine H.mono ?_
      rintro e w' ⟨rfl, h2⟩
      exact ⟨_, rfl, rfl, zeroL_r _, h2⟩
    have HF : Hid (∀ W, Below w.heap.size w W → _) := fun W hb => refAt14_any 3 x i W (hx.below hb) hi
    have HK : Hid (Pure _ _ _) := refOkC_any v hv
    unfold writeC at h ⊢
    by_cases c1 : (findA 3 x.a i).2 = 1
    · rw [c1] at HF
      have e : (if holdsB x.a v = true then (findA 3 x.a i).2 else 1) = 1 := by rw [c1]; split <;> rfl
      rw [e]
      exact refWrite14_a x i v w _ HF
    · have hk := findA_kind c1
      have hb : holdsB x.a v = (v.w == x.a.w && v.ok) := by
        have : (x.a.kind == 5) = false := by rw [hk]; rfl
        unfold holdsB; rw [this]; simp
      have n1 : ((findA 3 x.a i).2 == 1) = false := by simpa using c1
      have n1' : ((findA 3 x.a i).2 = 1) = False := by simpa using c1
      cases ho : v.ok
      · rw [ho] at HK hb
        rw [Bool.and_false] at hb
        rw [hb, if_neg (by decide)]
        exact refWrite14_b x i v w _ _ HF n1 n1' HK
      · rw [ho] at HK hb
        rw [Bool.and_true] at hb
        by_cases hw : v.w = x.a.w
        · have e : holdsB x.a v = true := by rw [hb]; simpa using hw
          rw [e, if_pos rfl] at h ⊢
          exact refWrite14_d x i v w _ _ HF n1 n1' HK hw (by simpa using h) (by simpa using h)
        · have e : holdsB x.a v = false := by rw [hb]; simpa using hw
          rw [e, if_neg (by decide)]
          exact refWrite14_c x i v w _ _ HF n1 n1' HK (by simpa using hw) (by simpa using hw)
end Go.Proofs.YtbemfjdloeipmaaGreatDoor
