/- CellsKeep, where the number was not written. -/
import Derived.Test.YtngeclnlgoamkaaCeZ
import Derived.Test.YtngeclnlgoamkaaCeH
import Derived.RegionTactic
import Derived.Deep.RegionLaw
namespace Go.Proofs.Ytngeclnlgoamkaa
open Go.RowKit

/- Cells written one by one are a row with these in it. -/
theorem row_of {w : World} {b o : Nat} {e : TypeId} {cs cur : List Value} (hb : w.heap[b]? = some (.cells cur.toArray e (0, 0))) (hfit : o + cs.length ≤ cur.length) (one : ∀ v ∈ cs, v.oneCell' = true) : (setAll b w o cs).heap[b]? = some (.cells (splice cur o cs).toArray e (0, 0)) ∧ Fr (· = b) w (setAll b w o cs) := by
  have h1 := run_storeCells_at Try.prog b o e cs 0 cur.toArray w hb (by simpa using hfit) one
  have h2 := run_storeCells_cells (P := Try.prog) b o cs 0 w (fun j hj => by rw [blk_cell hb]; simp; omega) (fun j _ => softA hb _) one
  rw [h2] at h1
  injection h1 with _ h1
  rw [Nat.add_zero, setAll_eq] at h1
  refine ⟨?_, fr_all b cs w o⟩
  rw [h1]
  have := setRow_heap w b _ (cur.toArray.toList.take (o + 0) ++ cs ++ cur.toArray.toList.drop (o + 0 + cs.length)).toArray e _ hb
  simpa [splice] using this
set_option maxRecDepth 100000 in
set_option maxHeartbeats 8000000 in
theorem keep_c (x : ArL) (i v : Nb) (w : World) (hx : ArR w x) (hi : NbR i) (hv : NbR v) (hn : x.a.name.size ≤ 140737488355328) (hsz : arSz x.a ≤ 50000) (c : Int) (hc : writeC x.a i v = c) (h0 : c ≠ 0) (d : Int) (hd : countC x.a i = d) (h1 : d ≠ 0) :
    Calls Try.prog 4 #[x.val, i.val, v.val] w fun e w' => e = .returned (.bool true) ∧ Below w.heap.size w w' := by
  have HL : Hid (Pure _ _ _) := lives14_any
  have HZ : Hid (∀ W, _) := fun W => arSize_any x W hx.cn hx.ln hn
  have d1 : (arSz x.a > 50000) = False := by simp; omega
  have d2 : (50000 < arSz x.a) = False := by simp; omega
  have HW : Hid (∀ W, Below w.heap.size w W → _) := fun W hb => write_no x i v W (hx.below hb) hi hv c hc h0
  have HC : Hid (∀ W, Below w.heap.size w W → _) := fun W hb => count_no x i W (hx.below hb) hi d hd h1
  have e1 : (c == 0) = false := by simp [h0]
  have e2 : (c = 0) = False := by simp [h0]
  have e3 : (d == 0) = false := by simp [h1]
  have e4 : (d = 0) = False := by simp [h1]
  generalize arSz x.a = S at *
  clear hx hi hv hn hsz hc h0 hd h1
  obtain ⟨⟨name, kind, aw, rate, burst, cs, ls⟩, ca, cc, la, lc⟩ := x
  obtain ⟨iw, ih, il⟩ := i
  obtain ⟨vw, vh, vl⟩ := v
  simp only [ArL.val, zeroV, Nb.val] at *
  generalize cs.length = n1 at *
  generalize ls.length = n2 at *
  go_enter Try.func4, Try.ntmps4
  go_wp2_with fail
  refine (HZ.out _).mono ?_
  rintro e w1 ⟨rfl, hb⟩
  have BB := hide (bstep (below3 _ _ _ _) hb)
  have KP : Hid (Kp w1 w.heap.size #[.string name, .int .u8 kind, .int .i64 aw, .int .i64 rate, .int .i64 burst, .slice ca n1 cc, .slice la n2 lc] iw ih il vw vh vl) := ⟨heap_below hb (heap_past _ (heap_past _ (heap_alloc_new w _))), heap_below hb (heap_past _ (heap_snd w _ _ _)), heap_below hb (heap_trd w _ _ _ _)⟩
  clear hb HZ
  obtain ⟨p0, p1, p2, p3, p4, p5, p6⟩ := at7 KP.out.a
  obtain ⟨q0, q1, q2, -⟩ := at3 KP.out.i
  obtain ⟨r0, r1, r2, -⟩ := at3 KP.out.v
  go_wp2_with fail
  refine (HW.out _ BB.out).mono ?_
  rintro e w2 ⟨rfl, hb⟩
  have b2 := bstep hb (below1 w2 (.cells #[.string ⟨#[]⟩, .int .u8 0, .int .i64 0, .int .i64 0, .int .i64 0, .slice none 0 0, .slice none 0 0] 33))
  replace BB := hide (bstep BB.out b2)
  replace KP := hide (KP.out.below b2)
  clear hb b2 HW p0 p1 p2 p3 p4 p5 p6 q0 q1 q2 r0 r1 r2
  obtain ⟨p0, p1, p2, p3, p4, p5, p6⟩ := at7 KP.out.a
  obtain ⟨q0, q1, q2, -⟩ := at3 KP.out.i
  go_wp2_with fail
  refine (HC.out _ BB.out).mono ?_
  rintro e w3 ⟨rfl, hb⟩
  replace BB := hide (bstep (bstep BB.out hb) (below1 w3 (.cells #[.string ⟨#[]⟩, .int .u8 0, .int .i64 0, .int .i64 0, .int .i64 0, .slice none 0 0, .slice none 0 0] 33)))
  clear hb HC KP p0 p1 p2 p3 p4 p5 p6 q0 q1 q2
  go_wp2_with fail
  refine (HL.out _).mono ?_
  rintro e w9 ⟨rfl, hb⟩
  go_wp2
  go_ret
  exact ⟨rfl, bstep BB.out hb⟩
set_option maxRecDepth 100000 in
set_option maxHeartbeats 8000000 in
theorem keep_great (x : ArL) (i v : Nb) (w : World) (hx : ArR w x) (hn : x.a.name.size ≤ 140737488355328) (hsz : ¬ arSz x.a ≤ 50000) :
    Calls Try.prog 4 #[x.val, i.val, v.val] w fun e w' => e = .returned (.bool true) ∧ Below w.heap.size w w' := by
  have HL : Hid (Pure _ _ _) := lives14_any
  have HZ : Hid (∀ W, _) := fun W => arSize_any x W hx.cn hx.ln hn
  have d1 : (arSz x.a > 50000) = True := by simp; omega
  have d2 : (50000 < arSz x.a) = True := by simp; omega
  generalize arSz x.a = S at *
  clear hx hn hsz
  obtain ⟨⟨name, kind, aw, rate, burst, cs, ls⟩, ca, cc, la, lc⟩ := x
  obtain ⟨iw, ih, il⟩ := i
  obtain ⟨vw, vh, vl⟩ := v
  simp only [ArL.val, Nb.val] at *
  generalize cs.length = n1 at *
  generalize ls.length = n2 at *
  go_enter Try.func4, Try.ntmps4
  go_wp2_with fail
  refine (HZ.out _).mono ?_
  rintro e w1 ⟨rfl, hb⟩
  go_wp2_with fail
  refine (HL.out _).mono ?_
  rintro e w9 ⟨rfl, hb9⟩
  go_wp2
  go_ret
  exact ⟨rfl, bstep (bstep (below3 _ _ _ _) hb) hb9⟩
set_option maxRecDepth 100000 in
set_option maxHeartbeats 8000000 in
theorem keep_b (x : ArL) (i v : Nb) (w : World) (hx : ArR w x) (hi : NbR i) (hv : NbR v) (hn : x.a.name.size ≤ 140737488355328) (hsz : arSz x.a ≤ 50000) (c : Int) (hc : writeC x.a i v = c) (h0 : c ≠ 0) (hd : countC x.a i = 0) :
    Calls Try.prog 4 #[x.val, i.val, v.val] w fun e w' => e = .returned (.bool true) ∧ Below w.heap.size w w' := by
  have HL : Hid (Pure _ _ _) := lives14_any
  have HZ : Hid (∀ W, _) := fun W => arSize_any x W hx.cn hx.ln hn
  have d1 : (arSz x.a > 50000) = False := by simp; omega
  have d2 : (50000 < arSz x.a) = False := by simp; omega
  have HW : Hid (∀ W, Below w.heap.size w W → _) := fun W hb => write_no x i v W (hx.below hb) hi hv c hc h0
  have HC : Hid (∀ W, Below w.heap.size w W → _) := fun W hb => count_yes x i W (hx.below hb) hi hd
  have e1 : (c == 0) = false := by simp [h0]
  have e2 : (c = 0) = False := by simp [h0]
  obtain ⟨-, hm, -, -, h5, -⟩ := findA_yes hd
  obtain ⟨-, hl1, -⟩ := may_len hm
  obtain ⟨k, hk⟩ := Int.eq_ofNat_of_zero_le hi.lo.1
  have hkc : k < x.a.cs.length := by omega
  rw [hk, Int.toNat_natCast] at HC
  have hkI : ((k : Int) < (x.a.cs.length : Int)) := by omega
  have wk : IntKind.i64.wrap (k : Int) = k := by rw [IntKind.wrap_i64]; omega
  obtain ⟨y, hy⟩ : ∃ y, y = x.a.cs.getD k nb0 := ⟨_, rfl⟩
  have hy2 : y = x.a.cs[k] := by rw [hy, List.getD_eq_getElem?_getD, List.getElem?_eq_getElem hkc]; rfl
  rw [← hy] at HC
  obtain ⟨pa, off, hca, hpa, hcl⟩ := hx.cs.some (by omega)
  have HAC : Hid (∀ W, Below w.heap.size w W → W.cell? ⟨pa, off + k * 3, none⟩ = some (.int .i64 y.w) ∧ W.cell? ⟨pa, off + k * 3 + 1, none⟩ = some (.int .u64 y.hi) ∧ W.cell? ⟨pa, off + k * 3 + 2, none⟩ = some (.int .u64 y.lo)) := fun W hb => by
    obtain ⟨k0, k1, k2⟩ := hcl k hkc
    rw [← hy2] at k0 k1 k2
    exact ⟨(hb.cell (p := ⟨pa, _, none⟩) hpa).trans k0, (hb.cell (p := ⟨pa, _, none⟩) hpa).trans k1, (hb.cell (p := ⟨pa, _, none⟩) hpa).trans k2⟩
  have HLC := hide (show 0 < (flat Nb.cells (x.a.put k (inc y)).cs).length by rw [flat_len3]; simp [Ar.put]; omega)
  have HLN := hide (show (flat Nb.cells (x.a.put k (inc y)).cs).length = x.a.cs.length * 3 by rw [flat_len3]; simp [Ar.put])
  have HKC := hide hkc
  have HLO : Hid (∀ (W : World) (g : Nat), W.heap[g]? = some (.cells (flat Nb.cells (x.a.put k (inc y)).cs).toArray 24 (0, 0)) → W.cell? ⟨g, k * 3, none⟩ = some (.int .i64 64) ∧ W.cell? ⟨g, k * 3 + 1, none⟩ = some (.int .u64 0) ∧ W.cell? ⟨g, k * 3 + 2, none⟩ = some (.int .u64 (IntKind.u64.wrap (y.lo + 1)))) := fun W g h => by
    have h2 : k < (x.a.put k (inc y)).cs.length := by simp [Ar.put]; exact hkc
    have := blk_num h k h2
    rw [this.1, this.2.1, this.2.2]
    simp [Ar.put, inc]
  have HSP : Hid (splice (flat Nb.cells (x.a.put k (inc y)).cs) (k * 3) y.cells = flat Nb.cells x.a.cs) := by
    have h2 : k < (x.a.put k (inc y)).cs.length := by simp [Ar.put]; exact hkc
    show splice _ _ _ = _
    rw [splice_set nb_len _ k y h2, hy2]
    simp [Ar.put]
  have hg := hx.g
  have HSA : Hid (∀ W ca la B, Below w.heap.size w W → ArN W B x.a ca la → Calls Try.prog 15 #[x.val, arV x.a ca la] W fun e w' => e = .returned (.bool true) ∧ Below W.heap.size W w') := fun W ca la B hb h => sameAr_any x (full x.a ca la) W rfl (hx.below hb) (h.r hg)
  have HAN : Hid (∀ W B ca la, ArN W B x.a ca la ↔ OwnR W B ca 24 (flat Nb.cells x.a.cs) ∧ OwnR W B la 3 (flat intC x.a.ls)) := fun W B ca la => ⟨fun h => ⟨h.cs, h.ls⟩, fun h => ⟨h.1, h.2⟩⟩
  have HAP : Hid (∀ W B ca la, ArN W B (x.a.put k (inc y)) ca la → OwnR W B ca 24 (flat Nb.cells (x.a.put k (inc y)).cs) ∧ OwnR W B la 3 (flat intC x.a.ls)) := fun W B ca la h => ⟨h.cs, h.ls⟩
  simp only [arV_put] at HC
  simp only [arV] at HSA
  generalize flat Nb.cells (x.a.put k (inc y)).cs = CS' at *
  generalize x.a.put k (inc y) = ap at *
  generalize flat Nb.cells x.a.cs = CS at *
  generalize flat intC x.a.ls = LS at *
  generalize arSz x.a = S at *
  clear hx hi hv hn hsz hc h0 hd hm h5 hl1 hkc hy hy2 hpa hcl hg
  obtain ⟨a, ca, cc, la, lc⟩ := x
  obtain ⟨iw, ih, il⟩ := i
  obtain ⟨vw, vh, vl⟩ := v
  obtain ⟨yw, yh, yl⟩ := y
  simp only [ArL.val, zeroV, Nb.val, Nb.cells] at *
  subst hk hca
  generalize a.cs.length = n1 at *
  generalize a.ls.length = n2 at *
  generalize a.name = name at *
  generalize a.kind = kind at *
  generalize a.w = aw at *
  generalize a.rate = rate at *
  generalize a.burst = burst at *
  go_enter Try.func4, Try.ntmps4
  go_wp2_with fail
  refine (HZ.out _).mono ?_
  rintro e w1 ⟨rfl, hb⟩
  have BB := hide (bstep (below3 _ _ _ _) hb)
  have KP : Hid (Kp w1 w.heap.size #[.string name, .int .u8 kind, .int .i64 aw, .int .i64 rate, .int .i64 burst, .slice (some ⟨pa, off, none⟩) n1 cc, .slice la n2 lc] iw ih k vw vh vl) := ⟨heap_below hb (heap_past _ (heap_past _ (heap_alloc_new w _))), heap_below hb (heap_past _ (heap_snd w _ _ _)), heap_below hb (heap_trd w _ _ _ _)⟩
  clear hb HZ
  obtain ⟨p0, p1, p2, p3, p4, p5, p6⟩ := at7 KP.out.a
  obtain ⟨q0, q1, q2, -⟩ := at3 KP.out.i
  obtain ⟨r0, r1, r2, -⟩ := at3 KP.out.v
  go_wp2_with fail
  refine (HW.out _ BB.out).mono ?_
  rintro e w2 ⟨rfl, hb⟩
  have b2 := bstep hb (below1 w2 (.cells #[.string ⟨#[]⟩, .int .u8 0, .int .i64 0, .int .i64 0, .int .i64 0, .slice none 0 0, .slice none 0 0] 33))
  replace BB := hide (bstep BB.out b2)
  replace KP := hide (KP.out.below b2)
  have HZ2 := hide (show w.heap.size ≤ (w2.alloc (.cells #[.string ⟨#[]⟩, .int .u8 0, .int .i64 0, .int .i64 0, .int .i64 0, .slice none 0 0, .slice none 0 0] 33)).heap.size from BB.out.size)
  clear hb b2 HW p0 p1 p2 p3 p4 p5 p6 q0 q1 q2 r0 r1 r2
  obtain ⟨p0, p1, p2, p3, p4, p5, p6⟩ := at7 KP.out.a
  obtain ⟨q0, q1, q2, -⟩ := at3 KP.out.i
  go_wp2_with fail
  refine (HC.out _ BB.out).mono ?_
  rintro e w3 ⟨ca1, la1, rfl, hn3, hb⟩
  obtain ⟨ho1, ho2⟩ := HAP.out _ _ _ _ hn3
  obtain ⟨g1, rfl, hg1, c1⟩ := ownR_some ho1 HLC.out
  have L0 := hide (Nat.lt_of_lt_of_le (lt_heap KP.out.a) hg1)
  have L3 := hide (lt_heap c1)
  have b3 := bstep hb (below1 w3 (.cells #[.string name, .int .u8 kind, .int .i64 aw, .int .i64 rate, .int .i64 burst, .slice (some ⟨g1, 0, none⟩) n1 n1, .slice la1 n2 n2] 33))
  have BB3 := hide (bstep BB.out b3)
  replace KP := hide (KP.out.below b3)
  have C1 := hide (heap_past (.cells #[.string name, .int .u8 kind, .int .i64 aw, .int .i64 rate, .int .i64 burst, .slice (some ⟨g1, 0, none⟩) n1 n1, .slice la1 n2 n2] 33) c1)
  have O2 := hide (ho2.below (below1 w3 (.cells #[.string name, .int .u8 kind, .int .i64 aw, .int .i64 rate, .int .i64 burst, .slice (some ⟨g1, 0, none⟩) n1 n1, .slice la1 n2 n2] 33)))
  have KB := hide (heap_alloc_new w3 (.cells #[.string name, .int .u8 kind, .int .i64 aw, .int .i64 rate, .int .i64 burst, .slice (some ⟨g1, 0, none⟩) n1 n1, .slice la1 n2 n2] 33))
  have G1 := hide hg1
  clear hb b3 hn3 ho1 ho2 c1 hg1 HC HAP p0 p1 p2 p3 p4 p5 p6 q0 q1 q2
  obtain ⟨p0, p1, p2, p3, p4, p5, p6⟩ := at7 KP.out.a
  obtain ⟨q0, q1, q2, -⟩ := at3 KP.out.i
  obtain ⟨r0, r1, r2, r3, r4, r5, r6⟩ := at7 KB.out
  obtain ⟨s0, s1, s2⟩ := HAC.out _ BB3.out
  obtain ⟨t0, t1, t2⟩ := HLO.out _ _ C1.out
  have f0 := softA C1.out (k * 3)
  have f1 := softA C1.out (k * 3 + 1)
  have f2 := softA C1.out (k * 3 + 2)
  have RO := hide (row_of (o := k * 3) (cs := [.int .i64 yw, .int .u64 yh, .int .u64 yl]) C1.out (by rw [HLN.out]; have := HKC.out; simp; omega) (nb_one ⟨yw, yh, yl⟩))
  simp only [setAll, Nat.add_assoc, Nat.reduceAdd] at RO
  go_wp2
  go_region
  go_wp2
  go_region
  all_goals
    obtain ⟨w5, hw5⟩ : ∃ w5, w5 = ((((w3.alloc (.cells #[.string name, .int .u8 kind, .int .i64 aw, .int .i64 rate, .int .i64 burst, .slice (some ⟨g1, 0, none⟩) n1 n1, .slice la1 n2 n2] 33)).setCell ⟨g1, k * 3, none⟩ (.int .i64 yw)).setCell ⟨g1, k * 3 + 1, none⟩ (.int .u64 yh)).setCell ⟨g1, k * 3 + 2, none⟩ (.int .u64 yl)).drew.drew := ⟨_, rfl⟩
    rw [← hw5]
    have HG5 : Hid (w5.heap[g1]? = _) := (by rw [hw5]; exact RO.out.1)
    have F5 : Hid (Fr (· = g1) (w3.alloc (.cells #[.string name, .int .u8 kind, .int .i64 aw, .int .i64 rate, .int .i64 burst, .slice (some ⟨g1, 0, none⟩) n1 n1, .slice la1 n2 n2] 33)) w5) := (by rw [hw5]; exact (RO.out.2.drew).drew)
    clear hw5 RO f0 f1 f2
    rw [HSP.out] at HG5
    have KP5 := hide (show w5.heap[w.heap.size]? = _ from (F5.out.block _ (show _ < _ from lt_heap KP.out.a) (by have := L0.out; omega)).trans (show _ = _ from KP.out.a))
    have KB5 := hide (show w5.heap[w3.heap.size]? = _ from (F5.out.block _ (show _ < _ from lt_heap KB.out) (by have := L3.out; omega)).trans (show _ = _ from KB.out))
    have B5 := hide (BB3.out.trans (F5.out.below (fun c e => by have := L0.out; omega) BB3.out.size))
    have N5 := hide ((HAN.out w5 w.heap.size (some ⟨g1, 0, none⟩) la1).2 ⟨.inr ⟨g1, rfl, by have := L0.out; omega, HG5.out⟩, (ownR_other O2.out C1.out (by decide) F5.out).mono BB.out.size⟩)
    clear p0 p1 p2 p3 p4 p5 p6 q0 q1 q2 r0 r1 r2 r3 r4 r5 r6 s0 s1 s2 t0 t1 t2
    obtain ⟨p0, p1, p2, p3, p4, p5, p6⟩ := at7 KP5.out
    obtain ⟨r0, r1, r2, r3, r4, r5, r6⟩ := at7 KB5.out
    go_wp2_with fail
    refine (HSA.out _ _ _ _ B5.out N5.out).mono ?_
    rintro e w6 ⟨rfl, hb6⟩
    go_wp2_with fail
    refine (HL.out _).mono ?_
    rintro e w7 ⟨rfl, hb7⟩
    go_wp2
    go_ret
    exact ⟨rfl, bstep (bstep B5.out hb6) hb7⟩
end Go.Proofs.Ytngeclnlgoamkaa
