/- Pieces of the proof: CgW. -/
import Derived.Test.YtbemfjdloeipmaaGreatDoorM44
/- CellsChange, walked. -/
namespace Go.Proofs.YtbemfjdloeipmaaGreatDoor
open Go.RowKit

set_option maxRecDepth 100000 in
set_option maxHeartbeats 2000000 in
theorem change_great (x : ArL) (i v : Nb) (now : Int) (w : World) (hx : ArR w x) (hn : x.a.name.size ≤ 140737488355328) (hsz : ¬ arSz x.a ≤ 50000) :
    Calls Tryz.prog 3 #[x.val, .agg #[.int .i64 i.w, .int .u64 i.hi, .int .u64 i.lo, .int .i64 v.w, .int .u64 v.hi, .int .u64 v.lo], .int .i64 now] w fun e w' => e = .returned (.bool true) ∧ Below w.heap.size w w' := by
  have HL : Hid (Pure _ _ _) := lives14_any
  have HZ : Hid (∀ W, _) := fun W => arSize_any x W hx.cn hx.ln hn
  have d1 : (arSz x.a > 50000) = True := by simp; omega
  have d2 : (50000 < arSz x.a) = True := by simp; omega
  generalize arSz x.a = S at *
  clear hx hn hsz
  obtain ⟨a, ca, cc, la, lc⟩ := x
  simp only [ArL.val] at *
  go_enter Tryz.func3, Tryz.ntmps3
  go_wp2_with fail
  refine (HZ.out _).mono ?_
  rintro e w1 ⟨rfl, hb⟩
  have BB := hide (bstep (below2 _ _ _) hb)
  clear hb
  go_wp2_with fail
  refine (HL.out _).mono ?_
  rintro e w2 ⟨rfl, hb⟩
  go_wp2
  go_ret
  exact ⟨rfl, bstep BB.out hb⟩
set_option maxRecDepth 100000 in
set_option maxHeartbeats 16000000 in
theorem change_any (x : ArL) (i v : Nb) (now : Int) (w : World) (hx : ArR w x) (hln : x.la = none → x.lc = 0) (hi : NbR i) (hv : NbR v) (hnow : now < 9223372036854775808) (hn : x.a.name.size ≤ 140737488355328) (hsz : arSz x.a ≤ 50000) :
    Calls Tryz.prog 3 #[x.val, .agg #[.int .i64 i.w, .int .u64 i.hi, .int .u64 i.lo, .int .i64 v.w, .int .u64 v.hi, .int .u64 v.lo], .int .i64 now] w fun e w' => e = .returned (.bool true) ∧ Below w.heap.size w w' := by
  have HLV : Hid (Pure _ _ _) := lives14_any
  have HZ : Hid (∀ W, _) := fun W => arSize_any x W hx.cn hx.ln hn
  have d1 : (arSz x.a > 50000) = False := by simp; omega
  have d2 : (50000 < arSz x.a) = False := by simp; omega
  obtain ⟨l1, l2⟩ := arSz_len hsz
  have HTW : Hid (∀ W, Below w.heap.size w W → _) := fun W hb => twinAr_any x W (hx.below hb) (by omega) (by omega)
  have HX := hide hx
  have RC : Hid (∀ W, Below w.heap.size w W → _) := fun W hb => refCount14_any x i W (hx.below hb) hln hi
  have RR : Hid (∀ W, Below w.heap.size w W → _) := fun W hb => refRead14_any x i W (hx.below hb) hi _ rfl _ rfl
  have RW : Hid (∀ W, Below w.heap.size w W → _) := fun W hb => refWrite14_any x i v W (hx.below hb) hln hi hv
  have RM : Hid (∀ W, Below w.heap.size w W → _) := fun W hb => refMeter14_any x i now W (hx.below hb) hln hi hnow
  have PC : Hid (∀ (z : ArL) W, z.a = x.a → ArR W z → _) := fun z W e hz => count_any z i W hz hi
  have PR : Hid (∀ (z : ArL) W, z.a = x.a → ArR W z → _) := fun z W e hz => read_any z i W hz hi _ rfl _ rfl
  have PW : Hid (∀ (z : ArL) W, z.a = x.a → ArR W z → _) := fun z W e hz => write_any z i v W hz hi hv
  have PM : Hid (∀ (z : ArL) W, z.a = x.a → ArR W z → _) := fun z W e hz => meter_any z i now W hz hi hnow
  have LF : Hid (∀ (z : ArL) B W, ArR W x → TwR W B x z → _) := fun z B W h1 h2 => leftAr_yes x z B W h1 (by omega) (by omega) h2
  have YB := hide (countA_len x.a i)
  have YD := hide (writeA_len x.a i v)
  have YM := hide (meterB_len x.a i now)
  have HL1 := hide l1
  have HL2 := hide l2
  clear hx hn hsz l1 l2 hi hv hln hnow
  obtain ⟨a, ca, cc, la, lc⟩ := x
  obtain ⟨iw, ih, il⟩ := i
  obtain ⟨vw, vh, vl⟩ := v
  simp only [ArL.val, Nb.val] at HZ HTW RC RR RW RM LF ⊢
  generalize arSz a = S at *
  go_enter Tryz.func3, Tryz.ntmps3
  go_wp2_with fail
  refine (HZ.out _).mono ?_
  rintro e w1 ⟨rfl, hb⟩
  have B1 := hide (bstep (below2 _ _ _) hb)
  have B0 := hide B1.out.size
  have L1 : Hid (Bl w1 [(w.heap.size, #[.string a.name, .int .u8 a.kind, .int .i64 a.w, .int .i64 a.rate, .int .i64 a.burst, .slice ca a.cs.length cc, .slice la a.ls.length lc], 26), (w.heap.size + 1, #[.int .i64 iw, .int .u64 ih, .int .u64 il, .int .i64 vw, .int .u64 vh, .int .u64 vl], 30)]) := fun e he => by
    simp only [List.mem_cons, List.not_mem_nil, or_false] at he
    rcases he with rfl | rfl
    · exact heap_below hb (heap_past _ (heap_alloc_new w _))
    · exact heap_below hb (heap_snd w _ _ _)
  obtain ⟨p0, p1, p2, p3, p4, p5, p6⟩ := at7 (L1.out.get 0 rfl)
  clear hb HZ
  go_wp2_with fail
  refine (HTW.out _ B1.out).mono ?_
  rintro e w2 ⟨z, rfl, htw, hb⟩
  obtain ⟨za, zca, zc, zla, zl⟩ := z
  have e1 := htw.e
  obtain ⟨g1, e2, -, k1⟩ := htw.cs
  obtain ⟨g2, e3, -, k2⟩ := htw.ls
  simp only at e1 e2 e3 k1 k2
  subst e1 e2 e3
  have T2 := hide htw
  have B2 := hide (bstep B1.out hb)
  have L2 := hide ((L1.out.below hb).add #[.string za.name, .int .u8 za.kind, .int .i64 za.w, .int .i64 za.rate, .int .i64 za.burst, .slice (some ⟨g1, 0, none⟩) za.cs.length zc, .slice (some ⟨g2, 0, none⟩) za.ls.length zl] 26)
  have R2 := hide (And.intro (Rw.of k1) (Rw.of k2))
  have X2 := hide (htw.r (HX.out.below B2.out))
  simp only [ArL.val, Nb.val] at PC PR PW PM
  replace PC : Hid (∀ W, Below w2.heap.size w2 W → _) := fun W hb => PC.out ⟨za, some ⟨g1, 0, none⟩, zc, some ⟨g2, 0, none⟩, zl⟩ W rfl (X2.out.below hb)
  replace PR : Hid (∀ W, Below w2.heap.size w2 W → _) := fun W hb => PR.out ⟨za, some ⟨g1, 0, none⟩, zc, some ⟨g2, 0, none⟩, zl⟩ W rfl (X2.out.below hb)
  replace PW : Hid (∀ W, Below w2.heap.size w2 W → _) := fun W hb => PW.out ⟨za, some ⟨g1, 0, none⟩, zc, some ⟨g2, 0, none⟩, zl⟩ W rfl (X2.out.below hb)
  replace PM : Hid (∀ W, Below w2.heap.size w2 W → _) := fun W hb => PM.out ⟨za, some ⟨g1, 0, none⟩, zc, some ⟨g2, 0, none⟩, zl⟩ W rfl (X2.out.below hb)
  clear hb htw k1 k2 p0 p1 p2 p3 p4 p5 p6 HTW
  simp only [arV] at PC PR PW PM ⊢
  generalize countA za ⟨iw, ih, il⟩ = yb at *
  generalize countC za ⟨iw, ih, il⟩ = eb at *
  generalize writeA za ⟨iw, ih, il⟩ ⟨vw, vh, vl⟩ = yd at *
  generalize writeC za ⟨iw, ih, il⟩ ⟨vw, vh, vl⟩ = ed at *
  generalize meterB za ⟨iw, ih, il⟩ now = ym at *
  generalize meterC za ⟨iw, ih, il⟩ now = em at *
  generalize meterV za ⟨iw, ih, il⟩ now = vm at *
  generalize (if (findA 3 za ⟨iw, ih, il⟩).2 = 0 then za.cs.getD il.toNat nb0 else nb0) = vr at *
  generalize (findA 3 za ⟨iw, ih, il⟩).2 = er at *
  have U2 := hide (below1 w2 (.cells #[.string za.name, .int .u8 za.kind, .int .i64 za.w, .int .i64 za.rate, .int .i64 za.burst, .slice (some ⟨g1, 0, none⟩) za.cs.length zc, .slice (some ⟨g2, 0, none⟩) za.ls.length zl] 26))
  obtain ⟨x0, x1, x2, x3, x4, x5, x6⟩ := at7 (L2.out.get 2 rfl)
  obtain ⟨v0, v1, v2, v3, v4, v5⟩ := at6 (L2.out.get 1 rfl)
  go_wp2_with fail
  refine (PC.out _ U2.out).mono ?_
  rintro e w3 ⟨cb, lb, rfl, hN, hb⟩
  have R3 := hide (hN.rw (by have := YB.out; have := HL1.out; omega) (by have := YB.out; have := HL2.out; omega))
  have N3 := hide hN
  have U3 := hide (bstep (bstep U2.out hb) (below1 w3 (.cells #[.string yb.name, .int .u8 yb.kind, .int .i64 yb.w, .int .i64 yb.rate, .int .i64 yb.burst, .slice cb yb.cs.length yb.cs.length, .slice lb yb.ls.length yb.ls.length] 26)))
  have L3 := hide ((L2.out.below hb).add #[.string yb.name, .int .u8 yb.kind, .int .i64 yb.w, .int .i64 yb.rate, .int .i64 yb.burst, .slice cb yb.cs.length yb.cs.length, .slice lb yb.ls.length yb.ls.length] 26)
  have q23 := hide (show w2.heap.size + 1 ≤ w3.heap.size by have := hb.size; simp at this; omega)
  clear hb hN
  clear x0 x1 x2 x3 x4 x5 x6 v0 v1 v2 v3 v4 v5
  obtain ⟨x0, x1, x2, x3, x4, x5, x6⟩ := at7 (L3.out.get 2 rfl)
  obtain ⟨v0, v1, v2, v3, v4, v5⟩ := at6 (L3.out.get 1 rfl)
  go_wp2_with fail
  refine (PR.out _ U3.out).mono ?_
  rintro e w4 ⟨rfl, hb⟩
  have U4 := hide (bstep (bstep U3.out hb) (below1 w4 (.cells #[.int .i64 vr.w, .int .u64 vr.hi, .int .u64 vr.lo] 29)))
  have L4 := hide ((L3.out.below hb).add #[.int .i64 vr.w, .int .u64 vr.hi, .int .u64 vr.lo] 29)
  have D3 := hide (bstep (bstep (below1 w3 (.cells #[.string yb.name, .int .u8 yb.kind, .int .i64 yb.w, .int .i64 yb.rate, .int .i64 yb.burst, .slice cb yb.cs.length yb.cs.length, .slice lb yb.ls.length yb.ls.length] 26)) hb) (below1 w4 (.cells #[.int .i64 vr.w, .int .u64 vr.hi, .int .u64 vr.lo] 29)))
  have q34 := hide (show w3.heap.size + 1 ≤ w4.heap.size by have := hb.size; simp at this; omega)
  clear hb
  clear x0 x1 x2 x3 x4 x5 x6 v0 v1 v2 v3 v4 v5
  obtain ⟨x0, x1, x2, x3, x4, x5, x6⟩ := at7 (L4.out.get 2 rfl)
  obtain ⟨v0, v1, v2, v3, v4, v5⟩ := at6 (L4.out.get 1 rfl)
  go_wp2_with fail
  refine (PW.out _ U4.out).mono ?_
  rintro e w5 ⟨cd, ld, rfl, hN, hb⟩
  have R5 := hide (hN.rw (by have := YD.out; have := HL1.out; omega) (by have := YD.out; have := HL2.out; omega))
  have N5 := hide hN
  have U5 := hide (bstep (bstep U4.out hb) (below1 w5 (.cells #[.string yd.name, .int .u8 yd.kind, .int .i64 yd.w, .int .i64 yd.rate, .int .i64 yd.burst, .slice cd yd.cs.length yd.cs.length, .slice ld yd.ls.length yd.ls.length] 26)))
  have L5 := hide ((L4.out.below hb).add #[.string yd.name, .int .u8 yd.kind, .int .i64 yd.w, .int .i64 yd.rate, .int .i64 yd.burst, .slice cd yd.cs.length yd.cs.length, .slice ld yd.ls.length yd.ls.length] 26)
  replace D3 := hide (bstep (bstep D3.out hb) (below1 w5 (.cells #[.string yd.name, .int .u8 yd.kind, .int .i64 yd.w, .int .i64 yd.rate, .int .i64 yd.burst, .slice cd yd.cs.length yd.cs.length, .slice ld yd.ls.length yd.ls.length] 26)))
  have q45 := hide (show w4.heap.size + 1 ≤ w5.heap.size by have := hb.size; simp at this; omega)
  clear hb hN
  clear x0 x1 x2 x3 x4 x5 x6 v0 v1 v2 v3 v4 v5
  obtain ⟨x0, x1, x2, x3, x4, x5, x6⟩ := at7 (L5.out.get 2 rfl)
  obtain ⟨v0, v1, v2, v3, v4, v5⟩ := at6 (L5.out.get 1 rfl)
  go_wp2_with fail
  refine (PM.out _ U5.out).mono ?_
  rintro e w6 ⟨cm, lm, rfl, hN, hb⟩
  have R6 := hide (hN.rw (by have := YM.out; have := HL1.out; omega) (by have := YM.out; have := HL2.out; omega))
  have N6 := hide hN
  have U6 := hide (bstep (bstep (bstep U5.out hb) (below1 w6 (.cells #[.string ym.name, .int .u8 ym.kind, .int .i64 ym.w, .int .i64 ym.rate, .int .i64 ym.burst, .slice cm ym.cs.length ym.cs.length, .slice lm ym.ls.length ym.ls.length] 26))) (below1 _ (.cells #[.int .i64 vm.w, .int .u64 vm.hi, .int .u64 vm.lo] 29)))
  have L6 := hide (((L5.out.below hb).add #[.string ym.name, .int .u8 ym.kind, .int .i64 ym.w, .int .i64 ym.rate, .int .i64 ym.burst, .slice cm ym.cs.length ym.cs.length, .slice lm ym.ls.length ym.ls.length] 26).add #[.int .i64 vm.w, .int .u64 vm.hi, .int .u64 vm.lo] 29)
  replace D3 := hide (bstep (bstep (bstep D3.out hb) (below1 w6 (.cells #[.string ym.name, .int .u8 ym.kind, .int .i64 ym.w, .int .i64 ym.rate, .int .i64 ym.burst, .slice cm ym.cs.length ym.cs.length, .slice lm ym.ls.length ym.ls.length] 26))) (below1 _ (.cells #[.int .i64 vm.w, .int .u64 vm.hi, .int .u64 vm.lo] 29)))
  have D5 := hide (bstep (bstep (bstep (below1 w5 (.cells #[.string yd.name, .int .u8 yd.kind, .int .i64 yd.w, .int .i64 yd.rate, .int .i64 yd.burst, .slice cd yd.cs.length yd.cs.length, .slice ld yd.ls.length yd.ls.length] 26)) hb) (below1 w6 (.cells #[.string ym.name, .int .u8 ym.kind, .int .i64 ym.w, .int .i64 ym.rate, .int .i64 ym.burst, .slice cm ym.cs.length ym.cs.length, .slice lm ym.ls.length ym.ls.length] 26))) (below1 _ (.cells #[.int .i64 vm.w, .int .u64 vm.hi, .int .u64 vm.lo] 29)))
  have D6 := hide (bstep (below1 w6 (.cells #[.string ym.name, .int .u8 ym.kind, .int .i64 ym.w, .int .i64 ym.rate, .int .i64 ym.burst, .slice cm ym.cs.length ym.cs.length, .slice lm ym.ls.length ym.ls.length] 26)) (below1 _ (.cells #[.int .i64 vm.w, .int .u64 vm.hi, .int .u64 vm.lo] 29)))
  have q56 := hide (show w5.heap.size + 1 ≤ w6.heap.size by have := hb.size; simp at this; omega)
  clear hb hN PC PR PW PM
  clear x0 x1 x2 x3 x4 x5 x6 v0 v1 v2 v3 v4 v5
  have B6 := hide (B2.out.trans (U6.out.mono B2.out.size))
  obtain ⟨x0, x1, x2, x3, x4, x5, x6⟩ := at7 (L6.out.get 0 rfl)
  obtain ⟨v0, v1, v2, v3, v4, v5⟩ := at6 (L6.out.get 1 rfl)
  go_wp2_with fail
  refine (RC.out _ B6.out).mono ?_
  rintro e w7 ⟨yp, ype, rfl, ypr, hb⟩
  have B7 := hide (bstep (bstep B6.out hb) (below1 w7 (.cells #[.string yp.a.name, .int .u8 yp.a.kind, .int .i64 yp.a.w, .int .i64 yp.a.rate, .int .i64 yp.a.burst, .slice yp.ca yp.a.cs.length yp.cc, .slice yp.la yp.a.ls.length yp.lc] 26)))
  have U7 := hide (bstep (bstep U6.out hb) (below1 w7 (.cells #[.string yp.a.name, .int .u8 yp.a.kind, .int .i64 yp.a.w, .int .i64 yp.a.rate, .int .i64 yp.a.burst, .slice yp.ca yp.a.cs.length yp.cc, .slice yp.la yp.a.ls.length yp.lc] 26)))
  replace D3 := hide (bstep (bstep D3.out hb) (below1 w7 (.cells #[.string yp.a.name, .int .u8 yp.a.kind, .int .i64 yp.a.w, .int .i64 yp.a.rate, .int .i64 yp.a.burst, .slice yp.ca yp.a.cs.length yp.cc, .slice yp.la yp.a.ls.length yp.lc] 26)))
  replace D5 := hide (bstep (bstep D5.out hb) (below1 w7 (.cells #[.string yp.a.name, .int .u8 yp.a.kind, .int .i64 yp.a.w, .int .i64 yp.a.rate, .int .i64 yp.a.burst, .slice yp.ca yp.a.cs.length yp.cc, .slice yp.la yp.a.ls.length yp.lc] 26)))
  replace D6 := hide (bstep (bstep D6.out hb) (below1 w7 (.cells #[.string yp.a.name, .int .u8 yp.a.kind, .int .i64 yp.a.w, .int .i64 yp.a.rate, .int .i64 yp.a.burst, .slice yp.ca yp.a.cs.length yp.cc, .slice yp.la yp.a.ls.length yp.lc] 26)))
  have L7 := hide ((L6.out.below hb).add #[.string yp.a.name, .int .u8 yp.a.kind, .int .i64 yp.a.w, .int .i64 yp.a.rate, .int .i64 yp.a.burst, .slice yp.ca yp.a.cs.length yp.cc, .slice yp.la yp.a.ls.length yp.lc] 26)
  have P7 := hide ypr
  have E7 := hide ype
  clear hb ypr ype
  clear x0 x1 x2 x3 x4 x5 x6 v0 v1 v2 v3 v4 v5
  obtain ⟨x0, x1, x2, x3, x4, x5, x6⟩ := at7 (L7.out.get 0 rfl)
  obtain ⟨v0, v1, v2, v3, v4, v5⟩ := at6 (L7.out.get 1 rfl)
  go_wp2_with fail
  refine (RR.out _ B7.out).mono ?_
  rintro e w8 ⟨rfl, hb⟩
  have B8 := hide (bstep (bstep B7.out hb) (below1 w8 (.cells #[.int .i64 vr.w, .int .u64 vr.hi, .int .u64 vr.lo] 29)))
  have U8 := hide (bstep (bstep U7.out hb) (below1 w8 (.cells #[.int .i64 vr.w, .int .u64 vr.hi, .int .u64 vr.lo] 29)))
  replace D3 := hide (bstep (bstep D3.out hb) (below1 w8 (.cells #[.int .i64 vr.w, .int .u64 vr.hi, .int .u64 vr.lo] 29)))
  replace D5 := hide (bstep (bstep D5.out hb) (below1 w8 (.cells #[.int .i64 vr.w, .int .u64 vr.hi, .int .u64 vr.lo] 29)))
  replace D6 := hide (bstep (bstep D6.out hb) (below1 w8 (.cells #[.int .i64 vr.w, .int .u64 vr.hi, .int .u64 vr.lo] 29)))
  have L8 := hide ((L7.out.below hb).add #[.int .i64 vr.w, .int .u64 vr.hi, .int .u64 vr.lo] 29)
  have P8 := hide (P7.out.below (bstep (below1 w7 _) hb))
  clear hb P7
  clear x0 x1 x2 x3 x4 x5 x6 v0 v1 v2 v3 v4 v5
  obtain ⟨x0, x1, x2, x3, x4, x5, x6⟩ := at7 (L8.out.get 0 rfl)
  obtain ⟨v0, v1, v2, v3, v4, v5⟩ := at6 (L8.out.get 1 rfl)
  go_wp2_with fail
  refine (RW.out _ B8.out).mono ?_
  rintro e w9 ⟨yr, yre, rfl, yrr, hb⟩
  have B9 := hide (bstep (bstep B8.out hb) (below1 w9 (.cells #[.string yr.a.name, .int .u8 yr.a.kind, .int .i64 yr.a.w, .int .i64 yr.a.rate, .int .i64 yr.a.burst, .slice yr.ca yr.a.cs.length yr.cc, .slice yr.la yr.a.ls.length yr.lc] 26)))
  have U9 := hide (bstep (bstep U8.out hb) (below1 w9 (.cells #[.string yr.a.name, .int .u8 yr.a.kind, .int .i64 yr.a.w, .int .i64 yr.a.rate, .int .i64 yr.a.burst, .slice yr.ca yr.a.cs.length yr.cc, .slice yr.la yr.a.ls.length yr.lc] 26)))
  replace D3 := hide (bstep (bstep D3.out hb) (below1 w9 (.cells #[.string yr.a.name, .int .u8 yr.a.kind, .int .i64 yr.a.w, .int .i64 yr.a.rate, .int .i64 yr.a.burst, .slice yr.ca yr.a.cs.length yr.cc, .slice yr.la yr.a.ls.length yr.lc] 26)))
  replace D5 := hide (bstep (bstep D5.out hb) (below1 w9 (.cells #[.string yr.a.name, .int .u8 yr.a.kind, .int .i64 yr.a.w, .int .i64 yr.a.rate, .int .i64 yr.a.burst, .slice yr.ca yr.a.cs.length yr.cc, .slice yr.la yr.a.ls.length yr.lc] 26)))
  replace D6 := hide (bstep (bstep D6.out hb) (below1 w9 (.cells #[.string yr.a.name, .int .u8 yr.a.kind, .int .i64 yr.a.w, .int .i64 yr.a.rate, .int .i64 yr.a.burst, .slice yr.ca yr.a.cs.length yr.cc, .slice yr.la yr.a.ls.length yr.lc] 26)))
  have L9 := hide ((L8.out.below hb).add #[.string yr.a.name, .int .u8 yr.a.kind, .int .i64 yr.a.w, .int .i64 yr.a.rate, .int .i64 yr.a.burst, .slice yr.ca yr.a.cs.length yr.cc, .slice yr.la yr.a.ls.length yr.lc] 26)
  have P9 := hide (P8.out.below (bstep (below1 w8 _) hb))
  have Q9 := hide yrr
  have E9 := hide yre
  clear hb yrr yre P8
  clear x0 x1 x2 x3 x4 x5 x6 v0 v1 v2 v3 v4 v5
  obtain ⟨x0, x1, x2, x3, x4, x5, x6⟩ := at7 (L9.out.get 0 rfl)
  obtain ⟨v0, v1, v2, v3, v4, v5⟩ := at6 (L9.out.get 1 rfl)
  go_wp2_with fail
  refine (RM.out _ B9.out).mono ?_
  rintro e w10 ⟨ys, yse, rfl, ysr, hb⟩
  have B10 := hide (bstep (bstep (bstep B9.out hb) (below1 w10 (.cells #[.string ys.a.name, .int .u8 ys.a.kind, .int .i64 ys.a.w, .int .i64 ys.a.rate, .int .i64 ys.a.burst, .slice ys.ca ys.a.cs.length ys.cc, .slice ys.la ys.a.ls.length ys.lc] 26))) (below1 _ (.cells #[.int .i64 vm.w, .int .u64 vm.hi, .int .u64 vm.lo] 29)))
  have U10 := hide (bstep (bstep (bstep U9.out hb) (below1 w10 (.cells #[.string ys.a.name, .int .u8 ys.a.kind, .int .i64 ys.a.w, .int .i64 ys.a.rate, .int .i64 ys.a.burst, .slice ys.ca ys.a.cs.length ys.cc, .slice ys.la ys.a.ls.length ys.lc] 26))) (below1 _ (.cells #[.int .i64 vm.w, .int .u64 vm.hi, .int .u64 vm.lo] 29)))
  replace D3 := hide (bstep (bstep (bstep D3.out hb) (below1 w10 (.cells #[.string ys.a.name, .int .u8 ys.a.kind, .int .i64 ys.a.w, .int .i64 ys.a.rate, .int .i64 ys.a.burst, .slice ys.ca ys.a.cs.length ys.cc, .slice ys.la ys.a.ls.length ys.lc] 26))) (below1 _ (.cells #[.int .i64 vm.w, .int .u64 vm.hi, .int .u64 vm.lo] 29)))
  replace D5 := hide (bstep (bstep (bstep D5.out hb) (below1 w10 (.cells #[.string ys.a.name, .int .u8 ys.a.kind, .int .i64 ys.a.w, .int .i64 ys.a.rate, .int .i64 ys.a.burst, .slice ys.ca ys.a.cs.length ys.cc, .slice ys.la ys.a.ls.length ys.lc] 26))) (below1 _ (.cells #[.int .i64 vm.w, .int .u64 vm.hi, .int .u64 vm.lo] 29)))
  replace D6 := hide (bstep (bstep (bstep D6.out hb) (below1 w10 (.cells #[.string ys.a.name, .int .u8 ys.a.kind, .int .i64 ys.a.w, .int .i64 ys.a.rate, .int .i64 ys.a.burst, .slice ys.ca ys.a.cs.length ys.cc, .slice ys.la ys.a.ls.length ys.lc] 26))) (below1 _ (.cells #[.int .i64 vm.w, .int .u64 vm.hi, .int .u64 vm.lo] 29)))
  have L10 := hide (((L9.out.below hb).add #[.string ys.a.name, .int .u8 ys.a.kind, .int .i64 ys.a.w, .int .i64 ys.a.rate, .int .i64 ys.a.burst, .slice ys.ca ys.a.cs.length ys.cc, .slice ys.la ys.a.ls.length ys.lc] 26).add #[.int .i64 vm.w, .int .u64 vm.hi, .int .u64 vm.lo] 29)
  have bx := below2 w10 (.cells #[.string ys.a.name, .int .u8 ys.a.kind, .int .i64 ys.a.w, .int .i64 ys.a.rate, .int .i64 ys.a.burst, .slice ys.ca ys.a.cs.length ys.cc, .slice ys.la ys.a.ls.length ys.lc] 26) (.cells #[.int .i64 vm.w, .int .u64 vm.hi, .int .u64 vm.lo] 29)
  have P10 := hide ((P9.out.below (bstep (below1 w9 _) hb)).below bx)
  have Q10 := hide ((Q9.out.below (bstep (below1 w9 _) hb)).below bx)
  have S10 := hide (ysr.below bx)
  have E10 := hide yse
  clear hb ysr yse P9 Q9 bx
  clear x0 x1 x2 x3 x4 x5 x6 v0 v1 v2 v3 v4 v5
  have NB3 := hide (N3.out.below D3.out)
  have NB5 := hide (N5.out.below D5.out)
  have NB6 := hide (N6.out.below D6.out)
  have RB2 := hide (And.intro (R2.out.1.below U10.out) (R2.out.2.below U10.out))
  have RB3 := hide (And.intro (R3.out.1.below D3.out) (R3.out.2.below D3.out))
  have RB5 := hide (And.intro (R5.out.1.below D5.out) (R5.out.2.below D5.out))
  have RB6 := hide (And.intro (R6.out.1.below D6.out) (R6.out.2.below D6.out))
  have TB := hide (T2.out.below U10.out)
  have HXB := hide (HX.out.below B10.out)
  have qq := hide (show w2.heap.size + 1 ≤ (w2.alloc (.cells #[.string za.name, .int .u8 za.kind, .int .i64 za.w, .int .i64 za.rate, .int .i64 za.burst, .slice (some ⟨g1, 0, none⟩) za.cs.length zc, .slice (some ⟨g2, 0, none⟩) za.ls.length zl] 26)).heap.size by simp)
  have qw1 := hide B2.out.size
  simp only [World.size_alloc] at L10
  clear N3 N5 N6 R2 R3 R5 R6 T2 HX U2 U3 U4 U5 U6 U7 U8 U9 U10 B1 B2 B6 B7 B8 B9 D3 D5 D6 L1 L2 L3 L4 L5 L6 L7 L8 L9 RC RR RW RM X2
  have SA1 : Hid (∀ W, Below ((w10.alloc (.cells #[.string ys.a.name, .int .u8 ys.a.kind, .int .i64 ys.a.w, .int .i64 ys.a.rate, .int .i64 ys.a.burst, .slice ys.ca ys.a.cs.length ys.cc, .slice ys.la ys.a.ls.length ys.lc] 26)).alloc (.cells #[.int .i64 vm.w, .int .u64 vm.hi, .int .u64 vm.lo] 29)).heap.size ((w10.alloc (.cells #[.string ys.a.name, .int .u8 ys.a.kind, .int .i64 ys.a.w, .int .i64 ys.a.rate, .int .i64 ys.a.burst, .slice ys.ca ys.a.cs.length ys.cc, .slice ys.la ys.a.ls.length ys.lc] 26)).alloc (.cells #[.int .i64 vm.w, .int .u64 vm.hi, .int .u64 vm.lo] 29)) W → _) := fun W hb => sameAr_any (full yb cb lb) yp W E7.out.symm ((NB3.out.below hb).r (E7.out ▸ P10.out.g)) (P10.out.below hb)
  have SA2 : Hid (∀ W, Below ((w10.alloc (.cells #[.string ys.a.name, .int .u8 ys.a.kind, .int .i64 ys.a.w, .int .i64 ys.a.rate, .int .i64 ys.a.burst, .slice ys.ca ys.a.cs.length ys.cc, .slice ys.la ys.a.ls.length ys.lc] 26)).alloc (.cells #[.int .i64 vm.w, .int .u64 vm.hi, .int .u64 vm.lo] 29)).heap.size ((w10.alloc (.cells #[.string ys.a.name, .int .u8 ys.a.kind, .int .i64 ys.a.w, .int .i64 ys.a.rate, .int .i64 ys.a.burst, .slice ys.ca ys.a.cs.length ys.cc, .slice ys.la ys.a.ls.length ys.lc] 26)).alloc (.cells #[.int .i64 vm.w, .int .u64 vm.hi, .int .u64 vm.lo] 29)) W → _) := fun W hb => sameAr_any (full yd cd ld) yr W E9.out.symm ((NB5.out.below hb).r (E9.out ▸ Q10.out.g)) (Q10.out.below hb)
  have SA3 : Hid (∀ W, Below ((w10.alloc (.cells #[.string ys.a.name, .int .u8 ys.a.kind, .int .i64 ys.a.w, .int .i64 ys.a.rate, .int .i64 ys.a.burst, .slice ys.ca ys.a.cs.length ys.cc, .slice ys.la ys.a.ls.length ys.lc] 26)).alloc (.cells #[.int .i64 vm.w, .int .u64 vm.hi, .int .u64 vm.lo] 29)).heap.size ((w10.alloc (.cells #[.string ys.a.name, .int .u8 ys.a.kind, .int .i64 ys.a.w, .int .i64 ys.a.rate, .int .i64 ys.a.burst, .slice ys.ca ys.a.cs.length ys.cc, .slice ys.la ys.a.ls.length ys.lc] 26)).alloc (.cells #[.int .i64 vm.w, .int .u64 vm.hi, .int .u64 vm.lo] 29)) W → _) := fun W hb => sameAr_any (full ym cm lm) ys W E10.out.symm ((NB6.out.below hb).r (E10.out ▸ S10.out.g)) (S10.out.below hb)
  have LFT : Hid (∀ W, Below ((w10.alloc (.cells #[.string ys.a.name, .int .u8 ys.a.kind, .int .i64 ys.a.w, .int .i64 ys.a.rate, .int .i64 ys.a.burst, .slice ys.ca ys.a.cs.length ys.cc, .slice ys.la ys.a.ls.length ys.lc] 26)).alloc (.cells #[.int .i64 vm.w, .int .u64 vm.hi, .int .u64 vm.lo] 29)).heap.size ((w10.alloc (.cells #[.string ys.a.name, .int .u8 ys.a.kind, .int .i64 ys.a.w, .int .i64 ys.a.rate, .int .i64 ys.a.burst, .slice ys.ca ys.a.cs.length ys.cc, .slice ys.la ys.a.ls.length ys.lc] 26)).alloc (.cells #[.int .i64 vm.w, .int .u64 vm.hi, .int .u64 vm.lo] 29)) W → _) := fun W hb => LF.out ⟨za, some ⟨g1, 0, none⟩, zc, some ⟨g2, 0, none⟩, zl⟩ _ W (HXB.out.below hb) (TB.out.below hb)
  simp only [full, ArL.val] at SA1 SA2 SA3 LFT
  obtain ⟨x0, x1, x2, x3, x4, x5, x6⟩ := at7 (L10.out.get 3 rfl)
  obtain ⟨y0, y1, y2, y3, y4, y5, y6⟩ := at7 (L10.out.get 8 rfl)
  obtain ⟨c0, c1, c2, -⟩ := at3 (L10.out.get 4 rfl)
  obtain ⟨d0, d1', d2', -⟩ := at3 (L10.out.get 9 rfl)
  obtain ⟨m0, m1, m2, -⟩ := at3 (L10.out.get 7 rfl)
  obtain ⟨t0, t1, t2, -⟩ := at3 (L10.out.get 12 rfl)
  clear LF
  go_wp2_with fail
  refine (SA1.out _ (Below.refl _ _)).mono ?_
  rintro e w11 ⟨rfl, hb⟩
  have G11 := hide hb
  clear hb x0 x1 x2 x3 x4 x5 x6 y0 y1 y2 y3 y4 y5 y6 c0 c1 c2 d0 d1' d2' m0 m1 m2 t0 t1 t2 SA1
  obtain ⟨x0, x1, x2, x3, x4, x5, x6⟩ := at7 ((L10.out.below G11.out).get 5 rfl)
  obtain ⟨y0, y1, y2, y3, y4, y5, y6⟩ := at7 ((L10.out.below G11.out).get 10 rfl)
  go_wp2_with fail
  refine (SA2.out _ G11.out).mono ?_
  rintro e w12 ⟨rfl, hb⟩
  have G12 := hide (bstep G11.out hb)
  clear hb x0 x1 x2 x3 x4 x5 x6 y0 y1 y2 y3 y4 y5 y6 SA2
  obtain ⟨x0, x1, x2, x3, x4, x5, x6⟩ := at7 ((L10.out.below G12.out).get 6 rfl)
  obtain ⟨y0, y1, y2, y3, y4, y5, y6⟩ := at7 ((L10.out.below G12.out).get 11 rfl)
  go_wp2_with fail
  refine (SA3.out _ G12.out).mono ?_
  rintro e w13 ⟨rfl, hb⟩
  have G13 := hide (bstep G12.out hb)
  clear hb x0 x1 x2 x3 x4 x5 x6 y0 y1 y2 y3 y4 y5 y6 SA3
  obtain ⟨x0, x1, x2, x3, x4, x5, x6⟩ := at7 ((L10.out.below G13.out).get 2 rfl)
  obtain ⟨y0, y1, y2, y3, y4, y5, y6⟩ := at7 ((L10.out.below G13.out).get 0 rfl)
  go_wp2_with fail
  refine (LFT.out _ G13.out).mono ?_
  rintro e w14 ⟨rfl, hb⟩
  have G14 := hide (bstep G13.out hb)
  have L14 := hide (L10.out.below G14.out)
  have B14 := hide (bstep B10.out G14.out)
  clear hb x0 x1 x2 x3 x4 x5 x6 y0 y1 y2 y3 y4 y5 y6 LFT G11 G12 G13 L10
  have z2 := RB2.out
  have z3 := RB3.out
  have z5 := RB5.out
  have z6 := RB6.out
  have S14 := hide (BoA.start (w := w) (W := w14) (B := w.heap.size) (us := [(.slice (some ⟨g2, 0, none⟩) za.ls.length zl, za.ls.length), (.slice lb yb.ls.length yb.ls.length, yb.ls.length), (.slice ld yd.ls.length yd.ls.length, yd.ls.length), (.slice lm ym.ls.length ym.ls.length, ym.ls.length)]) (ps := [(.slice (some ⟨g1, 0, none⟩) za.cs.length zc, za.cs.length), (.slice cb yb.cs.length yb.cs.length, yb.cs.length), (.slice cd yd.cs.length yd.cs.length, yd.cs.length), (.slice cm ym.cs.length ym.cs.length, ym.cs.length)]) B14.out (Nat.le_refl _) B14.out.size
    (fun u hu => by
      simp only [List.mem_cons, List.not_mem_nil, or_false] at hu
      have := YB.out; have := YD.out; have := YM.out; have := HL2.out; have := qw1.out; have := q23.out; have := q34.out; have := q45.out; have := q56.out; have := B0.out
      rcases hu with rfl | rfl | rfl | rfl
      · exact ⟨(z2.2.below G14.out).low (by omega), by show za.ls.length ≤ _; omega⟩
      · exact ⟨(z3.2.below G14.out).low (by simp; omega), by show yb.ls.length ≤ _; omega⟩
      · exact ⟨(z5.2.below G14.out).low (by simp; omega), by show yd.ls.length ≤ _; omega⟩
      · exact ⟨(z6.2.below G14.out).low (by simp; omega), by show ym.ls.length ≤ _; omega⟩)
    (fun u hu => by
      simp only [List.mem_cons, List.not_mem_nil, or_false] at hu
      have := YB.out; have := YD.out; have := YM.out; have := HL1.out; have := qw1.out; have := q23.out; have := q34.out; have := q45.out; have := q56.out; have := B0.out
      rcases hu with rfl | rfl | rfl | rfl
      · exact ⟨(z2.1.below G14.out).low (by omega), by show za.cs.length ≤ _; omega⟩
      · exact ⟨(z3.1.below G14.out).low (by simp; omega), by show yb.cs.length ≤ _; omega⟩
      · exact ⟨(z5.1.below G14.out).low (by simp; omega), by show yd.cs.length ≤ _; omega⟩
      · exact ⟨(z6.1.below G14.out).low (by simp; omega), by show ym.cs.length ≤ _; omega⟩)
    (by
      have := q23.out; have := q34.out; have := q45.out; have := q56.out
      refine List.pairwise_cons.2 ⟨fun v hv => ?_, List.pairwise_cons.2 ⟨fun v hv => ?_, List.pairwise_cons.2 ⟨fun v hv => ?_, List.pairwise_singleton _ _⟩⟩⟩ <;> simp only [List.mem_cons, List.not_mem_nil, or_false] at hv
      · rcases hv with rfl | rfl | rfl
        · exact rw_dis z2.2 z3.2 (by simp)
        · exact rw_dis z2.2 z5.2 (by simp; omega)
        · exact rw_dis z2.2 z6.2 (by simp; omega)
      · rcases hv with rfl | rfl
        · exact rw_dis z3.2 z5.2 (by simp; omega)
        · exact rw_dis z3.2 z6.2 (by simp; omega)
      · rcases hv with rfl
        exact rw_dis z5.2 z6.2 (by simp))
    (by
      have := q23.out; have := q34.out; have := q45.out; have := q56.out
      refine List.pairwise_cons.2 ⟨fun v hv => ?_, List.pairwise_cons.2 ⟨fun v hv => ?_, List.pairwise_cons.2 ⟨fun v hv => ?_, List.pairwise_singleton _ _⟩⟩⟩ <;> simp only [List.mem_cons, List.not_mem_nil, or_false] at hv
      · rcases hv with rfl | rfl | rfl
        · exact rw_dis z2.1 z3.1 (by simp)
        · exact rw_dis z2.1 z5.1 (by simp; omega)
        · exact rw_dis z2.1 z6.1 (by simp; omega)
      · rcases hv with rfl | rfl
        · exact rw_dis z3.1 z5.1 (by simp; omega)
        · exact rw_dis z3.1 z6.1 (by simp; omega)
      · rcases hv with rfl
        exact rw_dis z5.1 z6.1 (by simp)) 74)
  have LK : Hid (∀ (g : Nat) (W : World), g = w14.heap.size → Below g w14 W → Bl W _) := fun g W hg hb e he => (hb.block e.1 (by rw [hg]; exact lt_heap (L14.out e he))).trans (L14.out e he)
  clear z2 z3 z5 z6 RB2 RB3 RB5 RB6 NB3 NB5 NB6 P10 Q10 S10 E7 E9 E10 TB HXB q23 q34 q45 q56 qq qw1 YB YD YM HL1 HL2 B10 G14
  obtain ⟨x0, x1, x2, x3, x4, x5, x6⟩ := at7 ((LK.out _ _ rfl S14.out.fg).get 2 rfl)
  simp only [bk0] at x0 x1 x2 x3 x4 x5 x6
  go_wp2_with fail
  refine (S14.out.array (by simp) (by simp) (by omega) _ _ _ _ _).mono ?_
  rintro e w15 ⟨rfl, vi, is, vn, ns, h, hl1, hl2⟩
  have S15 := hide h
  have j1 : is.length = 1 := by simpa using hl1
  have j2 : ns.length = 1 := by simpa using hl2
  clear h hl1 hl2 x0 x1 x2 x3 x4 x5 x6 S14
  obtain ⟨x0, x1, x2, x3, x4, x5, x6⟩ := at7 ((LK.out _ _ rfl S15.out.fg).get 3 rfl)
  go_wp2_with fail
  refine (S15.out.array (by omega) (by omega) (by omega) _ _ _ _ _).mono ?_
  rintro e w16 ⟨rfl, vi', is', vn', ns', h, hl1, hl2⟩
  have S16 := hide h
  have j1' : is'.length = 2 := by omega
  have j2' : ns'.length = 2 := by omega
  clear h hl1 hl2 x0 x1 x2 x3 x4 x5 x6 S15 j1 j2
  obtain ⟨x0, x1, x2, x3, x4, x5, x6⟩ := at7 ((LK.out _ _ rfl S16.out.fg).get 5 rfl)
  go_wp2_with fail
  refine (S16.out.array (by omega) (by omega) (by omega) _ _ _ _ _).mono ?_
  rintro e w17 ⟨rfl, vi2, is2, vn2, ns2, h, hl1, hl2⟩
  have S17 := hide h
  have j1 : is2.length = 3 := by omega
  have j2 : ns2.length = 3 := by omega
  clear h hl1 hl2 x0 x1 x2 x3 x4 x5 x6 S16 j1' j2'
  obtain ⟨x0, x1, x2, x3, x4, x5, x6⟩ := at7 ((LK.out _ _ rfl S17.out.fg).get 6 rfl)
  go_wp2_with fail
  refine (S17.out.array (by omega) (by omega) (by omega) _ _ _ _ _).mono ?_
  rintro e w18 ⟨rfl, vi3, is3, vn3, ns3, h, hl1, hl2⟩
  have S18 := hide h
  clear h hl1 hl2 x0 x1 x2 x3 x4 x5 x6 S17 j1 j2 LK L14
  go_wp2_with fail
  refine S18.out.apart.mono ?_
  rintro e w19 ⟨rfl, hb⟩
  have B19 := hide hb
  clear hb S18
  go_wp2_with fail
  refine (HLV.out _).mono ?_
  rintro e w20 ⟨rfl, hb⟩
  go_wp2
  go_ret
  exact ⟨rfl, bstep B19.out hb⟩
theorem cellsChange_any (x : ArL) (i v : Nb) (now : Int) (w : World) (hx : ArR w x) (hln : x.la = none → x.lc = 0) (hi : NbR i) (hv : NbR v) (hnow : now < 9223372036854775808) (hn : x.a.name.size ≤ 140737488355328) :
    Calls Tryz.prog 3 #[x.val, .agg #[.int .i64 i.w, .int .u64 i.hi, .int .u64 i.lo, .int .i64 v.w, .int .u64 v.hi, .int .u64 v.lo], .int .i64 now] w fun e w' => e = .returned (.bool true) ∧ Below w.heap.size w w' := by
  by_cases h : arSz x.a ≤ 50000
  · exact change_any x i v now w hx hln hi hv hnow hn h
  · exact change_great x i v now w hx hn h
end Go.Proofs.YtbemfjdloeipmaaGreatDoor
