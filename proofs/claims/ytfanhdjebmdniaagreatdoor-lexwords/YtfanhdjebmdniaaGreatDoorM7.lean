/- Pieces of the proof: LX, LJ, LK, LL, LM. -/
import Derived.Test.YtfanhdjebmdniaaGreatDoorM3
import Derived.Test.YtfanhdjebmdniaaGreatDoorM6
import Derived.SevenTiedAt
import Derived.Lay
import Derived.Maps.AppendAt
/- Rows of package lex: what is laid, read. -/
namespace Go.Proofs.YtfanhdjebmdniaaGreatDoor
open Go.ChangeShapes Go.WideShapes Go.ChangeAt Go.ChangeMaps Go.RowKit

theorem table_strN {P : Program} {t e : TypeId} {n i : Nat} {b : ByteArray} (ht : P.underlying t = some (.array n e)) (he : P.underlying e = some .string) (hc : P.cellsOf e = 1) {W : World} {g fuel : Nat} {nm : String} {cs : Array Value} {l : List (DataW Unit)} {p : List MemPlace}
    (hg : P.globalNamed nm = some g) (hv : W.var? P nm = some cs) (hd : DataW.trod (fun _ => ()) P W 0 (fun _ => true) false fuel t cs.toList = some (.agg l, p)) (hi : i < n) (hl : l[i]? = some (.lit (.string b.data.toList))) : W.cell? ⟨g, i, none⟩ = some (.string b) := by
  obtain ⟨xs, m, rfl, hx, hlen, hn, hel⟩ := DataW.trod_array ht hd
  have h15 := hel i hi
  rw [hc] at h15
  obtain ⟨y, ey⟩ := some_atN (l := xs) (i := i) (by omega)
  rw [ey] at h15
  obtain ⟨s, e1, e2, _⟩ := DataW.trod_string he h15
  have hx' := congrArg Prod.fst hx
  simp only [DataW.agg.injEq] at hx'
  have h2 : (xs.map (·.1))[i]? = some y.1 := by rw [List.getElem?_map, ey]; rfl
  rw [← hx', hl, e2] at h2
  have h3 : b.data.toList = s.data.toList := by
    injection h2 with h2; injection h2 with h2; injection h2
  have h4 : b = s := ByteArray.ext (Array.ext' h3)
  subst h4
  rw [World.var?_cell hg hv i, ← Array.getElem?_toList]
  have := congrArg (fun l => l[0]?) e1
  simpa [List.getElem?_take, List.getElem?_drop] using this
theorem gSg : Tryz.prog.globalNamed "pointsman/lex.signs" = some 0 := by kernel_rfl
theorem tSg : (Tryz.prog.globals[0]?).map (·.type) = some 322 := by kernel_rfl
theorem cSg : Tryz.prog.cellsOf 9 = 1 := by kernel_rfl
theorem laidSg : (Rows.laid_pointsman_lex_signs : DataW Unit) = .agg ((List.range 27).map fun i => .lit (.string (sb i).data.toList)) := by kernel_rfl
theorem laidSg_at (i : Nat) (h : i < 27) : ((List.range 27).map fun i => (DataW.lit (.string (sb i).data.toList) : DataW Unit))[i]? = some (.lit (.string (sb i).data.toList)) := by
  simp [h]
def laidB : List (String × DataW Unit) := [("math/bits.deBruijn32tab", Rows.laid_math_bits_deBruijn32tab), ("math/bits.deBruijn64tab", Rows.laid_math_bits_deBruijn64tab), ("internal/strconv.uint64pow10", Rows.laid_internal_strconv_uint64pow10), ("unicode/utf8.acceptRanges", Rows.laid_unicode_utf8_acceptRanges), ("strconv.ErrRange", Rows.laid_strconv_ErrRange), ("strconv.ErrSyntax", Rows.laid_strconv_ErrSyntax), ("pointsman/lex.signs", Rows.laid_pointsman_lex_signs), ("unicode/utf8.first", Rows.laid_unicode_utf8_first)]
theorem door_met (os : Os) (args : Array Value) : laidMetH Tryz.prog laidB ((World.laidAll Tryz.prog os laidB).forCall (fun _ _ => 0) ⟨#[], args, []⟩).memory := by
  rw [MakeChecks.laidMetH_plain _ _ _ (by kernel_rfl)]
  exact laidMet_laidAll _ (by kernel_rfl) (by kernel_rfl)
theorem of_laid {W : World} (h : laidMetH Tryz.prog laidB W) : Ls W := by
  rw [MakeChecks.laidMetH_plain _ _ _ (by kernel_rfl)] at h
  obtain ⟨ps, ⟨g0, t0, cs0, f0, p0, q0, hg0, ht0, hv0, hd0, ⟨g1, t1, cs1, f1, p1, q1, hg1, ht1, hv1, hd1, ⟨g2, t2, cs2, f2, p2, q2, hg2, ht2, hv2, hd2, ⟨g3, t3, cs3, f3, p3, q3, hg3, ht3, hv3, hd3, ⟨g4, t4, cs4, f4, p4, q4, hg4, ht4, hv4, hd4, ⟨g5, t5, cs5, f5, p5, q5, hg5, ht5, hv5, hd5, ⟨g6, t6, cs6, f6, p6, q6, hg6, ht6, hv6, hd6, _, _⟩, _⟩, _⟩, _⟩, _⟩, _⟩, _⟩, _, _⟩ := h
  obtain rfl := Option.some.inj (gTabV.symm.trans hg1)
  obtain rfl := Option.some.inj (tTabV.symm.trans ht1)
  obtain rfl := Option.some.inj (gPow.symm.trans hg2)
  obtain rfl := Option.some.inj (tPowV.symm.trans ht2)
  obtain rfl := Option.some.inj (gErV.symm.trans hg4)
  obtain rfl := Option.some.inj (tErV.symm.trans ht4)
  obtain rfl := Option.some.inj (gEsV.symm.trans hg5)
  obtain rfl := Option.some.inj (tEsV.symm.trans ht5)
  obtain rfl := Option.some.inj (gSg.symm.trans hg6)
  obtain rfl := Option.some.inj (tSg.symm.trans ht6)
  refine ⟨⟨table_atN Tryz.underlying380 Tryz.underlying5 cellsYV hg1 hv1 hd1 (by decide) rfl, ?_, iface_cell Tryz.underlying316 hg5 hv5 hd5, iface_cell Tryz.underlying316 hg4 hv4 hd4⟩, fun j v hj => ?_⟩
  · have := Lib.cells_of_tab (zs := Lib.pow10Tab) Tryz.underlying353 Tryz.underlying64 cU64V cPowV hd2
    unfold Lib.TabIs
    rw [hv2, ← this]
  · have hlt : j < 27 := by have := (List.getElem?_eq_some_iff.1 hj).1; rw [sgL_len] at this; exact this
    rw [sgL_at j hlt] at hj
    injection hj with hj
    subst hj
    rw [laidSg] at hd6
    rw [Nat.zero_add]
    exact table_strN Tryz.underlying322 Tryz.underlying9 cSg hg6 hv6 hd6 hlt (laidSg_at j hlt)
end Go.Proofs.YtfanhdjebmdniaaGreatDoor
/- The word ahead: wordOf. -/
namespace Go.Proofs.YtfanhdjebmdniaaGreatDoor
open Go.RowKit

def WordPost (o : Option Wd) (p n : Nat) (r' : List UInt8) (w : World) (e : Ending) (w' : World) : Prop := ∃ ok a b c d S, WR o ok a b c d S ∧ e = .returned (.tuple #[wAgg a b c d 0 S, .bool ok]) ∧ Tx w' p r' n ∧ FrP p w w'
set_option maxHeartbeats 2000000 in
set_option maxRecDepth 100000 in
theorem wordOf_any (w0 : World) (p n : Nat) (run r : List UInt8) (w : World) (hLs : Ls w0) (hB : Below w0.heap.size w0 w) (hp : w0.heap.size ≤ p) (hT : Tx w p r n) (hr : r.length ≤ 100000) (hrun : run.length ≤ 100000) (hn : n ≤ 100000) :
    Calls Tryz.prog 117 #[.pointer (some ⟨p, 0, none⟩), .string (txt run)] w fun e w' => WordPost (wd1 run r).1 p n (wd1 run r).2 w e w' := by
  have HNP : Hid (p ≠ w.heap.size) := by unfold Hid; have := hT.lt; omega
  have HT := hide hT
  have HB := hide hB
  have HLs := hide hLs
  have HBA : Hid (Below w0.heap.size w0 (w.alloc (.cells z6 68))) := hB.alloc hB.size _
  have HLA := hide (hLs.below HBA.out)
  cases run with
  | nil =>
    obtain ⟨c0, c1, f0, f1⟩ := hT.cells
    have hplt := hT.lt
    have HS : Hid (∀ W, Ls W → _) := fun W h => signAhead_any r W (by omega) h.sg
    have hpre := sgn_pre r
    have hc0 := sgn_c10 r
    have HTk : Hid (∀ W, Tx W p r n → Calls Tryz.prog 188 #[.pointer (some ⟨p, 0, none⟩), .int .i64 (((sgn r).length : Nat) : Int)] W fun e w' => e = .returned (.string (txt (sgn r))) ∧ Tx w' p (r.drop (sgn r).length) n ∧ FrP p W w') := fun W h => by
      have := take_any p (sgn r).length n r W h hpre.2 (by omega) (by omega)
      rw [hpre.1, hc0, Nat.add_zero] at this
      exact this
    have HG := hide (sign_gives (sgn r) (by omega))
    have hsz := txt_size (sgn r)
    have hsz1 : (sgn r).length ≤ 100000 := by omega
    show Calls _ _ _ _ fun e w' => WordPost (signW (sgn r)) p n (r.drop (sgn r).length) w e w'
    unfold WordPost
    rw [txt_nil]
    generalize signW (sgn r) = O at *
    generalize r.drop (sgn r).length = R2 at *
    generalize (sgn r).length = m at *
    have HSf := HG
    unfold Gives at HSf
    generalize txt (sgn r) = T at *
    generalize txt r = TR at *
    have HP := hide hp
    clear hT hB hLs hp hr hrun hn hpre hc0 HG
    go_enter Tryz.func117, Tryz.ntmps117
    go_wp2_with fail
    refine (HS.out _ HLA.out).mono ?_
    rintro e w1 ⟨rfl, hb1⟩
    obtain ⟨hk1, ht1, hf1⟩ := afterCall HT.out hb1
    have HK1 := hide hk1; have HT1 := hide ht1; have HF1 := hide hf1
    have HZ1 : Hid (w.heap.size < w1.heap.size) := by have := hb1.size; simp at this; unfold Hid; omega
    clear hb1 hk1 ht1 hf1
    go_wp2_with fail
    refine (HTk.out _ HT1.out).mono ?_
    rintro e w2 ⟨rfl, ht2, hf2⟩
    have HT2 := hide ht2
    have HF2 := hide (HF1.out.trans hf2 (fun _ _ e => e))
    have HK2 : Hid (w2.heap[w.heap.size]? = some (.cells z6 68 (0, 0))) := (hf2.block _ HZ1.out (fun e => HNP.out e.symm)).trans HK1.out
    have HZ2 : Hid (w.heap.size < w2.heap.size) := Nat.lt_of_lt_of_le HZ1.out hf2.size
    have HL2 := hide (HLs.out.below (frB (frB HB.out HF1.out HP.out) hf2 HP.out))
    clear ht2 hf2
    go_wp2_with fail
    refine (HSf.out _ HL2.out.ld).mono ?_
    rintro e w3 ⟨ok, a, b, c, d, S, hwr, rfl, hb3⟩
    have HWR := hide hwr
    have HBk : Hid (w3.heap[w.heap.size]? = some (.cells z6 68 (0, 0))) := (hb3.block _ HZ2.out).trans HK2.out
    have HTx := hide (HT2.out.below hb3)
    have HFr := hide (HF2.out.trans (Fr.ofBelow hb3) (fun _ _ e => e))
    clear hwr hb3
    unfold wAgg
    obtain ⟨⟨k0, k1, k2, k3, k4, k5⟩, f0, f1, f2, f3, f4, f5⟩ := cells_of6 HBk.out
    go_wp2
    have hg := cells_of6 (set6_got HBk.out (.int .u8 a) (.string S) (.int .i64 b) (.int .u64 c) (.int .u64 d) (.int .i64 0))
    have HTF := hide (HTx.out.set6 (x0 := .int .u8 a) (x1 := .string S) (x2 := .int .i64 b) (x3 := .int .u64 c) (x4 := .int .u64 d) (x5 := .int .i64 0) HNP.out)
    have HFF := hide (frset6 HFr.out (x0 := .int .u8 a) (x1 := .string S) (x2 := .int .i64 b) (x3 := .int .u64 c) (x4 := .int .u64 d) (x5 := .int .i64 0) (b := w.heap.size) (Nat.le_refl _))
    unfold set6 at hg HTF HFF
    obtain ⟨⟨q0, q1, q2, q3, q4, q5⟩, _⟩ := hg
    exact bodyPost_ret (v := .tuple #[wAgg a b c d 0 S, .bool ok]) (by simp [results, Tryz.results117, go_sem, q0, q1, q2, q3, q4, q5, wAgg]) rfl ⟨_, _, _, _, _, _, HWR.out, rfl, HTF.out, HFF.out⟩
  | cons c0 l =>
    have hemp : (txt (c0 :: l)).toList.isEmpty = false := by rw [Lib.toList_data, txt_data]; rfl
    have HE1 : Hid ((txt (c0 :: l)).extract 0 1 = ⟨#[c0]⟩) := by unfold Hid; rw [txt_ext]; rfl
    have HCo := hide (fun W => Tryz.strings_Contains_one ⟨#[48, 49, 50, 51, 52, 53, 54, 55, 56, 57]⟩ c0 W)
    rw [show decide (0 ≤ Lib.indexByte (⟨#[48, 49, 50, 51, 52, 53, 54, 55, 56, 57]⟩ : ByteArray).data.toList c0) = isD c0 from rfl] at HCo
    have hs1 : 1 ≤ (txt (c0 :: l)).size := by rw [txt_size]; simp
    have hs1I : (1 : Int) ≤ ((txt (c0 :: l)).size : Int) := by omega
    have hsm : (txt (c0 :: l)).size ≤ 100000 := by rw [txt_size]; exact hrun
    have HN := hide (name_gives (c0 :: l) (by omega))
    have HW := hide (whole_gives (c0 :: l) (by omega))
    have HU := hide (num_gives (c0 :: l) (by omega))
    have HTr := hide (trim_any (c0 :: l) (by omega))
    have HP := hide hp
    have HBA2 : Hid (∀ W, Below (w.alloc (.cells z6 68)).heap.size (w.alloc (.cells z6 68)) W → Below w0.heap.size w0 W) := fun W h => HBA.out.trans (h.mono HBA.out.size)
    unfold Gives at HN HW HU
    show Calls _ _ _ _ fun e w' => WordPost (wd1 (c0 :: l) r).1 p n (wd1 (c0 :: l) r).2 w e w'
    cases hd : isD c0 with
    | false =>
      have e1 : wd1 (c0 :: l) r = (nameW (c0 :: l), r) := by unfold wd1; simp only; rw [hd]; rfl
      rw [e1]
      rw [hd] at HCo
      unfold WordPost
      generalize nameW (c0 :: l) = O at *
      generalize txt (c0 :: l) = T at *
      have he1 := HE1.out
      clear hT hB hLs hp hr hrun hn HW HU HTr hd e1
      go_enter Tryz.func117, Tryz.ntmps117
      go_wp2_with fail
      refine (HCo.out _).mono ?_
      rintro e w1 ⟨rfl, rfl⟩
      go_wp2_with fail
      refine (HN.out _ HLA.out.ld).mono ?_
      rintro e w3 ⟨ok, a, b, c, d, S, hwr, rfl, hb3⟩
      have HWR := hide hwr
      obtain ⟨hk1, ht1, hf1⟩ := afterCall HT.out hb3
      have HBk := hide hk1; have HTx := hide ht1; have HFr := hide hf1
      clear hwr hb3 hk1 ht1 hf1
      unfold wAgg
      obtain ⟨⟨k0, k1, k2, k3, k4, k5⟩, f0, f1, f2, f3, f4, f5⟩ := cells_of6 HBk.out
      go_wp2
      have hg := cells_of6 (set6_got HBk.out (.int .u8 a) (.string S) (.int .i64 b) (.int .u64 c) (.int .u64 d) (.int .i64 0))
      have HTF := hide (HTx.out.set6 (x0 := .int .u8 a) (x1 := .string S) (x2 := .int .i64 b) (x3 := .int .u64 c) (x4 := .int .u64 d) (x5 := .int .i64 0) HNP.out)
      have HFF := hide (frset6 HFr.out (x0 := .int .u8 a) (x1 := .string S) (x2 := .int .i64 b) (x3 := .int .u64 c) (x4 := .int .u64 d) (x5 := .int .i64 0) (b := w.heap.size) (Nat.le_refl _))
      unfold set6 at hg HTF HFF
      obtain ⟨⟨q0, q1, q2, q3, q4, q5⟩, _⟩ := hg
      exact bodyPost_ret (v := .tuple #[wAgg a b c d 0 S, .bool ok]) (by simp [results, Tryz.results117, go_sem, q0, q1, q2, q3, q4, q5, wAgg]) rfl ⟨_, _, _, _, _, _, HWR.out, rfl, HTF.out, HFF.out⟩
    | true =>
      rw [hd] at HCo
      cases ha : (c0 :: l).all isD with
      | true =>
        have e1 : wd1 (c0 :: l) r = (wholeW (c0 :: l), r) := by unfold wd1; simp only; rw [hd, ha]; rfl
        rw [e1]
        rw [ha] at HTr
        unfold WordPost
        generalize wholeW (c0 :: l) = O at *
        generalize txt (c0 :: l) = T at *
        have he1 := HE1.out
        clear hT hB hLs hp hr hrun hn HN HU hd e1 ha
        go_enter Tryz.func117, Tryz.ntmps117
        go_wp2_with fail
        refine (HCo.out _).mono ?_
        rintro e w1 ⟨rfl, rfl⟩
        go_wp2_with fail
        refine (HTr.out _).mono ?_
        rintro e w2 ⟨⟨R, rfl, hR⟩, hb2⟩
        have HB2 := hide hb2
        have HL2 := hide (HLs.out.below (HBA2.out _ hb2))
        clear hb2
        go_wp2_with fail
        refine (HW.out _ HL2.out.ld).mono ?_
        rintro e w3 ⟨ok, a, b, c, d, S, hwr, rfl, hb3⟩
        have HWR := hide hwr
        obtain ⟨hk1, ht1, hf1⟩ := afterCall HT.out (HB2.out.trans (hb3.mono HB2.out.size))
        have HBk := hide hk1; have HTx := hide ht1; have HFr := hide hf1
        clear hwr hb3 hk1 ht1 hf1
        unfold wAgg
        obtain ⟨⟨k0, k1, k2, k3, k4, k5⟩, f0, f1, f2, f3, f4, f5⟩ := cells_of6 HBk.out
        go_wp2
        have hg := cells_of6 (set6_got HBk.out (.int .u8 a) (.string S) (.int .i64 b) (.int .u64 c) (.int .u64 d) (.int .i64 0))
        have HTF := hide (HTx.out.set6 (x0 := .int .u8 a) (x1 := .string S) (x2 := .int .i64 b) (x3 := .int .u64 c) (x4 := .int .u64 d) (x5 := .int .i64 0) HNP.out)
        have HFF := hide (frset6 HFr.out (x0 := .int .u8 a) (x1 := .string S) (x2 := .int .i64 b) (x3 := .int .u64 c) (x4 := .int .u64 d) (x5 := .int .i64 0) (b := w.heap.size) (Nat.le_refl _))
        unfold set6 at hg HTF HFF
        obtain ⟨⟨q0, q1, q2, q3, q4, q5⟩, _⟩ := hg
        exact bodyPost_ret (v := .tuple #[wAgg a b c d 0 S, .bool ok]) (by simp [results, Tryz.results117, go_sem, q0, q1, q2, q3, q4, q5, wAgg]) rfl ⟨_, _, _, _, _, _, HWR.out, rfl, HTF.out, HFF.out⟩
      | false =>
        have e1 : wd1 (c0 :: l) r = (numW (c0 :: l), r) := by unfold wd1; simp only; rw [hd, ha]; rfl
        rw [e1]
        rw [ha] at HTr
        unfold WordPost
        generalize numW (c0 :: l) = O at *
        generalize txt (c0 :: l) = T at *
        have he1 := HE1.out
        clear hT hB hLs hp hr hrun hn HN HW hd e1 ha
        go_enter Tryz.func117, Tryz.ntmps117
        go_wp2_with fail
        refine (HCo.out _).mono ?_
        rintro e w1 ⟨rfl, rfl⟩
        go_wp2_with fail
        refine (HTr.out _).mono ?_
        rintro e w2 ⟨⟨R, rfl, hR⟩, hb2⟩
        have HB2 := hide hb2
        have HL2 := hide (HLs.out.below (HBA2.out _ hb2))
        clear hb2
        go_wp2_with fail
        refine (HU.out _ HL2.out.ld).mono ?_
        rintro e w3 ⟨ok, a, b, c, d, S, hwr, rfl, hb3⟩
        have HWR := hide hwr
        obtain ⟨hk1, ht1, hf1⟩ := afterCall HT.out (HB2.out.trans (hb3.mono HB2.out.size))
        have HBk := hide hk1; have HTx := hide ht1; have HFr := hide hf1
        clear hwr hb3 hk1 ht1 hf1
        unfold wAgg
        obtain ⟨⟨k0, k1, k2, k3, k4, k5⟩, f0, f1, f2, f3, f4, f5⟩ := cells_of6 HBk.out
        go_wp2
        have hg := cells_of6 (set6_got HBk.out (.int .u8 a) (.string S) (.int .i64 b) (.int .u64 c) (.int .u64 d) (.int .i64 0))
        have HTF := hide (HTx.out.set6 (x0 := .int .u8 a) (x1 := .string S) (x2 := .int .i64 b) (x3 := .int .u64 c) (x4 := .int .u64 d) (x5 := .int .i64 0) HNP.out)
        have HFF := hide (frset6 HFr.out (x0 := .int .u8 a) (x1 := .string S) (x2 := .int .i64 b) (x3 := .int .u64 c) (x4 := .int .u64 d) (x5 := .int .i64 0) (b := w.heap.size) (Nat.le_refl _))
        unfold set6 at hg HTF HFF
        obtain ⟨⟨q0, q1, q2, q3, q4, q5⟩, _⟩ := hg
        exact bodyPost_ret (v := .tuple #[wAgg a b c d 0 S, .bool ok]) (by simp [results, Tryz.results117, go_sem, q0, q1, q2, q3, q4, q5, wAgg]) rfl ⟨_, _, _, _, _, _, HWR.out, rfl, HTF.out, HFF.out⟩
end Go.Proofs.YtfanhdjebmdniaaGreatDoor
/- The word ahead. -/
namespace Go.Proofs.YtfanhdjebmdniaaGreatDoor
open Go.RowKit

def anL : List UInt8 := [97, 98, 99, 100, 101, 102, 103, 104, 105, 106, 107, 108, 109, 110, 111, 112, 113, 114, 115, 116, 117, 118, 119, 120, 121, 122, 65, 66, 67, 68, 69, 70, 71, 72, 73, 74, 75, 76, 77, 78, 79, 80, 81, 82, 83, 84, 85, 86, 87, 88, 89, 90, 95, 48, 49, 50, 51, 52, 53, 54, 55, 56, 57]
def isW (c : UInt8) : Bool := isIn anL c
theorem isW_10 {l : List UInt8} : c10 (l.takeWhile isW) = 0 := by
  unfold c10
  rw [List.count_eq_zero]
  intro h
  have h2 := List.all_takeWhile (p := isW) (l := l)
  rw [List.all_eq_true] at h2
  have h3 := h2 10 h
  have h4 : isW 10 = false := by decide +kernel
  rw [h4] at h3
  cases h3
theorem eatW (S : ByteArray) (p n b : Nat) (r : List UInt8) (W : World) (hb : b = W.heap.size) (hS : S.data.toList = anL) (hT : Tx W p r n) (hr : r.length ≤ 1000000) (hn : n ≤ 1000000) :
    Calls Tryz.prog 113 #[.pointer (some ⟨p, 0, none⟩), .func (Fn.func 189) #[] #[.pointer (some ⟨b, 0, none⟩)]] (W.alloc (.cells #[.string S] 9)) fun e w' => e = .returned (.string (txt (r.takeWhile isW))) ∧ Tx w' p (r.dropWhile isW) n ∧ FrP p W w' := by
  subst hb
  have := eat_among S p n r W hT hr hn
  rw [hS, show isIn anL = isW from rfl, isW_10, Nat.add_zero] at this
  exact this
def wdA (r : List UInt8) : Option Wd × List UInt8 := wd1 (r.takeWhile isW) (r.dropWhile isW)
set_option maxHeartbeats 2000000 in
set_option maxRecDepth 100000 in
theorem word_any (w0 : World) (p n : Nat) (r : List UInt8) (w : World) (hLs : Ls w0) (hB : Below w0.heap.size w0 w) (hp : w0.heap.size ≤ p) (hT : Tx w p r n) (hr : r.length ≤ 100000) (hn : n ≤ 100000) :
    Calls Tryz.prog 17 #[.pointer (some ⟨p, 0, none⟩)] w fun e w' => ∃ ok a b c d S, WR (wdA r).1 ok a b c d S ∧ e = .returned (.tuple #[wAgg a b c d (n : Int) S, .bool ok]) ∧ Tx w' p (wdA r).2 n ∧ FrP p w w' := by
  have HM := hide among_mk
  have HE := hide (fun S b W hb hS h => eatW S p n b r W hb hS h (by omega) (by omega))
  have hl1 : (r.takeWhile isW).length ≤ r.length := by
    have h := congrArg List.length (List.takeWhile_append_dropWhile (p := isW) (l := r))
    rw [List.length_append] at h; omega
  have hl2 := dropW_le isW r
  have HO := hide (fun W h1 h2 => wordOf_any w0 p n (r.takeWhile isW) (r.dropWhile isW) W hLs h1 hp h2 (by omega) (by omega) (by omega))
  unfold wdA
  unfold WordPost at HO
  generalize (wd1 (r.takeWhile isW) (r.dropWhile isW)).1 = O at *
  generalize (wd1 (r.takeWhile isW) (r.dropWhile isW)).2 = R2 at *
  generalize txt (r.takeWhile isW) = T at *
  have HT := hide hT
  have HB := hide hB
  have HP := hide hp
  have HTA := hide (hT.alloc (.cells z6 68))
  have HNP : Hid (p < w.heap.size) := hT.lt
  clear hT hB hLs hp hr hn hl1 hl2
  go_enter Tryz.func17, Tryz.ntmps17
  go_wp2_with fail
  refine (HM.out _ _).mono ?_
  rintro e w1 ⟨rfl, rfl⟩
  go_wp2_with fail
  refine (HE.out _ _ (w.alloc _) (by simp) (by kernel_rfl) (HT.out.alloc _)).mono ?_
  rintro e w2 ⟨rfl, ht2, hf2⟩
  have HZ2 : Hid (w.heap.size < w2.heap.size) := by have := hf2.size; simp at this; unfold Hid; omega
  have HK2 : Hid (w2.heap[w.heap.size]? = some (.cells z6 68 (0, 0))) := (hf2.block _ (by simp) (fun e => by have := HNP.out; omega)).trans (heap_alloc_new w _)
  have HF2 : Hid (FrP p w w2) := (Fr.ofBelow ((Below.refl _ _).alloc (Nat.le_refl _) _)).trans hf2 (fun _ _ e => e)
  have HT2 := hide ht2
  clear ht2 hf2
  go_wp2_with fail
  refine (HO.out _ (frB HB.out HF2.out HP.out) HT2.out).mono ?_
  rintro e w3 ⟨ok, a, b, c, d, S, hwr, rfl, ht3, hf3⟩
  have HWR := hide hwr
  have hlt3 : w.heap.size < w3.heap.size := Nat.lt_of_lt_of_le HZ2.out hf3.size
  have hk3 : w3.heap[w.heap.size]? = some (.cells z6 68 (0, 0)) := (hf3.block _ HZ2.out (fun e => by have := HNP.out; omega)).trans HK2.out
  have HF3 : Hid (FrP p w w3) := HF2.out.trans hf3 (fun _ _ e => e)
  obtain ⟨t0, t1, _, _⟩ := ht3.cells
  have hp3 := ht3.lt
  obtain ⟨⟨k0, k1, k2, k3, k4, k5⟩, f0, f1, f2, f3, f4, f5⟩ := cells_of6 hk3
  have HT3 := hide ht3
  have HK3 := hide hk3
  clear hwr ht3 hf3 hk3
  unfold wAgg
  have hne : ¬ (w.heap.size = w3.heap.size) := by omega
  go_wp2
  have hs6 : w.heap.size < (set6 w3 w.heap.size (.int .u8 a) (.string S) (.int .i64 b) (.int .u64 c) (.int .u64 d) (.int .i64 (n : Int))).heap.size := Nat.lt_of_lt_of_le hlt3 (set6_below (Below.refl 0 w3) (Nat.zero_le _) _ _ _ _ _ _).size
  have hg := cells_of6 ((hao _ (.cells #[.int .u8 a, .string S, .int .i64 b, .int .u64 c, .int .u64 d, .int .i64 (n : Int)] 68) _ hs6).trans (set6_got HK3.out (.int .u8 a) (.string S) (.int .i64 b) (.int .u64 c) (.int .u64 d) (.int .i64 (n : Int))))
  have HTF := hide ((HT3.out.set6 (x0 := .int .u8 a) (x1 := .string S) (x2 := .int .i64 b) (x3 := .int .u64 c) (x4 := .int .u64 d) (x5 := .int .i64 (n : Int)) (show p ≠ w.heap.size by have := HNP.out; omega)).alloc (.cells #[.int .u8 a, .string S, .int .i64 b, .int .u64 c, .int .u64 d, .int .i64 (n : Int)] 68))
  have HFF := hide ((frset6 HF3.out (x0 := .int .u8 a) (x1 := .string S) (x2 := .int .i64 b) (x3 := .int .u64 c) (x4 := .int .u64 d) (x5 := .int .i64 (n : Int)) (b := w.heap.size) (Nat.le_refl _)).alloc (.cells #[.int .u8 a, .string S, .int .i64 b, .int .u64 c, .int .u64 d, .int .i64 (n : Int)] 68))
  unfold set6 at hg HTF HFF
  obtain ⟨⟨q0, q1, q2, q3, q4, q5⟩, _⟩ := hg
  exact bodyPost_ret (v := .tuple #[wAgg a b c d (n : Int) S, .bool ok]) (by simp [results, Tryz.results17, go_sem, q0, q1, q2, q3, q4, q5, wAgg]) rfl ⟨_, _, _, _, _, _, HWR.out, rfl, HTF.out, HFF.out⟩
end Go.Proofs.YtfanhdjebmdniaaGreatDoor
/- Words of a text, as a function; rows of words. -/
namespace Go.Proofs.YtfanhdjebmdniaaGreatDoor
open Go.RowKit

abbrev LR := Except Nat (List (Wd × Nat))
def LR.app (a : List (Wd × Nat)) : LR → LR
  | .error k => .error k
  | .ok ws => .ok (a ++ ws)
theorem LR.app_nil (x : LR) : LR.app [] x = x := by cases x <;> rfl
theorem LR.app_app (a b : List (Wd × Nat)) (x : LR) : LR.app a (LR.app b x) = LR.app (a ++ b) x := by
  cases x with
  | error k => rfl
  | ok ws => simp [LR.app]
theorem takeW_split (P : UInt8 → Bool) (l : List UInt8) : (l.takeWhile P).length + (l.dropWhile P).length = l.length := by
  have h := congrArg List.length (List.takeWhile_append_dropWhile (p := P) (l := l))
  rw [List.length_append] at h; exact h
/- a word eats something. -/
theorem wdA_less {r r' : List UInt8} {x : Wd} (h : wdA r = (some x, r')) : r'.length < r.length := by
  unfold wdA at h
  have hs := takeW_split isW r
  cases hr : r.takeWhile isW with
  | nil =>
    rw [hr] at h hs
    simp only [wd1, Prod.mk.injEq] at h
    have hl := sgn_pre (r.dropWhile isW)
    obtain ⟨h1, h2⟩ := h
    have hne : sgn (r.dropWhile isW) ≠ [] := fun e => by rw [e] at h1; simp [signW] at h1
    have hpos : 0 < (sgn (r.dropWhile isW)).length := List.length_pos_iff.2 hne
    rw [← h2, List.length_drop]
    simp at hs
    omega
  | cons c l =>
    rw [hr] at h hs
    have e2 : r' = r.dropWhile isW := by
      unfold wd1 at h
      simp only at h
      split at h
      · split at h
        · exact (Prod.mk.inj h).2.symm
        · exact (Prod.mk.inj h).2.symm
      · exact (Prod.mk.inj h).2.symm
    rw [e2]
    simp at hs
    omega
def tkF : Nat → List UInt8 → Nat → LR
  | 0, _, _ => .ok []
  | f + 1, r, n => if r = [] then .ok [] else match wdA r with
    | (none, _) => .error n
    | (some x, r') => LR.app [(x, n)] (tkF f (skip r') (n + c10 r' - c10 (skip r')))
theorem tkF_any : ∀ (f g : Nat) (r : List UInt8) (n : Nat), r.length < f → r.length < g → tkF f r n = tkF g r n
  | 0, _, _, _, h, _ => by omega
  | _, 0, _, _, _, h => by omega
  | f + 1, g + 1, r, n, h1, h2 => by
    rw [tkF, tkF]
    split
    · rfl
    · split
      · rfl
      · rename_i x r' h
        have hl := Nat.lt_of_le_of_lt (skip_le r') (wdA_less h)
        rw [tkF_any f g (skip r') _ (by omega) (by omega)]
def tk (r : List UInt8) (n : Nat) : LR := tkF (r.length + 1) r n
theorem tk_nil (n : Nat) : tk [] n = .ok [] := by rw [tk, tkF]; simp
theorem tk_none {r r' : List UInt8} {n : Nat} (h0 : r ≠ []) (h : wdA r = (none, r')) : tk r n = .error n := by
  rw [tk, tkF, if_neg h0, h]
theorem tk_some {r r' : List UInt8} {n : Nat} {x : Wd} (h0 : r ≠ []) (h : wdA r = (some x, r')) : tk r n = LR.app [(x, n)] (tk (skip r') (n + c10 r' - c10 (skip r'))) := by
  rw [tk, tkF, if_neg h0, h]
  have hl := Nat.lt_of_le_of_lt (skip_le r') (wdA_less h)
  simp only
  rw [tk, tkF_any r.length ((skip r').length + 1) (skip r') _ hl (by omega)]
def toks (s : List UInt8) : LR := tk (skip s) (c10 s - c10 (skip s))
/- rows of words. -/
def wcl (x : Wd × Nat) : List Value := [.int .u8 (x.1.k : Int), .string (txt x.1.s), .int .i64 (x.1.w : Int), .int .u64 (wHi x.1.v), .int .u64 (wLo x.1.v), .int .i64 (x.2 : Int)]
def wcs (xs : List (Wd × Nat)) : List Value := (xs.map wcl).flatten
theorem wcs_snoc (xs : List (Wd × Nat)) (x : Wd × Nat) : wcs (xs ++ [x]) = wcs xs ++ wcl x := by simp [wcs]
def OwnW (W : World) (B : Nat) (v : Value) (xs : List (Wd × Nat)) : Prop := W.ownsRow B 68 6 v xs.length (wcs xs)
theorem OwnW.nil (W : World) (B : Nat) : OwnW W B (.slice none 0 0) [] := ⟨rfl, .inl ⟨rfl, rfl⟩⟩
theorem OwnW.fr {W W' : World} {B p : Nat} {v : Value} {xs : List (Wd × Nat)} (h : OwnW W B v xs) (hf : FrP p W W') (hp : p < B) : OwnW W' B v xs := by
  obtain ⟨hl, h0 | ⟨g, cap, cur, hv, hb, hh, r⟩⟩ := h
  · exact ⟨hl, .inl h0⟩
  · exact ⟨hl, .inr ⟨g, cap, cur, hv, hb, (hf.block g (Array.getElem?_eq_some_iff.1 hh).1 (by omega)).trans hh, r⟩⟩
theorem OwnW.alloc {W : World} {B : Nat} {v : Value} {xs : List (Wd × Nat)} (h : OwnW W B v xs) (o : Obj) : OwnW (W.alloc o) B v xs := by
  obtain ⟨hl, h0 | ⟨g, cap, cur, hv, hb, hh, r⟩⟩ := h
  · exact ⟨hl, .inl h0⟩
  · exact ⟨hl, .inr ⟨g, cap, cur, hv, hb, (hao W o g (Array.getElem?_eq_some_iff.1 hh).1).trans hh, r⟩⟩
theorem OwnW.lower {W : World} {B B' : Nat} {v : Value} {xs : List (Wd × Nat)} (h : OwnW W B v xs) (hB : B' ≤ B) : OwnW W B' v xs := by
  obtain ⟨hl, h0 | ⟨g, cap, cur, hv, hb, hh, r⟩⟩ := h
  · exact ⟨hl, .inl h0⟩
  · exact ⟨hl, .inr ⟨g, cap, cur, hv, by omega, hh, r⟩⟩
theorem OwnW.block {W : World} {B : Nat} {v : Value} {xs : List (Wd × Nat)} (h : OwnW W B v xs) {g : Nat} (hg : v.ownBlock = some g) : B ≤ g ∧ g < W.heap.size := by
  obtain ⟨hl, ⟨rfl, _⟩ | ⟨g', cap, cur, rfl, hb, hh, r⟩⟩ := h
  · cases hg
  · cases hg; exact ⟨hb, (Array.getElem?_eq_some_iff.1 hh).1⟩
theorem infoW : (Tryz.prog.info? 68).map (fun i => (i.zero, i.size, i.bytes)) = some (some (.agg z6), 6, 56) := by kernel_rfl
theorem cells_new6 (w : World) (cs : List Value) (t : TypeId) : ∀ j u, cs[j]? = some u → (w.alloc (.cells cs.toArray t)).cell? ((⟨w.heap.size, 0, none⟩ : Addr).add j) = some u := by
  intro j u hj
  have e : (⟨w.heap.size, 0, none⟩ : Addr).add j = ⟨w.heap.size, j, none⟩ := by rw [Addr.add_mid, Nat.zero_add]
  rw [e, World.cell?_alloc_new]
  simpa using hj
end Go.Proofs.YtfanhdjebmdniaaGreatDoor
/- lex.Words, whatever it is given. -/
namespace Go.Proofs.YtfanhdjebmdniaaGreatDoor
open Go.RowKit

theorem wcl_one (x : Wd × Nat) : ∀ u ∈ wcl x, u.oneCell' = true := by
  intro u hu
  simp [wcl] at hu
  rcases hu with rfl | rfl | rfl | rfl | rfl | rfl <;> rfl
theorem wdA_c10 (r : List UInt8) : c10 (wdA r).2 = c10 r := by
  have h1 := dropW_c10 isW r
  have h2 : c10 (r.takeWhile isW) = 0 := isW_10
  unfold wdA
  cases hr : r.takeWhile isW with
  | nil =>
    simp only [wd1]
    have hp := sgn_pre (r.dropWhile isW)
    have hc := sgn_c10 (r.dropWhile isW)
    have e := congrArg c10 (List.take_append_drop (sgn (r.dropWhile isW)).length (r.dropWhile isW))
    rw [c10_app, hp.1, hc] at e
    omega
  | cons c l =>
    unfold wd1
    simp only
    split
    · split
      · show c10 (r.dropWhile isW) = _; omega
      · show c10 (r.dropWhile isW) = _; omega
    · show c10 (r.dropWhile isW) = _; omega
def WordsPost (s : List UInt8) (w : World) (e : Ending) (w' : World) : Prop := Below w.heap.size w w' ∧
  ((65536 < s.length ∧ e = .returned (.tuple #[.slice none 0 0, .int .i64 0, .int .i64 3])) ∨
   (s.length ≤ 65536 ∧ ((∃ k : Nat, toks s = .error k ∧ e = .returned (.tuple #[.slice none 0 0, .int .i64 (k : Int), .int .i64 4])) ∨
     (∃ xs v, toks s = .ok xs ∧ xs.length ≤ 65536 ∧ OwnW w' w.heap.size v xs ∧ e = .returned (.tuple #[v, .int .i64 0, .int .i64 0])))))
set_option maxHeartbeats 4000000 in
set_option maxRecDepth 100000 in
theorem words_any (s : List UInt8) (w : World) (hLs : Ls w) (hmx : s.length ≤ 9223372036854775807) :
    Calls Tryz.prog 7 #[.string (txt s)] w fun e w' => WordsPost s w e w' := by
  unfold WordsPost
  have hsz := txt_size s
  by_cases hbig : 65536 < s.length
  · have hbI : (65536 : Int) < ((txt s).size : Int) := by omega
    generalize txt s = T at *
    have HS := hide hbig
    clear hbig hsz hLs
    go_enter Tryz.func7, Tryz.ntmps7
    go_wp2
    refine bodyPost_ret (v := .tuple #[.slice none 0 0, .int .i64 0, .int .i64 3]) (by simp [results, Tryz.results7, go_sem]) rfl ⟨Below.refl _ _, .inl ⟨HS.out, rfl⟩⟩
  · have hbI : ¬ ((65536 : Int) < ((txt s).size : Int)) := by omega
    have hle : s.length ≤ 65536 := by omega
    have HLE := hide hle
    have HLs := hide hLs
    have hc := c10_le s
    have HT0 : Hid (Tx (w.alloc (.cells #[.string (txt s), .int .i64 0] 77)) w.heap.size s 0) := heap_alloc_new w _
    have HP : Hid (∀ r n W, Tx W w.heap.size r n → r.length ≤ 65536 → n + c10 r ≤ 65536 → _) := fun r n W h h1 h2 => passIdle_any w.heap.size n r W h (by omega) (by omega)
    have HWd : Hid (∀ r n W, Below w.heap.size w W → Tx W w.heap.size r n → r.length ≤ 65536 → n ≤ 65536 → _) := fun r n W h0 h h1 h2 => word_any w w.heap.size n r W hLs h0 (Nat.le_refl _) h (by omega) (by omega)
    have HC : Hid (c10 s ≤ 65536) := by unfold Hid; omega
    obtain ⟨i0, hi0, hz0, hz1, hz2⟩ := info_parts infoW
    generalize hTT : txt s = T at *
    clear hTT hbig hsz hLs hle hc hmx
    go_enter Tryz.func7, Tryz.ntmps7
    go_wp2_with fail
    refine (HP.out s 0 _ HT0.out HLE.out (by have := HC.out; omega)).mono ?_
    rintro e w1 ⟨rfl, ⟨n1, ht1, hn1⟩, hf1⟩
    have HI : Hid (Tx w1 w.heap.size (skip s) n1 ∧ n1 + c10 (skip s) = 0 + c10 s ∧ Below w.heap.size w w1) := ⟨ht1, hn1, frB ((Below.refl _ _).alloc (Nat.le_refl _) _) hf1 (Nat.le_refl _)⟩
    clear ht1 hn1 hf1
    go_wp2
    go_loopg [5] (s.length + 1) (fun g v wr => ∃ (r : List UInt8) (n : Nat) (acc : List (Wd × Nat)), r.length < g ∧ Hid (r.length + acc.length ≤ 65536 ∧ n + c10 r ≤ 65536 ∧ Tx wr w.heap.size r n ∧ OwnW wr (w.heap.size + 1) v acc ∧ Below w.heap.size w wr ∧ toks s = LR.app acc (tk r n)))
    case atStart =>
      obtain ⟨h1, h2, h3⟩ := HI.out
      have hl := skip_le s
      refine ⟨skip s, n1, [], by omega, by have := HLE.out; simp; omega, by have := HC.out; omega, h1, OwnW.nil _ _, h3, ?_⟩
      rw [LR.app_nil]
      unfold toks
      congr 1; omega
    case round =>
      obtain ⟨r, n, acc, hg, HR⟩ := hrel
      obtain ⟨t0, t1, _, _⟩ := HR.out.2.2.1.cells
      by_cases hre : r = []
      · have hem : (txt r).toList.isEmpty = true := by rw [hre, Lib.toList_data, txt_data]; rfl
        have HE : Hid (toks s = .ok acc ∧ acc.length ≤ 65536 ∧ Below w.heap.size w wr) := by
          obtain ⟨a1, a2, a3, a4, a5, a6⟩ := HR.out
          refine ⟨?_, by omega, a5⟩
          rw [a6, hre, tk_nil]; simp [LR.app]
        have HO := hide (HR.out.2.2.2.1.lower (Nat.le_succ _))
        clear HR hre
        generalize txt r = TR at *
        go_wp2
        refine bodyPost_ret (v := .tuple #[u5, .int .i64 0, .int .i64 0]) (by simp [results, Tryz.results7, go_sem]) rfl ⟨HE.out.2.2, .inr ⟨HLE.out, .inr ⟨acc, u5, HE.out.1, HE.out.2.1, HO.out, rfl⟩⟩⟩
      · have hem : (txt r).toList.isEmpty = false := by
          rw [Lib.toList_data, txt_data]
          cases r with
          | nil => exact absurd rfl hre
          | cons _ _ => rfl
        obtain ⟨a1, a2, a3, a4, a5, a6⟩ := HR.out
        have HW1 := hide (HWd.out r n wr a5 a3 (by omega) (by omega))
        have HTK := hide a6
        have HOW := hide a4
        have HBW := hide a5
        have HA1 := hide a1
        have HA2 := hide a2
        have HRE := hide hre
        clear HR a1 a2 a3 a4 a5 a6 hre
        generalize txt r = TR at *
        go_wp2_with fail
        refine HW1.out.mono ?_
        rintro e w2 ⟨ok, a, b, c, d, S, hwr, rfl, ht2, hf2⟩
        have HT2 := hide ht2
        have HB2 := hide (frB HBW.out hf2 (Nat.le_refl _))
        have HO2 := hide (HOW.out.fr hf2 (Nat.lt_succ_self _))
        have hlt2 : w.heap.size < w2.heap.size := ht2.lt
        obtain ⟨z0, z1, _, _⟩ := ht2.cells
        rcases hwr with ⟨rfl, x, ho, rfl, rfl, rfl, rfl, rfl⟩ | ⟨rfl, ho⟩
        · have hwd : wdA r = (some x, (wdA r).2) := by rw [← ho]
          have HN : Hid (toks s = LR.app (acc ++ [(x, n)]) (tk (skip (wdA r).2) (n + c10 (wdA r).2 - c10 (skip (wdA r).2)))) := by
            unfold Hid
            rw [HTK.out, tk_some HRE.out hwd, LR.app_app]
          have hless := wdA_less hwd
          have hcw := wdA_c10 r
          have HPI := hide (fun W h => HP.out (wdA r).2 n W h (by have := HA1.out; omega) (by have := HA2.out; omega))
          have hsk := skip_le (wdA r).2
          have HLL : Hid ((skip (wdA r).2).length < r.length ∧ (skip (wdA r).2).length + (acc ++ [(x, n)]).length ≤ 65536) := by
            refine ⟨by omega, ?_⟩
            have := HA1.out
            rw [List.length_append, List.length_singleton]; omega
          have HA2' : Hid (n + c10 (wdA r).2 ≤ 65536) := by unfold Hid; have := HA2.out; omega
          have hgl : r.length < gk := hg
          clear ho hwd hless hcw hsk ht2 hf2 HW1 HTK
          generalize (wdA r).2 = R2 at *
          unfold wAgg
          go_wp2_with (first
            | (at_builtin; refine wpList_append_own_at _ rfl _ _ 22 rfl (w.heap.size + 1) 68 i0 (.agg z6) 6 56 Tryz.underlying22 hi0 hz0 hz1 hz2 rfl (by decide) _ acc.length (wcs acc) rfl ((HO2.out.alloc _).alloc _) ⟨w2.heap.size + 1, 0, none⟩ 1 1 (wcl (x, n)) rfl rfl (by intro j u hj; have := cells_new6 (w2.alloc (.cells #[.int .u8 (x.k : Int), .string (txt x.s), .int .i64 (x.w : Int), .int .u64 (wHi x.v), .int .u64 (wLo x.v), .int .i64 (n : Int)] 68)) (wcl (x, n)) 68 j u hj; rw [World.size_alloc] at this; exact this) (wcl_one _) (by unfold maxLen; have := HA1.out; omega) (by have := HA1.out; omega) (by simp; omega) ?_
               intro v7 w7 O7 G7 _ K7
               have O8 : Hid (OwnW w7 (w.heap.size + 1) v7 (acc ++ [(x, n)])) := by unfold Hid OwnW; rw [List.length_append, List.length_singleton, wcs_snoc]; exact O7
               have hfr := Fr.grown (E := fun b => w.heap.size + 1 ≤ b) G7 (fun r er => (HO2.out.block er).1)
               have T8 : Hid (Tx w7 w.heap.size R2 n) := (hfr.block w.heap.size (by simp; omega) (by omega)).trans ((HT2.out.alloc _).alloc _)
               have B8 : Hid (Below w.heap.size w w7) := ((HB2.out.alloc (by omega) _).alloc (by simp; omega) _).trans (hfr.below (fun b e => by omega) (by simp; omega))
               clear O7 G7 K7 hfr))
          refine (HPI.out _ T8.out).mono ?_
          rintro e w8 ⟨rfl, ⟨n8, ht8, hn8⟩, hf8⟩
          have H8 : Hid (Tx w8 w.heap.size (skip R2) n8 ∧ n8 + c10 (skip R2) = n + c10 R2 ∧ OwnW w8 (w.heap.size + 1) v7 (acc ++ [(x, n)]) ∧ Below w.heap.size w w8) := ⟨ht8, hn8, O8.out.fr hf8 (Nat.lt_succ_self _), frB B8.out hf8 (Nat.le_refl _)⟩
          clear ht8 hn8 hf8
          go_wp2
          go_roundg (r.length)
          case measure => omega
          case rel =>
            obtain ⟨b1, b2, b3, b4⟩ := H8.out
            refine ⟨skip R2, n8, acc ++ [(x, n)], HLL.out.1, HLL.out.2, by have := HA2'.out; omega, b1, b3, b4, ?_⟩
            rw [HN.out]
            congr 2; omega
        · have hwd : wdA r = (none, (wdA r).2) := by rw [← ho]
          have HN : Hid (toks s = .error n) := by unfold Hid; rw [HTK.out, tk_none HRE.out hwd]; rfl
          clear ho hwd ht2 hf2 HW1 HTK
          generalize (wdA r).2 = R2 at *
          unfold wAgg
          go_wp2
          go_region
          go_wp2
          refine bodyPost_ret (v := .tuple #[.slice none 0 0, .int .i64 (n : Int), .int .i64 4]) (by simp [results, Tryz.results7, go_sem]) rfl ⟨?_, .inr ⟨HLE.out, .inl ⟨n, HN.out, rfl⟩⟩⟩
          first | exact (HB2.out.alloc (by omega) _).drew | exact HB2.out.alloc (by omega) _
end Go.Proofs.YtfanhdjebmdniaaGreatDoor
