/- The word ahead: wordOf. -/
import Derived.Test.YtfanhdjebmdniaaGreatDoorLI
namespace Go.Proofs.YtfanhdjebmdniaaGreatDoor
open Go.RowKit

def WordPost (o : Option Wd) (p n : Nat) (r' : List UInt8) (w : World) (e : Ending) (w' : World) : Prop := ∃ ok a b c d S, WR o ok a b c d S ∧ e = .returned (.tuple #[wAgg a b c d 0 S, .bool ok]) ∧ Tx w' p r' n ∧ FrP p w w'
set_option maxHeartbeats 2000000 in
set_option maxRecDepth 100000 in
theorem wordOf_any (w0 : World) (p n : Nat) (run r : List UInt8) (w : World) (hLs : Ls w0) (hB : Below w0.heap.size w0 w) (hp : w0.heap.size ≤ p) (hT : Tx w p r n) (hr : r.length ≤ 100000) (hrun : run.length ≤ 100000) (hn : n ≤ 100000) :
    Calls Tryz.prog 117 #[.pointer (some ⟨p, 0, none⟩), .string (txt run)] w fun e w' => WordPost (wd1 run r).1 p n (wd1 run r).2 w e w' := by
  have HNP : Hid (p ≠ w.heap.size) := by unfold Hid; have := hT.lt; omega
  have HT := hide hT
  have HB := hide hB
  have HLs := hide hLs
  have HBA : Hid (Below w0.heap.size w0 (w.alloc (.cells z6 68))) := hB.alloc hB.size _
  have HLA := hide (hLs.below HBA.out)
  cases run with
  | nil =>
    obtain ⟨c0, c1, f0, f1⟩ := hT.cells
    have hplt := hT.lt
    have HS : Hid (∀ W, Ls W → _) := fun W h => signAhead_any r W (by omega) h.sg
    have hpre := sgn_pre r
    have hc0 := sgn_c10 r
    have HTk : Hid (∀ W, Tx W p r n → Calls Tryz.prog 188 #[.pointer (some ⟨p, 0, none⟩), .int .i64 (((sgn r).length : Nat) : Int)] W fun e w' => e = .returned (.string (txt (sgn r))) ∧ Tx w' p (r.drop (sgn r).length) n ∧ FrP p W w') := fun W h => by
      have := take_any p (sgn r).length n r W h hpre.2 (by omega) (by omega)
      rw [hpre.1, hc0, Nat.add_zero] at this
      exact this
    have HG := hide (sign_gives (sgn r) (by omega))
    have hsz := txt_size (sgn r)
    have hsz1 : (sgn r).length ≤ 100000 := by omega
    show Calls _ _ _ _ fun e w' => WordPost (signW (sgn r)) p n (r.drop (sgn r).length) w e w'
    unfold WordPost
    rw [txt_nil]
    generalize signW (sgn r) = O at *
    generalize r.drop (sgn r).length = R2 at *
    generalize (sgn r).length = m at *
    have HSf := HG
    unfold Gives at HSf
    generalize txt (sgn r) = T at *
    generalize txt r = TR at *
    have HP := hide hp
    clear hT hB hLs hp hr hrun hn hpre hc0 HG
    go_enter Tryz.func117, Tryz.ntmps117
    go_wp2_with fail
    refine (HS.out _ HLA.out).mono ?_
    rintro e w1 ⟨rfl, hb1⟩
    obtain ⟨hk1, ht1, hf1⟩ := afterCall HT.out hb1
    have HK1 := hide hk1; have HT1 := hide ht1; have HF1 := hide hf1
    have HZ1 : Hid (w.heap.size < w1.heap.size) := by have := hb1.size; simp at this; unfold Hid; omega
    clear hb1 hk1 ht1 hf1
    go_wp2_with fail
    refine (HTk.out _ HT1.out).mono ?_
    rintro e w2 ⟨rfl, ht2, hf2⟩
    have HT2 := hide ht2
    have HF2 := hide (HF1.out.trans hf2 (fun _ _ e => e))
    have HK2 : Hid (w2.heap[w.heap.size]? = some (.cells z6 68 (0, 0))) := (hf2.block _ HZ1.out (fun e => HNP.out e.symm)).trans HK1.out
    have HZ2 : Hid (w.heap.size < w2.heap.size) := Nat.lt_of_lt_of_le HZ1.out hf2.size
    have HL2 := hide (HLs.out.below (frB (frB HB.out HF1.out HP.out) hf2 HP.out))
    clear ht2 hf2
    go_wp2_with fail
    refine (HSf.out _ HL2.out.ld).mono ?_
    rintro e w3 ⟨ok, a, b, c, d, S, hwr, rfl, hb3⟩
    have HWR := hide hwr
    have HBk : Hid (w3.heap[w.heap.size]? = some (.cells z6 68 (0, 0))) := (hb3.block _ HZ2.out).trans HK2.out
    have HTx := hide (HT2.out.below hb3)
    have HFr := hide (HF2.out.trans (Fr.ofBelow hb3) (fun _ _ e => e))
    clear hwr hb3
    unfold wAgg
    obtain ⟨⟨k0, k1, k2, k3, k4, k5⟩, f0, f1, f2, f3, f4, f5⟩ := cells_of6 HBk.out
    go_wp2
    have hg := cells_of6 (set6_got HBk.out (.int .u8 a) (.string S) (.int .i64 b) (.int .u64 c) (.int .u64 d) (.int .i64 0))
    have HTF := hide (HTx.out.set6 (x0 := .int .u8 a) (x1 := .string S) (x2 := .int .i64 b) (x3 := .int .u64 c) (x4 := .int .u64 d) (x5 := .int .i64 0) HNP.out)
    have HFF := hide (frset6 HFr.out (x0 := .int .u8 a) (x1 := .string S) (x2 := .int .i64 b) (x3 := .int .u64 c) (x4 := .int .u64 d) (x5 := .int .i64 0) (b := w.heap.size) (Nat.le_refl _))
    unfold set6 at hg HTF HFF
    obtain ⟨⟨q0, q1, q2, q3, q4, q5⟩, _⟩ := hg
    exact bodyPost_ret (v := .tuple #[wAgg a b c d 0 S, .bool ok]) (by simp [results, Tryz.results117, go_sem, q0, q1, q2, q3, q4, q5, wAgg]) rfl ⟨_, _, _, _, _, _, HWR.out, rfl, HTF.out, HFF.out⟩
  | cons c0 l =>
    have hemp : (txt (c0 :: l)).toList.isEmpty = false := by rw [Lib.toList_data, txt_data]; rfl
    have HE1 : Hid ((txt (c0 :: l)).extract 0 1 = ⟨#[c0]⟩) := by unfold Hid; rw [txt_ext]; rfl
    have HCo := hide (fun W => Tryz.strings_Contains_one ⟨#[48, 49, 50, 51, 52, 53, 54, 55, 56, 57]⟩ c0 W)
    rw [show decide (0 ≤ Lib.indexByte (⟨#[48, 49, 50, 51, 52, 53, 54, 55, 56, 57]⟩ : ByteArray).data.toList c0) = isD c0 from rfl] at HCo
    have hs1 : 1 ≤ (txt (c0 :: l)).size := by rw [txt_size]; simp
    have hs1I : (1 : Int) ≤ ((txt (c0 :: l)).size : Int) := by omega
    have hsm : (txt (c0 :: l)).size ≤ 100000 := by rw [txt_size]; exact hrun
    have HN := hide (name_gives (c0 :: l) (by omega))
    have HW := hide (whole_gives (c0 :: l) (by omega))
    have HU := hide (num_gives (c0 :: l) (by omega))
    have HTr := hide (trim_any (c0 :: l) (by omega))
    have HP := hide hp
    have HBA2 : Hid (∀ W, Below (w.alloc (.cells z6 68)).heap.size (w.alloc (.cells z6 68)) W → Below w0.heap.size w0 W) := fun W h => HBA.out.trans (h.mono HBA.out.size)
    unfold Gives at HN HW HU
    show Calls _ _ _ _ fun e w' => WordPost (wd1 (c0 :: l) r).1 p n (wd1 (c0 :: l) r).2 w e w'
    cases hd : isD c0 with
    | false =>
      have e1 : wd1 (c0 :: l) r = (nameW (c0 :: l), r) := by unfold wd1; simp only; rw [hd]; rfl
      rw [e1]
      rw [hd] at HCo
      unfold WordPost
      generalize nameW (c0 :: l) = O at *
      generalize txt (c0 :: l) = T at *
      have he1 := HE1.out
      clear hT hB hLs hp hr hrun hn HW HU HTr hd e1
      go_enter Tryz.func117, Tryz.ntmps117
      go_wp2_with fail
      refine (HCo.out _).mono ?_
      rintro e w1 ⟨rfl, rfl⟩
      go_wp2_with fail
      refine (HN.out _ HLA.out.ld).mono ?_
      rintro e w3 ⟨ok, a, b, c, d, S, hwr, rfl, hb3⟩
      have HWR := hide hwr
      obtain ⟨hk1, ht1, hf1⟩ := afterCall HT.out hb3
      have HBk := hide hk1; have HTx := hide ht1; have HFr := hide hf1
      clear hwr hb3 hk1 ht1 hf1
      unfold wAgg
      obtain ⟨⟨k0, k1, k2, k3, k4, k5⟩, f0, f1, f2, f3, f4, f5⟩ := cells_of6 HBk.out
      go_wp2
      have hg := cells_of6 (set6_got HBk.out (.int .u8 a) (.string S) (.int .i64 b) (.int .u64 c) (.int .u64 d) (.int .i64 0))
      have HTF := hide (HTx.out.set6 (x0 := .int .u8 a) (x1 := .string S) (x2 := .int .i64 b) (x3 := .int .u64 c) (x4 := .int .u64 d) (x5 := .int .i64 0) HNP.out)
      have HFF := hide (frset6 HFr.out (x0 := .int .u8 a) (x1 := .string S) (x2 := .int .i64 b) (x3 := .int .u64 c) (x4 := .int .u64 d) (x5 := .int .i64 0) (b := w.heap.size) (Nat.le_refl _))
      unfold set6 at hg HTF HFF
      obtain ⟨⟨q0, q1, q2, q3, q4, q5⟩, _⟩ := hg
      exact bodyPost_ret (v := .tuple #[wAgg a b c d 0 S, .bool ok]) (by simp [results, Tryz.results117, go_sem, q0, q1, q2, q3, q4, q5, wAgg]) rfl ⟨_, _, _, _, _, _, HWR.out, rfl, HTF.out, HFF.out⟩
    | true =>
      rw [hd] at HCo
      cases ha : (c0 :: l).all isD with
      | true =>
        have e1 : wd1 (c0 :: l) r = (wholeW (c0 :: l), r) := by unfold wd1; simp only; rw [hd, ha]; rfl
        rw [e1]
        rw [ha] at HTr
        unfold WordPost
        generalize wholeW (c0 :: l) = O at *
        generalize txt (c0 :: l) = T at *
        have he1 := HE1.out
        clear hT hB hLs hp hr hrun hn HN HU hd e1 ha
        go_enter Tryz.func117, Tryz.ntmps117
        go_wp2_with fail
        refine (HCo.out _).mono ?_
        rintro e w1 ⟨rfl, rfl⟩
        go_wp2_with fail
        refine (HTr.out _).mono ?_
        rintro e w2 ⟨⟨R, rfl, hR⟩, hb2⟩
        have HB2 := hide hb2
        have HL2 := hide (HLs.out.below (HBA2.out _ hb2))
        clear hb2
        go_wp2_with fail
        refine (HW.out _ HL2.out.ld).mono ?_
        rintro e w3 ⟨ok, a, b, c, d, S, hwr, rfl, hb3⟩
        have HWR := hide hwr
        obtain ⟨hk1, ht1, hf1⟩ := afterCall HT.out (HB2.out.trans (hb3.mono HB2.out.size))
        have HBk := hide hk1; have HTx := hide ht1; have HFr := hide hf1
        clear hwr hb3 hk1 ht1 hf1
        unfold wAgg
        obtain ⟨⟨k0, k1, k2, k3, k4, k5⟩, f0, f1, f2, f3, f4, f5⟩ := cells_of6 HBk.out
        go_wp2
        have hg := cells_of6 (set6_got HBk.out (.int .u8 a) (.string S) (.int .i64 b) (.int .u64 c) (.int .u64 d) (.int .i64 0))
        have HTF := hide (HTx.out.set6 (x0 := .int .u8 a) (x1 := .string S) (x2 := .int .i64 b) (x3 := .int .u64 c) (x4 := .int .u64 d) (x5 := .int .i64 0) HNP.out)
        have HFF := hide (frset6 HFr.out (x0 := .int .u8 a) (x1 := .string S) (x2 := .int .i64 b) (x3 := .int .u64 c) (x4 := .int .u64 d) (x5 := .int .i64 0) (b := w.heap.size) (Nat.le_refl _))
        unfold set6 at hg HTF HFF
        obtain ⟨⟨q0, q1, q2, q3, q4, q5⟩, _⟩ := hg
        exact bodyPost_ret (v := .tuple #[wAgg a b c d 0 S, .bool ok]) (by simp [results, Tryz.results117, go_sem, q0, q1, q2, q3, q4, q5, wAgg]) rfl ⟨_, _, _, _, _, _, HWR.out, rfl, HTF.out, HFF.out⟩
      | false =>
        have e1 : wd1 (c0 :: l) r = (numW (c0 :: l), r) := by unfold wd1; simp only; rw [hd, ha]; rfl
        rw [e1]
        rw [ha] at HTr
        unfold WordPost
        generalize numW (c0 :: l) = O at *
        generalize txt (c0 :: l) = T at *
        have he1 := HE1.out
        clear hT hB hLs hp hr hrun hn HN HW hd e1 ha
        go_enter Tryz.func117, Tryz.ntmps117
        go_wp2_with fail
        refine (HCo.out _).mono ?_
        rintro e w1 ⟨rfl, rfl⟩
        go_wp2_with fail
        refine (HTr.out _).mono ?_
        rintro e w2 ⟨⟨R, rfl, hR⟩, hb2⟩
        have HB2 := hide hb2
        have HL2 := hide (HLs.out.below (HBA2.out _ hb2))
        clear hb2
        go_wp2_with fail
        refine (HU.out _ HL2.out.ld).mono ?_
        rintro e w3 ⟨ok, a, b, c, d, S, hwr, rfl, hb3⟩
        have HWR := hide hwr
        obtain ⟨hk1, ht1, hf1⟩ := afterCall HT.out (HB2.out.trans (hb3.mono HB2.out.size))
        have HBk := hide hk1; have HTx := hide ht1; have HFr := hide hf1
        clear hwr hb3 hk1 ht1 hf1
        unfold wAgg
        obtain ⟨⟨k0, k1, k2, k3, k4, k5⟩, f0, f1, f2, f3, f4, f5⟩ := cells_of6 HBk.out
        go_wp2
        have hg := cells_of6 (set6_got HBk.out (.int .u8 a) (.string S) (.int .i64 b) (.int .u64 c) (.int .u64 d) (.int .i64 0))
        have HTF := hide (HTx.out.set6 (x0 := .int .u8 a) (x1 := .string S) (x2 := .int .i64 b) (x3 := .int .u64 c) (x4 := .int .u64 d) (x5 := .int .i64 0) HNP.out)
        have HFF := hide (frset6 HFr.out (x0 := .int .u8 a) (x1 := .string S) (x2 := .int .i64 b) (x3 := .int .u64 c) (x4 := .int .u64 d) (x5 := .int .i64 0) (b := w.heap.size) (Nat.le_refl _))
        unfold set6 at hg HTF HFF
        obtain ⟨⟨q0, q1, q2, q3, q4, q5⟩, _⟩ := hg
        exact bodyPost_ret (v := .tuple #[wAgg a b c d 0 S, .bool ok]) (by simp [results, Tryz.results117, go_sem, q0, q1, q2, q3, q4, q5, wAgg]) rfl ⟨_, _, _, _, _, _, HWR.out, rfl, HTF.out, HFF.out⟩
end Go.Proofs.YtfanhdjebmdniaaGreatDoor
