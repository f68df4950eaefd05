/- Pieces of the proof: CfB. -/
import Derived.Test.YtbemfjdloeipmaaGreatDoorM13
/- The document's own at: where the cell of a number lies, and its error (chapter 14). -/
namespace Go.Proofs.YtbemfjdloeipmaaGreatDoor
open Go.RowKit

set_option maxHeartbeats 4000000 in
theorem refAt14_any (k : Int) (x : ArL) (i : Nb) (w : World) (hx : ArR w x) (hi : NbR i) : Calls Tryz.prog 30 #[x.val, .int .u8 k, i.val] w fun e w' => e = .returned (.tuple #[.int .i64 (findA k x.a i).1, .int .i64 (findA k x.a i).2]) ∧ Below w.heap.size w w' := by
  have HM : Hid (∀ W, Below w.heap.size w W → _) := fun W hb => refMay14_any x W (hx.below hb)
  have HK : Hid (Pure _ _ _) := refOkC_any i hi
  have HI := hide hi.lo
  have HL := hide hx.cn
  have HE : Hid (findA k x.a i = if (x.a.kind == k && (mayA x.a && i.ok)) = true then if i.hi = 0 ∧ i.lo < x.a.cs.length then (i.lo, 0) else (0, 11) else (0, 1)) := rfl
  clear hx hi
  generalize findA k x.a i = r at *
  generalize mayA x.a = m at *
  obtain ⟨⟨name, kind, aw, rate, burst, cs, ls⟩, ca, cc, la, lc⟩ := x
  generalize i.ok = t at *
  obtain ⟨iw, ih, il⟩ := i
  simp only [ArL.val, Nb.val] at *
  generalize ls.length = n2 at *
  cases m
  · obtain rfl : r = (0, 1) := by rw [HE.out]; simp
    clear HE
    go_enter Tryz.func30, Tryz.ntmps30
    go_wp2_with fail
    refine (HM.out _ (below2 _ _ _)).mono ?_
    rintro e w1 ⟨rfl, hb⟩
    obtain ⟨p0, p1, p2, p3, p4, p5, p6⟩ := at7 (heap_below hb (heap_past _ (heap_alloc_new w _)))
    obtain ⟨q0, q1, q2, -⟩ := at3 (heap_below hb (heap_snd w _ _ _))
    go_wp2
    refine bodyPost_ret (v := .tuple #[.int .i64 0, .int .i64 1]) (by simp [results, Tryz.results30, go_sem]) rfl ⟨rfl, ?_⟩
    exact bstep (below2 _ _ _) hb
  by_cases hk : kind = k
  · subst hk
    cases t
    · obtain rfl : r = (0, 1) := by rw [HE.out]; simp
      clear HE
      go_enter Tryz.func30, Tryz.ntmps30
      go_wp2_with fail
      refine (HM.out _ (below2 _ _ _)).mono ?_
      rintro e w1 ⟨rfl, hb⟩
      have BB := hide (bstep (below2 _ _ _) hb)
      have K7 := hide (heap_below hb (heap_past (.cells #[.int .i64 iw, .int .u64 ih, .int .u64 il] 29) (heap_alloc_new w _)))
      have K3 := hide (heap_below hb (heap_snd w _ _ _))
      clear hb
      obtain ⟨p0, p1, p2, p3, p4, p5, p6⟩ := at7 K7.out
      obtain ⟨q0, q1, q2, -⟩ := at3 K3.out
      go_wp2_with fail
      refine (HK.out _).mono ?_
      rintro e w2 ⟨rfl, hb⟩
      go_wp2
      refine bodyPost_ret (v := .tuple #[.int .i64 0, .int .i64 1]) (by simp [results, Tryz.results30, go_sem]) rfl ⟨rfl, ?_⟩
      exact bstep BB.out hb
    · have hcl : IntKind.u64.wrap (cs.length : Int) = (cs.length : Int) := by rw [IntKind.wrap_u64]; have := HL.out; omega
      by_cases h1 : ih = 0
      · subst h1
        by_cases h2 : il < cs.length
        · obtain rfl : r = (il, 0) := by rw [HE.out]; simp [h2]
          have h2' : (il ≥ (cs.length : Int)) = False := by simp; omega
          have h2'' : ((cs.length : Int) ≤ il) = False := by simp; omega
          have hwl : IntKind.i64.wrap il = il := by rw [IntKind.wrap_i64]; have := HL.out; have := HI.out.1; omega
          clear HE h2
          generalize cs.length = n1 at *
          go_enter Tryz.func30, Tryz.ntmps30
          go_wp2_with fail
          refine (HM.out _ (below2 _ _ _)).mono ?_
          rintro e w1 ⟨rfl, hb⟩
          have BB := hide (bstep (below2 _ _ _) hb)
          have K7 := hide (heap_below hb (heap_past (.cells #[.int .i64 iw, .int .u64 0, .int .u64 il] 29) (heap_alloc_new w _)))
          have K3 := hide (heap_below hb (heap_snd w _ _ _))
          clear hb
          obtain ⟨p0, p1, p2, p3, p4, p5, p6⟩ := at7 K7.out
          obtain ⟨q0, q1, q2, -⟩ := at3 K3.out
          go_wp2_with fail
          refine (HK.out _).mono ?_
          rintro e w2 ⟨rfl, hb⟩
          replace BB := hide (bstep BB.out hb)
          replace K7 := hide (heap_below hb K7.out)
          replace K3 := hide (heap_below hb K3.out)
          clear hb p0 p1 p2 p3 p4 p5 p6 q0 q1 q2
          obtain ⟨p0, p1, p2, p3, p4, p5, p6⟩ := at7 K7.out
          obtain ⟨q0, q1, q2, -⟩ := at3 K3.out
          go_wp2
          refine bodyPost_ret (v := .tuple #[.int .i64 il, .int .i64 0]) (by simp [results, Tryz.results30, go_sem]) rfl ⟨rfl, ?_⟩
          exact BB.out
        · obtain rfl : r = (0, 11) := by rw [HE.out]; simp [h2]
          have h2' : (il ≥ (cs.length : Int)) = True := by simp; omega
          have h2'' : ((cs.length : Int) ≤ il) = True := by simp; omega
          clear HE h2
          generalize cs.length = n1 at *
          go_enter Tryz.func30, Tryz.ntmps30
          go_wp2_with fail
          refine (HM.out _ (below2 _ _ _)).mono ?_
          rintro e w1 ⟨rfl, hb⟩
          have BB := hide (bstep (below2 _ _ _) hb)
          have K7 := hide (heap_below hb (heap_past (.cells #[.int .i64 iw, .int .u64 0, .int .u64 il] 29) (heap_alloc_new w _)))
          have K3 := hide (heap_below hb (heap_snd w _ _ _))
          clear hb
          obtain ⟨p0, p1, p2, p3, p4, p5, p6⟩ := at7 K7.out
          obtain ⟨q0, q1, q2, -⟩ := at3 K3.out
          go_wp2_with fail
          refine (HK.out _).mono ?_
          rintro e w2 ⟨rfl, hb⟩
          replace BB := hide (bstep BB.out hb)
          replace K7 := hide (heap_below hb K7.out)
          replace K3 := hide (heap_below hb K3.out)
          clear hb p0 p1 p2 p3 p4 p5 p6 q0 q1 q2
          obtain ⟨p0, p1, p2, p3, p4, p5, p6⟩ := at7 K7.out
          obtain ⟨q0, q1, q2, -⟩ := at3 K3.out
          go_wp2
          refine bodyPost_ret (v := .tuple #[.int .i64 0, .int .i64 11]) (by simp [results, Tryz.results30, go_sem]) rfl ⟨rfl, ?_⟩
          exact BB.out
      · obtain rfl : r = (0, 11) := by rw [HE.out]; simp [h1]
        have h1' : (ih = 0) = False := by simpa using h1
        have h1'' : (ih == 0) = false := by simpa using h1
        clear HE h1
        generalize cs.length = n1 at *
        go_enter Tryz.func30, Tryz.ntmps30
        go_wp2_with fail
        refine (HM.out _ (below2 _ _ _)).mono ?_
        rintro e w1 ⟨rfl, hb⟩
        have BB := hide (bstep (below2 _ _ _) hb)
        have K7 := hide (heap_below hb (heap_past (.cells #[.int .i64 iw, .int .u64 ih, .int .u64 il] 29) (heap_alloc_new w _)))
        have K3 := hide (heap_below hb (heap_snd w _ _ _))
        clear hb
        obtain ⟨p0, p1, p2, p3, p4, p5, p6⟩ := at7 K7.out
        obtain ⟨q0, q1, q2, -⟩ := at3 K3.out
        go_wp2_with fail
        refine (HK.out _).mono ?_
        rintro e w2 ⟨rfl, hb⟩
        replace BB := hide (bstep BB.out hb)
        replace K7 := hide (heap_below hb K7.out)
        replace K3 := hide (heap_below hb K3.out)
        clear hb p0 p1 p2 p3 p4 p5 p6 q0 q1 q2
        obtain ⟨p0, p1, p2, p3, p4, p5, p6⟩ := at7 K7.out
        obtain ⟨q0, q1, q2, -⟩ := at3 K3.out
        go_wp2
        refine bodyPost_ret (v := .tuple #[.int .i64 0, .int .i64 11]) (by simp [results, Tryz.results30, go_sem]) rfl ⟨rfl, ?_⟩
        exact BB.out
  · obtain rfl : r = (0, 1) := by rw [HE.out]; simp [hk]
    have h1' : (kind = k) = False := by simpa using hk
    have h1'' : (kind == k) = false := by simpa using hk
    clear HE hk
    go_enter Tryz.func30, Tryz.ntmps30
    go_wp2_with fail
    refine (HM.out _ (below2 _ _ _)).mono ?_
    rintro e w1 ⟨rfl, hb⟩
    obtain ⟨p0, p1, p2, p3, p4, p5, p6⟩ := at7 (heap_below hb (heap_past _ (heap_alloc_new w _)))
    obtain ⟨q0, q1, q2, -⟩ := at3 (heap_below hb (heap_snd w _ _ _))
    go_wp2
    refine bodyPost_ret (v := .tuple #[.int .i64 0, .int .i64 1]) (by simp [results, Tryz.results30, go_sem]) rfl ⟨rfl, ?_⟩
    exact bstep (below2 _ _ _) hb
end Go.Proofs.YtbemfjdloeipmaaGreatDoor
