/- package match: what each kind of key asks, but for prefixes. -/
import Derived.Test.YthkhdmdllhbfeaaMtB
namespace Go.Proofs.Ythkhdmdllhbfeaa
open Go.RowKit

theorem exactMay_any (x : Mx) (n : Int) : Pure 72 #[x.val, .int .i64 n] (.bool (mayK 1 x n)) := fun w => by
  obtain ⟨⟨vw, vh, vl⟩, ⟨mw, mh, ml⟩, len⟩ := x
  simp only [mayK, Mx.val, Nb.eq, nb0]
  cases e1 : (mw == 0) <;> cases e2 : (mh == 0) <;> cases e3 : (ml == 0) <;> cases e4 : (len == 0)
  all_goals
    go_enter Try.func72, Try.ntmps72
    go_wp2
    go_ret
    exact ⟨rfl, below1 _ _⟩
theorem exactMat_any (x : Mx) (key : Nb) : Pure 73 #[x.val, key.val] (.bool (matK 1 x key)) := fun w => by
  obtain ⟨⟨vw, vh, vl⟩, ⟨mw, mh, ml⟩, len⟩ := x
  obtain ⟨kw, kh, kl⟩ := key
  simp only [matK, Mx.val, Nb.val, Nb.eq]
  cases e1 : (kw == vw) <;> cases e2 : (kh == vh) <;> cases e3 : (kl == vl)
  all_goals
    go_enter Try.func73, Try.ntmps73
    go_wp2
    go_ret
    exact ⟨rfl, below2 _ _ _⟩
set_option maxHeartbeats 1000000 in
theorem maskMay_any (x : Mx) (n : Int) (hx : MxR x) : Pure 77 #[x.val, .int .i64 n] (.bool (mayK 3 x n)) := fun w => by
  have HW : Hid (Pure _ _ _) := isWide_any x.m n hx.m
  have HC : Hid (Pure _ _ _) := covers_any x.m x.v
  clear hx
  simp only [mayK]
  generalize wide x.m n = t1 at *
  generalize covB x.m x.v = t2 at *
  obtain ⟨⟨vw, vh, vl⟩, ⟨mw, mh, ml⟩, len⟩ := x
  simp only [Mx.val, Nb.val] at *
  cases t1
  · go_enter Try.func77, Try.ntmps77
    go_wp2_with (go_at_call 39; refine (HW.out _).mono ?_; rintro e w1 ⟨rfl, hb⟩)
    go_ret
    exact ⟨rfl, bstep (below1 _ _) hb⟩
  · cases t2
    · go_enter Try.func77, Try.ntmps77
      go_wp2_with (first | (go_at_call 39; refine (HW.out _).mono ?_; rintro e w1 ⟨rfl, hb⟩; obtain ⟨p0, p1, p2, p3, p4, p5, p6⟩ := at7 (heap_below hb (heap_alloc_new _ _))) | (go_at_call 78; refine (HC.out _).mono ?_; rintro e w2 ⟨rfl, hb2⟩))
      go_ret
      exact ⟨rfl, bstep (bstep (below1 _ _) hb) hb2⟩
    · cases e4 : (len == 0)
      all_goals
        go_enter Try.func77, Try.ntmps77
        go_wp2_with (first | (go_at_call 39; refine (HW.out _).mono ?_; rintro e w1 ⟨rfl, hb⟩; obtain ⟨p0, p1, p2, p3, p4, p5, p6⟩ := at7 (heap_below hb (heap_alloc_new _ _))) | (go_at_call 78; refine (HC.out _).mono ?_; rintro e w2 ⟨rfl, hb2⟩; obtain ⟨r0, r1, r2, r3, r4, r5, r6⟩ := at7 (heap_below hb2 (heap_below hb (heap_alloc_new _ _)))))
        go_ret
        exact ⟨rfl, bstep (bstep (below1 _ _) hb) hb2⟩
set_option maxHeartbeats 1000000 in
theorem rangeMay_any (x : Mx) (n : Int) (hx : MxR x) : Pure 81 #[x.val, .int .i64 n] (.bool (mayK 4 x n)) := fun w => by
  have HW : Hid (Pure _ _ _) := isWide_any x.m n hx.m
  have HC : Hid (Pure _ _ _) := atMost_any x.v x.m
  clear hx
  simp only [mayK]
  generalize wide x.m n = t1 at *
  generalize atmB x.v x.m = t2 at *
  obtain ⟨⟨vw, vh, vl⟩, ⟨mw, mh, ml⟩, len⟩ := x
  simp only [Mx.val, Nb.val] at *
  cases t1
  · go_enter Try.func81, Try.ntmps81
    go_wp2_with (go_at_call 39; refine (HW.out _).mono ?_; rintro e w1 ⟨rfl, hb⟩)
    go_ret
    exact ⟨rfl, bstep (below1 _ _) hb⟩
  · cases t2
    · go_enter Try.func81, Try.ntmps81
      go_wp2_with (first | (go_at_call 39; refine (HW.out _).mono ?_; rintro e w1 ⟨rfl, hb⟩; obtain ⟨p0, p1, p2, p3, p4, p5, p6⟩ := at7 (heap_below hb (heap_alloc_new _ _))) | (go_at_call 82; refine (HC.out _).mono ?_; rintro e w2 ⟨rfl, hb2⟩))
      go_ret
      exact ⟨rfl, bstep (bstep (below1 _ _) hb) hb2⟩
    · cases e4 : (len == 0)
      all_goals
        go_enter Try.func81, Try.ntmps81
        go_wp2_with (first | (go_at_call 39; refine (HW.out _).mono ?_; rintro e w1 ⟨rfl, hb⟩; obtain ⟨p0, p1, p2, p3, p4, p5, p6⟩ := at7 (heap_below hb (heap_alloc_new _ _))) | (go_at_call 82; refine (HC.out _).mono ?_; rintro e w2 ⟨rfl, hb2⟩; obtain ⟨r0, r1, r2, r3, r4, r5, r6⟩ := at7 (heap_below hb2 (heap_below hb (heap_alloc_new _ _)))))
        go_ret
        exact ⟨rfl, bstep (bstep (below1 _ _) hb) hb2⟩
theorem maskMat_any (x : Mx) (key : Nb) (hx : MxR x) : Pure 79 #[x.val, key.val] (.bool (matK 3 x key)) := fun w => by
  have HW : Hid (Pure _ _ _) := isWide_any x.m key.w hx.m
  have HC : Hid (Pure _ _ _) := alike_any key x.v x.m
  clear hx
  simp only [matK]
  generalize wide x.m key.w = t1 at *
  generalize aliB key x.v x.m = t2 at *
  obtain ⟨⟨vw, vh, vl⟩, ⟨mw, mh, ml⟩, len⟩ := x
  obtain ⟨kw, kh, kl⟩ := key
  simp only [Mx.val, Nb.val] at *
  cases t1
  · go_enter Try.func79, Try.ntmps79
    go_wp2_with (go_at_call 39; refine (HW.out _).mono ?_; rintro e w1 ⟨rfl, hb⟩)
    go_ret
    exact ⟨rfl, bstep (below2 _ _ _) hb⟩
  · go_enter Try.func79, Try.ntmps79
    go_wp2_with (first | (go_at_call 39; refine (HW.out _).mono ?_; rintro e w1 ⟨rfl, hb⟩; obtain ⟨p0, p1, p2, p3, p4, p5, p6⟩ := at7 (heap_below hb (heap_past _ (heap_alloc_new _ _))); obtain ⟨q0, q1, q2, -⟩ := at3 (heap_below hb (heap_snd _ _ _ _))) | (go_at_call 80; refine (HC.out _).mono ?_; rintro e w2 ⟨rfl, hb2⟩))
    go_ret
    exact ⟨by simp, bstep (bstep (below2 _ _ _) hb) hb2⟩
theorem rangeMat_any (x : Mx) (key : Nb) (hx : MxR x) : Pure 83 #[x.val, key.val] (.bool (matK 4 x key)) := fun w => by
  have HW : Hid (Pure _ _ _) := isWide_any x.m key.w hx.m
  have HC : Hid (Pure _ _ _) := atMost_any x.v key
  have HD : Hid (Pure _ _ _) := atMost_any key x.m
  clear hx
  simp only [matK]
  generalize wide x.m key.w = t1 at *
  generalize atmB x.v key = t2 at *
  generalize atmB key x.m = t3 at *
  obtain ⟨⟨vw, vh, vl⟩, ⟨mw, mh, ml⟩, len⟩ := x
  obtain ⟨kw, kh, kl⟩ := key
  simp only [Mx.val, Nb.val] at *
  cases t1
  · go_enter Try.func83, Try.ntmps83
    go_wp2_with (go_at_call 39; refine (HW.out _).mono ?_; rintro e w1 ⟨rfl, hb⟩)
    go_ret
    exact ⟨rfl, bstep (below2 _ _ _) hb⟩
  · cases t2
    · go_enter Try.func83, Try.ntmps83
      go_wp2_with fail
      refine (HW.out _).mono ?_
      rintro e w1 ⟨rfl, hb⟩
      obtain ⟨p0, p1, p2, p3, p4, p5, p6⟩ := at7 (heap_below hb (heap_past _ (heap_alloc_new _ _)))
      obtain ⟨q0, q1, q2, -⟩ := at3 (heap_below hb (heap_snd _ _ _ _))
      go_wp2_with fail
      refine (HC.out _).mono ?_
      rintro e w2 ⟨rfl, hb2⟩
      go_wp2
      go_ret
      exact ⟨rfl, bstep (bstep (below2 _ _ _) hb) hb2⟩
    · go_enter Try.func83, Try.ntmps83
      go_wp2_with fail
      refine (HW.out _).mono ?_
      rintro e w1 ⟨rfl, hb⟩
      have h7 := heap_below hb (heap_past _ (heap_alloc_new _ _))
      have h3 := heap_below hb (heap_snd _ _ _ _)
      obtain ⟨p0, p1, p2, p3, p4, p5, p6⟩ := at7 h7
      obtain ⟨q0, q1, q2, -⟩ := at3 h3
      have H7 := hide h7
      have H3 := hide h3
      clear h7 h3
      go_wp2_with fail
      refine (HC.out _).mono ?_
      rintro e w2 ⟨rfl, hb2⟩
      obtain ⟨r0, r1, r2, r3, r4, r5, r6⟩ := at7 (heap_below hb2 H7.out)
      obtain ⟨s0, s1, s2, -⟩ := at3 (heap_below hb2 H3.out)
      go_wp2_with fail
      refine (HD.out _).mono ?_
      rintro e w3 ⟨rfl, hb3⟩
      go_wp2
      go_ret
      exact ⟨by simp, bstep (bstep (bstep (below2 _ _ _) hb) hb2) hb3⟩
end Go.Proofs.Ythkhdmdllhbfeaa
