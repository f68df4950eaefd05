/- Pieces of the proof: CoI, CoJ. -/
import Derived.Test.YtlipcmonlhdgfaaGreatM14
/- package code: further rows; slots that are there. -/
namespace Go.Proofs.YtlipcmonlhdgfaaGreat
open Go.RowKit

set_option maxRecDepth 100000 in
set_option maxHeartbeats 2000000 in
theorem allKd (N : Nat) (ent : ∀ args w, (callFunc N args).run Tryz.prog w = .ok (.enter N args) w) (p : Int → Bool) (a : Option Addr) (cap : Nat) (l : List Int) (w : World) (hr : LiR w 1 kdC a l) (hl : l.length ≤ 1000000) (hF : ∀ z ∈ l, ∀ W, Below w.heap.size w W → Calls Tryz.prog N #[.int .u8 z] W fun e w' => e = .returned (.bool (p z)) ∧ Below W.heap.size W w') :
    Calls Tryz.prog 145 #[.slice a l.length cap, .func (.func N) #[] #[]] w fun e w' => e = .returned (.bool (l.all p)) ∧ Below w.heap.size w w' := by
  have HR := hide hr
  have HF := hide hF
  clear hr hF
  go_enter Tryz.func145, Tryz.ntmps145
  go_wp2
  go_loopw [9] (fun i wr => ∃ k : Nat, k ≤ l.length ∧ i = .int .i64 k ∧ (∀ z ∈ l.take k, p z = true) ∧ Below w.heap.size w wr) (fun i _ => l.length - (intOf i).toNat)
  case atStart => exact ⟨0, by omega, rfl, fun z hz => by simp at hz, Below.refl _ _⟩
  case round =>
    obtain ⟨k, hk, rfl, hp, hb⟩ := hrel
    have BB := hide hb
    have HP := hide hp
    clear hp
    by_cases hlt : k < l.length
    · have hkI : (k : Int) < (l.length : Int) := by omega
      obtain ⟨q, off, rfl, -, hc⟩ := (HR.out.below hb).some (by omega)
      obtain ⟨x, hx⟩ : ∃ x, l[k] = x := ⟨_, rfl⟩
      have c0 := hc k hlt 0 (.int .u8 x) (by rw [hx]; rfl)
      rw [Nat.add_zero, Nat.mul_one] at c0
      have HC : Hid (∀ W, Below w.heap.size w W → _) := fun W hb => HF.out x (hx ▸ List.getElem_mem hlt) W hb
      have HN : Hid (p x = false → l.all p = false) := fun h => all_no (hx ▸ List.getElem_mem hlt) h
      have HY : Hid (p x = true → ∀ z ∈ l.take (k + 1), p z = true) := fun h => take_ok hlt HP.out (by rw [hx]; exact h)
      clear hc hb hx HR HF
      generalize p x = t at *
      go_wp2_with fail
      refine (HC.out _ (BB.out)).mono ?_
      rintro e w1 ⟨rfl, hb1⟩
      have B1 := hide (bstep (BB.out) hb1)
      clear hb1
      cases t
      · have hn := HN.out rfl
        clear HY HN
        go_wp2
        go_ret
        exact ⟨by rw [hn]; rfl, B1.out⟩
      · have HY2 := hide (HY.out rfl)
        clear HY HN
        go_wp2
        go_roundw
        case rel => exact ⟨k + 1, by omega, by go_num, HY2.out, B1.out⟩
        case measure => simp [intOf]; omega
    · have hy := all_yes (l := l) (p := p) (by have := HP.out; rw [List.take_of_length_le (by omega)] at this; exact this)
      obtain rfl : k = l.length := by omega
      go_wp2
      go_ret
      exact ⟨by rw [hy]; rfl, BB.out⟩
theorem row8_any (c : CoL) (g jb : Nat) (r : Value) (x : InL) (k e : Int) (w : World) (hj : Jd w g c r) (hjb : Jb w jb g) (hc : CoR w c) (_hx : InR w x) : Calls Tryz.prog 66 #[isV x k e, .pointer (some ⟨jb, 0, none⟩)] w fun e w' => e = .returned (.bool (rgB c.ar c.sl x.v.n x.v.to)) ∧ Below w.heap.size w w' := by
  have HF : Hid (∀ W, Below w.heap.size w W → _) := fun W hb => isRegister_any c g r x.v.n x.v.to W (hj.below hb) (hc.ar.below hb) (hc.sl.below hb)
  have q := (hjb.below (below1 w (.cells #[.int .u8 x.v.op, .int .i64 x.v.to, .int .i64 x.v.a, .int .i64 x.v.b, .int .i64 x.v.n, .int .i64 x.v.m, .slice x.la x.v.l.length x.lc, .int .i64 x.v.lit.w, .int .u64 x.v.lit.hi, .int .u64 x.v.lit.lo, .int .u8 x.v.of, .int .i64 k, .int .i64 e] 104))).at
  unfold isV
  generalize rgB c.ar c.sl x.v.n x.v.to = t at *
  generalize x.v.l.length = ln at *
  clear hj hjb hc _hx
  obtain ⟨⟨op, to, a, b, n, m, l, ⟨lw, lh, ll⟩, of⟩, la, lc⟩ := x
  simp only at *
  go_enter Tryz.func66, Tryz.ntmps66
  go_wp2_with fail
  refine (HF.out _ (below1 _ _)).mono ?_
  rintro e w1 ⟨rfl, hb⟩
  go_wp2
  go_ret
  exact ⟨rfl, bstep (below1 _ _) hb⟩
theorem row9_any (c : CoL) (g jb : Nat) (r : Value) (x : InL) (k e : Int) (w : World) (hj : Jd w g c r) (hjb : Jb w jb g) (hc : CoR w c) (_hx : InR w x) : Calls Tryz.prog 68 #[isV x k e, .pointer (some ⟨jb, 0, none⟩)] w fun e w' => e = .returned (.bool (rgB c.ar c.sl x.v.n x.v.b)) ∧ Below w.heap.size w w' := by
  have HF : Hid (∀ W, Below w.heap.size w W → _) := fun W hb => isRegister_any c g r x.v.n x.v.b W (hj.below hb) (hc.ar.below hb) (hc.sl.below hb)
  have q := (hjb.below (below1 w (.cells #[.int .u8 x.v.op, .int .i64 x.v.to, .int .i64 x.v.a, .int .i64 x.v.b, .int .i64 x.v.n, .int .i64 x.v.m, .slice x.la x.v.l.length x.lc, .int .i64 x.v.lit.w, .int .u64 x.v.lit.hi, .int .u64 x.v.lit.lo, .int .u8 x.v.of, .int .i64 k, .int .i64 e] 104))).at
  unfold isV
  generalize rgB c.ar c.sl x.v.n x.v.b = t at *
  generalize x.v.l.length = ln at *
  clear hj hjb hc _hx
  obtain ⟨⟨op, to, a, b, n, m, l, ⟨lw, lh, ll⟩, of⟩, la, lc⟩ := x
  simp only at *
  go_enter Tryz.func68, Tryz.ntmps68
  go_wp2_with fail
  refine (HF.out _ (below1 _ _)).mono ?_
  rintro e w1 ⟨rfl, hb⟩
  go_wp2
  go_ret
  exact ⟨rfl, bstep (below1 _ _) hb⟩
set_option maxRecDepth 100000 in
theorem row4_any (c : CoL) (g jb : Nat) (r : Value) (x : InL) (k e : Int) (w : World) (hj : Jd w g c r) (hjb : Jb w jb g) (hc : CoR w c) (_hx : InR w x) : Calls Tryz.prog 60 #[isV x k e, .pointer (some ⟨jb, 0, none⟩)] w fun ed w' => ed = .returned (.bool (wid c.sl x.v.to == 1 && wtn x.v.n c.hd.length)) ∧ Below w.heap.size w w' := by
  have HW : Hid (∀ W, Below w.heap.size w W → _) := fun W hb => width12_any c g r x.v.to W (hj.below hb) (hc.sl.below hb)
  have HS : Hid (∀ W, Below w.heap.size w W → _) := fun W hb => isHead_any c g r x.v.n W (hj.below hb) hc.hd.ln
  have HJ : Hid (∀ W, Below w.heap.size w W → _) := fun W hb => (hjb.below hb).at
  unfold isV at *
  generalize wtn x.v.n c.hd.length = t at *
  generalize wid c.sl x.v.to = u at *
  generalize x.v.l.length = ln at *
  clear hj hjb hc _hx
  obtain ⟨⟨op, to, a, b, n, m, l, ⟨lw, lh, ll⟩, of⟩, la, lc⟩ := x
  simp only at *
  have q := HJ.out _ (below1 w (.cells #[.int .u8 op, .int .i64 to, .int .i64 a, .int .i64 b, .int .i64 n, .int .i64 m, .slice la ln lc, .int .i64 lw, .int .u64 lh, .int .u64 ll, .int .u8 of, .int .i64 k, .int .i64 e] 104))
  by_cases h : u = 1
  · subst h
    simp only [beq_self_eq_true, Bool.true_and]
    go_enter Tryz.func60, Tryz.ntmps60
    go_wp2_with fail
    refine (HW.out _ (below1 _ _)).mono ?_
    rintro e w1 ⟨rfl, hb⟩
    have B1 := hide (bstep (below1 _ _) hb)
    have q1 := HJ.out _ B1.out
    obtain ⟨c0, c1, c2, c3, c4, c5, c6, c7, c8, c9, c10, c11, c12⟩ := at13 (heap_below hb (heap_alloc_new w _))
    clear hb q HW
    go_wp2_with fail
    refine (HS.out _ B1.out).mono ?_
    rintro e w2 ⟨rfl, hb⟩
    go_wp2
    go_ret
    exact ⟨rfl, bstep B1.out hb⟩
  · have d1 : (u == 1) = false := by simp [h]
    have d2 : (u = 1) = False := by simp [h]
    rw [d1, Bool.false_and]
    clear HS
    go_enter Tryz.func60, Tryz.ntmps60
    go_wp2_with fail
    refine (HW.out _ (below1 _ _)).mono ?_
    rintro e w1 ⟨rfl, hb⟩
    go_wp2
    go_ret
    exact ⟨rfl, bstep (below1 _ _) hb⟩
set_option maxRecDepth 100000 in
theorem row10_any (c : CoL) (g jb : Nat) (r : Value) (x : InL) (k e : Int) (w : World) (hj : Jd w g c r) (hjb : Jb w jb g) (hc : CoR w c) (_hx : InR w x) : Calls Tryz.prog 69 #[isV x k e, .pointer (some ⟨jb, 0, none⟩)] w fun ed w' => ed = .returned (.bool (wid c.sl x.v.to == 1 && ayB c.ar x.v.n 5)) ∧ Below w.heap.size w w' := by
  have HW : Hid (∀ W, Below w.heap.size w W → _) := fun W hb => width12_any c g r x.v.to W (hj.below hb) (hc.sl.below hb)
  have HS : Hid (∀ W, Below w.heap.size w W → _) := fun W hb => isArray_any c g r x.v.n 5 W (hj.below hb) (hc.ar.below hb)
  have HJ : Hid (∀ W, Below w.heap.size w W → _) := fun W hb => (hjb.below hb).at
  unfold isV at *
  generalize ayB c.ar x.v.n 5 = t at *
  generalize wid c.sl x.v.to = u at *
  generalize x.v.l.length = ln at *
  clear hj hjb hc _hx
  obtain ⟨⟨op, to, a, b, n, m, l, ⟨lw, lh, ll⟩, of⟩, la, lc⟩ := x
  simp only at *
  have q := HJ.out _ (below1 w (.cells #[.int .u8 op, .int .i64 to, .int .i64 a, .int .i64 b, .int .i64 n, .int .i64 m, .slice la ln lc, .int .i64 lw, .int .u64 lh, .int .u64 ll, .int .u8 of, .int .i64 k, .int .i64 e] 104))
  by_cases h : u = 1
  · subst h
    simp only [beq_self_eq_true, Bool.true_and]
    go_enter Tryz.func69, Tryz.ntmps69
    go_wp2_with fail
    refine (HW.out _ (below1 _ _)).mono ?_
    rintro e w1 ⟨rfl, hb⟩
    have B1 := hide (bstep (below1 _ _) hb)
    have q1 := HJ.out _ B1.out
    obtain ⟨c0, c1, c2, c3, c4, c5, c6, c7, c8, c9, c10, c11, c12⟩ := at13 (heap_below hb (heap_alloc_new w _))
    clear hb q HW
    go_wp2_with fail
    refine (HS.out _ B1.out).mono ?_
    rintro e w2 ⟨rfl, hb⟩
    go_wp2
    go_ret
    exact ⟨rfl, bstep B1.out hb⟩
  · have d1 : (u == 1) = false := by simp [h]
    have d2 : (u = 1) = False := by simp [h]
    rw [d1, Bool.false_and]
    clear HS
    go_enter Tryz.func69, Tryz.ntmps69
    go_wp2_with fail
    refine (HW.out _ (below1 _ _)).mono ?_
    rintro e w1 ⟨rfl, hb⟩
    go_wp2
    go_ret
    exact ⟨rfl, bstep (below1 _ _) hb⟩
set_option maxRecDepth 100000 in
theorem row13_any (c : CoL) (g jb : Nat) (r : Value) (x : InL) (k e : Int) (w : World) (hj : Jd w g c r) (hjb : Jb w jb g) (hc : CoR w c) (_hx : InR w x) (hk : 0 ≤ k ∧ k ≤ 1000000) : Calls Tryz.prog 76 #[isV x k e, .pointer (some ⟨jb, 0, none⟩)] w fun ed w' => ed = .returned (.bool (wid c.sl x.v.a == 1 && frB (k + 1) x.v.n e)) ∧ Below w.heap.size w w' := by
  have HW : Hid (∀ W, Below w.heap.size w W → _) := fun W hb => width12_any c g r x.v.a W (hj.below hb) (hc.sl.below hb)
  have HS : Hid (∀ W, Below w.heap.size w W → _) := fun W _ => isAhead_any x k e hk W
  have HJ : Hid (∀ W, Below w.heap.size w W → _) := fun W hb => (hjb.below hb).at
  unfold isV at *
  generalize frB (k + 1) x.v.n e = t at *
  generalize wid c.sl x.v.a = u at *
  generalize x.v.l.length = ln at *
  clear hj hjb hc _hx hk
  obtain ⟨⟨op, to, a, b, n, m, l, ⟨lw, lh, ll⟩, of⟩, la, lc⟩ := x
  simp only at *
  have q := HJ.out _ (below1 w (.cells #[.int .u8 op, .int .i64 to, .int .i64 a, .int .i64 b, .int .i64 n, .int .i64 m, .slice la ln lc, .int .i64 lw, .int .u64 lh, .int .u64 ll, .int .u8 of, .int .i64 k, .int .i64 e] 104))
  by_cases h : u = 1
  · subst h
    simp only [beq_self_eq_true, Bool.true_and]
    go_enter Tryz.func76, Tryz.ntmps76
    go_wp2_with fail
    refine (HW.out _ (below1 _ _)).mono ?_
    rintro e w1 ⟨rfl, hb⟩
    have B1 := hide (bstep (below1 _ _) hb)
    have q1 := HJ.out _ B1.out
    obtain ⟨c0, c1, c2, c3, c4, c5, c6, c7, c8, c9, c10, c11, c12⟩ := at13 (heap_below hb (heap_alloc_new w _))
    clear hb q HW
    go_wp2_with fail
    refine (HS.out _ B1.out).mono ?_
    rintro e w2 ⟨rfl, hb⟩
    go_wp2
    go_ret
    exact ⟨rfl, bstep B1.out hb⟩
  · have d1 : (u == 1) = false := by simp [h]
    have d2 : (u = 1) = False := by simp [h]
    rw [d1, Bool.false_and]
    clear HS
    go_enter Tryz.func76, Tryz.ntmps76
    go_wp2_with fail
    refine (HW.out _ (below1 _ _)).mono ?_
    rintro e w1 ⟨rfl, hb⟩
    go_wp2
    go_ret
    exact ⟨rfl, bstep (below1 _ _) hb⟩
set_option maxRecDepth 100000 in
set_option maxHeartbeats 2000000 in
theorem row12_any (c : CoL) (g jb : Nat) (r : Value) (x : InL) (k e : Int) (w : World) (hj : Jd w g c r) (hjb : Jb w jb g) (hc : CoR w c) (_hx : InR w x) : Calls Tryz.prog 73 #[isV x k e, .pointer (some ⟨jb, 0, none⟩)] w fun e w' => e = .returned (.bool (wtn x.v.n c.tb.length)) ∧ Below w.heap.size w w' := by
  have HF : Hid (Pure _ _ _) := within_any x.v.n c.tb.length (by have := hc.tb.ln; omega)
  have HJ : Hid (∀ W, Below w.heap.size w W → _) := fun W hb => (hjb.below hb).at
  have HG : Hid (∀ W, Below w.heap.size w W → _) := fun W hb => (hj.below hb).at.2.2.2.2.2.2.1
  unfold isV at *
  generalize wtn x.v.n c.tb.length = t at *
  generalize c.tb.length = tn at *
  generalize x.v.l.length = ln at *
  clear hj hjb hc _hx
  obtain ⟨⟨op, to, a, b, n, m, l, ⟨lw, lh, ll⟩, of⟩, la, lc⟩ := x
  simp only at *
  generalize hW1 : w.alloc (.cells #[.int .u8 op, .int .i64 to, .int .i64 a, .int .i64 b, .int .i64 n, .int .i64 m, .slice la ln lc, .int .i64 lw, .int .u64 lh, .int .u64 ll, .int .u8 of, .int .i64 k, .int .i64 e] 104) = W1
  have B1 : Below w.heap.size w W1 := hW1 ▸ below1 _ _
  have K13 : W1.heap[w.heap.size]? = some (.cells #[.int .u8 op, .int .i64 to, .int .i64 a, .int .i64 b, .int .i64 n, .int .i64 m, .slice la ln lc, .int .i64 lw, .int .u64 lh, .int .u64 ll, .int .u8 of, .int .i64 k, .int .i64 e] 104 (0, 0)) := hW1 ▸ heap_alloc_new _ _
  obtain ⟨X, f, hX, hS, hcov⟩ := class_of (fun w' => Below W1.heap.size W1 w') W1.drew (Below.refl _ _).drew
  have HC0 : Hid (∃ x, W1.drew = f x) := hcov _ (Below.refl _ _).drew
  have HNX : Hid (∀ x w', Below (f x).heap.size (f x) w' → ∃ y, w' = f y) := fun x w' hb => hcov w' ((hS x).trans (hb.mono (hS x).size))
  have HBX : Hid (∀ x, Below w.heap.size w (f x)) := fun x => bstep B1 (hS x)
  have t4 := fun x => (at13 (heap_below (hS x) K13)).2.2.2.2.1
  have tj := fun x => HJ.out _ (HBX.out x)
  have tg := fun x => HG.out _ (HBX.out x)
  have HW1 := hide hW1
  clear hcov hS B1 K13 hW1 HJ HG
  go_enter Tryz.func73, Tryz.ntmps73
  go_wp2
  rw [HW1.out]
  refine wp_region_class f (by kernel_rfl) (by kernel_rfl) HC0.out ?_
  repeat (first
    | go_big_quiet_skip
    | (go_big_quiet_want; go_big_quiet_op; first
        | go_big_quiet_on
        | (apply Exists.intro
           refine ⟨fun _ => ?_, ?_⟩
           · first
              | (go_at_call 72; refine (HF.out _).mono ?_; rintro e' wn ⟨rfl, hb⟩; exact ⟨rfl, HNX.out _ _ hb⟩)
           go_big_quiet_on)))
  refine wpQuiet_nil ?_
  rintro _ ⟨x, rfl⟩
  have HBY := hide (HBX.out x)
  clear t4 tj tg
  go_wp2
  go_ret
  exact ⟨rfl, HBY.out⟩
/- Slots that are there. -/
def slB (sl : List Int) (v : In) : Bool := wtn v.to sl.length && (wtn v.a sl.length && (wtn v.b sl.length && v.l.all (fun z => wtn z sl.length)))
theorem ent_isSlot : ∀ args w, (callFunc 112 args).run Tryz.prog w = .ok (.enter 112 args) w := enters_of Tryz.func112 (by kernel_rfl) rfl
set_option maxRecDepth 100000 in
set_option maxHeartbeats 2000000 in
theorem slotsThere_any (c : CoL) (g : Nat) (r : Value) (x : InL) (w : World) (hj : Jd w g c r) (hc : CoR w c) (hx : InR w x) : Calls Tryz.prog 142 #[.pointer (some ⟨g, 0, none⟩), x.val] w fun e w' => e = .returned (.bool (slB c.sl x.v)) ∧ Below w.heap.size w w' := by
  have H1 : Hid (∀ W, Below w.heap.size w W → _) := fun W hb => isSlot_any c g r x.v.to W (hj.below hb) hc.sl.ln
  have H2 : Hid (∀ W, Below w.heap.size w W → _) := fun W hb => isSlot_any c g r x.v.a W (hj.below hb) hc.sl.ln
  have H3 : Hid (∀ W, Below w.heap.size w W → _) := fun W hb => isSlot_any c g r x.v.b W (hj.below hb) hc.sl.ln
  have H4 : Hid (∀ W, Below w.heap.size w W → _) := fun W hb => allZb 112 ent_isSlot (.pointer (some ⟨g, 0, none⟩)) (fun z => wtn z c.sl.length) x.la x.lc x.v.l W (hx.l.below hb) hx.ln (fun z _ W' hb' => isSlot_any c g r z W' (hj.below (bstep hb hb')) hc.sl.ln)
  unfold slB InL.val
  generalize wtn x.v.to c.sl.length = t1 at *
  generalize wtn x.v.a c.sl.length = t2 at *
  generalize wtn x.v.b c.sl.length = t3 at *
  generalize x.v.l.all (fun z => wtn z c.sl.length) = t4 at *
  generalize x.v.l.length = ln at *
  clear hj hc hx
  obtain ⟨⟨op, to, a, b, n, m, l, ⟨lw, lh, ll⟩, of⟩, la, lc⟩ := x
  simp only at *
  cases t1
  · simp only [Bool.false_and]
    go_enter Tryz.func142, Tryz.ntmps142
    go_wp2_with fail
    refine (H1.out _ (below1 _ _)).mono ?_
    rintro e w1 ⟨rfl, hb⟩
    have B1 := hide (bstep (below1 _ _) hb)
    have K1 := hide (heap_below hb (heap_alloc_new w (.cells #[.int .u8 op, .int .i64 to, .int .i64 a, .int .i64 b, .int .i64 n, .int .i64 m, .slice la ln lc, .int .i64 lw, .int .u64 lh, .int .u64 ll, .int .u8 of] 59)))
    obtain ⟨c0, c1, c2, c3, c4, c5, c6, c7, c8, c9, c10⟩ := at11 K1.out
    clear hb
    go_wp2
    go_ret
    exact ⟨rfl, B1.out⟩
  · cases t2
    · simp only [Bool.false_and, Bool.and_false]
      go_enter Tryz.func142, Tryz.ntmps142
      go_wp2_with fail
      refine (H1.out _ (below1 _ _)).mono ?_
      rintro e w1 ⟨rfl, hb⟩
      have B1 := hide (bstep (below1 _ _) hb)
      have K1 := hide (heap_below hb (heap_alloc_new w (.cells #[.int .u8 op, .int .i64 to, .int .i64 a, .int .i64 b, .int .i64 n, .int .i64 m, .slice la ln lc, .int .i64 lw, .int .u64 lh, .int .u64 ll, .int .u8 of] 59)))
      obtain ⟨c0, c1, c2, c3, c4, c5, c6, c7, c8, c9, c10⟩ := at11 K1.out
      clear hb
      go_wp2_with fail
      refine (H2.out _ B1.out).mono ?_
      rintro e w2 ⟨rfl, hb⟩
      have B2 := hide (bstep B1.out hb)
      have K2 := hide (heap_below hb K1.out)
      clear hb c0 c1 c2 c3 c4 c5 c6 c7 c8 c9 c10
      obtain ⟨c0, c1, c2, c3, c4, c5, c6, c7, c8, c9, c10⟩ := at11 K2.out
      go_wp2
      go_ret
      exact ⟨rfl, B2.out⟩
    · cases t3
      · simp only [Bool.false_and, Bool.and_false]
        go_enter Tryz.func142, Tryz.ntmps142
        go_wp2_with fail
        refine (H1.out _ (below1 _ _)).mono ?_
        rintro e w1 ⟨rfl, hb⟩
        have B1 := hide (bstep (below1 _ _) hb)
        have K1 := hide (heap_below hb (heap_alloc_new w (.cells #[.int .u8 op, .int .i64 to, .int .i64 a, .int .i64 b, .int .i64 n, .int .i64 m, .slice la ln lc, .int .i64 lw, .int .u64 lh, .int .u64 ll, .int .u8 of] 59)))
        obtain ⟨c0, c1, c2, c3, c4, c5, c6, c7, c8, c9, c10⟩ := at11 K1.out
        clear hb
        go_wp2_with fail
        refine (H2.out _ B1.out).mono ?_
        rintro e w2 ⟨rfl, hb⟩
        have B2 := hide (bstep B1.out hb)
        have K2 := hide (heap_below hb K1.out)
        clear hb c0 c1 c2 c3 c4 c5 c6 c7 c8 c9 c10
        obtain ⟨c0, c1, c2, c3, c4, c5, c6, c7, c8, c9, c10⟩ := at11 K2.out
        go_wp2_with fail
        refine (H3.out _ B2.out).mono ?_
        rintro e w3 ⟨rfl, hb⟩
        have B3 := hide (bstep B2.out hb)
        have K3 := hide (heap_below hb K2.out)
        clear hb c0 c1 c2 c3 c4 c5 c6 c7 c8 c9 c10
        obtain ⟨c0, c1, c2, c3, c4, c5, c6, c7, c8, c9, c10⟩ := at11 K3.out
        go_wp2
        go_ret
        exact ⟨rfl, B3.out⟩
      · simp only [Bool.true_and]
        go_enter Tryz.func142, Tryz.ntmps142
        go_wp2_with fail
        refine (H1.out _ (below1 _ _)).mono ?_
        rintro e w1 ⟨rfl, hb⟩
        have B1 := hide (bstep (below1 _ _) hb)
        have K1 := hide (heap_below hb (heap_alloc_new w (.cells #[.int .u8 op, .int .i64 to, .int .i64 a, .int .i64 b, .int .i64 n, .int .i64 m, .slice la ln lc, .int .i64 lw, .int .u64 lh, .int .u64 ll, .int .u8 of] 59)))
        obtain ⟨c0, c1, c2, c3, c4, c5, c6, c7, c8, c9, c10⟩ := at11 K1.out
        clear hb
        go_wp2_with fail
        refine (H2.out _ B1.out).mono ?_
        rintro e w2 ⟨rfl, hb⟩
        have B2 := hide (bstep B1.out hb)
        have K2 := hide (heap_below hb K1.out)
        clear hb c0 c1 c2 c3 c4 c5 c6 c7 c8 c9 c10
        obtain ⟨c0, c1, c2, c3, c4, c5, c6, c7, c8, c9, c10⟩ := at11 K2.out
        go_wp2_with fail
        refine (H3.out _ B2.out).mono ?_
        rintro e w3 ⟨rfl, hb⟩
        have B3 := hide (bstep B2.out hb)
        have K3 := hide (heap_below hb K2.out)
        clear hb c0 c1 c2 c3 c4 c5 c6 c7 c8 c9 c10
        obtain ⟨c0, c1, c2, c3, c4, c5, c6, c7, c8, c9, c10⟩ := at11 K3.out
        go_wp2_with fail
        refine (H4.out _ B3.out).mono ?_
        rintro e w4 ⟨rfl, hb⟩
        have B4 := hide (bstep B3.out hb)
        have K4 := hide (heap_below hb K3.out)
        clear hb c0 c1 c2 c3 c4 c5 c6 c7 c8 c9 c10
        obtain ⟨c0, c1, c2, c3, c4, c5, c6, c7, c8, c9, c10⟩ := at11 K4.out
        go_wp2
        go_ret
        exact ⟨rfl, B4.out⟩
end Go.Proofs.YtlipcmonlhdgfaaGreat
/- package code: lists that are alike; calls; heads, the metadata. -/
namespace Go.Proofs.YtlipcmonlhdgfaaGreat
open Go.RowKit

def eqI (p : Int → Int → Bool) (a b : List Int) : Bool := a.length == b.length && (a.zip b).all (fun z => p z.1 z.2)
theorem eqI_no {p : Int → Int → Bool} {a b : List Int} {k : Nat} (h1 : k < a.length) (h2 : k < b.length) (h : p a[k] b[k] = false) : eqI p a b = false := by
  unfold eqI
  rw [Bool.and_eq_false_iff]
  right
  have hk : k < (a.zip b).length := by rw [List.length_zip]; omega
  exact all_no (List.getElem_mem hk) (by rw [List.getElem_zip]; exact h)
theorem eqI_yes {p : Int → Int → Bool} {a b : List Int} (hl : a.length = b.length) (h : ∀ i (h1 : i < a.length) (h2 : i < b.length), p a[i] b[i] = true) : eqI p a b = true := by
  unfold eqI
  rw [Bool.and_eq_true]
  refine ⟨by simp [hl], all_yes (fun z hz => ?_)⟩
  obtain ⟨i, hi, rfl⟩ := List.getElem_of_mem hz
  rw [List.getElem_zip]
  rw [List.length_zip] at hi
  exact h i (by omega) (by omega)
set_option maxRecDepth 100000 in
set_option maxHeartbeats 2000000 in
theorem eqFunc_any (N : Nat) (ent : ∀ args w, (callFunc N args).run Tryz.prog w = .ok (.enter N args) w) (u : Value) (p : Int → Int → Bool) (a b : Option Addr) (ca cb : Nat) (l m : List Int) (w : World) (h1 : RdZ w a l) (h2 : RdZ w b m) (hl : l.length ≤ 1000000) (hm : m.length ≤ 1000000) (hF : ∀ y z W, Below w.heap.size w W → Calls Tryz.prog N #[u, .int .i64 y, .int .i64 z] W fun e w' => e = .returned (.bool (p y z)) ∧ Below W.heap.size W w') :
    Calls Tryz.prog 115 #[.slice a l.length ca, .slice b m.length cb, .func (.func N) #[u] #[]] w fun e w' => e = .returned (.bool (eqI p l m)) ∧ Below w.heap.size w w' := by
  have H1 := hide h1
  have H2 := hide h2
  have HF := hide hF
  clear h1 h2 hF
  by_cases hlm : l.length = m.length
  · have HE : Hid (l.length = m.length) := hlm
    have HYS : Hid ((∀ i (h1 : i < l.length) (h2 : i < m.length), p l[i] m[i] = true) → eqI p l m = true) := fun h => eqI_yes hlm h
    have HNO : Hid (∀ k (h1 : k < l.length) (h2 : k < m.length), p l[k] m[k] = false → eqI p l m = false) := fun k h1 h2 h => eqI_no h1 h2 h
    generalize eqI p l m = R at *
    rw [← hlm]
    have d0 : ((l.length : Int) = (l.length : Int)) = True := by simp
    clear hlm
    go_enter Tryz.func115, Tryz.ntmps115
    go_wp2
    go_loopw [17] (fun i wr => ∃ k : Nat, k ≤ l.length ∧ i = .int .i64 k ∧ (∀ i (h1 : i < l.length) (h2 : i < m.length), i < k → p l[i] m[i] = true) ∧ Below w.heap.size w wr) (fun i _ => l.length - (intOf i).toNat)
    case atStart => exact ⟨0, by omega, rfl, fun i _ _ h => by omega, Below.refl _ _⟩
    case round =>
      obtain ⟨k, hk, rfl, hp, hb⟩ := hrel
      have BB := hide hb
      have HP := hide hp
      clear hp
      by_cases hlt : k < l.length
      · have hkI : (k : Int) < (l.length : Int) := by omega
        have hlt2 : k < m.length := by have := HE.out; omega
        obtain ⟨q, off, rfl, -, hc⟩ := (H1.out.below hb).some (by omega)
        obtain ⟨q2, off2, rfl, -, hc2⟩ := (H2.out.below hb).some (by omega)
        have c0 := hc k hlt
        have c1 := hc2 k hlt2
        have HC := hide (fun W hb => HF.out l[k] m[k] W hb)
        have HN := hide (HNO.out k hlt hlt2)
        have HY : Hid (p l[k] m[k] = true → ∀ i (h1 : i < l.length) (h2 : i < m.length), i < k + 1 → p l[i] m[i] = true) := fun h i h1 h2 hi => by
          by_cases e : i = k
          · subst e; exact h
          · exact HP.out i h1 h2 (by omega)
        clear hc hc2 hb H1 H2 HF HNO HYS
        generalize p l[k] m[k] = t at *
        generalize l[k] = y at *
        generalize m[k] = z at *
        go_wp2_with fail
        refine (HC.out _ BB.out).mono ?_
        rintro e w1 ⟨rfl, hb1⟩
        have B1 := hide (bstep BB.out hb1)
        clear hb1
        cases t
        · have hn := HN.out rfl
          clear HY HN
          go_wp2
          go_ret
          exact ⟨by rw [hn]; rfl, B1.out⟩
        · have HY2 := hide (HY.out rfl)
          clear HY HN
          go_wp2
          go_roundw
          case rel => exact ⟨k + 1, by omega, by go_num, HY2.out, B1.out⟩
          case measure => simp [intOf]; omega
      · obtain rfl : k = l.length := by omega
        have hy := HYS.out (fun i h1 h2 => HP.out i h1 h2 h1)
        go_wp2
        go_ret
        exact ⟨by rw [hy]; rfl, BB.out⟩
  · have hn : eqI p l m = false := by unfold eqI; simp [hlm]
    rw [hn]
    have d0 : ((l.length : Int) = (m.length : Int)) = False := by simp; omega
    clear hn H1 H2 HF
    go_enter Tryz.func115, Tryz.ntmps115
    go_wp2
    go_ret
    exact ⟨rfl, Below.refl _ _⟩
end Go.Proofs.YtlipcmonlhdgfaaGreat
