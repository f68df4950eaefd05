/- Pieces of the proof: CoO. -/
import Derived.Test.YtlipcmonlhdgfaaGreatM33
/- package code: may an operation be? -/
namespace Go.Proofs.YtlipcmonlhdgfaaGreat
open Go.RowKit

set_option maxRecDepth 100000 in
set_option maxHeartbeats 8000000 in
theorem operation_any (D : Int → Int → Int → Int → Int → Int × Int × Int × Int) (hD : DoOk D) (c : CoL) (g : Nat) (r : Value) (x : InL) (k e : Int) (w : World) (hj : Jd w g c r) (hs : IsR w c.sa c.sl) : Calls Tryz.prog 55 #[.pointer (some ⟨g, 0, none⟩), isV x k e] w fun e w' => e = .returned (.bool (opB D c.sl x.v)) ∧ Below w.heap.size w w' := by
  have HP : Hid (Pure _ _ _) := parts_any x
  have HA : Hid (Pure _ _ _) := asked_any x.v.of
  have H1 : Hid (∀ W, Below w.heap.size w W → _) := fun W hb => width12_any c g r x.v.a W (hj.below hb) (hs.below hb)
  have H2 : Hid (∀ W, Below w.heap.size w W → _) := fun W hb => width12_any c g r x.v.b W (hj.below hb) (hs.below hb)
  have H3 : Hid (∀ W, Below w.heap.size w W → _) := fun W hb => width12_any c g r x.v.to W (hj.below hb) (hs.below hb)
  have HD := hide (hD.p x.v.of (wid c.sl x.v.a) (wid c.sl x.v.b) x.v.n x.v.m)
  unfold opB isV
  unfold InL.val at HP
  clear hD hj hs
  generalize D x.v.of (wid c.sl x.v.a) (wid c.sl x.v.b) x.v.n x.v.m = R at *
  obtain ⟨rw_, rh, rl, er⟩ := R
  generalize prtI x.v = pt at *
  generalize askI x.v.of = ak at *
  generalize wid c.sl x.v.a = wa at *
  generalize wid c.sl x.v.b = wb at *
  generalize wid c.sl x.v.to = wt at *
  generalize x.v.l.length = ln at *
  obtain ⟨⟨op, to, a, b, n, m, l, ⟨lw, lh, ll⟩, of⟩, la, lc⟩ := x
  simp only at *
  generalize hW1 : w.alloc (.cells #[.int .u8 op, .int .i64 to, .int .i64 a, .int .i64 b, .int .i64 n, .int .i64 m, .slice la ln lc, .int .i64 lw, .int .u64 lh, .int .u64 ll, .int .u8 of, .int .i64 k, .int .i64 e] 104) = W1
  have B1 : Below w.heap.size w W1 := hW1 ▸ below1 _ _
  have K13 : Hid (W1.heap[w.heap.size]? = some (.cells #[.int .u8 op, .int .i64 to, .int .i64 a, .int .i64 b, .int .i64 n, .int .i64 m, .slice la ln lc, .int .i64 lw, .int .u64 lh, .int .u64 ll, .int .u8 of, .int .i64 k, .int .i64 e] 104 (0, 0))) := by show _ = _; rw [← hW1]; exact heap_alloc_new _ _
  have HW1 := hide hW1
  have BB1 := hide B1
  obtain ⟨X, f, hX, hS, hcov⟩ := class_of (fun w' => Below W1.heap.size W1 w') W1.drew (Below.refl _ _).drew
  have HC0 : Hid (∃ x, W1.drew = f x) := hcov _ (Below.refl _ _).drew
  have HNX : Hid (∀ x w', Below (f x).heap.size (f x) w' → ∃ y, w' = f y) := fun x w' hb => hcov w' ((hS x).trans (hb.mono (hS x).size))
  have HBX : Hid (∀ x, Below w.heap.size w (f x)) := fun x => bstep B1 (hS x)
  have t0 := fun x => (at13 (heap_below (hS x) K13.out)).1
  have t1 := fun x => (at13 (heap_below (hS x) K13.out)).2.1
  have t2 := fun x => (at13 (heap_below (hS x) K13.out)).2.2.1
  have t3 := fun x => (at13 (heap_below (hS x) K13.out)).2.2.2.1
  have t4 := fun x => (at13 (heap_below (hS x) K13.out)).2.2.2.2.1
  have t5 := fun x => (at13 (heap_below (hS x) K13.out)).2.2.2.2.2.1
  have t6 := fun x => (at13 (heap_below (hS x) K13.out)).2.2.2.2.2.2.1
  have t7 := fun x => (at13 (heap_below (hS x) K13.out)).2.2.2.2.2.2.2.1
  have t8 := fun x => (at13 (heap_below (hS x) K13.out)).2.2.2.2.2.2.2.2.1
  have t9 := fun x => (at13 (heap_below (hS x) K13.out)).2.2.2.2.2.2.2.2.2.1
  have t10 := fun x => (at13 (heap_below (hS x) K13.out)).2.2.2.2.2.2.2.2.2.2.1
  have t11 := fun x => (at13 (heap_below (hS x) K13.out)).2.2.2.2.2.2.2.2.2.2.2.1
  have t12 := fun x => (at13 (heap_below (hS x) K13.out)).2.2.2.2.2.2.2.2.2.2.2.2
  have HSS := hide hS
  clear hcov hS B1 hW1
  by_cases hz : bits .andNot .i64 pt ak = 0
  · have z1 : (bits .andNot .i64 pt ak == 0) = true := by simp [hz]
    have z2 : (bits .andNot .i64 pt ak = 0) = True := by simp [hz]
    rw [z1, Bool.true_and]
    clear hz
    go_enter Tryz.func55, Tryz.ntmps55
    go_wp2
    rw [HW1.out]
    refine wp_region_class f (by kernel_rfl) (by kernel_rfl) HC0.out ?_
    repeat (first
      | go_big_quiet_skip
      | (go_big_quiet_want; go_big_quiet_op; first
          | go_big_quiet_on
          | (apply Exists.intro
             refine ⟨fun _ => ?_, ?_⟩
             · first
                | (go_at_call 109; refine (HP.out _).mono ?_; rintro e' wn ⟨rfl, hb⟩; exact ⟨rfl, HNX.out _ _ hb⟩)
                | (go_at_call 110; refine (HA.out _).mono ?_; rintro e' wn ⟨rfl, hb⟩; exact ⟨rfl, HNX.out _ _ hb⟩)
             go_big_quiet_on)))
    refine wpQuiet_nil ?_
    rintro _ ⟨x, rfl⟩
    have hS0 := HSS.out x
    have hBX := hide (HBX.out x)
    clear t0 t1 t2 t3 t4 t5 t6 t7 t8 t9 t10 t11 t12 HNX HC0
    generalize f x = W2 at *
    clear HBX HSS
    go_wp2
    refine wp_region_noPanic ?_
    refine wp_region_held_drew (S := fun w' => Below W1.heap.size W1 w') (by kernel_rfl) hS0.drew (fun hHeld => ?_)
    clear hS0
    generalize W2.drew = wc0 at *
    refine wpAnyH_take (i := 0) (v := ?_) rfl (by kernel_rfl) (by kernel_rfl) (by kernel_rfl) (fun _ _ _ h => h) (Or.inl ⟨by rfl, ?_⟩) hHeld ?_
    rotate_left
    · (intro w hSw; clear hSw; go_simp; try (with_reducible rfl))
    refine wpAnyH_take (i := 1) (v := ?_) rfl (by kernel_rfl) (by kernel_rfl) (by kernel_rfl) (fun _ _ _ h => h) (Or.inl ⟨by rfl, ?_⟩) hHeld ?_
    rotate_left
    · (intro w hSw; clear hSw; go_simp; try (with_reducible rfl))
    refine wpAnyH_take (i := 2) (v := ?_) rfl (by kernel_rfl) (by kernel_rfl) (by kernel_rfl) (fun _ _ _ h => h) (Or.inl ⟨by rfl, ?_⟩) hHeld ?_
    rotate_left
    · (intro w hSw; obtain ⟨b0, b1, b2, b3, b4, b5, b6, b7, b8, b9, b10, b11, b12⟩ := at13 (heap_below hSw K13.out); clear hSw; go_simp; try (with_reducible rfl))
    refine wpAnyH_take (i := 3) (v := ?_) rfl (by kernel_rfl) (by kernel_rfl) (by kernel_rfl) (fun _ _ _ h => h) (Or.inl ⟨by rfl, ?_⟩) hHeld ?_
    rotate_left
    · (intro w hSw; clear hSw; go_simp; try (with_reducible rfl))
    refine wpAnyH_take (i := 4) (v := ?_) rfl (by kernel_rfl) (by kernel_rfl) (by kernel_rfl) (fun _ _ _ h => h) (Or.inl ⟨by rfl, ?_⟩) hHeld ?_
    rotate_left
    · (intro w hSw; clear hSw; go_simp; try (with_reducible rfl))
    refine wpAnyH_take (i := 5) (v := ?_) rfl (by kernel_rfl) (by kernel_rfl) (by kernel_rfl) (fun _ _ _ h => h) (Or.inl ⟨by rfl, ?_⟩) hHeld ?_
    rotate_left
    · (intro w hSw; clear hSw; go_simp; try (with_reducible rfl))
    refine wpAnyH_take (i := 6) (v := ?_) rfl (by kernel_rfl) (by kernel_rfl) (by kernel_rfl) (fun _ _ _ h => h) (Or.inl ⟨by rfl, ?_⟩) hHeld ?_
    rotate_left
    · (intro w hSw; obtain ⟨b0, b1, b2, b3, b4, b5, b6, b7, b8, b9, b10, b11, b12⟩ := at13 (heap_below hSw K13.out); clear hSw; go_simp; try (with_reducible rfl))
    refine wpAnyH_take (i := 9) (v := ?_) rfl (by kernel_rfl) (by kernel_rfl) (by kernel_rfl) (fun _ _ _ h => h) (Or.inl ⟨by rfl, ?_⟩) hHeld ?_
    rotate_left
    · (intro w hSw; clear hSw; go_simp; try (with_reducible rfl))
    refine wpAnyH_take (i := 10) (v := ?_) rfl (by kernel_rfl) (by kernel_rfl) (by kernel_rfl) (fun _ _ _ h => h) (Or.inl ⟨by rfl, ?_⟩) hHeld ?_
    rotate_left
    · (intro w hSw; clear hSw; go_simp; try (with_reducible rfl))
    refine wpAnyH_take (i := 11) (v := ?_) rfl (by kernel_rfl) (by kernel_rfl) (by kernel_rfl) (fun _ _ _ h => h) (Or.inl ⟨by rfl, ?_⟩) hHeld ?_
    rotate_left
    · (intro w hSw; clear hSw; go_simp; try (with_reducible rfl))
    refine wpAnyH_take (i := 12) (v := ?_) rfl (by kernel_rfl) (by kernel_rfl) (by kernel_rfl) (fun _ _ _ h => h) (Or.inl ⟨by rfl, ?_⟩) hHeld ?_
    rotate_left
    · (intro w hSw; obtain ⟨b0, b1, b2, b3, b4, b5, b6, b7, b8, b9, b10, b11, b12⟩ := at13 (heap_below hSw K13.out); clear hSw; go_simp; try (with_reducible rfl))
    refine wpAnyH_take (i := 15) (v := ?_) rfl (by kernel_rfl) (by kernel_rfl) (by kernel_rfl) (fun _ _ _ h => h) (Or.inl ⟨by rfl, ?_⟩) hHeld ?_
    rotate_left
    · (intro w hSw; clear hSw; go_simp; try (with_reducible rfl))
    refine wpAnyH_take (i := 16) (v := ?_) rfl (by kernel_rfl) (by kernel_rfl) (by kernel_rfl) (fun _ _ _ h => h) (Or.inl ⟨by rfl, ?_⟩) hHeld ?_
    rotate_left
    · (intro w hSw; clear hSw; go_simp; try (with_reducible rfl))
    refine wpAnyH_take (i := 17) (v := ?_) rfl (by kernel_rfl) (by kernel_rfl) (by kernel_rfl) (fun _ _ _ h => h) (Or.inl ⟨by rfl, ?_⟩) hHeld ?_
    rotate_left
    · (intro w hSw; obtain ⟨b0, b1, b2, b3, b4, b5, b6, b7, b8, b9, b10, b11, b12⟩ := at13 (heap_below hSw K13.out); clear hSw; go_simp; try (with_reducible rfl))
    refine wpAnyH_take (i := 18) (v := ?_) rfl (by kernel_rfl) (by kernel_rfl) (by kernel_rfl) (fun _ _ _ h => h) (Or.inl ⟨by rfl, ?_⟩) hHeld ?_
    rotate_left
    · (intro w hSw; clear hSw; go_simp; try (with_reducible rfl))
    refine wpAnyH_take (i := 19) (v := ?_) rfl (by kernel_rfl) (by kernel_rfl) (by kernel_rfl) (fun _ _ _ h => h) (Or.inl ⟨by rfl, ?_⟩) hHeld ?_
    rotate_left
    · (intro w hSw; clear hSw; go_simp; try (with_reducible rfl))
    refine wpAnyH_take (i := 20) (v := ?_) rfl (by kernel_rfl) (by kernel_rfl) (by kernel_rfl) (fun _ _ _ h => h) (Or.inl ⟨by rfl, ?_⟩) hHeld ?_
    rotate_left
    · (intro w hSw; obtain ⟨b0, b1, b2, b3, b4, b5, b6, b7, b8, b9, b10, b11, b12⟩ := at13 (heap_below hSw K13.out); clear hSw; go_simp; try (with_reducible rfl))
    refine wpAnyH_ready (rs := [7, 25]) (by kernel_rfl) (by simp) ?_
    refine AllReadyH.cons rfl (fun K hK => ?_) (AllReadyH.cons rfl (fun K hK => ?_) AllReadyH.nil)
    · go_simp
      refine (H1.out _ (bstep BB1.out hHeld)).mono ?_
      rintro e wc1 ⟨rfl, hb0⟩
      replace hHeld := bstep hHeld hb0
      clear hb0
      go_wp2_with fail
      refine hK.out _ _ hHeld (fun _ => ?_)
      clear hK K
      refine wpAnyH_take (i := 8) (v := ?_) rfl (by kernel_rfl) (by kernel_rfl) (by kernel_rfl) (fun _ _ _ h => h) (Or.inl ⟨by rfl, ?_⟩) hHeld ?_
      rotate_left
      · (intro w hSw; clear hSw; go_simp; try (with_reducible rfl))
      refine wpAnyH_ready (rs := [13, 25]) (by kernel_rfl) (by simp) ?_
      refine AllReadyH.cons rfl (fun K hK => ?_) (AllReadyH.cons rfl (fun K hK => ?_) AllReadyH.nil)
      · go_simp
        refine (H2.out _ (bstep BB1.out hHeld)).mono ?_
        rintro e wc2 ⟨rfl, hb1⟩
        replace hHeld := bstep hHeld hb1
        clear hb1
        go_wp2_with fail
        refine hK.out _ _ hHeld (fun _ => ?_)
        clear hK K
        refine wpAnyH_take (i := 14) (v := ?_) rfl (by kernel_rfl) (by kernel_rfl) (by kernel_rfl) (fun _ _ _ h => h) (Or.inl ⟨by rfl, ?_⟩) hHeld ?_
        rotate_left
        · (intro w hSw; clear hSw; go_simp; try (with_reducible rfl))
        refine wpAnyH_ready (rs := [21, 25]) (by kernel_rfl) (by simp) ?_
        refine AllReadyH.cons rfl (fun K hK => ?_) (AllReadyH.cons rfl (fun K hK => ?_) AllReadyH.nil)
        · go_simp
          refine (HD.out _).mono ?_
          rintro e wc3 ⟨rfl, hb2⟩
          replace hHeld := bstep hHeld hb2
          clear hb2
          go_wp2_with fail
          refine hK.out _ _ hHeld (fun _ => ?_)
          clear hK K
          refine wpAnyH_take (i := 22) (v := ?_) rfl (by kernel_rfl) (by kernel_rfl) (by kernel_rfl) (fun _ _ _ h => h) (Or.inl ⟨by rfl, ?_⟩) hHeld ?_
          rotate_left
          · (intro w hSw; clear hSw; go_simp; try (with_reducible rfl))
          refine wpAnyH_take (i := 23) (v := ?_) rfl (by kernel_rfl) (by kernel_rfl) (by kernel_rfl) (fun _ _ _ h => h) (Or.inl ⟨by rfl, ?_⟩) hHeld ?_
          rotate_left
          · (intro w hSw; clear hSw; go_simp; try (with_reducible rfl))
          refine wpAnyH_take (i := 24) (v := ?_) rfl (by kernel_rfl) (by kernel_rfl) (by kernel_rfl) (fun _ _ _ h => h) (Or.inl ⟨by rfl, ?_⟩) hHeld ?_
          rotate_left
          · (intro w hSw; clear hSw; go_simp; try (with_reducible rfl))
          refine wpAnyH_ready (rs := [25]) (by kernel_rfl) (by simp) ?_
          refine AllReadyH.cons rfl (fun K hK => ?_) AllReadyH.nil
          go_simp
          obtain ⟨pb, hpb⟩ : ∃ pb, pb = wc3.heap.size := ⟨_, rfl⟩
          have HZ := hide (heap_alloc_new wc3 (.cells #[.int .i64 0, .int .u64 0, .int .u64 0] 56))
          have HPB : Hid (W1.heap.size ≤ pb) := by show _ ≤ _; rw [hpb]; exact hHeld.size
          replace hHeld := bstep hHeld (below1 wc3 (.cells #[.int .i64 0, .int .u64 0, .int .u64 0] 56))
          rw [← hpb] at HZ ⊢
          generalize wc3.alloc (.cells #[.int .i64 0, .int .u64 0, .int .u64 0] 56) = wc3 at *
          refine hK.out _ _ hHeld (fun _ => ?_)
          clear hK K hpb
          refine wpAnyH_ready (rs := [26]) (by kernel_rfl) (by simp) ?_
          refine AllReadyH.cons rfl (fun K hK => ?_) AllReadyH.nil
          refine step_storeA rfl 56 _ _ rfl pb [.int .i64 rw_, .int .u64 rh, .int .u64 rl] _ 56 rfl rfl (fun w => by kernel_rfl) HZ.out rfl (by simp [Value.oneCell']) ?_
          intro w9 hw9
          have Z9 := hide (show w9.heap[pb]? = some (.cells ([.int .i64 rw_, .int .u64 rh, .int .u64 rl] : List Value).toArray 56 (0, 0)) from by rw [hw9]; exact got0 HZ.out rfl)
          have hHeld9 : Below W1.heap.size W1 w9 := hHeld.trans ((show Fr (· = pb) _ w9 from by rw [hw9]; exact fr_all _ _ _ _).below (fun b e => by have := HPB.out; omega) hHeld.size)
          refine hK.out _ _ hHeld9 (fun _ => ?_)
          clear hK K hw9 HZ hHeld
          have hHeld := hHeld9
          refine wpAnyH_take (i := 27) (v := ?_) rfl (by kernel_rfl) (by kernel_rfl) (by kernel_rfl) (fun _ _ _ h => h) (Or.inl ⟨by rfl, ?_⟩) hHeld ?_
          rotate_left
          · (intro w hSw; clear hSw; go_simp; try (with_reducible rfl))
          clear hHeld
          refine wpAnyH_done (by kernel_rfl) ?_ _
          refine NoPanic.normal ?_
          go_simp
          have B9 := hide (bstep BB1.out hHeld9)
          have K9 := hide (heap_below hHeld9 K13.out)
          clear hHeld9 HPB
          obtain ⟨X2, f2, hX2, hS2, hcov2⟩ := class_of (fun w' => Below w9.heap.size w9 w') w9.drew (Below.refl _ _).drew
          have HC2 : Hid (∃ x, w9.drew = f2 x) := hcov2 _ (Below.refl _ _).drew
          have HNX2 : Hid (∀ x w', Below (f2 x).heap.size (f2 x) w' → ∃ y, w' = f2 y) := fun x w' hb => hcov2 w' ((hS2 x).trans (hb.mono (hS2 x).size))
          have HBX2 : Hid (∀ x, Below w.heap.size w (f2 x)) := fun x => bstep B9.out (hS2 x)
          have u1 := fun x => (at13 (heap_below (hS2 x) K9.out)).2.1
          have u0 : ∀ x, (f2 x).cell? ⟨pb, 0, none⟩ = some (.int .i64 rw_) := fun x => (cellA (heap_below (hS2 x) Z9.out) 0).trans rfl
          clear hcov2 hS2 Z9 K9
          by_cases he : er = 0
          · subst he
            go_wp2
            refine wp_region_class f2 (by kernel_rfl) (by kernel_rfl) HC2.out ?_
            repeat (first
              | go_big_quiet_skip
              | (go_big_quiet_want; go_big_quiet_op; first
                  | go_big_quiet_on
                  | (apply Exists.intro
                     refine ⟨fun _ => ?_, ?_⟩
                     · (go_at_call 57; refine (H3.out _ (HBX2.out _)).mono ?_; rintro e' wn ⟨rfl, hb⟩; exact ⟨rfl, HNX2.out _ _ hb⟩)
                     go_big_quiet_on)))
            refine wpQuiet_nil ?_
            rintro _ ⟨x, rfl⟩
            go_wp2
            go_ret
            exact ⟨by simp, HBX2.out x⟩
          · have he1 : (er == 0) = false := by simpa using he
            have he2 : (er = 0) = False := by simpa using he
            go_wp2
            refine wp_region_class f2 (by kernel_rfl) (by kernel_rfl) HC2.out ?_
            repeat (first
              | go_big_quiet_skip
              | (go_big_quiet_want; go_big_quiet_op; first
                  | go_big_quiet_on
                  | (apply Exists.intro
                     refine ⟨fun _ => ?_, ?_⟩
                     · (go_at_call 57; refine (H3.out _ (HBX2.out _)).mono ?_; rintro e' wn ⟨rfl, hb⟩; exact ⟨rfl, HNX2.out _ _ hb⟩)
                     go_big_quiet_on)))
            refine wpQuiet_nil ?_
            rintro _ ⟨x, rfl⟩
            go_wp2
            go_ret
            exact ⟨by simp [he1], HBX2.out x⟩
        · go_simp
          obtain ⟨pb, hpb⟩ : ∃ pb, pb = wc2.heap.size := ⟨_, rfl⟩
          have HZ := hide (heap_alloc_new wc2 (.cells #[.int .i64 0, .int .u64 0, .int .u64 0] 56))
          have HPB : Hid (W1.heap.size ≤ pb) := by show _ ≤ _; rw [hpb]; exact hHeld.size
          replace hHeld := bstep hHeld (below1 wc2 (.cells #[.int .i64 0, .int .u64 0, .int .u64 0] 56))
          rw [← hpb] at HZ ⊢
          generalize wc2.alloc (.cells #[.int .i64 0, .int .u64 0, .int .u64 0] 56) = wc2 at *
          refine hK.out _ _ hHeld (fun _ => ?_)
          clear hK K hpb
          refine wpAnyH_ready (rs := [21]) (by kernel_rfl) (by simp) ?_
          refine AllReadyH.cons rfl (fun K hK => ?_) AllReadyH.nil
          go_simp
          refine (HD.out _).mono ?_
          rintro e wc3 ⟨rfl, hb2⟩
          replace HZ := hide (heap_below hb2 HZ.out)
          replace hHeld := bstep hHeld hb2
          clear hb2
          go_wp2_with fail
          refine hK.out _ _ hHeld (fun _ => ?_)
          clear hK K
          refine wpAnyH_take (i := 22) (v := ?_) rfl (by kernel_rfl) (by kernel_rfl) (by kernel_rfl) (fun _ _ _ h => h) (Or.inl ⟨by rfl, ?_⟩) hHeld ?_
          rotate_left
          · (intro w hSw; clear hSw; go_simp; try (with_reducible rfl))
          refine wpAnyH_take (i := 23) (v := ?_) rfl (by kernel_rfl) (by kernel_rfl) (by kernel_rfl) (fun _ _ _ h => h) (Or.inl ⟨by rfl, ?_⟩) hHeld ?_
          rotate_left
          · (intro w hSw; clear hSw; go_simp; try (with_reducible rfl))
          refine wpAnyH_take (i := 24) (v := ?_) rfl (by kernel_rfl) (by kernel_rfl) (by kernel_rfl) (fun _ _ _ h => h) (Or.inl ⟨by rfl, ?_⟩) hHeld ?_
          rotate_left
          · (intro w hSw; clear hSw; go_simp; try (with_reducible rfl))
          refine wpAnyH_ready (rs := [26]) (by kernel_rfl) (by simp) ?_
          refine AllReadyH.cons rfl (fun K hK => ?_) AllReadyH.nil
          refine step_storeA rfl 56 _ _ rfl pb [.int .i64 rw_, .int .u64 rh, .int .u64 rl] _ 56 rfl rfl (fun w => by kernel_rfl) HZ.out rfl (by simp [Value.oneCell']) ?_
          intro w9 hw9
          have Z9 := hide (show w9.heap[pb]? = some (.cells ([.int .i64 rw_, .int .u64 rh, .int .u64 rl] : List Value).toArray 56 (0, 0)) from by rw [hw9]; exact got0 HZ.out rfl)
          have hHeld9 : Below W1.heap.size W1 w9 := hHeld.trans ((show Fr (· = pb) _ w9 from by rw [hw9]; exact fr_all _ _ _ _).below (fun b e => by have := HPB.out; omega) hHeld.size)
          refine hK.out _ _ hHeld9 (fun _ => ?_)
          clear hK K hw9 HZ hHeld
          have hHeld := hHeld9
          refine wpAnyH_take (i := 27) (v := ?_) rfl (by kernel_rfl) (by kernel_rfl) (by kernel_rfl) (fun _ _ _ h => h) (Or.inl ⟨by rfl, ?_⟩) hHeld ?_
          rotate_left
          · (intro w hSw; clear hSw; go_simp; try (with_reducible rfl))
          clear hHeld
          refine wpAnyH_done (by kernel_rfl) ?_ _
          refine NoPanic.normal ?_
          go_simp
          have B9 := hide (bstep BB1.out hHeld9)
          have K9 := hide (heap_below hHeld9 K13.out)
          clear hHeld9 HPB
          obtain ⟨X2, f2, hX2, hS2, hcov2⟩ := class_of (fun w' => Below w9.heap.size w9 w') w9.drew (Below.refl _ _).drew
          have HC2 : Hid (∃ x, w9.drew = f2 x) := hcov2 _ (Below.refl _ _).drew
          have HNX2 : Hid (∀ x w', Below (f2 x).heap.size (f2 x) w' → ∃ y, w' = f2 y) := fun x w' hb => hcov2 w' ((hS2 x).trans (hb.mono (hS2 x).size))
          have HBX2 : Hid (∀ x, Below w.heap.size w (f2 x)) := fun x => bstep B9.out (hS2 x)
          have u1 := fun x => (at13 (heap_below (hS2 x) K9.out)).2.1
          have u0 : ∀ x, (f2 x).cell? ⟨pb, 0, none⟩ = some (.int .i64 rw_) := fun x => (cellA (heap_below (hS2 x) Z9.out) 0).trans rfl
          clear hcov2 hS2 Z9 K9
          by_cases he : er = 0
          · subst he
            go_wp2
            refine wp_region_class f2 (by kernel_rfl) (by kernel_rfl) HC2.out ?_
            repeat (first
              | go_big_quiet_skip
              | (go_big_quiet_want; go_big_quiet_op; first
                  | go_big_quiet_on
                  | (apply Exists.intro
                     refine ⟨fun _ => ?_, ?_⟩
                     · (go_at_call 57; refine (H3.out _ (HBX2.out _)).mono ?_; rintro e' wn ⟨rfl, hb⟩; exact ⟨rfl, HNX2.out _ _ hb⟩)
                     go_big_quiet_on)))
            refine wpQuiet_nil ?_
            rintro _ ⟨x, rfl⟩
            go_wp2
            go_ret
            exact ⟨by simp, HBX2.out x⟩
          · have he1 : (er == 0) = false := by simpa using he
            have he2 : (er = 0) = False := by simpa using he
            go_wp2
            refine wp_region_class f2 (by kernel_rfl) (by kernel_rfl) HC2.out ?_
            repeat (first
              | go_big_quiet_skip
              | (go_big_quiet_want; go_big_quiet_op; first
                  | go_big_quiet_on
                  | (apply Exists.intro
                     refine ⟨fun _ => ?_, ?_⟩
                     · (go_at_call 57; refine (H3.out _ (HBX2.out _)).mono ?_; rintro e' wn ⟨rfl, hb⟩; exact ⟨rfl, HNX2.out _ _ hb⟩)
                     go_big_quiet_on)))
            refine wpQuiet_nil ?_
            rintro _ ⟨x, rfl⟩
            go_wp2
            go_ret
            exact ⟨by simp [he1], HBX2.out x⟩
      · go_simp
        obtain ⟨pb, hpb⟩ : ∃ pb, pb = wc1.heap.size := ⟨_, rfl⟩
        have HZ := hide (heap_alloc_new wc1 (.cells #[.int .i64 0, .int .u64 0, .int .u64 0] 56))
        have HPB : Hid (W1.heap.size ≤ pb) := by show _ ≤ _; rw [hpb]; exact hHeld.size
        replace hHeld := bstep hHeld (below1 wc1 (.cells #[.int .i64 0, .int .u64 0, .int .u64 0] 56))
        rw [← hpb] at HZ ⊢
        generalize wc1.alloc (.cells #[.int .i64 0, .int .u64 0, .int .u64 0] 56) = wc1 at *
        refine hK.out _ _ hHeld (fun _ => ?_)
        clear hK K hpb
        refine wpAnyH_ready (rs := [13]) (by kernel_rfl) (by simp) ?_
        refine AllReadyH.cons rfl (fun K hK => ?_) AllReadyH.nil
        go_simp
        refine (H2.out _ (bstep BB1.out hHeld)).mono ?_
        rintro e wc2 ⟨rfl, hb1⟩
        replace HZ := hide (heap_below hb1 HZ.out)
        replace hHeld := bstep hHeld hb1
        clear hb1
        go_wp2_with fail
        refine hK.out _ _ hHeld (fun _ => ?_)
        clear hK K
        refine wpAnyH_take (i := 14) (v := ?_) rfl (by kernel_rfl) (by kernel_rfl) (by kernel_rfl) (fun _ _ _ h => h) (Or.inl ⟨by rfl, ?_⟩) hHeld ?_
        rotate_left
        · (intro w hSw; clear hSw; go_simp; try (with_reducible rfl))
        refine wpAnyH_ready (rs := [21]) (by kernel_rfl) (by simp) ?_
        refine AllReadyH.cons rfl (fun K hK => ?_) AllReadyH.nil
        go_simp
        refine (HD.out _).mono ?_
        rintro e wc3 ⟨rfl, hb2⟩
        replace HZ := hide (heap_below hb2 HZ.out)
        replace hHeld := bstep hHeld hb2
        clear hb2
        go_wp2_with fail
        refine hK.out _ _ hHeld (fun _ => ?_)
        clear hK K
        refine wpAnyH_take (i := 22) (v := ?_) rfl (by kernel_rfl) (by kernel_rfl) (by kernel_rfl) (fun _ _ _ h => h) (Or.inl ⟨by rfl, ?_⟩) hHeld ?_
        rotate_left
        · (intro w hSw; clear hSw; go_simp; try (with_reducible rfl))
        refine wpAnyH_take (i := 23) (v := ?_) rfl (by kernel_rfl) (by kernel_rfl) (by kernel_rfl) (fun _ _ _ h => h) (Or.inl ⟨by rfl, ?_⟩) hHeld ?_
        rotate_left
        · (intro w hSw; clear hSw; go_simp; try (with_reducible rfl))
        refine wpAnyH_take (i := 24) (v := ?_) rfl (by kernel_rfl) (by kernel_rfl) (by kernel_rfl) (fun _ _ _ h => h) (Or.inl ⟨by rfl, ?_⟩) hHeld ?_
        rotate_left
        · (intro w hSw; clear hSw; go_simp; try (with_reducible rfl))
        refine wpAnyH_ready (rs := [26]) (by kernel_rfl) (by simp) ?_
        refine AllReadyH.cons rfl (fun K hK => ?_) AllReadyH.nil
        refine step_storeA rfl 56 _ _ rfl pb [.int .i64 rw_, .int .u64 rh, .int .u64 rl] _ 56 rfl rfl (fun w => by kernel_rfl) HZ.out rfl (by simp [Value.oneCell']) ?_
        intro w9 hw9
        have Z9 := hide (show w9.heap[pb]? = some (.cells ([.int .i64 rw_, .int .u64 rh, .int .u64 rl] : List Value).toArray 56 (0, 0)) from by rw [hw9]; exact got0 HZ.out rfl)
        have hHeld9 : Below W1.heap.size W1 w9 := hHeld.trans ((show Fr (· = pb) _ w9 from by rw [hw9]; exact fr_all _ _ _ _).below (fun b e => by have := HPB.out; omega) hHeld.size)
        refine hK.out _ _ hHeld9 (fun _ => ?_)
        clear hK K hw9 HZ hHeld
        have hHeld := hHeld9
        refine wpAnyH_take (i := 27) (v := ?_) rfl (by kernel_rfl) (by kernel_rfl) (by kernel_rfl) (fun _ _ _ h => h) (Or.inl ⟨by rfl, ?_⟩) hHeld ?_
        rotate_left
        · (intro w hSw; clear hSw; go_simp; try (with_reducible rfl))
        clear hHeld
        refine wpAnyH_done (by kernel_rfl) ?_ _
        refine NoPanic.normal ?_
        go_simp
        have B9 := hide (bstep BB1.out hHeld9)
        have K9 := hide (heap_below hHeld9 K13.out)
        clear hHeld9 HPB
        obtain ⟨X2, f2, hX2, hS2, hcov2⟩ := class_of (fun w' => Below w9.heap.size w9 w') w9.drew (Below.refl _ _).drew
        have HC2 : Hid (∃ x, w9.drew = f2 x) := hcov2 _ (Below.refl _ _).drew
        have HNX2 : Hid (∀ x w', Below (f2 x).heap.size (f2 x) w' → ∃ y, w' = f2 y) := fun x w' hb => hcov2 w' ((hS2 x).trans (hb.mono (hS2 x).size))
        have HBX2 : Hid (∀ x, Below w.heap.size w (f2 x)) := fun x => bstep B9.out (hS2 x)
        have u1 := fun x => (at13 (heap_below (hS2 x) K9.out)).2.1
        have u0 : ∀ x, (f2 x).cell? ⟨pb, 0, none⟩ = some (.int .i64 rw_) := fun x => (cellA (heap_below (hS2 x) Z9.out) 0).trans rfl
        clear hcov2 hS2 Z9 K9
        by_cases he : er = 0
        · subst he
          go_wp2
          refine wp_region_class f2 (by kernel_rfl) (by kernel_rfl) HC2.out ?_
          repeat (first
            | go_big_quiet_skip
            | (go_big_quiet_want; go_big_quiet_op; first
                | go_big_quiet_on
                | (apply Exists.intro
                   refine ⟨fun _ => ?_, ?_⟩
                   · (go_at_call 57; refine (H3.out _ (HBX2.out _)).mono ?_; rintro e' wn ⟨rfl, hb⟩; exact ⟨rfl, HNX2.out _ _ hb⟩)
                   go_big_quiet_on)))
          refine wpQuiet_nil ?_
          rintro _ ⟨x, rfl⟩
          go_wp2
          go_ret
          exact ⟨by simp, HBX2.out x⟩
        · have he1 : (er == 0) = false := by simpa using he
          have he2 : (er = 0) = False := by simpa using he
          go_wp2
          refine wp_region_class f2 (by kernel_rfl) (by kernel_rfl) HC2.out ?_
          repeat (first
            | go_big_quiet_skip
            | (go_big_quiet_want; go_big_quiet_op; first
                | go_big_quiet_on
                | (apply Exists.intro
                   refine ⟨fun _ => ?_, ?_⟩
                   · (go_at_call 57; refine (H3.out _ (HBX2.out _)).mono ?_; rintro e' wn ⟨rfl, hb⟩; exact ⟨rfl, HNX2.out _ _ hb⟩)
                   go_big_quiet_on)))
          refine wpQuiet_nil ?_
          rintro _ ⟨x, rfl⟩
          go_wp2
          go_ret
          exact ⟨by simp [he1], HBX2.out x⟩
    · go_simp
      obtain ⟨pb, hpb⟩ : ∃ pb, pb = wc0.heap.size := ⟨_, rfl⟩
      have HZ := hide (heap_alloc_new wc0 (.cells #[.int .i64 0, .int .u64 0, .int .u64 0] 56))
      have HPB : Hid (W1.heap.size ≤ pb) := by show _ ≤ _; rw [hpb]; exact hHeld.size
      replace hHeld := bstep hHeld (below1 wc0 (.cells #[.int .i64 0, .int .u64 0, .int .u64 0] 56))
      rw [← hpb] at HZ ⊢
      generalize wc0.alloc (.cells #[.int .i64 0, .int .u64 0, .int .u64 0] 56) = wc0 at *
      refine hK.out _ _ hHeld (fun _ => ?_)
      clear hK K hpb
      refine wpAnyH_ready (rs := [7]) (by kernel_rfl) (by simp) ?_
      refine AllReadyH.cons rfl (fun K hK => ?_) AllReadyH.nil
      go_simp
      refine (H1.out _ (bstep BB1.out hHeld)).mono ?_
      rintro e wc1 ⟨rfl, hb0⟩
      replace HZ := hide (heap_below hb0 HZ.out)
      replace hHeld := bstep hHeld hb0
      clear hb0
      go_wp2_with fail
      refine hK.out _ _ hHeld (fun _ => ?_)
      clear hK K
      refine wpAnyH_take (i := 8) (v := ?_) rfl (by kernel_rfl) (by kernel_rfl) (by kernel_rfl) (fun _ _ _ h => h) (Or.inl ⟨by rfl, ?_⟩) hHeld ?_
      rotate_left
      · (intro w hSw; clear hSw; go_simp; try (with_reducible rfl))
      refine wpAnyH_ready (rs := [13]) (by kernel_rfl) (by simp) ?_
      refine AllReadyH.cons rfl (fun K hK => ?_) AllReadyH.nil
      go_simp
      refine (H2.out _ (bstep BB1.out hHeld)).mono ?_
      rintro e wc2 ⟨rfl, hb1⟩
      replace HZ := hide (heap_below hb1 HZ.out)
      replace hHeld := bstep hHeld hb1
      clear hb1
      go_wp2_with fail
      refine hK.out _ _ hHeld (fun _ => ?_)
      clear hK K
      refine wpAnyH_take (i := 14) (v := ?_) rfl (by kernel_rfl) (by kernel_rfl) (by kernel_rfl) (fun _ _ _ h => h) (Or.inl ⟨by rfl, ?_⟩) hHeld ?_
      rotate_left
      · (intro w hSw; clear hSw; go_simp; try (with_reducible rfl))
      refine wpAnyH_ready (rs := [21]) (by kernel_rfl) (by simp) ?_
      refine AllReadyH.cons rfl (fun K hK => ?_) AllReadyH.nil
      go_simp
      refine (HD.out _).mono ?_
      rintro e wc3 ⟨rfl, hb2⟩
      replace HZ := hide (heap_below hb2 HZ.out)
      replace hHeld := bstep hHeld hb2
      clear hb2
      go_wp2_with fail
      refine hK.out _ _ hHeld (fun _ => ?_)
      clear hK K
      refine wpAnyH_take (i := 22) (v := ?_) rfl (by kernel_rfl) (by kernel_rfl) (by kernel_rfl) (fun _ _ _ h => h) (Or.inl ⟨by rfl, ?_⟩) hHeld ?_
      rotate_left
      · (intro w hSw; clear hSw; go_simp; try (with_reducible rfl))
      refine wpAnyH_take (i := 23) (v := ?_) rfl (by kernel_rfl) (by kernel_rfl) (by kernel_rfl) (fun _ _ _ h => h) (Or.inl ⟨by rfl, ?_⟩) hHeld ?_
      rotate_left
      · (intro w hSw; clear hSw; go_simp; try (with_reducible rfl))
      refine wpAnyH_take (i := 24) (v := ?_) rfl (by kernel_rfl) (by kernel_rfl) (by kernel_rfl) (fun _ _ _ h => h) (Or.inl ⟨by rfl, ?_⟩) hHeld ?_
      rotate_left
      · (intro w hSw; clear hSw; go_simp; try (with_reducible rfl))
      refine wpAnyH_ready (rs := [26]) (by kernel_rfl) (by simp) ?_
      refine AllReadyH.cons rfl (fun K hK => ?_) AllReadyH.nil
      refine step_storeA rfl 56 _ _ rfl pb [.int .i64 rw_, .int .u64 rh, .int .u64 rl] _ 56 rfl rfl (fun w => by kernel_rfl) HZ.out rfl (by simp [Value.oneCell']) ?_
      intro w9 hw9
      have Z9 := hide (show w9.heap[pb]? = some (.cells ([.int .i64 rw_, .int .u64 rh, .int .u64 rl] : List Value).toArray 56 (0, 0)) from by rw [hw9]; exact got0 HZ.out rfl)
      have hHeld9 : Below W1.heap.size W1 w9 := hHeld.trans ((show Fr (· = pb) _ w9 from by rw [hw9]; exact fr_all _ _ _ _).below (fun b e => by have := HPB.out; omega) hHeld.size)
      refine hK.out _ _ hHeld9 (fun _ => ?_)
      clear hK K hw9 HZ hHeld
      have hHeld := hHeld9
      refine wpAnyH_take (i := 27) (v := ?_) rfl (by kernel_rfl) (by kernel_rfl) (by kernel_rfl) (fun _ _ _ h => h) (Or.inl ⟨by rfl, ?_⟩) hHeld ?_
      rotate_left
      · (intro w hSw; clear hSw; go_simp; try (with_reducible rfl))
      clear hHeld
      refine wpAnyH_done (by kernel_rfl) ?_ _
      refine NoPanic.normal ?_
      go_simp
      have B9 := hide (bstep BB1.out hHeld9)
      have K9 := hide (heap_below hHeld9 K13.out)
      clear hHeld9 HPB
      obtain ⟨X2, f2, hX2, hS2, hcov2⟩ := class_of (fun w' => Below w9.heap.size w9 w') w9.drew (Below.refl _ _).drew
      have HC2 : Hid (∃ x, w9.drew = f2 x) := hcov2 _ (Below.refl _ _).drew
      have HNX2 : Hid (∀ x w', Below (f2 x).heap.size (f2 x) w' → ∃ y, w' = f2 y) := fun x w' hb => hcov2 w' ((hS2 x).trans (hb.mono (hS2 x).size))
      have HBX2 : Hid (∀ x, Below w.heap.size w (f2 x)) := fun x => bstep B9.out (hS2 x)
      have u1 := fun x => (at13 (heap_below (hS2 x) K9.out)).2.1
      have u0 : ∀ x, (f2 x).cell? ⟨pb, 0, none⟩ = some (.int .i64 rw_) := fun x => (cellA (heap_below (hS2 x) Z9.out) 0).trans rfl
      clear hcov2 hS2 Z9 K9
      by_cases he : er = 0
      · subst he
        go_wp2
        refine wp_region_class f2 (by kernel_rfl) (by kernel_rfl) HC2.out ?_
        repeat (first
          | go_big_quiet_skip
          | (go_big_quiet_want; go_big_quiet_op; first
              | go_big_quiet_on
              | (apply Exists.intro
                 refine ⟨fun _ => ?_, ?_⟩
                 · (go_at_call 57; refine (H3.out _ (HBX2.out _)).mono ?_; rintro e' wn ⟨rfl, hb⟩; exact ⟨rfl, HNX2.out _ _ hb⟩)
                 go_big_quiet_on)))
        refine wpQuiet_nil ?_
        rintro _ ⟨x, rfl⟩
        go_wp2
        go_ret
        exact ⟨by simp, HBX2.out x⟩
      · have he1 : (er == 0) = false := by simpa using he
        have he2 : (er = 0) = False := by simpa using he
        go_wp2
        refine wp_region_class f2 (by kernel_rfl) (by kernel_rfl) HC2.out ?_
        repeat (first
          | go_big_quiet_skip
          | (go_big_quiet_want; go_big_quiet_op; first
              | go_big_quiet_on
              | (apply Exists.intro
                 refine ⟨fun _ => ?_, ?_⟩
                 · (go_at_call 57; refine (H3.out _ (HBX2.out _)).mono ?_; rintro e' wn ⟨rfl, hb⟩; exact ⟨rfl, HNX2.out _ _ hb⟩)
                 go_big_quiet_on)))
        refine wpQuiet_nil ?_
        rintro _ ⟨x, rfl⟩
        go_wp2
        go_ret
        exact ⟨by simp [he1], HBX2.out x⟩
  · have z1 : (bits .andNot .i64 pt ak == 0) = false := by simpa using hz
    have z2 : (bits .andNot .i64 pt ak = 0) = False := by simpa using hz
    rw [z1, Bool.false_and]
    clear hz
    go_enter Tryz.func55, Tryz.ntmps55
    go_wp2
    rw [HW1.out]
    refine wp_region_class f (by kernel_rfl) (by kernel_rfl) HC0.out ?_
    repeat (first
      | go_big_quiet_skip
      | (go_big_quiet_want; go_big_quiet_op; first
          | go_big_quiet_on
          | (apply Exists.intro
             refine ⟨fun _ => ?_, ?_⟩
             · first
                | (go_at_call 109; refine (HP.out _).mono ?_; rintro e' wn ⟨rfl, hb⟩; exact ⟨rfl, HNX.out _ _ hb⟩)
                | (go_at_call 110; refine (HA.out _).mono ?_; rintro e' wn ⟨rfl, hb⟩; exact ⟨rfl, HNX.out _ _ hb⟩)
             go_big_quiet_on)))
    refine wpQuiet_nil ?_
    rintro _ ⟨x, rfl⟩
    go_wp2
    go_ret
    exact ⟨rfl, HBX.out x⟩
end Go.Proofs.YtlipcmonlhdgfaaGreat
