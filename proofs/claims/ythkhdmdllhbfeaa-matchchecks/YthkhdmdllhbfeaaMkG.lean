/- MatchChecks, walked. -/
import Derived.Test.YthkhdmdllhbfeaaMkB
import Derived.Test.YthkhdmdllhbfeaaMkF
import Derived.Test.YthkhdmdllhbfeaaMwC
namespace Go.Proofs.Ythkhdmdllhbfeaa
open Go.RowKit

set_option maxRecDepth 100000 in
set_option maxHeartbeats 8000000 in
theorem matchChecks_any (x : TbL) (la : Option Addr) (lc : Nat) (l : List EnL) (y : EnL) (w : World) (h : CaO w x la lc l y) : Calls Try.prog 3 #[.agg (caCells x la lc l y)] w fun e w' => e = .returned (.bool true) ∧ Below w.heap.size w w' := by
  have HLV : Hid (Pure _ _ _) := lives_any
  have HBY : Hid (∀ W, Below w.heap.size w W → _) := fun W hb => beyond_any x la lc l y W ⟨h.t.below hb, h.es.below hb, h.ln, h.lz, h.e.below hb⟩
  by_cases hbig : 30000 < caSz x l y
  · have ed : decide (30000 < caSz x l y) = true := by simp [hbig]
    rw [ed] at HBY
    clear ed hbig h
    obtain ⟨⟨ks, ws, size⟩, ka, kc, wa, wc⟩ := x
    obtain ⟨⟨ms, prio, act, args⟩, ma, mc, aa, ac⟩ := y
    simp only [caCells] at *
    go_enter Try.func3, Try.ntmps3
    go_wp2_with fail
    refine (HBY.out _ (below1 _ _)).mono ?_
    rintro e w1 ⟨rfl, hb⟩
    go_wp2_with fail
    refine (HLV.out _).mono ?_
    rintro e w2 ⟨rfl, hb2⟩
    go_wp2
    go_ret
    exact ⟨rfl, bstep (bstep (below1 _ _) hb) hb2⟩
  have ed : decide (30000 < caSz x l y) = false := by simp; omega
  rw [ed] at HBY
  have hsz : caSz x l y ≤ 30000 := by omega
  unfold caSz at hsz
  have hE : EnR w y := h.e.small (by omega)
  have HTW : Hid (∀ W, Below w.heap.size w W → _) := fun W hb => twinEn_any y W (hE.below hb)
  have HRC : Hid (∀ W, Below w.heap.size w W → _) := fun W hb => refCheck13_any x y W (h.t.below hb) (hE.below hb)
  have HCK : Hid (∀ W z, Below w.heap.size w W → Tw W y z → Calls Try.prog 8 #[x.val, z.val] W fun e w' => e = .returned (.int .i64 (chkI x.t y.e)) ∧ Below W.heap.size W w') := fun W z hb hz => by
    have := check13_any x z W (h.t.below hb) (hz.en (hE.below hb))
    rw [hz.e] at this
    exact this
  have HLF : Hid (∀ W z, Below w.heap.size w W → Tw W y z → _) := fun W z hb hz => leftEn_yes y z W (hE.below hb) hz
  have HOF : Hid (Pure _ _ _) := of13_any x
  have HTB : Hid (∀ W W' z, Tw W y z → Below W.heap.size W W' → Tw W' y z) := fun W W' z hz hb => hz.below hb
  clear ed hbig hsz hE h
  generalize chkI x.t y.e = c at *
  generalize hTw : (fun W z => Tw W y z) = TW at *
  have e0 : ∀ W z, Tw W y z = TW W z := fun W z => by rw [← hTw]
  simp only [e0] at HTW HCK HLF HTB
  clear hTw e0
  obtain ⟨⟨ks, ws, size⟩, ka, kc, wa, wc⟩ := x
  obtain ⟨⟨ms, prio, act, args⟩, ma, mc, aa, ac⟩ := y
  simp only [caCells, TbL.val, EnL.val] at *
  generalize l.length = ln at *
  generalize ks.length = n1 at *
  generalize ws.length = n2 at *
  generalize ms.length = n3 at *
  generalize args.length = n4 at *
  go_enter Try.func3, Try.ntmps3
  go_wp2_with fail
  refine (HBY.out _ (below1 _ _)).mono ?_
  rintro e w1 ⟨rfl, hb⟩
  have BB := hide (bstep (below1 _ _) hb)
  have K8 := hide (heap_below hb (heap_alloc_new w _))
  clear hb HBY
  obtain ⟨b0, b1, b2, b3, b4, b5, b6, b7⟩ := at8 K8.out
  go_wp2_with fail
  refine (HTW.out _ BB.out).mono ?_
  rintro e w2 ⟨z, rfl, hz, hb⟩
  replace BB := hide (bstep BB.out hb)
  replace K8 := hide (heap_below hb K8.out)
  have HZ := hide hz
  clear hb hz b0 b1 b2 b3 b4 b5 b6 b7 HTW
  have HCK2 := hide (fun W hb hz => HCK.out W z hb hz)
  have HLF2 := hide (fun W hb hz => HLF.out W z hb hz)
  have HTB2 := hide (fun W W' h hb => HTB.out W W' z h hb)
  generalize hTZ : (fun W => TW W z) = TZ at *
  have e1 : ∀ W, TW W z = TZ W := fun W => by rw [← hTZ]
  simp only [e1] at HCK2 HLF2 HTB2 HZ
  clear HCK HLF HTB hTZ e1
  obtain ⟨⟨zms, zprio, zact, zargs⟩, zma, zmc, zaa, zac⟩ := z
  simp only at *
  generalize zms.length = m3 at *
  generalize zargs.length = m4 at *
  obtain ⟨W1, hW1⟩ : ∃ W1, W1 = w2.alloc (.cells #[.slice zma m3 zmc, .int .i64 zprio, .string zact, .slice zaa m4 zac] 30) := ⟨_, rfl⟩
  have B1 : Below w2.heap.size w2 W1 := by rw [hW1]; exact below1 _ _
  have KZ : Hid (W1.heap[w2.heap.size]? = some (.cells #[.slice zma m3 zmc, .int .i64 zprio, .string zact, .slice zaa m4 zac] 30 (0, 0))) := by
    show _ = _
    rw [hW1]; exact heap_alloc_new _ _
  have K81 := hide (heap_below B1 K8.out)
  have BB1 := hide (bstep BB.out B1)
  have HZ1 := hide (HTB2.out _ _ HZ.out B1)
  obtain ⟨X, f, hX, hS, hcov⟩ := class_of (fun w' => Below W1.heap.size W1 w') W1.drew (Below.refl _ _).drew
  have HC0 : Hid (∃ x, W1.drew = f x) := hcov _ (Below.refl _ _).drew
  have HNX : Hid (∀ x w', Below (f x).heap.size (f x) w' → ∃ y, w' = f y) := fun x w' hb => hcov w' ((hS x).trans (hb.mono (hS x).size))
  have HBX : Hid (∀ x, Below w.heap.size w (f x)) := fun x => bstep BB1.out (hS x)
  have HZX : Hid (∀ x, TZ (f x)) := fun x => HTB2.out _ _ HZ1.out (hS x)
  have t0 := fun x => (at8 (heap_below (hS x) K81.out)).1
  have t1 := fun x => (at8 (heap_below (hS x) K81.out)).2.1
  have t2 := fun x => (at8 (heap_below (hS x) K81.out)).2.2.1
  have t4 := fun x => (at8 (heap_below (hS x) K81.out)).2.2.2.2.1
  have t5 := fun x => (at8 (heap_below (hS x) K81.out)).2.2.2.2.2.1
  have t6 := fun x => (at8 (heap_below (hS x) K81.out)).2.2.2.2.2.2.1
  have t7 := fun x => (at8 (heap_below (hS x) K81.out)).2.2.2.2.2.2.2
  have u0 := fun x => (at4 (heap_below (hS x) KZ.out)).1
  have u1 := fun x => (at4 (heap_below (hS x) KZ.out)).2.1
  have u2 := fun x => (at4 (heap_below (hS x) KZ.out)).2.2.1
  have u3 := fun x => (at4 (heap_below (hS x) KZ.out)).2.2.2.1
  have HW1 := hide hW1
  clear hcov hS B1 hW1 HTB2 HZ HZ1 K8 K81 KZ BB1
  go_wp2
  rw [← HW1.out]
  refine wp_region_class f (by kernel_rfl) (by kernel_rfl) HC0.out ?_
  repeat (first
    | go_big_quiet_skip
    | (go_big_quiet_want; go_big_quiet_op; first
        | go_big_quiet_on
        | (apply Exists.intro
           refine ⟨fun _ => ?_, ?_⟩
           · first
              | (go_at_call 8; refine (HCK2.out _ (HBX.out _) (HZX.out _)).mono ?_; rintro e' wn ⟨rfl, hb⟩; exact ⟨rfl, HNX.out _ _ hb⟩)
              | (go_at_call 10; refine (HOF.out _).mono ?_; rintro e' wn ⟨rfl, hb⟩; exact ⟨rfl, HNX.out _ _ hb⟩)
              | (go_at_call 9; refine (HRC.out _ (HBX.out _)).mono ?_; rintro e' wn ⟨rfl, hb⟩; exact ⟨rfl, HNX.out _ _ hb⟩)
              | (go_at_call 11; refine (HLF2.out _ (HBX.out _) (HZX.out _)).mono ?_; rintro e' wn ⟨rfl, hb⟩; exact ⟨rfl, HNX.out _ _ hb⟩)
              | (go_at_call 6; refine (HLV.out _).mono ?_; rintro e' wn ⟨rfl, hb⟩; exact ⟨rfl, HNX.out _ _ hb⟩)
           go_big_quiet_on)))
  refine wpQuiet_nil ?_
  rintro _ ⟨x, rfl⟩
  have HBY := hide (HBX.out x)
  clear t0 t1 t2 t4 t5 t6 t7 u0 u1 u2 u3 HNX HC0 HBX HZX
  go_wp2
  go_ret
  exact ⟨rfl, HBY.out⟩
end Go.Proofs.Ythkhdmdllhbfeaa
