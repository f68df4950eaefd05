/- package match: may the matches of an entry be? -/
import Derived.Test.YthkhdmdllhbfeaaMtG
namespace Go.Proofs.Ythkhdmdllhbfeaa
open Go.RowKit

theorem cellK {W : World} {b : Nat} (h : KiB W b) {i : Nat} {v : Value} (hi : kindsL[i]? = some v) : W.cell? ⟨b, i, none⟩ = some v := by rw [cellA h i]; simpa using hi
theorem KiB.below {W W' : World} {b : Nat} (h : KiB W b) (hb : Below W.heap.size W W') : KiB W' b := heap_below hb h
theorem TbB.below {W W' : World} {b : Nat} {x : TbL} (h : TbB W b x) (hb : Below W.heap.size W W') : TbB W' b x := heap_below hb h
def mmB (t : Tb) (i : Nat) (x : Mx) : Bool := wide x.v (t.ws.getD i 0) && mayK (t.ks.getD i 0) x (t.ws.getD i 0)
set_option maxRecDepth 100000 in
set_option maxHeartbeats 4000000 in
theorem mayAt_any (x : TbL) (tb rb i : Nat) (m : Mx) (hm : MxR m) (w : World) (hx : TbR w x) (ht : TbB w tb x) (hk : KiB w rb) (hi : i < x.t.ks.length) (hi' : i < x.t.ws.length) (k1 : 1 ≤ x.t.ks[i]) (k4 : x.t.ks[i] ≤ 4) :
    Calls Try.prog 65 #[.int .i64 i, m.val, .pointer (some ⟨tb, 0, none⟩), .pointer (some ⟨rb, 0, none⟩)] w fun e w' => e = .returned (.bool (mmB x.t i m)) ∧ Below w.heap.size w w' := by
  have E : mmB x.t i m = (wide m.v x.t.ws[i] && mayK x.t.ks[i] m x.t.ws[i]) := by simp [mmB, hi, hi']
  rw [E]
  clear E
  have hwr := hx.wr x.t.ws[i] (List.getElem_mem hi')
  have HW : Hid (Pure _ _ _) := isWide_any m.v x.t.ws[i] hm.v
  have HM : Hid (Pure _ _ _) := mayF_any x.t.ks[i] k1 k4 m x.t.ws[i] hm hwr.2
  have hlI : (i : Int) < (x.t.ks.length : Int) := by omega
  have hlJ : (i : Int) < (x.t.ws.length : Int) := by omega
  obtain ⟨p, off, ep, hp, hcl⟩ := hx.ks.some (by omega)
  obtain ⟨p', off', ep', hp', hcl'⟩ := hx.ws.some (by omega)
  have q0 := hcl i hi
  have q1 := hcl' i hi'
  have KM := hide (kindsL_may _ k1 k4)
  have HT := hide ht
  have HK := hide hk
  have hik : i < x.t.ks.length := hi
  have hiw : i < x.t.ws.length := hi'
  clear hcl hcl' hwr hm hx ht hk
  generalize x.t.ks[i] = k at *
  generalize x.t.ws[i] = n at *
  generalize hwd : wide m.v n = t1' at *
  generalize hmk : mayK k m n = t2' at *
  clear hwd hmk hi hi'
  obtain ⟨⟨ks, ws, size⟩, ka, kc, wa, wc⟩ := x
  simp only at *
  subst ep ep'
  obtain ⟨⟨vw, vh, vl⟩, ⟨mw, mh, ml⟩, len⟩ := m
  simp only [Mx.val, Nb.val] at *
  generalize hW1 : w.alloc (.cells #[.int .i64 vw, .int .u64 vh, .int .u64 vl, .int .i64 mw, .int .u64 mh, .int .u64 ml, .int .i64 len] 62) = W1
  have B1 : Below w.heap.size w W1 := hW1 ▸ below1 _ _
  have HB1 := hide B1
  obtain ⟨X, f, hX, hS, hcov⟩ := class_of (fun w' => Below W1.heap.size W1 w') W1.drew (Below.refl _ _).drew
  have HC0 : Hid (∃ x, W1.drew = f x) := hcov _ (Below.refl _ _).drew
  have HNX : Hid (∀ x w', Below (f x).heap.size (f x) w' → ∃ y, w' = f y) := fun x w' hb => hcov w' ((hS x).trans (hb.mono (hS x).size))
  have HSS := hide hS
  have HBX : Hid (∀ x, Below w.heap.size w (f x)) := fun x => bstep B1 (hS x)
  have hm7 : W1.heap[w.heap.size]? = some (.cells #[.int .i64 vw, .int .u64 vh, .int .u64 vl, .int .i64 mw, .int .u64 mh, .int .u64 ml, .int .i64 len] 62 (0, 0)) := hW1 ▸ heap_alloc_new _ _
  have t0 := fun x => (at7 (heap_below (hS x) hm7)).1
  have t1 := fun x => (at7 (heap_below (hS x) hm7)).2.1
  have t2 := fun x => (at7 (heap_below (hS x) hm7)).2.2.1
  have t3 := fun x => (at7 (heap_below (hS x) hm7)).2.2.2.1
  have t4 := fun x => (at7 (heap_below (hS x) hm7)).2.2.2.2.1
  have t5 := fun x => (at7 (heap_below (hS x) hm7)).2.2.2.2.2.1
  have t6 := fun x => (at7 (heap_below (hS x) hm7)).2.2.2.2.2.2
  have s0 := fun x => (at3 (heap_below (HBX.out x) HT.out)).1
  have s1 := fun x => (at3 (heap_below (HBX.out x) HT.out)).2.1
  have r0 := fun x => ((HBX.out x).cell (p := ⟨p, off + i, none⟩) hp).trans q0
  have r1 := fun x => ((HBX.out x).cell (p := ⟨p', off' + i, none⟩) hp').trans q1
  have u0 := fun x => cellK (HK.out.below (HBX.out x)) KM.out
  simp only at s0 s1
  have HW1 := hide hW1
  clear hcov hS B1 hm7 q0 q1 hW1
  rcases (by omega : k = 1 ∨ k = 2 ∨ k = 3 ∨ k = 4) with rfl | rfl | rfl | rfl
  · have r0' : ∀ x, (f x).cell? ⟨p, off + i, none⟩ = some (.int .u8 1) := r0
    have u0' : ∀ x, (f x).cell? ⟨rb, 2, none⟩ = some (.func (.func 72) #[] #[]) := u0
    have HM' : Hid (Pure 72 #[.agg #[.int .i64 vw, .int .u64 vh, .int .u64 vl, .int .i64 mw, .int .u64 mh, .int .u64 ml, .int .i64 len], .int .i64 n] (.bool t2')) := HM
    clear r0 u0 HM KM k1 k4
    cases t1'
    all_goals
      go_enter Try.func65, Try.ntmps65
      go_wp2
      rw [HW1.out]
      refine wp_region_class f (by kernel_rfl) (by kernel_rfl) HC0.out ?_
      repeat (first
        | go_big_quiet_skip
        | (go_big_quiet_want; go_big_quiet_op; first
            | go_big_quiet_on
            | (apply Exists.intro
               refine ⟨fun _ => ?_, ?_⟩
               · first
                  | (go_at_call 39; refine (HW.out _).mono ?_; rintro e' wn ⟨rfl, hb⟩; exact ⟨rfl, HNX.out _ _ hb⟩)
                  | (go_at_call 72; refine (HM'.out _).mono ?_; rintro e' wn ⟨rfl, hb⟩; exact ⟨rfl, HNX.out _ _ hb⟩)
               go_big_quiet_on)))
      refine wpQuiet_nil ?_
      rintro _ ⟨x, rfl⟩
      go_wp2
      go_ret
      exact ⟨rfl, HBX.out x⟩
  · have r0' : ∀ x, (f x).cell? ⟨p, off + i, none⟩ = some (.int .u8 2) := r0
    have u0' : ∀ x, (f x).cell? ⟨rb, 4, none⟩ = some (.func (.func 74) #[] #[]) := u0
    have HM' : Hid (Pure 74 #[.agg #[.int .i64 vw, .int .u64 vh, .int .u64 vl, .int .i64 mw, .int .u64 mh, .int .u64 ml, .int .i64 len], .int .i64 n] (.bool t2')) := HM
    clear r0 u0 HM KM k1 k4
    cases t1'
    all_goals
      go_enter Try.func65, Try.ntmps65
      go_wp2
      rw [HW1.out]
      refine wp_region_class f (by kernel_rfl) (by kernel_rfl) HC0.out ?_
      repeat (first
        | go_big_quiet_skip
        | (go_big_quiet_want; go_big_quiet_op; first
            | go_big_quiet_on
            | (apply Exists.intro
               refine ⟨fun _ => ?_, ?_⟩
               · first
                  | (go_at_call 39; refine (HW.out _).mono ?_; rintro e' wn ⟨rfl, hb⟩; exact ⟨rfl, HNX.out _ _ hb⟩)
                  | (go_at_call 74; refine (HM'.out _).mono ?_; rintro e' wn ⟨rfl, hb⟩; exact ⟨rfl, HNX.out _ _ hb⟩)
               go_big_quiet_on)))
      refine wpQuiet_nil ?_
      rintro _ ⟨x, rfl⟩
      go_wp2
      go_ret
      exact ⟨rfl, HBX.out x⟩
  · have r0' : ∀ x, (f x).cell? ⟨p, off + i, none⟩ = some (.int .u8 3) := r0
    have u0' : ∀ x, (f x).cell? ⟨rb, 6, none⟩ = some (.func (.func 77) #[] #[]) := u0
    have HM' : Hid (Pure 77 #[.agg #[.int .i64 vw, .int .u64 vh, .int .u64 vl, .int .i64 mw, .int .u64 mh, .int .u64 ml, .int .i64 len], .int .i64 n] (.bool t2')) := HM
    clear r0 u0 HM KM k1 k4
    cases t1'
    all_goals
      go_enter Try.func65, Try.ntmps65
      go_wp2
      rw [HW1.out]
      refine wp_region_class f (by kernel_rfl) (by kernel_rfl) HC0.out ?_
      repeat (first
        | go_big_quiet_skip
        | (go_big_quiet_want; go_big_quiet_op; first
            | go_big_quiet_on
            | (apply Exists.intro
               refine ⟨fun _ => ?_, ?_⟩
               · first
                  | (go_at_call 39; refine (HW.out _).mono ?_; rintro e' wn ⟨rfl, hb⟩; exact ⟨rfl, HNX.out _ _ hb⟩)
                  | (go_at_call 77; refine (HM'.out _).mono ?_; rintro e' wn ⟨rfl, hb⟩; exact ⟨rfl, HNX.out _ _ hb⟩)
               go_big_quiet_on)))
      refine wpQuiet_nil ?_
      rintro _ ⟨x, rfl⟩
      go_wp2
      go_ret
      exact ⟨rfl, HBX.out x⟩
  · have r0' : ∀ x, (f x).cell? ⟨p, off + i, none⟩ = some (.int .u8 4) := r0
    have u0' : ∀ x, (f x).cell? ⟨rb, 8, none⟩ = some (.func (.func 81) #[] #[]) := u0
    have HM' : Hid (Pure 81 #[.agg #[.int .i64 vw, .int .u64 vh, .int .u64 vl, .int .i64 mw, .int .u64 mh, .int .u64 ml, .int .i64 len], .int .i64 n] (.bool t2')) := HM
    clear r0 u0 HM KM k1 k4
    cases t1'
    all_goals
      go_enter Try.func65, Try.ntmps65
      go_wp2
      rw [HW1.out]
      refine wp_region_class f (by kernel_rfl) (by kernel_rfl) HC0.out ?_
      repeat (first
        | go_big_quiet_skip
        | (go_big_quiet_want; go_big_quiet_op; first
            | go_big_quiet_on
            | (apply Exists.intro
               refine ⟨fun _ => ?_, ?_⟩
               · first
                  | (go_at_call 39; refine (HW.out _).mono ?_; rintro e' wn ⟨rfl, hb⟩; exact ⟨rfl, HNX.out _ _ hb⟩)
                  | (go_at_call 81; refine (HM'.out _).mono ?_; rintro e' wn ⟨rfl, hb⟩; exact ⟨rfl, HNX.out _ _ hb⟩)
               go_big_quiet_on)))
      refine wpQuiet_nil ?_
      rintro _ ⟨x, rfl⟩
      go_wp2
      go_ret
      exact ⟨rfl, HBX.out x⟩
end Go.Proofs.Ythkhdmdllhbfeaa
