/- Pieces of the proof: CoV, CoW. -/
import Derived.Test.YtlipcmonlhdgfaaGreatM35
/- package code: may an instruction be? -/
namespace Go.Proofs.YtlipcmonlhdgfaaGreat
open Go.RowKit

set_option maxRecDepth 100000 in
set_option maxHeartbeats 16000000 in
theorem insMayBe_any (D : Int → Int → Int → Int → Int → Int × Int × Int × Int) (hD : DoOk D) (c : CoL) (g jb : Nat) (rv : Value) (x : InL) (wh k e : Int) (w : World) (hj : Jd w g c rv) (hjb : Jb w jb g) (hr : RwR w rv g jb) (hc : CoR w c) (hx : InR w x) (hk : 0 ≤ k ∧ k ≤ 1000000) : Calls Tryz.prog 120 #[.pointer (some ⟨g, 0, none⟩), .int .i64 wh, isV x k e] w fun ed w' => ed = .returned (.bool (insB D c wh x.v k e)) ∧ Below w.heap.size w w' := by
  obtain ⟨R, hra⟩ : ∃ R, R = rowA g jb x.v.op := ⟨_, rfl⟩
  obtain ⟨⟨rop, ls, has, fn⟩, ok⟩ := R
  have hkey := rowA_key g jb x.v.op
  rw [← hra] at hkey
  obtain ⟨hk1, hk2⟩ := hkey
  unfold Rw.key at hk1
  injection hk1 with hk0 hk1
  clear hk0
  injection hk1 with hk1 hk3
  have HR : Hid (∀ W, Below w.heap.size w W → _) := fun W hb => row_any c g jb rv x.v.op W (hj.below hb) (hr.below hb)
  rw [← hra] at HR
  have HP : Hid (Pure _ _ _) := parts_any x
  have HS : Hid (∀ W, Below w.heap.size w W → _) := fun W hb => slotsThere_any c g rv x W (hj.below hb) (hc.below hb) (hx.below hb)
  have HH : Hid (ok = true → Hol w fn x k e (holdB D c x.v k e)) := fun h => by
    have hm := rowA_mem (g := g) (jb := jb) (op := x.v.op) (by rw [← hra]; exact h)
    rw [← hra] at hm
    exact hol_all D hD c g jb rv x k e w hj hjb hc hx hk _ hm.1 hm.2
  have HO : Hid (∀ v ∈ ([.int .u8 rop, .int .i64 ls, .int .i64 has, fn] : List Value), v.oneCell' = true) := by
    cases ok with
    | true =>
      have hm := rowA_mem (g := g) (jb := jb) (op := x.v.op) (by rw [← hra])
      rw [← hra] at hm
      exact rw_one g jb _ hm.1
    | false =>
      have hm := rowA_none (g := g) (jb := jb) (op := x.v.op) (by rw [← hra])
      rw [← hra] at hm
      have := rw0_one
      rw [← hm] at this
      exact this
  unfold insB
  rw [← hk1, ← hk2, ← hk3]
  unfold Hol at HH
  unfold isV at *
  unfold InL.val at HP HS
  clear hj hjb hr hc hx hk hra hk1 hk2 hk3 hD
  generalize holdB D c x.v k e = hd at *
  generalize slB c.sl x.v = sb at *
  generalize prtI x.v = pt at *
  generalize x.v.l.length = ln at *
  obtain ⟨⟨op, to, a, b, n, m, l, ⟨lw, lh, ll⟩, of⟩, la, lc⟩ := x
  simp only at *
  cases ok
  · simp only [Bool.false_and]
    go_enter Tryz.func120, Tryz.ntmps120
    have c0 := (at13 (heap_alloc_new w (.cells #[.int .u8 op, .int .i64 to, .int .i64 a, .int .i64 b, .int .i64 n, .int .i64 m, .slice la ln lc, .int .i64 lw, .int .u64 lh, .int .u64 ll, .int .u8 of, .int .i64 k, .int .i64 e] 104))).1
    go_wp2_with fail
    refine (HR.out _ (below1 _ _)).mono ?_
    rintro e' w1 ⟨rfl, hb⟩
    have B1 := hide (bstep (below1 _ _) hb)
    have K1 := hide (heap_below hb (heap_alloc_new w (.cells #[.int .u8 op, .int .i64 to, .int .i64 a, .int .i64 b, .int .i64 n, .int .i64 m, .slice la ln lc, .int .i64 lw, .int .u64 lh, .int .u64 ll, .int .u8 of, .int .i64 k, .int .i64 e] 104)))
    have HZ := hide (heap_alloc_new w1 (.cells #[.int .u8 0, .int .i64 0, .int .i64 0, .nilFunc] 108))
    have HB1 := hide (below1 w1 (.cells #[.int .u8 0, .int .i64 0, .int .i64 0, .nilFunc] 108))
    clear hb c0
    simp only [Rw.cells]
    go_wp2_with (refine wpList_storeA rfl 108 _ _ rfl w1.heap.size [.int .u8 rop, .int .i64 ls, .int .i64 has, fn] _ 108 rfl rfl szRw HZ.out rfl HO.out ?_; intro w5 hw5; have Z5 : Hid (w5.heap[w1.heap.size]? = some (.cells ([.int .u8 rop, .int .i64 ls, .int .i64 has, fn] : List Value).toArray 108 (0, 0))) := (by show _ = _; rw [hw5]; exact got0 HZ.out rfl); have B15 : Hid (Below w1.heap.size w1 w5) := HB1.out.trans ((by rw [hw5]; exact fr_all _ _ _ _ : Fr (· = w1.heap.size) _ w5).below (fun b e => by omega) HB1.out.size); clear hw5)
    have K5 := hide (heap_below B15.out K1.out)
    have B5 := bstep B1.out B15.out
    obtain ⟨X, f, hX, hS, hcov⟩ := class_of (fun w' => Below w5.heap.size w5 w') w5.drew (Below.refl _ _).drew
    have HC0 : Hid (∃ x, w5.drew = f x) := hcov _ (Below.refl _ _).drew
    have HNX : Hid (∀ x w', Below (f x).heap.size (f x) w' → ∃ y, w' = f y) := fun x w' hb => hcov w' ((hS x).trans (hb.mono (hS x).size))
    have HBX : Hid (∀ x, Below w.heap.size w (f x)) := fun x => bstep B5 (hS x)
    have t0 := fun x => (at13 (heap_below (hS x) K5.out)).1
    have t1 := fun x => (at13 (heap_below (hS x) K5.out)).2.1
    have t2 := fun x => (at13 (heap_below (hS x) K5.out)).2.2.1
    have t3 := fun x => (at13 (heap_below (hS x) K5.out)).2.2.2.1
    have t4 := fun x => (at13 (heap_below (hS x) K5.out)).2.2.2.2.1
    have t5 := fun x => (at13 (heap_below (hS x) K5.out)).2.2.2.2.2.1
    have t6 := fun x => (at13 (heap_below (hS x) K5.out)).2.2.2.2.2.2.1
    have t7 := fun x => (at13 (heap_below (hS x) K5.out)).2.2.2.2.2.2.2.1
    have t8 := fun x => (at13 (heap_below (hS x) K5.out)).2.2.2.2.2.2.2.2.1
    have t9 := fun x => (at13 (heap_below (hS x) K5.out)).2.2.2.2.2.2.2.2.2.1
    have t10 := fun x => (at13 (heap_below (hS x) K5.out)).2.2.2.2.2.2.2.2.2.2.1
    have t11 := fun x => (at13 (heap_below (hS x) K5.out)).2.2.2.2.2.2.2.2.2.2.2.1
    have t12 := fun x => (at13 (heap_below (hS x) K5.out)).2.2.2.2.2.2.2.2.2.2.2.2
    have r1 : ∀ x, (f x).cell? ⟨w1.heap.size, 1, none⟩ = some (.int .i64 ls) := fun x => (cellA (heap_below (hS x) Z5.out) 1).trans rfl
    have r2 : ∀ x, (f x).cell? ⟨w1.heap.size, 2, none⟩ = some (.int .i64 has) := fun x => (cellA (heap_below (hS x) Z5.out) 2).trans rfl
    have r3 : ∀ x, (f x).cell? ⟨w1.heap.size, 3, none⟩ = some fn := fun x => (cellA (heap_below (hS x) Z5.out) 3).trans rfl
    clear hcov hS B5 K1 K5 Z5 B15 HZ HB1 B1 HR
    refine wp_region_class f (by kernel_rfl) (by kernel_rfl) HC0.out ?_
    repeat (first
      | go_big_quiet_skip
      | (go_big_quiet_want; go_big_quiet_op; first
          | go_big_quiet_on
          | (apply Exists.intro
             refine ⟨fun _ => ?_, ?_⟩
             · first
              | (go_at_call 109; refine (HP.out _).mono ?_; rintro e' wn ⟨rfl, hb⟩; exact ⟨rfl, HNX.out _ _ hb⟩)
              | (go_at_call 142; refine (HS.out _ (HBX.out _)).mono ?_; rintro e' wn ⟨rfl, hb⟩; exact ⟨rfl, HNX.out _ _ hb⟩)
             go_big_quiet_on)))
    refine wpQuiet_nil ?_
    rintro _ ⟨x, rfl⟩
    go_wp2
    go_ret
    exact ⟨rfl, HBX.out x⟩
  · simp only [Bool.true_and]
    have HH2 := HH.out rfl
    by_cases c1 : ls ≤ wh
    · have d1 : decide (ls ≤ wh) = true := by simpa using c1
      rw [d1, Bool.true_and]
      by_cases c2 : bits .andNot .i64 pt has = 0
      · have d2 : (bits .andNot .i64 pt has == 0) = true := by simp [c2]
        have d2' : (bits .andNot .i64 pt has = 0) = True := by simp [c2]
        rw [d2, Bool.true_and]
        clear c2
        cases sb
        · simp only [Bool.false_and]
          clear HH HH2
          go_enter Tryz.func120, Tryz.ntmps120
          have c0 := (at13 (heap_alloc_new w (.cells #[.int .u8 op, .int .i64 to, .int .i64 a, .int .i64 b, .int .i64 n, .int .i64 m, .slice la ln lc, .int .i64 lw, .int .u64 lh, .int .u64 ll, .int .u8 of, .int .i64 k, .int .i64 e] 104))).1
          go_wp2_with fail
          refine (HR.out _ (below1 _ _)).mono ?_
          rintro e' w1 ⟨rfl, hb⟩
          have B1 := hide (bstep (below1 _ _) hb)
          have K1 := hide (heap_below hb (heap_alloc_new w (.cells #[.int .u8 op, .int .i64 to, .int .i64 a, .int .i64 b, .int .i64 n, .int .i64 m, .slice la ln lc, .int .i64 lw, .int .u64 lh, .int .u64 ll, .int .u8 of, .int .i64 k, .int .i64 e] 104)))
          have HZ := hide (heap_alloc_new w1 (.cells #[.int .u8 0, .int .i64 0, .int .i64 0, .nilFunc] 108))
          have HB1 := hide (below1 w1 (.cells #[.int .u8 0, .int .i64 0, .int .i64 0, .nilFunc] 108))
          clear hb c0
          simp only [Rw.cells]
          go_wp2_with (refine wpList_storeA rfl 108 _ _ rfl w1.heap.size [.int .u8 rop, .int .i64 ls, .int .i64 has, fn] _ 108 rfl rfl szRw HZ.out rfl HO.out ?_; intro w5 hw5; have Z5 : Hid (w5.heap[w1.heap.size]? = some (.cells ([.int .u8 rop, .int .i64 ls, .int .i64 has, fn] : List Value).toArray 108 (0, 0))) := (by show _ = _; rw [hw5]; exact got0 HZ.out rfl); have B15 : Hid (Below w1.heap.size w1 w5) := HB1.out.trans ((by rw [hw5]; exact fr_all _ _ _ _ : Fr (· = w1.heap.size) _ w5).below (fun b e => by omega) HB1.out.size); clear hw5)
          have K5 := hide (heap_below B15.out K1.out)
          have B5 := bstep B1.out B15.out
          obtain ⟨X, f, hX, hS, hcov⟩ := class_of (fun w' => Below w5.heap.size w5 w') w5.drew (Below.refl _ _).drew
          have HC0 : Hid (∃ x, w5.drew = f x) := hcov _ (Below.refl _ _).drew
          have HNX : Hid (∀ x w', Below (f x).heap.size (f x) w' → ∃ y, w' = f y) := fun x w' hb => hcov w' ((hS x).trans (hb.mono (hS x).size))
          have HBX : Hid (∀ x, Below w.heap.size w (f x)) := fun x => bstep B5 (hS x)
          have t0 := fun x => (at13 (heap_below (hS x) K5.out)).1
          have t1 := fun x => (at13 (heap_below (hS x) K5.out)).2.1
          have t2 := fun x => (at13 (heap_below (hS x) K5.out)).2.2.1
          have t3 := fun x => (at13 (heap_below (hS x) K5.out)).2.2.2.1
          have t4 := fun x => (at13 (heap_below (hS x) K5.out)).2.2.2.2.1
          have t5 := fun x => (at13 (heap_below (hS x) K5.out)).2.2.2.2.2.1
          have t6 := fun x => (at13 (heap_below (hS x) K5.out)).2.2.2.2.2.2.1
          have t7 := fun x => (at13 (heap_below (hS x) K5.out)).2.2.2.2.2.2.2.1
          have t8 := fun x => (at13 (heap_below (hS x) K5.out)).2.2.2.2.2.2.2.2.1
          have t9 := fun x => (at13 (heap_below (hS x) K5.out)).2.2.2.2.2.2.2.2.2.1
          have t10 := fun x => (at13 (heap_below (hS x) K5.out)).2.2.2.2.2.2.2.2.2.2.1
          have t11 := fun x => (at13 (heap_below (hS x) K5.out)).2.2.2.2.2.2.2.2.2.2.2.1
          have t12 := fun x => (at13 (heap_below (hS x) K5.out)).2.2.2.2.2.2.2.2.2.2.2.2
          have r1 : ∀ x, (f x).cell? ⟨w1.heap.size, 1, none⟩ = some (.int .i64 ls) := fun x => (cellA (heap_below (hS x) Z5.out) 1).trans rfl
          have r2 : ∀ x, (f x).cell? ⟨w1.heap.size, 2, none⟩ = some (.int .i64 has) := fun x => (cellA (heap_below (hS x) Z5.out) 2).trans rfl
          have r3 : ∀ x, (f x).cell? ⟨w1.heap.size, 3, none⟩ = some fn := fun x => (cellA (heap_below (hS x) Z5.out) 3).trans rfl
          clear hcov hS B5 K1 K5 Z5 B15 HZ HB1 B1 HR
          refine wp_region_class f (by kernel_rfl) (by kernel_rfl) HC0.out ?_
          repeat (first
            | go_big_quiet_skip
            | (go_big_quiet_want; go_big_quiet_op; first
                | go_big_quiet_on
                | (apply Exists.intro
                   refine ⟨fun _ => ?_, ?_⟩
                   · first
                    | (go_at_call 109; refine (HP.out _).mono ?_; rintro e' wn ⟨rfl, hb⟩; exact ⟨rfl, HNX.out _ _ hb⟩)
                    | (go_at_call 142; refine (HS.out _ (HBX.out _)).mono ?_; rintro e' wn ⟨rfl, hb⟩; exact ⟨rfl, HNX.out _ _ hb⟩)
                   go_big_quiet_on)))
          refine wpQuiet_nil ?_
          rintro _ ⟨x, rfl⟩
          go_wp2
          go_ret
          exact ⟨rfl, HBX.out x⟩
        · simp only [Bool.true_and]
          obtain ⟨N, ent, ⟨hfn, HV0⟩ | ⟨u, hfn, HV0⟩ | ⟨u, hfn, HV0⟩⟩ := HH2
          all_goals
            have HV := hide HV0
            have HFN := hide hfn
            clear HH HV0 hfn
            go_enter Tryz.func120, Tryz.ntmps120
            have c0 := (at13 (heap_alloc_new w (.cells #[.int .u8 op, .int .i64 to, .int .i64 a, .int .i64 b, .int .i64 n, .int .i64 m, .slice la ln lc, .int .i64 lw, .int .u64 lh, .int .u64 ll, .int .u8 of, .int .i64 k, .int .i64 e] 104))).1
            go_wp2_with fail
            refine (HR.out _ (below1 _ _)).mono ?_
            rintro e' w1 ⟨rfl, hb⟩
            have B1 := hide (bstep (below1 _ _) hb)
            have K1 := hide (heap_below hb (heap_alloc_new w (.cells #[.int .u8 op, .int .i64 to, .int .i64 a, .int .i64 b, .int .i64 n, .int .i64 m, .slice la ln lc, .int .i64 lw, .int .u64 lh, .int .u64 ll, .int .u8 of, .int .i64 k, .int .i64 e] 104)))
            have HZ := hide (heap_alloc_new w1 (.cells #[.int .u8 0, .int .i64 0, .int .i64 0, .nilFunc] 108))
            have HB1 := hide (below1 w1 (.cells #[.int .u8 0, .int .i64 0, .int .i64 0, .nilFunc] 108))
            clear hb c0
            simp only [Rw.cells]
            go_wp2_with (refine wpList_storeA rfl 108 _ _ rfl w1.heap.size [.int .u8 rop, .int .i64 ls, .int .i64 has, fn] _ 108 rfl rfl szRw HZ.out rfl HO.out ?_; intro w5 hw5; have Z5 : Hid (w5.heap[w1.heap.size]? = some (.cells ([.int .u8 rop, .int .i64 ls, .int .i64 has, fn] : List Value).toArray 108 (0, 0))) := (by show _ = _; rw [hw5]; exact got0 HZ.out rfl); have B15 : Hid (Below w1.heap.size w1 w5) := HB1.out.trans ((by rw [hw5]; exact fr_all _ _ _ _ : Fr (· = w1.heap.size) _ w5).below (fun b e => by omega) HB1.out.size); clear hw5)
            have K5 := hide (heap_below B15.out K1.out)
            have B5 := bstep B1.out B15.out
            obtain ⟨X, f, hX, hS, hcov⟩ := class_of (fun w' => Below w5.heap.size w5 w') w5.drew (Below.refl _ _).drew
            have HC0 : Hid (∃ x, w5.drew = f x) := hcov _ (Below.refl _ _).drew
            have HNX : Hid (∀ x w', Below (f x).heap.size (f x) w' → ∃ y, w' = f y) := fun x w' hb => hcov w' ((hS x).trans (hb.mono (hS x).size))
            have HBX : Hid (∀ x, Below w.heap.size w (f x)) := fun x => bstep B5 (hS x)
            have t0 := fun x => (at13 (heap_below (hS x) K5.out)).1
            have t1 := fun x => (at13 (heap_below (hS x) K5.out)).2.1
            have t2 := fun x => (at13 (heap_below (hS x) K5.out)).2.2.1
            have t3 := fun x => (at13 (heap_below (hS x) K5.out)).2.2.2.1
            have t4 := fun x => (at13 (heap_below (hS x) K5.out)).2.2.2.2.1
            have t5 := fun x => (at13 (heap_below (hS x) K5.out)).2.2.2.2.2.1
            have t6 := fun x => (at13 (heap_below (hS x) K5.out)).2.2.2.2.2.2.1
            have t7 := fun x => (at13 (heap_below (hS x) K5.out)).2.2.2.2.2.2.2.1
            have t8 := fun x => (at13 (heap_below (hS x) K5.out)).2.2.2.2.2.2.2.2.1
            have t9 := fun x => (at13 (heap_below (hS x) K5.out)).2.2.2.2.2.2.2.2.2.1
            have t10 := fun x => (at13 (heap_below (hS x) K5.out)).2.2.2.2.2.2.2.2.2.2.1
            have t11 := fun x => (at13 (heap_below (hS x) K5.out)).2.2.2.2.2.2.2.2.2.2.2.1
            have t12 := fun x => (at13 (heap_below (hS x) K5.out)).2.2.2.2.2.2.2.2.2.2.2.2
            have r1 : ∀ x, (f x).cell? ⟨w1.heap.size, 1, none⟩ = some (.int .i64 ls) := fun x => (cellA (heap_below (hS x) Z5.out) 1).trans rfl
            have r2 : ∀ x, (f x).cell? ⟨w1.heap.size, 2, none⟩ = some (.int .i64 has) := fun x => (cellA (heap_below (hS x) Z5.out) 2).trans rfl
            have r3 : ∀ x, (f x).cell? ⟨w1.heap.size, 3, none⟩ = some fn := fun x => (cellA (heap_below (hS x) Z5.out) 3).trans rfl
            simp only [HFN.out] at r3
            clear hcov hS B5 K1 K5 Z5 B15 HZ HB1 B1 HR
            refine wp_region_class f (by kernel_rfl) (by kernel_rfl) HC0.out ?_
            repeat (first
              | go_big_quiet_skip
              | (go_big_quiet_want; go_big_quiet_op; first
                  | go_big_quiet_on
                  | (apply Exists.intro
                     refine ⟨fun _ => ?_, ?_⟩
                     · first
                      | (go_at_call 109; refine (HP.out _).mono ?_; rintro e' wn ⟨rfl, hb⟩; exact ⟨rfl, HNX.out _ _ hb⟩)
                      | (go_at_call 142; refine (HS.out _ (HBX.out _)).mono ?_; rintro e' wn ⟨rfl, hb⟩; exact ⟨rfl, HNX.out _ _ hb⟩)
                      | (refine (HV.out _ (HBX.out _)).mono ?_; rintro e' wn ⟨rfl, hb⟩; exact ⟨rfl, HNX.out _ _ hb⟩)
                     go_big_quiet_on)))
            refine wpQuiet_nil ?_
            rintro _ ⟨x, rfl⟩
            go_wp2
            go_ret
            exact ⟨rfl, HBX.out x⟩
      · have d2 : (bits .andNot .i64 pt has == 0) = false := by simpa using c2
        have d2' : (bits .andNot .i64 pt has = 0) = False := by simpa using c2
        rw [d2, Bool.false_and]
        clear c2 HH HH2
        go_enter Tryz.func120, Tryz.ntmps120
        have c0 := (at13 (heap_alloc_new w (.cells #[.int .u8 op, .int .i64 to, .int .i64 a, .int .i64 b, .int .i64 n, .int .i64 m, .slice la ln lc, .int .i64 lw, .int .u64 lh, .int .u64 ll, .int .u8 of, .int .i64 k, .int .i64 e] 104))).1
        go_wp2_with fail
        refine (HR.out _ (below1 _ _)).mono ?_
        rintro e' w1 ⟨rfl, hb⟩
        have B1 := hide (bstep (below1 _ _) hb)
        have K1 := hide (heap_below hb (heap_alloc_new w (.cells #[.int .u8 op, .int .i64 to, .int .i64 a, .int .i64 b, .int .i64 n, .int .i64 m, .slice la ln lc, .int .i64 lw, .int .u64 lh, .int .u64 ll, .int .u8 of, .int .i64 k, .int .i64 e] 104)))
        have HZ := hide (heap_alloc_new w1 (.cells #[.int .u8 0, .int .i64 0, .int .i64 0, .nilFunc] 108))
        have HB1 := hide (below1 w1 (.cells #[.int .u8 0, .int .i64 0, .int .i64 0, .nilFunc] 108))
        clear hb c0
        simp only [Rw.cells]
        go_wp2_with (refine wpList_storeA rfl 108 _ _ rfl w1.heap.size [.int .u8 rop, .int .i64 ls, .int .i64 has, fn] _ 108 rfl rfl szRw HZ.out rfl HO.out ?_; intro w5 hw5; have Z5 : Hid (w5.heap[w1.heap.size]? = some (.cells ([.int .u8 rop, .int .i64 ls, .int .i64 has, fn] : List Value).toArray 108 (0, 0))) := (by show _ = _; rw [hw5]; exact got0 HZ.out rfl); have B15 : Hid (Below w1.heap.size w1 w5) := HB1.out.trans ((by rw [hw5]; exact fr_all _ _ _ _ : Fr (· = w1.heap.size) _ w5).below (fun b e => by omega) HB1.out.size); clear hw5)
        have K5 := hide (heap_below B15.out K1.out)
        have B5 := bstep B1.out B15.out
        obtain ⟨X, f, hX, hS, hcov⟩ := class_of (fun w' => Below w5.heap.size w5 w') w5.drew (Below.refl _ _).drew
        have HC0 : Hid (∃ x, w5.drew = f x) := hcov _ (Below.refl _ _).drew
        have HNX : Hid (∀ x w', Below (f x).heap.size (f x) w' → ∃ y, w' = f y) := fun x w' hb => hcov w' ((hS x).trans (hb.mono (hS x).size))
        have HBX : Hid (∀ x, Below w.heap.size w (f x)) := fun x => bstep B5 (hS x)
        have t0 := fun x => (at13 (heap_below (hS x) K5.out)).1
        have t1 := fun x => (at13 (heap_below (hS x) K5.out)).2.1
        have t2 := fun x => (at13 (heap_below (hS x) K5.out)).2.2.1
        have t3 := fun x => (at13 (heap_below (hS x) K5.out)).2.2.2.1
        have t4 := fun x => (at13 (heap_below (hS x) K5.out)).2.2.2.2.1
        have t5 := fun x => (at13 (heap_below (hS x) K5.out)).2.2.2.2.2.1
        have t6 := fun x => (at13 (heap_below (hS x) K5.out)).2.2.2.2.2.2.1
        have t7 := fun x => (at13 (heap_below (hS x) K5.out)).2.2.2.2.2.2.2.1
        have t8 := fun x => (at13 (heap_below (hS x) K5.out)).2.2.2.2.2.2.2.2.1
        have t9 := fun x => (at13 (heap_below (hS x) K5.out)).2.2.2.2.2.2.2.2.2.1
        have t10 := fun x => (at13 (heap_below (hS x) K5.out)).2.2.2.2.2.2.2.2.2.2.1
        have t11 := fun x => (at13 (heap_below (hS x) K5.out)).2.2.2.2.2.2.2.2.2.2.2.1
        have t12 := fun x => (at13 (heap_below (hS x) K5.out)).2.2.2.2.2.2.2.2.2.2.2.2
        have r1 : ∀ x, (f x).cell? ⟨w1.heap.size, 1, none⟩ = some (.int .i64 ls) := fun x => (cellA (heap_below (hS x) Z5.out) 1).trans rfl
        have r2 : ∀ x, (f x).cell? ⟨w1.heap.size, 2, none⟩ = some (.int .i64 has) := fun x => (cellA (heap_below (hS x) Z5.out) 2).trans rfl
        have r3 : ∀ x, (f x).cell? ⟨w1.heap.size, 3, none⟩ = some fn := fun x => (cellA (heap_below (hS x) Z5.out) 3).trans rfl
        clear hcov hS B5 K1 K5 Z5 B15 HZ HB1 B1 HR
        refine wp_region_class f (by kernel_rfl) (by kernel_rfl) HC0.out ?_
        repeat (first
          | go_big_quiet_skip
          | (go_big_quiet_want; go_big_quiet_op; first
              | go_big_quiet_on
              | (apply Exists.intro
                 refine ⟨fun _ => ?_, ?_⟩
                 · first
                  | (go_at_call 109; refine (HP.out _).mono ?_; rintro e' wn ⟨rfl, hb⟩; exact ⟨rfl, HNX.out _ _ hb⟩)
                  | (go_at_call 142; refine (HS.out _ (HBX.out _)).mono ?_; rintro e' wn ⟨rfl, hb⟩; exact ⟨rfl, HNX.out _ _ hb⟩)
                 go_big_quiet_on)))
        refine wpQuiet_nil ?_
        rintro _ ⟨x, rfl⟩
        go_wp2
        go_ret
        exact ⟨rfl, HBX.out x⟩
    · have d1 : decide (ls ≤ wh) = false := by simpa using c1
      rw [d1, Bool.false_and]
      clear HH HH2
      go_enter Tryz.func120, Tryz.ntmps120
      have c0 := (at13 (heap_alloc_new w (.cells #[.int .u8 op, .int .i64 to, .int .i64 a, .int .i64 b, .int .i64 n, .int .i64 m, .slice la ln lc, .int .i64 lw, .int .u64 lh, .int .u64 ll, .int .u8 of, .int .i64 k, .int .i64 e] 104))).1
      go_wp2_with fail
      refine (HR.out _ (below1 _ _)).mono ?_
      rintro e' w1 ⟨rfl, hb⟩
      have B1 := hide (bstep (below1 _ _) hb)
      have K1 := hide (heap_below hb (heap_alloc_new w (.cells #[.int .u8 op, .int .i64 to, .int .i64 a, .int .i64 b, .int .i64 n, .int .i64 m, .slice la ln lc, .int .i64 lw, .int .u64 lh, .int .u64 ll, .int .u8 of, .int .i64 k, .int .i64 e] 104)))
      have HZ := hide (heap_alloc_new w1 (.cells #[.int .u8 0, .int .i64 0, .int .i64 0, .nilFunc] 108))
      have HB1 := hide (below1 w1 (.cells #[.int .u8 0, .int .i64 0, .int .i64 0, .nilFunc] 108))
      clear hb c0
      simp only [Rw.cells]
      go_wp2_with (refine wpList_storeA rfl 108 _ _ rfl w1.heap.size [.int .u8 rop, .int .i64 ls, .int .i64 has, fn] _ 108 rfl rfl szRw HZ.out rfl HO.out ?_; intro w5 hw5; have Z5 : Hid (w5.heap[w1.heap.size]? = some (.cells ([.int .u8 rop, .int .i64 ls, .int .i64 has, fn] : List Value).toArray 108 (0, 0))) := (by show _ = _; rw [hw5]; exact got0 HZ.out rfl); have B15 : Hid (Below w1.heap.size w1 w5) := HB1.out.trans ((by rw [hw5]; exact fr_all _ _ _ _ : Fr (· = w1.heap.size) _ w5).below (fun b e => by omega) HB1.out.size); clear hw5)
      have K5 := hide (heap_below B15.out K1.out)
      have B5 := bstep B1.out B15.out
      obtain ⟨X, f, hX, hS, hcov⟩ := class_of (fun w' => Below w5.heap.size w5 w') w5.drew (Below.refl _ _).drew
      have HC0 : Hid (∃ x, w5.drew = f x) := hcov _ (Below.refl _ _).drew
      have HNX : Hid (∀ x w', Below (f x).heap.size (f x) w' → ∃ y, w' = f y) := fun x w' hb => hcov w' ((hS x).trans (hb.mono (hS x).size))
      have HBX : Hid (∀ x, Below w.heap.size w (f x)) := fun x => bstep B5 (hS x)
      have t0 := fun x => (at13 (heap_below (hS x) K5.out)).1
      have t1 := fun x => (at13 (heap_below (hS x) K5.out)).2.1
      have t2 := fun x => (at13 (heap_below (hS x) K5.out)).2.2.1
      have t3 := fun x => (at13 (heap_below (hS x) K5.out)).2.2.2.1
      have t4 := fun x => (at13 (heap_below (hS x) K5.out)).2.2.2.2.1
      have t5 := fun x => (at13 (heap_below (hS x) K5.out)).2.2.2.2.2.1
      have t6 := fun x => (at13 (heap_below (hS x) K5.out)).2.2.2.2.2.2.1
      have t7 := fun x => (at13 (heap_below (hS x) K5.out)).2.2.2.2.2.2.2.1
      have t8 := fun x => (at13 (heap_below (hS x) K5.out)).2.2.2.2.2.2.2.2.1
      have t9 := fun x => (at13 (heap_below (hS x) K5.out)).2.2.2.2.2.2.2.2.2.1
      have t10 := fun x => (at13 (heap_below (hS x) K5.out)).2.2.2.2.2.2.2.2.2.2.1
      have t11 := fun x => (at13 (heap_below (hS x) K5.out)).2.2.2.2.2.2.2.2.2.2.2.1
      have t12 := fun x => (at13 (heap_below (hS x) K5.out)).2.2.2.2.2.2.2.2.2.2.2.2
      have r1 : ∀ x, (f x).cell? ⟨w1.heap.size, 1, none⟩ = some (.int .i64 ls) := fun x => (cellA (heap_below (hS x) Z5.out) 1).trans rfl
      have r2 : ∀ x, (f x).cell? ⟨w1.heap.size, 2, none⟩ = some (.int .i64 has) := fun x => (cellA (heap_below (hS x) Z5.out) 2).trans rfl
      have r3 : ∀ x, (f x).cell? ⟨w1.heap.size, 3, none⟩ = some fn := fun x => (cellA (heap_below (hS x) Z5.out) 3).trans rfl
      clear hcov hS B5 K1 K5 Z5 B15 HZ HB1 B1 HR
      refine wp_region_class f (by kernel_rfl) (by kernel_rfl) HC0.out ?_
      repeat (first
        | go_big_quiet_skip
        | (go_big_quiet_want; go_big_quiet_op; first
            | go_big_quiet_on
            | (apply Exists.intro
               refine ⟨fun _ => ?_, ?_⟩
               · first
                | (go_at_call 109; refine (HP.out _).mono ?_; rintro e' wn ⟨rfl, hb⟩; exact ⟨rfl, HNX.out _ _ hb⟩)
                | (go_at_call 142; refine (HS.out _ (HBX.out _)).mono ?_; rintro e' wn ⟨rfl, hb⟩; exact ⟨rfl, HNX.out _ _ hb⟩)
               go_big_quiet_on)))
      refine wpQuiet_nil ?_
      rintro _ ⟨x, rfl⟩
      go_wp2
      go_ret
      exact ⟨rfl, HBX.out x⟩
end Go.Proofs.YtlipcmonlhdgfaaGreat
/- package code: may a list of instructions be? -/
namespace Go.Proofs.YtlipcmonlhdgfaaGreat
open Go.RowKit

def lsB (D : Int → Int → Int → Int → Int → Int × Int × Int × Int) (c : CoL) (wh : Int) (l : List InL) : Bool := l.zipIdx.all (fun p => insB D c wh p.1.v (p.2 : Int) (l.length : Int))
theorem ls_no {D : Int → Int → Int → Int → Int → Int × Int × Int × Int} {c : CoL} {wh : Int} {l : List InL} {k : Nat} (hk : k < l.length) (h : insB D c wh l[k].v k l.length = false) : lsB D c wh l = false := by
  unfold lsB
  rw [List.all_eq_false]
  refine ⟨(l[k], k), ?_, by simp [h]⟩
  rw [List.mem_zipIdx_iff_getElem?]
  exact List.getElem?_eq_getElem hk
theorem ls_yes {D : Int → Int → Int → Int → Int → Int × Int × Int × Int} {c : CoL} {wh : Int} {l : List InL} (h : ∀ j (hj : j < l.length), insB D c wh l[j].v j l.length = true) : lsB D c wh l = true := by
  unfold lsB
  rw [List.all_eq_true]
  rintro ⟨x, j⟩ hx
  rw [List.mem_zipIdx_iff_getElem?] at hx
  obtain ⟨hj, e⟩ := List.getElem?_eq_some_iff.1 hx
  simp only at e hj ⊢
  rw [← e]; exact h j hj
set_option maxRecDepth 100000 in
set_option maxHeartbeats 8000000 in
theorem listMayBe_any (D : Int → Int → Int → Int → Int → Int × Int × Int × Int) (hD : DoOk D) (c : CoL) (g jb : Nat) (rv : Value) (wh : Int) (a : Option Addr) (cap : Nat) (l : List InL) (w : World) (hj : Jd w g c rv) (hjb : Jb w jb g) (hr : RwR w rv g jb) (hc : CoR w c) (hl : InsR w a l) : Calls Tryz.prog 84 #[.pointer (some ⟨g, 0, none⟩), .int .i64 wh, .slice a l.length cap] w fun ed w' => ed = .returned (.bool (lsB D c wh l)) ∧ Below w.heap.size w w' := by
  have HI : Hid (∀ k (h : k < l.length) W, Below w.heap.size w W → _) := fun k h W hb => insMayBe_any D hD c g jb rv l[k] wh (k : Int) (l.length : Int) W (hj.below hb) (hjb.below hb) (hr.below hb) (hc.below hb) ((hl.ok _ (List.getElem_mem h)).below hb) (by have := hl.ln; omega)
  have HR := hide hl.rd
  have hln := hl.ln
  have HNO : Hid (∀ k (h : k < l.length), insB D c wh l[k].v k l.length = false → lsB D c wh l = false) := fun k h e => ls_no h e
  have HYE : Hid ((∀ j (h : j < l.length), insB D c wh l[j].v j l.length = true) → lsB D c wh l = true) := fun h => ls_yes h
  clear hj hjb hr hc hl hD
  generalize lsB D c wh l = V at *
  go_enter Tryz.func84, Tryz.ntmps84
  go_wp2
  go_loopw [10] (fun i wr => ∃ k : Nat, k ≤ l.length ∧ i = .int .i64 k ∧ (∀ j (_ : j < k) (h : j < l.length), insB D c wh l[j].v j l.length = true) ∧ Below w.heap.size w wr) (fun i _ => l.length - (intOf i).toNat)
  case atStart => exact ⟨0, by omega, rfl, fun j h => by omega, Below.refl _ _⟩
  case round =>
    obtain ⟨k, hk, rfl, hp, hb⟩ := hrel
    have HP := hide hp
    have BB := hide hb
    clear hp
    by_cases hlt : k < l.length
    · have hkI : (k : Int) < (l.length : Int) := by omega
      obtain ⟨q, off, rfl, -, hc⟩ := (HR.out.below hb).some (by omega)
      have HCk := hide (hc k hlt)
      have HT : Hid (∀ W, Below w.heap.size w W → _) := HI.out k hlt
      have HN : Hid (insB D c wh l[k].v k l.length = false → V = false) := HNO.out k hlt
      have HY : Hid (insB D c wh l[k].v k l.length = true → ∀ j (_ : j < k + 1) (h : j < l.length), insB D c wh l[j].v j l.length = true) := fun e j h1 h2 => by
        by_cases h : j < k
        · exact HP.out j h h2
        · obtain rfl : j = k := by omega
          exact e
      clear hc hb HR HI HP HNO
      generalize insB D c wh l[k].v k l.length = t at *
      generalize l[k] = x at *
      obtain ⟨⟨op, to, a, b, n, m, li, ⟨lw, lh, ll⟩, of⟩, la, lc⟩ := x
      have q0 := HCk.out 0 _ rfl
      rw [Nat.add_zero] at q0
      have q1 := HCk.out 1 _ rfl
      have q2 := HCk.out 2 _ rfl
      have q3 := HCk.out 3 _ rfl
      have q4 := HCk.out 4 _ rfl
      have q5 := HCk.out 5 _ rfl
      have q6 := HCk.out 6 _ rfl
      have q7 := HCk.out 7 _ rfl
      have q8 := HCk.out 8 _ rfl
      have q9 := HCk.out 9 _ rfl
      have q10 := HCk.out 10 _ rfl
      simp only [isV] at q0 q1 q2 q3 q4 q5 q6 q7 q8 q9 q10 HT
      clear HCk
      go_wp2_with fail
      refine (HT.out _ BB.out).mono ?_
      rintro e w1 ⟨rfl, hb1⟩
      have B1 := hide (bstep BB.out hb1)
      clear hb1 q0 q1 q2 q3 q4 q5 q6 q7 q8 q9 q10
      cases t
      · have hn := HN.out rfl
        clear HN HY HYE
        go_wp2
        go_ret
        exact ⟨by rw [hn]; rfl, B1.out⟩
      · have hy := hide (HY.out rfl)
        clear HN HY
        go_wp2
        go_roundw
        case rel => exact ⟨k + 1, by omega, by go_num, hy.out, B1.out⟩
        case measure => simp [intOf]; omega
    · obtain rfl : k = l.length := by omega
      have hy := HYE.out (fun j h => HP.out j h h)
      clear HP hb HR HI HNO HYE
      go_wp2
      go_ret
      exact ⟨by rw [hy]; rfl, BB.out⟩
end Go.Proofs.YtlipcmonlhdgfaaGreat
