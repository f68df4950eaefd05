/- pointsmanlaw01.BitsCuts, walked: cut at no place below. -/
import Derived.Test.YtbaihikhmmhnpaaDoorCt
namespace Go.Proofs.YtbaihikhmmhnpaaDoor
open Go.RowKit

set_option maxRecDepth 100000 in
set_option maxHeartbeats 8000000 in
theorem ct_oa (n x0 x1 t m yh yl ah al ph pl qh ql eh el : Int) (w : World) (n0 : 1 ≤ n) (n1 : n ≤ 128) (t0 : ¬ 0 < t) 
    (HAl' : ∀ W, Below w.heap.size w W → Calls Tryd.prog 7 #[] W fun e w' => e = .returned (.bool true) ∧ Below W.heap.size W w')
    (HOf' : ∀ W, Calls Tryd.prog 10 #[.int .i64 n, .int .u64 x0, .int .u64 x1] W fun e w' => e = .returned (.tuple #[(.agg #[.int .i64 n, .int .u64 ah, .int .u64 al]), .int .i64 0]) ∧ Below W.heap.size W w')
    (HCu' : ∀ {x k j r}, CuIs n t 0 ah al yh yl ph pl qh ql eh el x k j r → ∀ W, Calls Tryd.prog 11 #[x, k, j] W fun e w' => e = .returned r ∧ Below W.heap.size W w')
    (HCk' : ∀ W, Calls Tryd.prog 12 #[(.agg #[.int .i64 m, .int .u64 yh, .int .u64 yl])] W fun e w' => e = .returned (.bool false) ∧ Below W.heap.size W w') :
    Calls Tryd.prog 4 #[.agg #[.int .i64 n, .int .u64 x0, .int .u64 x1, .int .i64 t], .agg #[.int .i64 m, .int .u64 yh, .int .u64 yl]] w fun e w' => e = .returned (.bool true) ∧ Below w.heap.size w w' := by
  have HAl := hide HAl'; have HOf := hide HOf'; have HCu : Hid (∀ {x k j r}, CuIs n t 0 ah al yh yl ph pl qh ql eh el x k j r → ∀ W, _) := fun h W => HCu' h W; have HCk := hide HCk'
  clear HAl' HOf' HCu' HCk'
  have d5 : decide (0 < t) = false := decide_eq_false t0
  go_enter Tryd.func4, Tryd.ntmps4
  go_wp2_with fail
  go_quiet (fail)
  go_wp2_with fail
  refine (HOf.out _).mono ?_
  rintro e w1 ⟨rfl, hb1⟩
  have BB : Hid (Below w.heap.size w w1) := (below_drewN (((Below.refl _ w).alloc (Nat.le_refl _) _).alloc (by simp) _) nq).trans (hb1.mono (by simp <;> omega))
  have Y1 : Hid (N3 w1 (w.heap.size + 1) m yh yl) := by
    have h := N3.new (w.alloc (.cells #[.int .i64 n, .int .u64 x0, .int .u64 x1, .int .i64 t] 36)) m yh yl
    rw [World.size_alloc] at h
    exact (N3.below h (below_drewN (Below.refl _ _) nq)).below hb1
  clear hb1
  have B1 := hide (BB.out.alloc BB.out.size (.cells #[.int .i64 n, .int .u64 ah, .int .u64 al] 27))
  have A1 := hide (N3.new w1 n ah al)
  have Y2 := hide (Y1.out.lowC #[.int .i64 n, .int .u64 ah, .int .u64 al] 27)
  clear Y1 BB
  go_wp2_with fail
  refine (HAl.out _ B1.out).mono ?_
  rintro e w2 ⟨rfl, hb2⟩
  have R : Hid (CtS w w2 w1.heap.size (w.heap.size + 1) n ah al m yh yl) := ⟨B1.out.trans (hb2.mono B1.out.size), A1.out.below hb2, Y2.out.below hb2⟩
  clear hb2 A1 B1 Y2
  go_wp2_with fail
  obtain ⟨X5, f5, hX5, hS, hcov⟩ := class_of (fun w' => CtS w w' (w1.heap.size) (w.heap.size + 1) n ah al m yh yl) _ (CtS.next R.out (Below.refl _ _).drew)
  have ka0 := fun x => (mblk3 (hS x).2.1).1
  have ka1 := fun x => (mblk3 (hS x).2.1).2.1
  have ka2 := fun x => (mblk3 (hS x).2.1).2.2.1
  have ky0 := fun x => (mblk3 (hS x).2.2).1
  have ky1 := fun x => (mblk3 (hS x).2.2).2.1
  have ky2 := fun x => (mblk3 (hS x).2.2).2.2.1
  have HS := hide hS; have HC := hide hcov
  have H0 : Hid _ := hide (HC.out _ (CtS.next R.out (Below.refl _ _).drew))
  clear hS hcov
  refine wp_region_class f5 (by kernel_rfl) (by kernel_rfl) H0.out ?_
  repeat (first
    | go_big_quiet_skip
    | (go_big_quiet_want; go_big_quiet_op; first
        | go_big_quiet_on
        | (apply Exists.intro
           refine ⟨fun _ => ?_, ?_⟩
           · (first
              | (fail; rintro e' wn ⟨rfl, hb⟩; exact ⟨rfl, HC.out _ (CtS.next (HS.out _) hb)⟩))
           go_big_quiet_on)))
  refine wpQuiet_nil ?_
  rintro _ ⟨x5, rfl⟩
  have R := hide (HS.out x5)
  clear HS HC H0 ka0 ka1 ka2 ky0 ky1 ky2
  go_wp2_with fail
  obtain ⟨X7, f7, hX7, hS, hcov⟩ := class_of (fun w' => CtS w w' (w1.heap.size) (w.heap.size + 1) n ah al m yh yl) _ (CtS.next R.out (Below.refl _ _).drew)
  have ka0 := fun x => (mblk3 (hS x).2.1).1
  have ka1 := fun x => (mblk3 (hS x).2.1).2.1
  have ka2 := fun x => (mblk3 (hS x).2.1).2.2.1
  have ky0 := fun x => (mblk3 (hS x).2.2).1
  have ky1 := fun x => (mblk3 (hS x).2.2).2.1
  have ky2 := fun x => (mblk3 (hS x).2.2).2.2.1
  have HS := hide hS; have HC := hide hcov
  have H0 : Hid _ := hide (HC.out _ (CtS.next R.out (Below.refl _ _).drew))
  clear hS hcov
  refine wp_region_class f7 (by kernel_rfl) (by kernel_rfl) H0.out ?_
  repeat (first
    | go_big_quiet_skip
    | (go_big_quiet_want; go_big_quiet_op; first
        | go_big_quiet_on
        | (apply Exists.intro
           refine ⟨fun _ => ?_, ?_⟩
           · (first
              | (go_at_call 11; refine' (HCu.out _ _).mono _; rotate_left; (first | exact CuIs.c0 (by omega)); rintro e' wn ⟨rfl, hb⟩; exact ⟨rfl, HC.out _ (CtS.next (HS.out _) hb)⟩)
              | (go_at_call 12; refine (HCk.out _).mono ?_; rintro e' wn ⟨rfl, hb⟩; exact ⟨rfl, HC.out _ (CtS.next (HS.out _) hb)⟩))
           go_big_quiet_on)))
  refine wpQuiet_nil ?_
  rintro _ ⟨x7, rfl⟩
  have R := hide (HS.out x7)
  clear HS HC H0 ka0 ka1 ka2 ky0 ky1 ky2
  go_wp2_with fail
  obtain ⟨X8, f8, hX8, hS, hcov⟩ := class_of (fun w' => CtS w w' (w1.heap.size) (w.heap.size + 1) n ah al m yh yl) _ (CtS.next R.out (Below.refl _ _).drew)
  have ka0 := fun x => (mblk3 (hS x).2.1).1
  have ka1 := fun x => (mblk3 (hS x).2.1).2.1
  have ka2 := fun x => (mblk3 (hS x).2.1).2.2.1
  have ky0 := fun x => (mblk3 (hS x).2.2).1
  have ky1 := fun x => (mblk3 (hS x).2.2).2.1
  have ky2 := fun x => (mblk3 (hS x).2.2).2.2.1
  have HS := hide hS; have HC := hide hcov
  have H0 : Hid _ := hide (HC.out _ (CtS.next R.out (Below.refl _ _).drew))
  clear hS hcov
  refine wp_region_class f8 (by kernel_rfl) (by kernel_rfl) H0.out ?_
  repeat (first
    | go_big_quiet_skip
    | (go_big_quiet_want; go_big_quiet_op; first
        | go_big_quiet_on
        | (apply Exists.intro
           refine ⟨fun _ => ?_, ?_⟩
           · (first
              | (go_at_call 11; refine' (HCu.out _ _).mono _; rotate_left; (first | exact CuIs.c0 (by omega)); rintro e' wn ⟨rfl, hb⟩; exact ⟨rfl, HC.out _ (CtS.next (HS.out _) hb)⟩))
           go_big_quiet_on)))
  refine wpQuiet_nil ?_
  rintro _ ⟨x8, rfl⟩
  go_wp2
  go_ret
  exact ⟨rfl, (HS.out x8).1⟩

set_option maxRecDepth 100000 in
set_option maxHeartbeats 8000000 in
theorem ct_ob (n x0 x1 t m yh yl ah al ph pl qh ql eh el : Int) (w : World) (n0 : 1 ≤ n) (n1 : n ≤ 128) (t0 : ¬ 0 < t) (g1 : ¬ n + m ≤ 128) (k0 : 1 ≤ m) (k1 : m ≤ 128)
    (HAl' : ∀ W, Below w.heap.size w W → Calls Tryd.prog 7 #[] W fun e w' => e = .returned (.bool true) ∧ Below W.heap.size W w')
    (HOf' : ∀ W, Calls Tryd.prog 10 #[.int .i64 n, .int .u64 x0, .int .u64 x1] W fun e w' => e = .returned (.tuple #[(.agg #[.int .i64 n, .int .u64 ah, .int .u64 al]), .int .i64 0]) ∧ Below W.heap.size W w')
    (HCu' : ∀ {x k j r}, CuIs n t m ah al yh yl ph pl qh ql eh el x k j r → ∀ W, Calls Tryd.prog 11 #[x, k, j] W fun e w' => e = .returned r ∧ Below W.heap.size W w')
    (HCk' : ∀ W, Calls Tryd.prog 12 #[(.agg #[.int .i64 m, .int .u64 yh, .int .u64 yl])] W fun e w' => e = .returned (.bool true) ∧ Below W.heap.size W w') :
    Calls Tryd.prog 4 #[.agg #[.int .i64 n, .int .u64 x0, .int .u64 x1, .int .i64 t], .agg #[.int .i64 m, .int .u64 yh, .int .u64 yl]] w fun e w' => e = .returned (.bool true) ∧ Below w.heap.size w w' := by
  have HAl := hide HAl'; have HOf := hide HOf'; have HCu : Hid (∀ {x k j r}, CuIs n t m ah al yh yl ph pl qh ql eh el x k j r → ∀ W, _) := fun h W => HCu' h W; have HCk := hide HCk'
  clear HAl' HOf' HCu' HCk'
  have d5 : decide (0 < t) = false := decide_eq_false t0
  have d7 : decide (128 < n + m) = true := decide_eq_true (by omega)
  go_enter Tryd.func4, Tryd.ntmps4
  go_wp2_with fail
  go_quiet (fail)
  go_wp2_with fail
  refine (HOf.out _).mono ?_
  rintro e w1 ⟨rfl, hb1⟩
  have BB : Hid (Below w.heap.size w w1) := (below_drewN (((Below.refl _ w).alloc (Nat.le_refl _) _).alloc (by simp) _) nq).trans (hb1.mono (by simp <;> omega))
  have Y1 : Hid (N3 w1 (w.heap.size + 1) m yh yl) := by
    have h := N3.new (w.alloc (.cells #[.int .i64 n, .int .u64 x0, .int .u64 x1, .int .i64 t] 36)) m yh yl
    rw [World.size_alloc] at h
    exact (N3.below h (below_drewN (Below.refl _ _) nq)).below hb1
  clear hb1
  have B1 := hide (BB.out.alloc BB.out.size (.cells #[.int .i64 n, .int .u64 ah, .int .u64 al] 27))
  have A1 := hide (N3.new w1 n ah al)
  have Y2 := hide (Y1.out.lowC #[.int .i64 n, .int .u64 ah, .int .u64 al] 27)
  clear Y1 BB
  go_wp2_with fail
  refine (HAl.out _ B1.out).mono ?_
  rintro e w2 ⟨rfl, hb2⟩
  have R : Hid (CtS w w2 w1.heap.size (w.heap.size + 1) n ah al m yh yl) := ⟨B1.out.trans (hb2.mono B1.out.size), A1.out.below hb2, Y2.out.below hb2⟩
  clear hb2 A1 B1 Y2
  go_wp2_with fail
  obtain ⟨X5, f5, hX5, hS, hcov⟩ := class_of (fun w' => CtS w w' (w1.heap.size) (w.heap.size + 1) n ah al m yh yl) _ (CtS.next R.out (Below.refl _ _).drew)
  have ka0 := fun x => (mblk3 (hS x).2.1).1
  have ka1 := fun x => (mblk3 (hS x).2.1).2.1
  have ka2 := fun x => (mblk3 (hS x).2.1).2.2.1
  have ky0 := fun x => (mblk3 (hS x).2.2).1
  have ky1 := fun x => (mblk3 (hS x).2.2).2.1
  have ky2 := fun x => (mblk3 (hS x).2.2).2.2.1
  have HS := hide hS; have HC := hide hcov
  have H0 : Hid _ := hide (HC.out _ (CtS.next R.out (Below.refl _ _).drew))
  clear hS hcov
  refine wp_region_class f5 (by kernel_rfl) (by kernel_rfl) H0.out ?_
  repeat (first
    | go_big_quiet_skip
    | (go_big_quiet_want; go_big_quiet_op; first
        | go_big_quiet_on
        | (apply Exists.intro
           refine ⟨fun _ => ?_, ?_⟩
           · (first
              | (fail; rintro e' wn ⟨rfl, hb⟩; exact ⟨rfl, HC.out _ (CtS.next (HS.out _) hb)⟩))
           go_big_quiet_on)))
  refine wpQuiet_nil ?_
  rintro _ ⟨x5, rfl⟩
  have R := hide (HS.out x5)
  clear HS HC H0 ka0 ka1 ka2 ky0 ky1 ky2
  go_wp2_with fail
  obtain ⟨X7, f7, hX7, hS, hcov⟩ := class_of (fun w' => CtS w w' (w1.heap.size) (w.heap.size + 1) n ah al m yh yl) _ (CtS.next R.out (Below.refl _ _).drew)
  have ka0 := fun x => (mblk3 (hS x).2.1).1
  have ka1 := fun x => (mblk3 (hS x).2.1).2.1
  have ka2 := fun x => (mblk3 (hS x).2.1).2.2.1
  have ky0 := fun x => (mblk3 (hS x).2.2).1
  have ky1 := fun x => (mblk3 (hS x).2.2).2.1
  have ky2 := fun x => (mblk3 (hS x).2.2).2.2.1
  have HS := hide hS; have HC := hide hcov
  have H0 : Hid _ := hide (HC.out _ (CtS.next R.out (Below.refl _ _).drew))
  clear hS hcov
  refine wp_region_class f7 (by kernel_rfl) (by kernel_rfl) H0.out ?_
  repeat (first
    | go_big_quiet_skip
    | (go_big_quiet_want; go_big_quiet_op; first
        | go_big_quiet_on
        | (apply Exists.intro
           refine ⟨fun _ => ?_, ?_⟩
           · (first
              | (go_at_call 11; refine' (HCu.out _ _).mono _; rotate_left; (first | exact CuIs.c0 (by omega)); rintro e' wn ⟨rfl, hb⟩; exact ⟨rfl, HC.out _ (CtS.next (HS.out _) hb)⟩)
              | (go_at_call 12; refine (HCk.out _).mono ?_; rintro e' wn ⟨rfl, hb⟩; exact ⟨rfl, HC.out _ (CtS.next (HS.out _) hb)⟩))
           go_big_quiet_on)))
  refine wpQuiet_nil ?_
  rintro _ ⟨x7, rfl⟩
  have R := hide (HS.out x7)
  clear HS HC H0 ka0 ka1 ka2 ky0 ky1 ky2
  go_wp2_with fail
  obtain ⟨X8, f8, hX8, hS, hcov⟩ := class_of (fun w' => CtS w w' (w1.heap.size) (w.heap.size + 1) n ah al m yh yl) _ (CtS.next R.out (Below.refl _ _).drew)
  have ka0 := fun x => (mblk3 (hS x).2.1).1
  have ka1 := fun x => (mblk3 (hS x).2.1).2.1
  have ka2 := fun x => (mblk3 (hS x).2.1).2.2.1
  have ky0 := fun x => (mblk3 (hS x).2.2).1
  have ky1 := fun x => (mblk3 (hS x).2.2).2.1
  have ky2 := fun x => (mblk3 (hS x).2.2).2.2.1
  have HS := hide hS; have HC := hide hcov
  have H0 : Hid _ := hide (HC.out _ (CtS.next R.out (Below.refl _ _).drew))
  clear hS hcov
  refine wp_region_class f8 (by kernel_rfl) (by kernel_rfl) H0.out ?_
  repeat (first
    | go_big_quiet_skip
    | (go_big_quiet_want; go_big_quiet_op; first
        | go_big_quiet_on
        | (apply Exists.intro
           refine ⟨fun _ => ?_, ?_⟩
           · (first
              | (go_at_call 11; refine' (HCu.out _ _).mono _; rotate_left; (first | exact CuIs.c0 (by omega)); rintro e' wn ⟨rfl, hb⟩; exact ⟨rfl, HC.out _ (CtS.next (HS.out _) hb)⟩))
           go_big_quiet_on)))
  refine wpQuiet_nil ?_
  rintro _ ⟨x8, rfl⟩
  go_wp2
  go_ret
  exact ⟨rfl, (HS.out x8).1⟩

set_option maxRecDepth 100000 in
set_option maxHeartbeats 8000000 in
theorem ct_og (n x0 x1 t m yh yl ah al ph pl qh ql eh el gh gl : Int) (w : World) (n0 : 1 ≤ n) (n1 : n ≤ 128) (t0 : ¬ 0 < t) (g1 : n + m ≤ 128) (k0 : 1 ≤ m)
    (HAl' : ∀ W, Below w.heap.size w W → Calls Tryd.prog 7 #[] W fun e w' => e = .returned (.bool true) ∧ Below W.heap.size W w')
    (HOf' : ∀ W, Calls Tryd.prog 10 #[.int .i64 n, .int .u64 x0, .int .u64 x1] W fun e w' => e = .returned (.tuple #[(.agg #[.int .i64 n, .int .u64 ah, .int .u64 al]), .int .i64 0]) ∧ Below W.heap.size W w')
    (HCu' : ∀ {x k j r}, CuIs n t m ah al yh yl ph pl qh ql eh el x k j r → ∀ W, Calls Tryd.prog 11 #[x, k, j] W fun e w' => e = .returned r ∧ Below W.heap.size W w')
    (HCk' : ∀ W, Calls Tryd.prog 12 #[(.agg #[.int .i64 m, .int .u64 yh, .int .u64 yl])] W fun e w' => e = .returned (.bool true) ∧ Below W.heap.size W w')
    (HD2' : ∀ W, Calls Tryd.prog 8 #[.int .u8 14, (.agg #[.int .i64 n, .int .u64 ah, .int .u64 al]), (.agg #[.int .i64 m, .int .u64 yh, .int .u64 yl])] W fun e w' => e = .returned (.agg #[.int .i64 (n + m), .int .u64 eh, .int .u64 el]) ∧ Below W.heap.size W w')
    (HO1' : ∀ W, Calls Tryd.prog 13 #[.int .u8 16, (.agg #[.int .i64 n, .int .u64 ah, .int .u64 al]), (.agg #[.int .i64 0, .int .u64 0, .int .u64 0]), .int .i64 (n + m), .int .i64 0] W fun e w' => e = .returned (.tuple #[(.agg #[.int .i64 (n + m), .int .u64 gh, .int .u64 gl]), .int .i64 0]) ∧ Below W.heap.size W w')
    (HO2' : ∀ W, Calls Tryd.prog 13 #[.int .u8 16, (.agg #[.int .i64 (n + m), .int .u64 eh, .int .u64 el]), (.agg #[.int .i64 0, .int .u64 0, .int .u64 0]), .int .i64 m, .int .i64 0] W fun e w' => e = .returned (.tuple #[(.agg #[.int .i64 m, .int .u64 yh, .int .u64 yl]), .int .i64 0]) ∧ Below W.heap.size W w')
    (HD3' : ∀ W, Calls Tryd.prog 8 #[.int .u8 13, (.agg #[.int .i64 (n + m), .int .u64 eh, .int .u64 el]), .agg #[.int .i64 8, .int .u64 0, .int .u64 m]] W fun e w' => e = .returned (.agg #[.int .i64 (n + m), .int .u64 gh, .int .u64 gl]) ∧ Below W.heap.size W w') :
    Calls Tryd.prog 4 #[.agg #[.int .i64 n, .int .u64 x0, .int .u64 x1, .int .i64 t], .agg #[.int .i64 m, .int .u64 yh, .int .u64 yl]] w fun e w' => e = .returned (.bool true) ∧ Below w.heap.size w w' := by
  have HAl := hide HAl'; have HOf := hide HOf'; have HCu : Hid (∀ {x k j r}, CuIs n t m ah al yh yl ph pl qh ql eh el x k j r → ∀ W, _) := fun h W => HCu' h W; have HCk := hide HCk'; have HD2 := hide HD2'; have HO1 := hide HO1'; have HO2 := hide HO2'; have HD3 := hide HD3'
  clear HAl' HOf' HCu' HCk' HD2' HO1' HO2' HD3'
  have d5 : decide (0 < t) = false := decide_eq_false t0
  have d7 : decide (128 < n + m) = false := decide_eq_false (by omega)
  go_enter Tryd.func4, Tryd.ntmps4
  go_wp2_with fail
  go_quiet (fail)
  go_wp2_with fail
  refine (HOf.out _).mono ?_
  rintro e w1 ⟨rfl, hb1⟩
  have BB : Hid (Below w.heap.size w w1) := (below_drewN (((Below.refl _ w).alloc (Nat.le_refl _) _).alloc (by simp) _) nq).trans (hb1.mono (by simp <;> omega))
  have Y1 : Hid (N3 w1 (w.heap.size + 1) m yh yl) := by
    have h := N3.new (w.alloc (.cells #[.int .i64 n, .int .u64 x0, .int .u64 x1, .int .i64 t] 36)) m yh yl
    rw [World.size_alloc] at h
    exact (N3.below h (below_drewN (Below.refl _ _) nq)).below hb1
  clear hb1
  have B1 := hide (BB.out.alloc BB.out.size (.cells #[.int .i64 n, .int .u64 ah, .int .u64 al] 27))
  have A1 := hide (N3.new w1 n ah al)
  have Y2 := hide (Y1.out.lowC #[.int .i64 n, .int .u64 ah, .int .u64 al] 27)
  clear Y1 BB
  go_wp2_with fail
  refine (HAl.out _ B1.out).mono ?_
  rintro e w2 ⟨rfl, hb2⟩
  have R : Hid (CtS w w2 w1.heap.size (w.heap.size + 1) n ah al m yh yl) := ⟨B1.out.trans (hb2.mono B1.out.size), A1.out.below hb2, Y2.out.below hb2⟩
  clear hb2 A1 B1 Y2
  go_wp2_with fail
  obtain ⟨X5, f5, hX5, hS, hcov⟩ := class_of (fun w' => CtS w w' (w1.heap.size) (w.heap.size + 1) n ah al m yh yl) _ (CtS.next R.out (Below.refl _ _).drew)
  have ka0 := fun x => (mblk3 (hS x).2.1).1
  have ka1 := fun x => (mblk3 (hS x).2.1).2.1
  have ka2 := fun x => (mblk3 (hS x).2.1).2.2.1
  have ky0 := fun x => (mblk3 (hS x).2.2).1
  have ky1 := fun x => (mblk3 (hS x).2.2).2.1
  have ky2 := fun x => (mblk3 (hS x).2.2).2.2.1
  have HS := hide hS; have HC := hide hcov
  have H0 : Hid _ := hide (HC.out _ (CtS.next R.out (Below.refl _ _).drew))
  clear hS hcov
  refine wp_region_class f5 (by kernel_rfl) (by kernel_rfl) H0.out ?_
  repeat (first
    | go_big_quiet_skip
    | (go_big_quiet_want; go_big_quiet_op; first
        | go_big_quiet_on
        | (apply Exists.intro
           refine ⟨fun _ => ?_, ?_⟩
           · (first
              | (fail; rintro e' wn ⟨rfl, hb⟩; exact ⟨rfl, HC.out _ (CtS.next (HS.out _) hb)⟩))
           go_big_quiet_on)))
  refine wpQuiet_nil ?_
  rintro _ ⟨x5, rfl⟩
  have R := hide (HS.out x5)
  clear HS HC H0 ka0 ka1 ka2 ky0 ky1 ky2
  go_wp2_with fail
  obtain ⟨X7, f7, hX7, hS, hcov⟩ := class_of (fun w' => CtS w w' (w1.heap.size) (w.heap.size + 1) n ah al m yh yl) _ (CtS.next R.out (Below.refl _ _).drew)
  have ka0 := fun x => (mblk3 (hS x).2.1).1
  have ka1 := fun x => (mblk3 (hS x).2.1).2.1
  have ka2 := fun x => (mblk3 (hS x).2.1).2.2.1
  have ky0 := fun x => (mblk3 (hS x).2.2).1
  have ky1 := fun x => (mblk3 (hS x).2.2).2.1
  have ky2 := fun x => (mblk3 (hS x).2.2).2.2.1
  have HS := hide hS; have HC := hide hcov
  have H0 : Hid _ := hide (HC.out _ (CtS.next R.out (Below.refl _ _).drew))
  clear hS hcov
  refine wp_region_class f7 (by kernel_rfl) (by kernel_rfl) H0.out ?_
  repeat (first
    | go_big_quiet_skip
    | (go_big_quiet_want; go_big_quiet_op; first
        | go_big_quiet_on
        | (apply Exists.intro
           refine ⟨fun _ => ?_, ?_⟩
           · (first
              | (go_at_call 11; refine' (HCu.out _ _).mono _; rotate_left; (first | exact CuIs.c0 (by omega)); rintro e' wn ⟨rfl, hb⟩; exact ⟨rfl, HC.out _ (CtS.next (HS.out _) hb)⟩)
              | (go_at_call 12; refine (HCk.out _).mono ?_; rintro e' wn ⟨rfl, hb⟩; exact ⟨rfl, HC.out _ (CtS.next (HS.out _) hb)⟩))
           go_big_quiet_on)))
  refine wpQuiet_nil ?_
  rintro _ ⟨x7, rfl⟩
  have R := hide (HS.out x7)
  clear HS HC H0 ka0 ka1 ka2 ky0 ky1 ky2
  obtain ⟨a0, a1, a2, _⟩ := mblk3 R.out.2.1
  obtain ⟨y0, y1, y2, _⟩ := mblk3 R.out.2.2
  go_wp2_with fail
  refine (HD2.out _).mono ?_
  rintro e w9 ⟨rfl, hb9⟩
  have kk9 : Below w9.heap.size w9 (w9.alloc (.cells #[.int .i64 (n + m), .int .u64 eh, .int .u64 el] 27)) := (Below.refl _ w9).alloc (Nat.le_refl _) _
  have R9 := hide ((R.out.next hb9).next kk9)
  have E9 := hide (N3.new w9 (n + m) eh el)
  clear hb9 kk9 R a0 a1 a2 y0 y1 y2
  obtain ⟨a0, a1, a2, _⟩ := mblk3 R9.out.2.1
  obtain ⟨y0, y1, y2, _⟩ := mblk3 R9.out.2.2
  go_wp2_with fail
  refine (HO1.out _).mono ?_
  rintro e w10 ⟨rfl, hb10⟩
  have kk10 : Below w10.heap.size w10 (w10.alloc (.cells #[.int .i64 (n + m), .int .u64 gh, .int .u64 gl] 27)) := (Below.refl _ w10).alloc (Nat.le_refl _) _
  have R10 := hide ((R9.out.next hb10).next kk10)
  have E10 := hide ((E9.out.below hb10).below kk10)
  have G10 := hide (N3.new w10 (n + m) gh gl)
  clear hb10 kk10 R9 E9 a0 a1 a2 y0 y1 y2
  obtain ⟨a0, a1, a2, _⟩ := mblk3 E10.out
  obtain ⟨y0, y1, y2, _⟩ := mblk3 R10.out.2.2
  go_wp2_with fail
  refine (HO2.out _).mono ?_
  rintro e w11 ⟨rfl, hb11⟩
  have kk11 : Below w11.heap.size w11 (w11.alloc (.cells #[.int .i64 m, .int .u64 yh, .int .u64 yl] 27)) := (Below.refl _ w11).alloc (Nat.le_refl _) _
  have R := hide (show CtE w _ w1.heap.size (w.heap.size + 1) w9.heap.size w10.heap.size w11.heap.size n ah al m yh yl eh el gh gl from ⟨(R10.out.next hb11).next kk11, (E10.out.below hb11).below kk11, (G10.out.below hb11).below kk11, N3.new w11 m yh yl⟩)
  clear hb11 kk11 R10 E10 G10 a0 a1 a2 y0 y1 y2
  go_wp2_with fail
  obtain ⟨X12, f12, hX12, hS, hcov⟩ := class_of (fun w' => CtE w w' w1.heap.size (w.heap.size + 1) w9.heap.size w10.heap.size w11.heap.size n ah al m yh yl eh el gh gl) _ (CtE.next R.out (Below.refl _ _).drew)
  have ka0 := fun x => (mblk3 (hS x).1.2.1).1
  have ka1 := fun x => (mblk3 (hS x).1.2.1).2.1
  have ka2 := fun x => (mblk3 (hS x).1.2.1).2.2.1
  have ky0 := fun x => (mblk3 (hS x).1.2.2).1
  have ky1 := fun x => (mblk3 (hS x).1.2.2).2.1
  have ky2 := fun x => (mblk3 (hS x).1.2.2).2.2.1
  have ke0 := fun x => (mblk3 (hS x).2.1).1
  have ke1 := fun x => (mblk3 (hS x).2.1).2.1
  have ke2 := fun x => (mblk3 (hS x).2.1).2.2.1
  have kg0 := fun x => (mblk3 (hS x).2.2.1).1
  have kg1 := fun x => (mblk3 (hS x).2.2.1).2.1
  have kg2 := fun x => (mblk3 (hS x).2.2.1).2.2.1
  have kk0 := fun x => (mblk3 (hS x).2.2.2).1
  have kk1 := fun x => (mblk3 (hS x).2.2.2).2.1
  have kk2 := fun x => (mblk3 (hS x).2.2.2).2.2.1
  have HS := hide hS; have HC := hide hcov
  have H0 : Hid _ := hide (HC.out _ (CtE.next R.out (Below.refl _ _).drew))
  clear hS hcov
  refine wp_region_class f12 (by kernel_rfl) (by kernel_rfl) H0.out ?_
  repeat (first
    | go_big_quiet_skip
    | (go_big_quiet_want; go_big_quiet_op; first
        | go_big_quiet_on
        | (apply Exists.intro
           refine ⟨fun _ => ?_, ?_⟩
           · (first
              | (go_at_call 11; refine' (HCu.out _ _).mono _; rotate_left; (first | exact CuIs.c3 ⟨g1, k0⟩ (by omega) | exact CuIs.c4 ⟨g1, k0⟩ (by omega)); rintro e' wn ⟨rfl, hb⟩; exact ⟨rfl, HC.out _ (CtE.next (HS.out _) hb)⟩)
              | (go_at_call 9; refine (num_any _ _ _).mono ?_; rintro e' wn ⟨rfl, hb⟩; exact ⟨rfl, HC.out _ (CtE.next (HS.out _) hb)⟩)
              | (go_at_call 8; refine (HD3.out _).mono ?_; rintro e' wn ⟨rfl, hb⟩; exact ⟨rfl, HC.out _ (CtE.next (HS.out _) hb)⟩))
           go_big_quiet_on)))
  refine wpQuiet_nil ?_
  rintro _ ⟨x12, rfl⟩
  go_wp2
  go_ret
  exact ⟨rfl, (HS.out x12).1.1⟩
end Go.Proofs.YtbaihikhmmhnpaaDoor
