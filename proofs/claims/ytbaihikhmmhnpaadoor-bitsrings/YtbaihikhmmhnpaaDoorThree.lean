/- Three.numbers. -/
import Derived.Test.YtbaihikhmmhnpaaDoorAlive
namespace Go.Proofs.YtbaihikhmmhnpaaDoor
open Go.RowKit

theorem blk_new (W : World) (a : Array Value) (t : TypeId) : (W.alloc (.cells a t)).heap[W.heap.size]? = some (.cells a t (0, 0)) := heap_alloc_new W _
theorem blk3 {W : World} {b : Nat} {x y z : Value} {t : TypeId} (h : W.heap[b]? = some (.cells #[x, y, z] t (0, 0))) : W.cell? ⟨b, 0, none⟩ = some x ∧ W.cell? ⟨b, 1, none⟩ = some y ∧ W.cell? ⟨b, 2, none⟩ = some z ∧ ∀ o, W.frozen? ⟨b, o, none⟩ = false := by
  refine ⟨?_, ?_, ?_, fun o => ?_⟩
  · unfold World.cell?; simp only [h]; rfl
  · unfold World.cell?; simp only [h]; rfl
  · unfold World.cell?; simp only [h]; rfl
  · simp [World.frozen?, h]
def set3 (W : World) (b : Nat) (x y z : Value) : World := ((W.setCell ⟨b, 0, none⟩ x).setCell ⟨b, 1, none⟩ y).setCell ⟨b, 2, none⟩ z
theorem set3_far {W : World} {b c o : Nat} {x y z : Value} (h : b ≠ c) : (set3 W b x y z).cell? ⟨c, o, none⟩ = W.cell? ⟨c, o, none⟩ := by
  unfold set3
  rw [World.cell?_setCell_far _ _ _ _ h, World.cell?_setCell_far _ _ _ _ h, World.cell?_setCell_far _ _ _ _ h]
theorem set3_own {W : World} {b : Nat} {x y z : Value} (h0 : ∃ u, W.cell? ⟨b, 0, none⟩ = some u) (h1 : ∃ u, W.cell? ⟨b, 1, none⟩ = some u) (h2 : ∃ u, W.cell? ⟨b, 2, none⟩ = some u) : (set3 W b x y z).cell? ⟨b, 0, none⟩ = some x ∧ (set3 W b x y z).cell? ⟨b, 1, none⟩ = some y ∧ (set3 W b x y z).cell? ⟨b, 2, none⟩ = some z := by
  obtain ⟨u0, h0⟩ := h0; obtain ⟨u1, h1⟩ := h1; obtain ⟨u2, h2⟩ := h2
  have e1 : (W.setCell ⟨b, 0, none⟩ x).cell? ⟨b, 1, none⟩ = some u1 := (World.cell?_setCell_other _ _ _ _ (by simp)).trans h1
  have e2 : ((W.setCell ⟨b, 0, none⟩ x).setCell ⟨b, 1, none⟩ y).cell? ⟨b, 2, none⟩ = some u2 := (World.cell?_setCell_other _ _ _ _ (by simp)).trans ((World.cell?_setCell_other _ _ _ _ (by simp)).trans h2)
  refine ⟨?_, ?_, ?_⟩
  · exact (World.cell?_setCell_other _ _ _ _ (by simp)).trans ((World.cell?_setCell_other _ _ _ _ (by simp)).trans (World.cell?_setCell_same' _ _ _ (by rw [h0]; rfl)))
  · exact (World.cell?_setCell_other _ _ _ _ (by simp)).trans (World.cell?_setCell_same' _ _ _ (by rw [e1]; rfl))
  · exact World.cell?_setCell_same' _ _ _ (by rw [e2]; rfl)
theorem set3_below {w W : World} {B b : Nat} {x y z : Value} (h : Below B w W) (hb : B ≤ b) : Below B w (set3 W b x y z) := ((h.setCell (p := ⟨b, 0, none⟩) hb x).setCell (p := ⟨b, 1, none⟩) hb y).setCell (p := ⟨b, 2, none⟩) hb z
structure T7 (W : World) (b : Nat) (a0 a1 a2 a3 a4 a5 a6 : Value) : Prop where
  c0 : W.cell? ⟨b, 0, none⟩ = some a0
  c1 : W.cell? ⟨b, 1, none⟩ = some a1
  c2 : W.cell? ⟨b, 2, none⟩ = some a2
  c3 : W.cell? ⟨b, 3, none⟩ = some a3
  c4 : W.cell? ⟨b, 4, none⟩ = some a4
  c5 : W.cell? ⟨b, 5, none⟩ = some a5
  c6 : W.cell? ⟨b, 6, none⟩ = some a6
theorem T7.new (W : World) (a0 a1 a2 a3 a4 a5 a6 : Value) (t : TypeId) : T7 (W.alloc (.cells #[a0, a1, a2, a3, a4, a5, a6] t)) W.heap.size a0 a1 a2 a3 a4 a5 a6 := by
  have hh : (W.alloc (.cells #[a0, a1, a2, a3, a4, a5, a6] t)).heap[W.heap.size]? = some (.cells #[a0, a1, a2, a3, a4, a5, a6] t (0, 0)) := heap_alloc_new W _
  refine ⟨?_, ?_, ?_, ?_, ?_, ?_, ?_⟩ <;> (unfold World.cell?; simp only [hh]; rfl)
theorem T7.below {W W' : World} {b B : Nat} {a0 a1 a2 a3 a4 a5 a6 : Value} (h : T7 W b a0 a1 a2 a3 a4 a5 a6) (hb : Below B W W') (hl : b < B) : T7 W' b a0 a1 a2 a3 a4 a5 a6 :=
  ⟨(hb.cell (p := ⟨b, 0, none⟩) hl).trans h.c0, (hb.cell (p := ⟨b, 1, none⟩) hl).trans h.c1, (hb.cell (p := ⟨b, 2, none⟩) hl).trans h.c2, (hb.cell (p := ⟨b, 3, none⟩) hl).trans h.c3, (hb.cell (p := ⟨b, 4, none⟩) hl).trans h.c4, (hb.cell (p := ⟨b, 5, none⟩) hl).trans h.c5, (hb.cell (p := ⟨b, 6, none⟩) hl).trans h.c6⟩
set_option maxRecDepth 100000 in
set_option maxHeartbeats 4000000 in
theorem three_any (n x0 x1 y0 y1 z0 z1 an ah al bn bh bl cn ch cl er er2 er3 : Int) (w : World)
    (HX : ∀ W, Calls Tryd.prog 10 #[.int .i64 n, .int .u64 x0, .int .u64 x1] W fun e W' => e = .returned (.tuple #[.agg #[.int .i64 an, .int .u64 ah, .int .u64 al], .int .i64 er]) ∧ Below W.heap.size W W')
    (HY : ∀ W, Calls Tryd.prog 10 #[.int .i64 n, .int .u64 y0, .int .u64 y1] W fun e W' => e = .returned (.tuple #[.agg #[.int .i64 bn, .int .u64 bh, .int .u64 bl], .int .i64 er2]) ∧ Below W.heap.size W W')
    (HZ : ∀ W, Calls Tryd.prog 10 #[.int .i64 n, .int .u64 z0, .int .u64 z1] W fun e W' => e = .returned (.tuple #[.agg #[.int .i64 cn, .int .u64 ch, .int .u64 cl], .int .i64 er3]) ∧ Below W.heap.size W W') :
    Calls Tryd.prog 6 #[.agg #[.int .i64 n, .int .u64 x0, .int .u64 x1, .int .u64 y0, .int .u64 y1, .int .u64 z0, .int .u64 z1]] w fun e w' =>
      e = .returned (.tuple #[.agg #[.int .i64 an, .int .u64 ah, .int .u64 al], .agg #[.int .i64 bn, .int .u64 bh, .int .u64 bl], .agg #[.int .i64 cn, .int .u64 ch, .int .u64 cl], .bool (er == 0)]) ∧ Below w.heap.size w w' := by
  have HX' := hide HX; have HY' := hide HY; have HZ' := hide HZ
  have T0 := hide (T7.new w (.int .i64 n) (.int .u64 x0) (.int .u64 x1) (.int .u64 y0) (.int .u64 y1) (.int .u64 z0) (.int .u64 z1) 25)
  clear HX HY HZ
  go_enter Tryd.func6, Tryd.ntmps6
  go_wp2_with fail
  refine (HX'.out _).mono ?_
  rintro e w1 ⟨rfl, hb1⟩
  have hz1 : w.heap.size + 4 ≤ w1.heap.size := by have := hb1.size; simp at this; omega
  have B01 : Below (w.heap.size + 4) ((((w.alloc (.cells #[.int .i64 n, .int .u64 x0, .int .u64 x1, .int .u64 y0, .int .u64 y1, .int .u64 z0, .int .u64 z1] 25)).alloc (.cells #[.int .i64 0, .int .u64 0, .int .u64 0] 27)).alloc (.cells #[.int .i64 0, .int .u64 0, .int .u64 0] 27)).alloc (.cells #[.int .i64 0, .int .u64 0, .int .u64 0] 27)) w1 := hb1.mono (by simp)
  have BB : Below w.heap.size w w1 := ((((((Below.refl _ w).alloc (Nat.le_refl _) _).alloc (by simp) _).alloc (by simp; omega) _).alloc (by simp; omega) _)).trans (B01.mono (by omega))
  have T1 : T7 w1 w.heap.size _ _ _ _ _ _ _ := (((T0.out.below (B := w.heap.size + 1) ((Below.refl _ _).alloc (by simp) _) (by omega)).below (B := w.heap.size + 1) ((Below.refl _ _).alloc (by simp) _) (by omega)).below (B := w.heap.size + 1) ((Below.refl _ _).alloc (by simp <;> omega) _) (by omega)).below B01 (by omega)
  have R1 : Hid (∀ k, k = 1 ∨ k = 2 ∨ k = 3 → w1.heap[w.heap.size + k]? = some (.cells #[.int .i64 0, .int .u64 0, .int .u64 0] 27 (0, 0))) := fun k hk => by
    rw [B01.block _ (by omega)]
    rcases hk with rfl | rfl | rfl
    · rw [Below.heap_alloc _ _ _ (by simp <;> omega), Below.heap_alloc _ _ _ (by simp)]
      have := heap_alloc_new (w.alloc (.cells #[.int .i64 n, .int .u64 x0, .int .u64 x1, .int .u64 y0, .int .u64 y1, .int .u64 z0, .int .u64 z1] 25)) (.cells #[.int .i64 0, .int .u64 0, .int .u64 0] 27)
      rw [World.size_alloc] at this; exact this
    · rw [Below.heap_alloc _ _ _ (by simp)]
      have := heap_alloc_new ((w.alloc (.cells #[.int .i64 n, .int .u64 x0, .int .u64 x1, .int .u64 y0, .int .u64 y1, .int .u64 z0, .int .u64 z1] 25)).alloc (.cells #[.int .i64 0, .int .u64 0, .int .u64 0] 27)) (.cells #[.int .i64 0, .int .u64 0, .int .u64 0] 27)
      simp only [World.size_alloc] at this; exact this
    · have := heap_alloc_new (((w.alloc (.cells #[.int .i64 n, .int .u64 x0, .int .u64 x1, .int .u64 y0, .int .u64 y1, .int .u64 z0, .int .u64 z1] 25)).alloc (.cells #[.int .i64 0, .int .u64 0, .int .u64 0] 27)).alloc (.cells #[.int .i64 0, .int .u64 0, .int .u64 0] 27)) (.cells #[.int .i64 0, .int .u64 0, .int .u64 0] 27)
      simp only [World.size_alloc] at this; exact this
  have TT1 := hide T1; have BB1 := hide BB
  have A1 := hide (blk_new w1 #[.int .i64 an, .int .u64 ah, .int .u64 al] 27)
  have T1a := T1.below (B := w1.heap.size) ((Below.refl _ _).alloc (Nat.le_refl _) (.cells #[.int .i64 an, .int .u64 ah, .int .u64 al] 27)) (by omega)
  obtain ⟨t0, t1, t2, t3, t4, t5, t6⟩ := T1a
  clear hb1 B01 BB T1
  go_wp2_with fail
  refine (HY'.out _).mono ?_
  rintro e w2 ⟨rfl, hb2⟩
  have hz2 : w1.heap.size + 1 ≤ w2.heap.size := by have := hb2.size; simp at this; omega
  have b12 : Below w1.heap.size w1 w2 := ((Below.refl _ w1).alloc (Nat.le_refl _) _).trans (hb2.mono (by simp))
  have TT2 := hide (TT1.out.below b12 (by omega)); have BB2 := hide (BB1.out.trans (b12.mono (by omega)))
  have A2 : Hid (w2.heap[w1.heap.size]? = _) := (hb2.block _ (by simp)).trans A1.out
  have R2 : Hid (∀ k, k = 1 ∨ k = 2 ∨ k = 3 → w2.heap[w.heap.size + k]? = _) := fun k hk => (b12.block _ (by omega)).trans (R1.out k hk)
  have C2 := hide (blk_new w2 #[.int .i64 bn, .int .u64 bh, .int .u64 bl] 27)
  have T2a := TT2.out.below (B := w2.heap.size) ((Below.refl _ _).alloc (Nat.le_refl _) (.cells #[.int .i64 bn, .int .u64 bh, .int .u64 bl] 27)) (by omega)
  clear hb2 b12 t0 t1 t2 t3 t4 t5 t6 TT1 BB1 A1 R1
  obtain ⟨t0, t1, t2, t3, t4, t5, t6⟩ := T2a
  go_wp2_with fail
  refine (HZ'.out _).mono ?_
  rintro e w3 ⟨rfl, hb3⟩
  have hz3 : w2.heap.size + 1 ≤ w3.heap.size := by have := hb3.size; simp at this; omega
  have b23 : Below w2.heap.size w2 w3 := ((Below.refl _ w2).alloc (Nat.le_refl _) _).trans (hb3.mono (by simp))
  have BB3 := hide (BB2.out.trans (b23.mono (by omega)))
  have A3 : Hid (w3.heap[w1.heap.size]? = _) := (b23.block _ (by omega)).trans A2.out
  have C3 : Hid (w3.heap[w2.heap.size]? = _) := (hb3.block _ (by simp)).trans C2.out
  have R3 : Hid (∀ k, k = 1 ∨ k = 2 ∨ k = 3 → w3.heap[w.heap.size + k]? = _) := fun k hk => (b23.block _ (by omega)).trans (R2.out k hk)
  clear hb3 b23 t0 t1 t2 t3 t4 t5 t6 TT2 BB2 A2 R2 C2
  have ne11 : w.heap.size + 1 ≠ w1.heap.size := by omega
  have ne12 : w.heap.size + 1 ≠ w2.heap.size := by omega
  have ne13 : w.heap.size + 1 ≠ w3.heap.size := by omega
  have ne21 : w.heap.size + 1 + 1 ≠ w1.heap.size := by omega
  have ne22 : w.heap.size + 1 + 1 ≠ w2.heap.size := by omega
  have ne23 : w.heap.size + 1 + 1 ≠ w3.heap.size := by omega
  have ne31 : w.heap.size + 1 + 1 + 1 ≠ w1.heap.size := by omega
  have ne32 : w.heap.size + 1 + 1 + 1 ≠ w2.heap.size := by omega
  have ne33 : w.heap.size + 1 + 1 + 1 ≠ w3.heap.size := by omega
  have W4 : Hid (Below w3.heap.size w3 (w3.alloc (.cells #[.int .i64 cn, .int .u64 ch, .int .u64 cl] 27))) := (Below.refl _ _).alloc (Nat.le_refl _) _
  obtain ⟨p0, p1, p2, pf⟩ := blk3 ((W4.out.block _ (by omega)).trans A3.out)
  obtain ⟨q0, q1, q2, qf⟩ := blk3 ((W4.out.block _ (by omega)).trans C3.out)
  obtain ⟨r0, r1, r2, rf⟩ := blk3 ((W4.out.block _ (by omega)).trans (R3.out 1 (by omega)))
  obtain ⟨s0, s1, s2, sf⟩ := blk3 ((W4.out.block _ (by omega)).trans (R3.out 2 (by omega)))
  obtain ⟨v0, v1, v2, vf⟩ := blk3 ((W4.out.block _ (by omega)).trans (R3.out 3 (by omega)))
  have e2 : w.heap.size + 2 = w.heap.size + 1 + 1 := rfl
  have e3 : w.heap.size + 3 = w.heap.size + 1 + 1 + 1 := rfl
  rw [e2] at s0 s1 s2 sf
  rw [e3] at v0 v1 v2 vf
  clear e2 e3 A3 C3 R3
  go_wp2
  go_region
  go_wp2
  clear ne11 ne12 ne13 ne21 ne22 ne23 ne31 ne32 ne33
  obtain ⟨Wf, hWf⟩ : ∃ Wf, Wf = (set3 ((set3 ((set3 ((w3.alloc (.cells #[.int .i64 cn, .int .u64 ch, .int .u64 cl] 27))) (w.heap.size + 1) (.int .i64 an) (.int .u64 ah) (.int .u64 al))) (w.heap.size + 1 + 1) (.int .i64 bn) (.int .u64 bh) (.int .u64 bl))) (w.heap.size + 1 + 1 + 1) (.int .i64 cn) (.int .u64 ch) (.int .u64 cl)) := ⟨_, rfl⟩
  have hWf2 : Wf = ((((((((((w3.alloc (.cells #[.int .i64 cn, .int .u64 ch, .int .u64 cl] 27))).setCell ⟨w.heap.size + 1, 0, none⟩ (.int .i64 an)).setCell ⟨w.heap.size + 1, 1, none⟩ (.int .u64 ah)).setCell ⟨w.heap.size + 1, 2, none⟩ (.int .u64 al)).setCell ⟨w.heap.size + 1 + 1, 0, none⟩ (.int .i64 bn)).setCell ⟨w.heap.size + 1 + 1, 1, none⟩ (.int .u64 bh)).setCell ⟨w.heap.size + 1 + 1, 2, none⟩ (.int .u64 bl)).setCell ⟨w.heap.size + 1 + 1 + 1, 0, none⟩ (.int .i64 cn)).setCell ⟨w.heap.size + 1 + 1 + 1, 1, none⟩ (.int .u64 ch)).setCell ⟨w.heap.size + 1 + 1 + 1, 2, none⟩ (.int .u64 cl) := hWf
  rw [← hWf2]
  have d1 := set3_own (W := (w3.alloc (.cells #[.int .i64 cn, .int .u64 ch, .int .u64 cl] 27))) (b := w.heap.size + 1) (x := .int .i64 an) (y := .int .u64 ah) (z := .int .u64 al) ⟨_, r0⟩ ⟨_, r1⟩ ⟨_, r2⟩
  have d2 := set3_own (W := (set3 ((w3.alloc (.cells #[.int .i64 cn, .int .u64 ch, .int .u64 cl] 27))) (w.heap.size + 1) (.int .i64 an) (.int .u64 ah) (.int .u64 al))) (b := w.heap.size + 1 + 1) (x := .int .i64 bn) (y := .int .u64 bh) (z := .int .u64 bl) ⟨_, (set3_far (by omega)).trans s0⟩ ⟨_, (set3_far (by omega)).trans s1⟩ ⟨_, (set3_far (by omega)).trans s2⟩
  have d3 := set3_own (W := (set3 (set3 ((w3.alloc (.cells #[.int .i64 cn, .int .u64 ch, .int .u64 cl] 27))) (w.heap.size + 1) (.int .i64 an) (.int .u64 ah) (.int .u64 al)) (w.heap.size + 1 + 1) (.int .i64 bn) (.int .u64 bh) (.int .u64 bl))) (b := w.heap.size + 1 + 1 + 1) (x := .int .i64 cn) (y := .int .u64 ch) (z := .int .u64 cl) ⟨_, (set3_far (by omega)).trans ((set3_far (by omega)).trans v0)⟩ ⟨_, (set3_far (by omega)).trans ((set3_far (by omega)).trans v1)⟩ ⟨_, (set3_far (by omega)).trans ((set3_far (by omega)).trans v2)⟩
  rw [← hWf] at d3
  have g1 : ∀ o, Wf.cell? ⟨w.heap.size + 1, o, none⟩ = (set3 (w3.alloc (.cells #[.int .i64 cn, .int .u64 ch, .int .u64 cl] 27)) (w.heap.size + 1) (.int .i64 an) (.int .u64 ah) (.int .u64 al)).cell? ⟨w.heap.size + 1, o, none⟩ := fun o => by
    rw [hWf]; exact (set3_far (by omega)).trans (set3_far (by omega))
  have g2 : ∀ o, Wf.cell? ⟨w.heap.size + 1 + 1, o, none⟩ = (set3 (set3 (w3.alloc (.cells #[.int .i64 cn, .int .u64 ch, .int .u64 cl] 27)) (w.heap.size + 1) (.int .i64 an) (.int .u64 ah) (.int .u64 al)) (w.heap.size + 1 + 1) (.int .i64 bn) (.int .u64 bh) (.int .u64 bl)).cell? ⟨w.heap.size + 1 + 1, o, none⟩ := fun o => by
    rw [hWf]; exact set3_far (by omega)
  have k0 := (g1 0).trans d1.1
  have k1 := (g1 1).trans d1.2.1
  have k2 := (g1 2).trans d1.2.2
  have l0 := (g2 0).trans d2.1
  have l1 := (g2 1).trans d2.2.1
  have l2 := (g2 2).trans d2.2.2
  obtain ⟨m0, m1, m2⟩ := d3
  have h0 := (BB3.out.alloc BB3.out.size (.cells #[.int .i64 cn, .int .u64 ch, .int .u64 cl] 27))
  have HBf : Hid (Below w.heap.size w Wf) := by
    rw [hWf]
    exact set3_below (set3_below (set3_below h0 (by omega)) (by omega)) (by omega)
  clear hWf hWf2 d1 d2 g1 g2 h0 p0 p1 p2 q0 q1 q2 r0 r1 r2 s0 s1 s2 v0 v1 v2 pf qf rf sf vf
  refine bodyPost_ret (v := .tuple #[.agg #[.int .i64 an, .int .u64 ah, .int .u64 al], .agg #[.int .i64 bn, .int .u64 bh, .int .u64 bl], .agg #[.int .i64 cn, .int .u64 ch, .int .u64 cl], .bool (er == 0)]) ?_ rfl ⟨rfl, HBf.out.drew⟩
  simp [results, Tryd.results6, go_sem, k0, k1, k2, l0, l1, l2, m0, m1, m2]
end Go.Proofs.YtbaihikhmmhnpaaDoor
