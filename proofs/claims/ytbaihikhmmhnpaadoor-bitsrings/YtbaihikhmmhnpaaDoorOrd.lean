/- pointsmanlaw01.BitsOrders, walked. -/
import Derived.Test.YtbaihikhmmhnpaaDoorThree
namespace Go.Proofs.YtbaihikhmmhnpaaDoor
open Go.RowKit

structure O4 (w W : World) (A B C Y : Nat) (n ah al bh bl ch cl : Int) : Prop where
  below : Below w.heap.size w W
  a : W.heap[A]? = some (.cells #[.int .i64 n, .int .u64 ah, .int .u64 al] 27 (0, 0))
  b : W.heap[B]? = some (.cells #[.int .i64 n, .int .u64 bh, .int .u64 bl] 27 (0, 0))
  c : W.heap[C]? = some (.cells #[.int .i64 n, .int .u64 ch, .int .u64 cl] 27 (0, 0))
  y : W.heap[Y]? = some (.cells #[.int .i64 1, .int .u64 0, .int .u64 1] 27 (0, 0))
theorem lt_blk {W : World} {b : Nat} {o : Obj} (h : W.heap[b]? = some o) : b < W.heap.size := (Array.getElem?_eq_some_iff.1 h).1
theorem O4.next {w W W' : World} {A B C Y : Nat} {n ah al bh bl ch cl : Int} (h : O4 w W A B C Y n ah al bh bl ch cl) (hb : Below W.heap.size W W') : O4 w W' A B C Y n ah al bh bl ch cl :=
  ⟨h.below.trans (hb.mono h.below.size), (hb.block _ (lt_blk h.a)).trans h.a, (hb.block _ (lt_blk h.b)).trans h.b, (hb.block _ (lt_blk h.c)).trans h.c, (hb.block _ (lt_blk h.y)).trans h.y⟩
theorem O4.all {w W : World} {A B C Y : Nat} {n ah al bh bl ch cl : Int} (h : O4 w W A B C Y n ah al bh bl ch cl) : O4 w W A B C Y n ah al bh bl ch cl ∧
    W.cell? ⟨A, 0, none⟩ = some (.int .i64 n) ∧ W.cell? ⟨A, 1, none⟩ = some (.int .u64 ah) ∧ W.cell? ⟨A, 2, none⟩ = some (.int .u64 al) ∧
    W.cell? ⟨B, 0, none⟩ = some (.int .i64 n) ∧ W.cell? ⟨B, 1, none⟩ = some (.int .u64 bh) ∧ W.cell? ⟨B, 2, none⟩ = some (.int .u64 bl) ∧
    W.cell? ⟨C, 0, none⟩ = some (.int .i64 n) ∧ W.cell? ⟨C, 1, none⟩ = some (.int .u64 ch) ∧ W.cell? ⟨C, 2, none⟩ = some (.int .u64 cl) ∧
    W.cell? ⟨Y, 0, none⟩ = some (.int .i64 1) ∧ W.cell? ⟨Y, 1, none⟩ = some (.int .u64 0) ∧ W.cell? ⟨Y, 2, none⟩ = some (.int .u64 1) := by
  obtain ⟨a0, a1, a2, _⟩ := blk3 h.a
  obtain ⟨b0, b1, b2, _⟩ := blk3 h.b
  obtain ⟨c0, c1, c2, _⟩ := blk3 h.c
  obtain ⟨y0, y1, y2, _⟩ := blk3 h.y
  exact ⟨h, a0, a1, a2, b0, b1, b2, c0, c1, c2, y0, y1, y2⟩
theorem O4.nextS {w W W' : World} {A B C Y : Nat} {n ah al bh bl ch cl : Int} (hb : Below W.heap.size W W') (h : O4 w W A B C Y n ah al bh bl ch cl) : O4 w W' A B C Y n ah al bh bl ch cl ∧
    W'.cell? ⟨A, 0, none⟩ = some (.int .i64 n) ∧ W'.cell? ⟨A, 1, none⟩ = some (.int .u64 ah) ∧ W'.cell? ⟨A, 2, none⟩ = some (.int .u64 al) ∧
    W'.cell? ⟨B, 0, none⟩ = some (.int .i64 n) ∧ W'.cell? ⟨B, 1, none⟩ = some (.int .u64 bh) ∧ W'.cell? ⟨B, 2, none⟩ = some (.int .u64 bl) ∧
    W'.cell? ⟨C, 0, none⟩ = some (.int .i64 n) ∧ W'.cell? ⟨C, 1, none⟩ = some (.int .u64 ch) ∧ W'.cell? ⟨C, 2, none⟩ = some (.int .u64 cl) ∧
    W'.cell? ⟨Y, 0, none⟩ = some (.int .i64 1) ∧ W'.cell? ⟨Y, 1, none⟩ = some (.int .u64 0) ∧ W'.cell? ⟨Y, 2, none⟩ = some (.int .u64 1) := (h.next hb).all
/- Which calls of 'do' there are, and what each answers. -/
structure DoIs (n ah al bh bl ch cl l g e le ne l2 l3 : Int) (op x y r : Value) : Prop where
  out :
    (op = (.int .u8 19) ∧ x = (.agg #[.int .i64 n, .int .u64 ah, .int .u64 al]) ∧ y = (.agg #[.int .i64 n, .int .u64 bh, .int .u64 bl]) ∧ r = (.agg #[.int .i64 1, .int .u64 0, .int .u64 l])) ∨
    (op = (.int .u8 19) ∧ x = (.agg #[.int .i64 n, .int .u64 bh, .int .u64 bl]) ∧ y = (.agg #[.int .i64 n, .int .u64 ah, .int .u64 al]) ∧ r = (.agg #[.int .i64 1, .int .u64 0, .int .u64 g])) ∨
    (op = (.int .u8 17) ∧ x = (.agg #[.int .i64 n, .int .u64 ah, .int .u64 al]) ∧ y = (.agg #[.int .i64 n, .int .u64 bh, .int .u64 bl]) ∧ r = (.agg #[.int .i64 1, .int .u64 0, .int .u64 e])) ∨
    (op = (.int .u8 20) ∧ x = (.agg #[.int .i64 n, .int .u64 ah, .int .u64 al]) ∧ y = (.agg #[.int .i64 n, .int .u64 bh, .int .u64 bl]) ∧ r = (.agg #[.int .i64 1, .int .u64 0, .int .u64 le])) ∨
    (op = (.int .u8 18) ∧ x = (.agg #[.int .i64 n, .int .u64 ah, .int .u64 al]) ∧ y = (.agg #[.int .i64 n, .int .u64 bh, .int .u64 bl]) ∧ r = (.agg #[.int .i64 1, .int .u64 0, .int .u64 ne])) ∨
    (op = (.int .u8 19) ∧ x = (.agg #[.int .i64 n, .int .u64 bh, .int .u64 bl]) ∧ y = (.agg #[.int .i64 n, .int .u64 ch, .int .u64 cl]) ∧ r = (.agg #[.int .i64 1, .int .u64 0, .int .u64 l2])) ∨
    (op = (.int .u8 19) ∧ x = (.agg #[.int .i64 n, .int .u64 ah, .int .u64 al]) ∧ y = (.agg #[.int .i64 n, .int .u64 ch, .int .u64 cl]) ∧ r = (.agg #[.int .i64 1, .int .u64 0, .int .u64 l3]))
theorem DoIs.c1 {n ah al bh bl ch cl l g e le ne l2 l3 : Int} : DoIs n ah al bh bl ch cl l g e le ne l2 l3 (.int .u8 19) (.agg #[.int .i64 n, .int .u64 ah, .int .u64 al]) (.agg #[.int .i64 n, .int .u64 bh, .int .u64 bl]) (.agg #[.int .i64 1, .int .u64 0, .int .u64 l]) := by
  exact ⟨Or.inl ⟨rfl, rfl, rfl, rfl⟩⟩
theorem DoIs.c2 {n ah al bh bl ch cl l g e le ne l2 l3 : Int} : DoIs n ah al bh bl ch cl l g e le ne l2 l3 (.int .u8 19) (.agg #[.int .i64 n, .int .u64 bh, .int .u64 bl]) (.agg #[.int .i64 n, .int .u64 ah, .int .u64 al]) (.agg #[.int .i64 1, .int .u64 0, .int .u64 g]) := by
  exact ⟨Or.inr (Or.inl ⟨rfl, rfl, rfl, rfl⟩)⟩
theorem DoIs.c3 {n ah al bh bl ch cl l g e le ne l2 l3 : Int} : DoIs n ah al bh bl ch cl l g e le ne l2 l3 (.int .u8 17) (.agg #[.int .i64 n, .int .u64 ah, .int .u64 al]) (.agg #[.int .i64 n, .int .u64 bh, .int .u64 bl]) (.agg #[.int .i64 1, .int .u64 0, .int .u64 e]) := by
  exact ⟨Or.inr (Or.inr (Or.inl ⟨rfl, rfl, rfl, rfl⟩))⟩
theorem DoIs.c4 {n ah al bh bl ch cl l g e le ne l2 l3 : Int} : DoIs n ah al bh bl ch cl l g e le ne l2 l3 (.int .u8 20) (.agg #[.int .i64 n, .int .u64 ah, .int .u64 al]) (.agg #[.int .i64 n, .int .u64 bh, .int .u64 bl]) (.agg #[.int .i64 1, .int .u64 0, .int .u64 le]) := by
  exact ⟨Or.inr (Or.inr (Or.inr (Or.inl ⟨rfl, rfl, rfl, rfl⟩)))⟩
theorem DoIs.c5 {n ah al bh bl ch cl l g e le ne l2 l3 : Int} : DoIs n ah al bh bl ch cl l g e le ne l2 l3 (.int .u8 18) (.agg #[.int .i64 n, .int .u64 ah, .int .u64 al]) (.agg #[.int .i64 n, .int .u64 bh, .int .u64 bl]) (.agg #[.int .i64 1, .int .u64 0, .int .u64 ne]) := by
  exact ⟨Or.inr (Or.inr (Or.inr (Or.inr (Or.inl ⟨rfl, rfl, rfl, rfl⟩))))⟩
theorem DoIs.c6 {n ah al bh bl ch cl l g e le ne l2 l3 : Int} : DoIs n ah al bh bl ch cl l g e le ne l2 l3 (.int .u8 19) (.agg #[.int .i64 n, .int .u64 bh, .int .u64 bl]) (.agg #[.int .i64 n, .int .u64 ch, .int .u64 cl]) (.agg #[.int .i64 1, .int .u64 0, .int .u64 l2]) := by
  exact ⟨Or.inr (Or.inr (Or.inr (Or.inr (Or.inr (Or.inl ⟨rfl, rfl, rfl, rfl⟩)))))⟩
theorem DoIs.c7 {n ah al bh bl ch cl l g e le ne l2 l3 : Int} : DoIs n ah al bh bl ch cl l g e le ne l2 l3 (.int .u8 19) (.agg #[.int .i64 n, .int .u64 ah, .int .u64 al]) (.agg #[.int .i64 n, .int .u64 ch, .int .u64 cl]) (.agg #[.int .i64 1, .int .u64 0, .int .u64 l3]) := by
  exact ⟨Or.inr (Or.inr (Or.inr (Or.inr (Or.inr (Or.inr (⟨rfl, rfl, rfl, rfl⟩))))))⟩
structure O3 (W : World) (A B C : Nat) (n ah al m bh bl k ch cl : Int) : Prop where
  a : W.heap[A]? = some (.cells #[.int .i64 n, .int .u64 ah, .int .u64 al] 27 (0, 0))
  b : W.heap[B]? = some (.cells #[.int .i64 m, .int .u64 bh, .int .u64 bl] 27 (0, 0))
  c : W.heap[C]? = some (.cells #[.int .i64 k, .int .u64 ch, .int .u64 cl] 27 (0, 0))
theorem o3 (w1 : World) (n ah al m bh bl k ch cl : Int) : O3 (((w1.alloc (.cells #[.int .i64 n, .int .u64 ah, .int .u64 al] 27)).alloc (.cells #[.int .i64 m, .int .u64 bh, .int .u64 bl] 27)).alloc (.cells #[.int .i64 k, .int .u64 ch, .int .u64 cl] 27)) w1.heap.size (w1.heap.size + 1) (w1.heap.size + 1 + 1) n ah al m bh bl k ch cl := by
  refine ⟨?_, ?_, ?_⟩
  · rw [Below.heap_alloc _ _ _ (by simp <;> omega), Below.heap_alloc _ _ _ (by simp)]; exact blk_new _ _ _
  · rw [Below.heap_alloc _ _ _ (by simp)]
    have := blk_new (w1.alloc (.cells #[.int .i64 n, .int .u64 ah, .int .u64 al] 27)) #[.int .i64 m, .int .u64 bh, .int .u64 bl] 27
    rw [World.size_alloc] at this; exact this
  · have := blk_new ((w1.alloc (.cells #[.int .i64 n, .int .u64 ah, .int .u64 al] 27)).alloc (.cells #[.int .i64 m, .int .u64 bh, .int .u64 bl] 27)) #[.int .i64 k, .int .u64 ch, .int .u64 cl] 27
    simp only [World.size_alloc] at this; exact this
theorem O3.keep {W W' : World} {A B C : Nat} {n ah al m bh bl k ch cl : Int} (h : O3 W A B C n ah al m bh bl k ch cl) (hb : Below W.heap.size W W') : O3 W' A B C n ah al m bh bl k ch cl :=
  ⟨(hb.block _ (lt_blk h.a)).trans h.a, (hb.block _ (lt_blk h.b)).trans h.b, (hb.block _ (lt_blk h.c)).trans h.c⟩
theorem O3.toO4 {w W W' : World} {A B C : Nat} {n ah al bh bl ch cl : Int} (h : O3 W A B C n ah al n bh bl n ch cl) (hB : Below w.heap.size w W) (hb : Below W.heap.size W W') : O4 w (W'.alloc (.cells #[.int .i64 1, .int .u64 0, .int .u64 1] 27)) A B C W'.heap.size n ah al bh bl ch cl := by
  have h2 := (h.keep hb).keep ((Below.refl _ W').alloc (Nat.le_refl _) (.cells #[.int .i64 1, .int .u64 0, .int .u64 1] 27))
  exact ⟨(hB.trans (hb.mono hB.size)).alloc (Nat.le_trans hB.size hb.size) _, h2.a, h2.b, h2.c, blk_new _ _ _⟩
set_option maxRecDepth 100000 in
set_option maxHeartbeats 4000000 in
theorem ord_eq (n x0 x1 y0 y1 z0 z1 ah al ch cl l2 l3 : Int) (w : World) (ht : w.cell? ⟨3, 15, none⟩ = some (.int .u8 4)) 
    (HN : ∀ W, Calls Tryd.prog 6 #[.agg #[.int .i64 n, .int .u64 x0, .int .u64 x1, .int .u64 y0, .int .u64 y1, .int .u64 z0, .int .u64 z1]] W fun e w' => e = .returned (.tuple #[.agg #[.int .i64 n, .int .u64 ah, .int .u64 al], .agg #[.int .i64 n, .int .u64 ah, .int .u64 al], .agg #[.int .i64 n, .int .u64 ch, .int .u64 cl], .bool true]) ∧ Below W.heap.size W w')
    (HD0 : ∀ {op x y r}, DoIs n ah al ah al ch cl 0 0 1 1 0 l2 l3 op x y r → ∀ W, Calls Tryd.prog 8 #[op, x, y] W fun e w' => e = .returned r ∧ Below W.heap.size W w') :
    Calls Tryd.prog 5 #[.agg #[.int .i64 n, .int .u64 x0, .int .u64 x1, .int .u64 y0, .int .u64 y1, .int .u64 z0, .int .u64 z1]] w fun e w' => e = .returned (.bool true) ∧ Below w.heap.size w w' := by
  have hG : 3 < w.heap.size := World.block_lt_of_cell? w _ ht
  have HT := hide ht
  have HN' := hide HN
  have HD : Hid (∀ {op x y r}, DoIs n ah al ah al ch cl 0 0 1 1 0 l2 l3 op x y r → ∀ W, _) := fun h W => HD0 h W
  clear HN HD0 ht
  go_enter Tryd.func5, Tryd.ntmps5
  go_wp2_with fail
  refine (HN'.out _).mono ?_
  rintro e' w1 ⟨rfl, hb1⟩
  have B1 : Hid (Below w.heap.size w w1) := ((Below.refl _ w).alloc (Nat.le_refl _) _).trans (hb1.mono (by simp))
  clear hb1
  have b13 : Hid (Below w1.heap.size w1 (((w1.alloc (.cells #[.int .i64 n, .int .u64 ah, .int .u64 al] 27)).alloc (.cells #[.int .i64 n, .int .u64 ah, .int .u64 al] 27)).alloc (.cells #[.int .i64 n, .int .u64 ch, .int .u64 cl] 27))) := (((Below.refl _ w1).alloc (Nat.le_refl _) _).alloc (by simp) _).alloc (by simp <;> omega) _
  have Q := hide (o3 w1 n ah al n ah al n ch cl)
  go_wp2_with fail
  refine (alive_any _ (by rw [(B1.out.trans (b13.out.mono B1.out.size)).cell (p := ⟨3, 15, none⟩) hG]; exact HT.out)).mono ?_
  rintro e' w2 ⟨rfl, hb2⟩
  have B2 := hide (B1.out.trans ((b13.out.trans (hb2.mono b13.out.size)).mono B1.out.size))
  have Q2 := hide (Q.out.keep hb2)
  clear hb2 Q b13 B1
  go_wp2_with fail
  refine (num_any 1 1 _).mono ?_
  rintro e' w3 ⟨rfl, hb3⟩
  have O : Hid (O4 w (w3.alloc (.cells #[.int .i64 1, .int .u64 0, .int .u64 1] 27)) w1.heap.size (w1.heap.size + 1) (w1.heap.size + 1 + 1) w3.heap.size n ah al ah al ch cl) := Q2.out.toO4 B2.out hb3
  clear hb3 Q2 B2
  go_wp2_with fail
  go_region_held3 (fun w' => O4 w w' w1.heap.size (w1.heap.size + 1) (w1.heap.size + 1 + 1) w3.heap.size n ah al ah al ch cl ∧ w'.cell? ⟨w1.heap.size, 0, none⟩ = some (.int .i64 n) ∧ w'.cell? ⟨w1.heap.size, 1, none⟩ = some (.int .u64 ah) ∧ w'.cell? ⟨w1.heap.size, 2, none⟩ = some (.int .u64 al) ∧ w'.cell? ⟨w1.heap.size + 1, 0, none⟩ = some (.int .i64 n) ∧ w'.cell? ⟨w1.heap.size + 1, 1, none⟩ = some (.int .u64 ah) ∧ w'.cell? ⟨w1.heap.size + 1, 2, none⟩ = some (.int .u64 al) ∧ w'.cell? ⟨w1.heap.size + 1 + 1, 0, none⟩ = some (.int .i64 n) ∧ w'.cell? ⟨w1.heap.size + 1 + 1, 1, none⟩ = some (.int .u64 ch) ∧ w'.cell? ⟨w1.heap.size + 1 + 1, 2, none⟩ = some (.int .u64 cl) ∧ w'.cell? ⟨w3.heap.size, 0, none⟩ = some (.int .i64 1) ∧ w'.cell? ⟨w3.heap.size, 1, none⟩ = some (.int .u64 0) ∧ w'.cell? ⟨w3.heap.size, 2, none⟩ = some (.int .u64 1)) (first | exact O4.nextS (Below.refl _ _).drew O.out | exact O4.nextS (by assumption) (And.left (by assumption)))
    (first | (go_at_call 8; refine' (HD.out _ _).mono _; rotate_left; (first | exact DoIs.c1 | exact DoIs.c2 | exact DoIs.c3 | exact DoIs.c4 | exact DoIs.c5 | exact DoIs.c6 | exact DoIs.c7); rintro e' wn ⟨rfl, hb⟩))
  go_wp2_with fail
  go_region_held3 (fun w' => O4 w w' w1.heap.size (w1.heap.size + 1) (w1.heap.size + 1 + 1) w3.heap.size n ah al ah al ch cl ∧ w'.cell? ⟨w1.heap.size, 0, none⟩ = some (.int .i64 n) ∧ w'.cell? ⟨w1.heap.size, 1, none⟩ = some (.int .u64 ah) ∧ w'.cell? ⟨w1.heap.size, 2, none⟩ = some (.int .u64 al) ∧ w'.cell? ⟨w1.heap.size + 1, 0, none⟩ = some (.int .i64 n) ∧ w'.cell? ⟨w1.heap.size + 1, 1, none⟩ = some (.int .u64 ah) ∧ w'.cell? ⟨w1.heap.size + 1, 2, none⟩ = some (.int .u64 al) ∧ w'.cell? ⟨w1.heap.size + 1 + 1, 0, none⟩ = some (.int .i64 n) ∧ w'.cell? ⟨w1.heap.size + 1 + 1, 1, none⟩ = some (.int .u64 ch) ∧ w'.cell? ⟨w1.heap.size + 1 + 1, 2, none⟩ = some (.int .u64 cl) ∧ w'.cell? ⟨w3.heap.size, 0, none⟩ = some (.int .i64 1) ∧ w'.cell? ⟨w3.heap.size, 1, none⟩ = some (.int .u64 0) ∧ w'.cell? ⟨w3.heap.size, 2, none⟩ = some (.int .u64 1)) (first | exact O4.nextS (Below.refl _ _).drew (And.left (by assumption)) | exact O4.nextS (by assumption) (And.left (by assumption)))
    (first | (go_at_call 8; refine' (HD.out _ _).mono _; rotate_left; (first | exact DoIs.c1 | exact DoIs.c2 | exact DoIs.c3 | exact DoIs.c4 | exact DoIs.c5 | exact DoIs.c6 | exact DoIs.c7); rintro e' wn ⟨rfl, hb⟩))
  go_wp2_with fail
  go_quiet (fail)
  go_wp2
  go_ret
  exact ⟨rfl, below_drewN (O4.below (And.left (by assumption))) _⟩
end Go.Proofs.YtbaihikhmmhnpaaDoor
