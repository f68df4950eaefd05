/- pointsmanlaw01.BitsOrders, walked: its other cases. -/
import Derived.Test.YtbaihikhmmhnpaaDoorOrd
namespace Go.Proofs.YtbaihikhmmhnpaaDoor
open Go.RowKit

set_option maxRecDepth 100000 in
set_option maxHeartbeats 4000000 in
theorem ord_lo1 (n x0 x1 y0 y1 z0 z1 ah al bl ch cl : Int) (w : World) (ht : w.cell? ⟨3, 15, none⟩ = some (.int .u8 4)) (hw : al < bl) (hw2 : (al == bl) = false)
    (HN : ∀ W, Calls Tryd.prog 6 #[.agg #[.int .i64 n, .int .u64 x0, .int .u64 x1, .int .u64 y0, .int .u64 y1, .int .u64 z0, .int .u64 z1]] W fun e w' => e = .returned (.tuple #[.agg #[.int .i64 n, .int .u64 ah, .int .u64 al], .agg #[.int .i64 n, .int .u64 ah, .int .u64 bl], .agg #[.int .i64 n, .int .u64 ch, .int .u64 cl], .bool true]) ∧ Below W.heap.size W w')
    (HD0 : ∀ {op x y r}, DoIs n ah al ah bl ch cl 1 0 0 1 1 1 1 op x y r → ∀ W, Calls Tryd.prog 8 #[op, x, y] W fun e w' => e = .returned r ∧ Below W.heap.size W w') :
    Calls Tryd.prog 5 #[.agg #[.int .i64 n, .int .u64 x0, .int .u64 x1, .int .u64 y0, .int .u64 y1, .int .u64 z0, .int .u64 z1]] w fun e w' => e = .returned (.bool true) ∧ Below w.heap.size w w' := by
  have hG : 3 < w.heap.size := World.block_lt_of_cell? w _ ht
  have HT := hide ht
  have HN' := hide HN
  have HD : Hid (∀ {op x y r}, DoIs n ah al ah bl ch cl 1 0 0 1 1 1 1 op x y r → ∀ W, _) := fun h W => HD0 h W
  clear HN HD0 ht
  go_enter Tryd.func5, Tryd.ntmps5
  go_wp2_with fail
  refine (HN'.out _).mono ?_
  rintro e' w1 ⟨rfl, hb1⟩
  have B1 : Hid (Below w.heap.size w w1) := ((Below.refl _ w).alloc (Nat.le_refl _) _).trans (hb1.mono (by simp))
  clear hb1
  have b13 : Hid (Below w1.heap.size w1 (((w1.alloc (.cells #[.int .i64 n, .int .u64 ah, .int .u64 al] 27)).alloc (.cells #[.int .i64 n, .int .u64 ah, .int .u64 bl] 27)).alloc (.cells #[.int .i64 n, .int .u64 ch, .int .u64 cl] 27))) := (((Below.refl _ w1).alloc (Nat.le_refl _) _).alloc (by simp) _).alloc (by simp <;> omega) _
  have Q := hide (o3 w1 n ah al n ah bl n ch cl)
  go_wp2_with fail
  refine (alive_any _ (by rw [(B1.out.trans (b13.out.mono B1.out.size)).cell (p := ⟨3, 15, none⟩) hG]; exact HT.out)).mono ?_
  rintro e' w2 ⟨rfl, hb2⟩
  have B2 := hide (B1.out.trans ((b13.out.trans (hb2.mono b13.out.size)).mono B1.out.size))
  have Q2 := hide (Q.out.keep hb2)
  clear hb2 Q b13 B1
  go_wp2_with fail
  refine (num_any 1 1 _).mono ?_
  rintro e' w3 ⟨rfl, hb3⟩
  have O : Hid (O4 w (w3.alloc (.cells #[.int .i64 1, .int .u64 0, .int .u64 1] 27)) w1.heap.size (w1.heap.size + 1) (w1.heap.size + 1 + 1) w3.heap.size n ah al ah bl ch cl) := Q2.out.toO4 B2.out hb3
  clear hb3 Q2 B2
  go_wp2_with fail
  go_region_held3 (fun w' => O4 w w' w1.heap.size (w1.heap.size + 1) (w1.heap.size + 1 + 1) w3.heap.size n ah al ah bl ch cl ∧ w'.cell? ⟨w1.heap.size, 0, none⟩ = some (.int .i64 n) ∧ w'.cell? ⟨w1.heap.size, 1, none⟩ = some (.int .u64 ah) ∧ w'.cell? ⟨w1.heap.size, 2, none⟩ = some (.int .u64 al) ∧ w'.cell? ⟨w1.heap.size + 1, 0, none⟩ = some (.int .i64 n) ∧ w'.cell? ⟨w1.heap.size + 1, 1, none⟩ = some (.int .u64 ah) ∧ w'.cell? ⟨w1.heap.size + 1, 2, none⟩ = some (.int .u64 bl) ∧ w'.cell? ⟨w1.heap.size + 1 + 1, 0, none⟩ = some (.int .i64 n) ∧ w'.cell? ⟨w1.heap.size + 1 + 1, 1, none⟩ = some (.int .u64 ch) ∧ w'.cell? ⟨w1.heap.size + 1 + 1, 2, none⟩ = some (.int .u64 cl) ∧ w'.cell? ⟨w3.heap.size, 0, none⟩ = some (.int .i64 1) ∧ w'.cell? ⟨w3.heap.size, 1, none⟩ = some (.int .u64 0) ∧ w'.cell? ⟨w3.heap.size, 2, none⟩ = some (.int .u64 1)) (first | exact O4.nextS (Below.refl _ _).drew O.out | exact O4.nextS (by assumption) (And.left (by assumption)))
    (first | (go_at_call 8; refine' (HD.out _ _).mono _; rotate_left; (first | exact DoIs.c1 | exact DoIs.c2 | exact DoIs.c3 | exact DoIs.c4 | exact DoIs.c5 | exact DoIs.c6 | exact DoIs.c7); rintro e' wn ⟨rfl, hb⟩))
  go_wp2_with fail
  go_region_held3 (fun w' => O4 w w' w1.heap.size (w1.heap.size + 1) (w1.heap.size + 1 + 1) w3.heap.size n ah al ah bl ch cl ∧ w'.cell? ⟨w1.heap.size, 0, none⟩ = some (.int .i64 n) ∧ w'.cell? ⟨w1.heap.size, 1, none⟩ = some (.int .u64 ah) ∧ w'.cell? ⟨w1.heap.size, 2, none⟩ = some (.int .u64 al) ∧ w'.cell? ⟨w1.heap.size + 1, 0, none⟩ = some (.int .i64 n) ∧ w'.cell? ⟨w1.heap.size + 1, 1, none⟩ = some (.int .u64 ah) ∧ w'.cell? ⟨w1.heap.size + 1, 2, none⟩ = some (.int .u64 bl) ∧ w'.cell? ⟨w1.heap.size + 1 + 1, 0, none⟩ = some (.int .i64 n) ∧ w'.cell? ⟨w1.heap.size + 1 + 1, 1, none⟩ = some (.int .u64 ch) ∧ w'.cell? ⟨w1.heap.size + 1 + 1, 2, none⟩ = some (.int .u64 cl) ∧ w'.cell? ⟨w3.heap.size, 0, none⟩ = some (.int .i64 1) ∧ w'.cell? ⟨w3.heap.size, 1, none⟩ = some (.int .u64 0) ∧ w'.cell? ⟨w3.heap.size, 2, none⟩ = some (.int .u64 1)) (first | exact O4.nextS (Below.refl _ _).drew (And.left (by assumption)) | exact O4.nextS (by assumption) (And.left (by assumption)))
    (first | (go_at_call 8; refine' (HD.out _ _).mono _; rotate_left; (first | exact DoIs.c1 | exact DoIs.c2 | exact DoIs.c3 | exact DoIs.c4 | exact DoIs.c5 | exact DoIs.c6 | exact DoIs.c7); rintro e' wn ⟨rfl, hb⟩))
  go_wp2_with fail
  go_region_held3 (fun w' => O4 w w' w1.heap.size (w1.heap.size + 1) (w1.heap.size + 1 + 1) w3.heap.size n ah al ah bl ch cl ∧ w'.cell? ⟨w1.heap.size, 0, none⟩ = some (.int .i64 n) ∧ w'.cell? ⟨w1.heap.size, 1, none⟩ = some (.int .u64 ah) ∧ w'.cell? ⟨w1.heap.size, 2, none⟩ = some (.int .u64 al) ∧ w'.cell? ⟨w1.heap.size + 1, 0, none⟩ = some (.int .i64 n) ∧ w'.cell? ⟨w1.heap.size + 1, 1, none⟩ = some (.int .u64 ah) ∧ w'.cell? ⟨w1.heap.size + 1, 2, none⟩ = some (.int .u64 bl) ∧ w'.cell? ⟨w1.heap.size + 1 + 1, 0, none⟩ = some (.int .i64 n) ∧ w'.cell? ⟨w1.heap.size + 1 + 1, 1, none⟩ = some (.int .u64 ch) ∧ w'.cell? ⟨w1.heap.size + 1 + 1, 2, none⟩ = some (.int .u64 cl) ∧ w'.cell? ⟨w3.heap.size, 0, none⟩ = some (.int .i64 1) ∧ w'.cell? ⟨w3.heap.size, 1, none⟩ = some (.int .u64 0) ∧ w'.cell? ⟨w3.heap.size, 2, none⟩ = some (.int .u64 1)) (first | exact O4.nextS (Below.refl _ _).drew (And.left (by assumption)) | exact O4.nextS (by assumption) (And.left (by assumption)))
    (first | (go_at_call 8; refine' (HD.out _ _).mono _; rotate_left; (first | exact DoIs.c1 | exact DoIs.c2 | exact DoIs.c3 | exact DoIs.c4 | exact DoIs.c5 | exact DoIs.c6 | exact DoIs.c7); rintro e' wn ⟨rfl, hb⟩))
  all_goals
    go_wp2
    go_ret
    exact ⟨rfl, O4.below (And.left (by assumption))⟩
end Go.Proofs.YtbaihikhmmhnpaaDoor
