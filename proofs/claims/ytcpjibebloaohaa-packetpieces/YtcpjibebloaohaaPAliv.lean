/- pointsmanlaw02.alive, walked. -/
import Derived.Test.YtcpjibebloaohaaPAlive
namespace Go.Proofs.Ytcpjibebloaohaa
open Go.RowKit Go.Shelf

def x3 (W : World) (b : Nat) (x y z : Value) : Prop := W.cell? ⟨b, 0, none⟩ = some x ∧ W.cell? ⟨b, 1, none⟩ = some y ∧ W.cell? ⟨b, 2, none⟩ = some z
theorem x3.below {W W' : World} {b : Nat} {x y z : Value} (h : x3 W b x y z) (hb : Below W.heap.size W W') : x3 W' b x y z := by
  have hl : b < W.heap.size := World.block_lt_of_cell? W _ h.1
  exact ⟨(hb.cell (p := ⟨b, 0, none⟩) hl).trans h.1, (hb.cell (p := ⟨b, 1, none⟩) hl).trans h.2.1, (hb.cell (p := ⟨b, 2, none⟩) hl).trans h.2.2⟩
theorem x3.moved {W W' : World} {b g : Nat} {x y z : Value} (h : x3 W b x y z) (hm : Moved g W W') (hne : b ≠ g) : x3 W' b x y z := by
  have hl : b < W.heap.size := World.block_lt_of_cell? W _ h.1
  exact ⟨(hm.cell (p := ⟨b, 0, none⟩) hl hne).trans h.1, (hm.cell (p := ⟨b, 1, none⟩) hl hne).trans h.2.1, (hm.cell (p := ⟨b, 2, none⟩) hl hne).trans h.2.2⟩
structure PA (w W : World) (g q c bx bx2 : Nat) (vb : Value) : Prop where
  below : Below w.heap.size w W
  cur : Cur W g (some ⟨q, 0, none⟩) c px 12
  x : x3 W bx (.int .i64 4) (.int .u64 0) (.int .u64 10)
  y : x3 W bx2 (.int .i64 8) (.int .u64 0) (.int .u64 80)
  b : Row8 W vb [165, 0]
theorem PA.next {w W W' : World} {g q c bx bx2 : Nat} {vb : Value} (h : PA w W g q c bx bx2 vb) (hb : Below W.heap.size W W') : PA w W' g q c bx bx2 vb :=
  ⟨h.below.trans (hb.mono h.below.size), h.cur.keep hb, h.x.below hb, h.y.below hb, h.b.keep hb⟩
theorem same_pa {l : List Nat} {va vb : Value} {w : World} (ha : Row8 w va l) (hb : Row8 w vb l) (hl : l.length ≤ 1000) :
    Calls Try.prog 14 #[va, vb] w fun e w' => e = .returned (.bool true) ∧ Below w.heap.size w w' := same_yes l hl va vb w ha hb
theorem PA.all {w W : World} {g q c bx bx2 : Nat} {vb : Value} (h : PA w W g q c bx bx2 vb) : PA w W g q c bx bx2 vb ∧ W.cell? ⟨bx, 0, none⟩ = some (.int .i64 4) ∧ W.cell? ⟨bx, 1, none⟩ = some (.int .u64 0) ∧ W.cell? ⟨bx, 2, none⟩ = some (.int .u64 10) ∧ W.cell? ⟨bx2, 0, none⟩ = some (.int .i64 8) ∧ W.cell? ⟨bx2, 1, none⟩ = some (.int .u64 0) ∧ W.cell? ⟨bx2, 2, none⟩ = some (.int .u64 80) :=
  ⟨h, h.x.1, h.x.2.1, h.x.2.2, h.y.1, h.y.2.1, h.y.2.2⟩
theorem PA.nextS {w W W' : World} {g q c bx bx2 : Nat} {vb : Value} (hb : Below W.heap.size W W') (h : PA w W g q c bx bx2 vb) : PA w W' g q c bx bx2 vb ∧ W'.cell? ⟨bx, 0, none⟩ = some (.int .i64 4) ∧ W'.cell? ⟨bx, 1, none⟩ = some (.int .u64 0) ∧ W'.cell? ⟨bx, 2, none⟩ = some (.int .u64 10) ∧ W'.cell? ⟨bx2, 0, none⟩ = some (.int .i64 8) ∧ W'.cell? ⟨bx2, 1, none⟩ = some (.int .u64 0) ∧ W'.cell? ⟨bx2, 2, none⟩ = some (.int .u64 80) := (h.next hb).all
set_option maxRecDepth 100000 in
set_option maxHeartbeats 4000000 in
theorem palive_any (w : World) : Calls Try.prog 5 #[] w fun e w' => e = .returned (.bool true) ∧ Below w.heap.size w w' := by
  refine (callsIn_wide (n := 4)).1 ?_
  refine callsIn_of_wp Try.func5 rfl trivial ?_ rfl
  simp only [Try.ntmps5, List.size_toArray, List.length_nil, Nat.reduceSub, Array.replicate_succ, Array.replicate_zero, List.push_toArray, List.append_toArray, List.nil_append, List.cons_append]
  refine wpIn_wide.2 ?_
  go_wp2_with fail
  refine (palive_new w).mono ?_
  rintro e w1 ⟨g, q, c, rfl, hc, hg, k1, b1⟩
  have K1 := hide k1; have B1 := hide b1; have HC := hide hc
  clear k1 b1 hc
  go_wp2_with fail
  refine (palive_take1 K1.out).mono ?_
  rintro e w2 ⟨rfl, m2, k2⟩
  have B2 := hide (B1.out.trans (m2.below hg B1.out.size))
  have hz2 : g < w2.heap.size := k2.lt
  have K2 := hide (k2.keep ((Below.refl _ w2).alloc (Nat.le_refl _) (.cells #[.int .i64 4, .int .u64 0, .int .u64 10] 33)))
  have X2 := hide (new3 w2 (.int .i64 4) (.int .u64 0) (.int .u64 10) 33)
  clear m2 k2
  go_wp2_with fail
  refine (palive_take2 K2.out).mono ?_
  rintro e w3 ⟨rfl, m3, k3⟩
  have hz3 : w2.heap.size < w3.heap.size := by have := m3.size; simp at this; omega
  have B3 := hide ((B2.out.alloc B2.out.size (.cells #[.int .i64 4, .int .u64 0, .int .u64 10] 33)).trans (m3.below hg (by have := B2.out.size; simp; omega)))
  have X3 : Hid (x3 w3 w2.heap.size _ _ _) := x3.moved X2.out m3 (by omega)
  have K3 := hide (k3.keep ((Below.refl _ w3).alloc (Nat.le_refl _) (.cells #[.int .i64 8, .int .u64 0, .int .u64 80] 33)))
  have Y3 := hide (new3 w3 (.int .i64 8) (.int .u64 0) (.int .u64 80) 33)
  clear m3 k3
  go_wp2_with fail
  refine (palive_take3 K3.out).mono ?_
  rintro e w4 ⟨rfl, hb4⟩
  have bb := ((Below.refl _ w3).alloc (Nat.le_refl _) (.cells #[.int .i64 8, .int .u64 0, .int .u64 80] 33))
  have B4 := hide ((B3.out.alloc B3.out.size (.cells #[.int .i64 8, .int .u64 0, .int .u64 80] 33)).trans (hb4.mono (by have := B3.out.size; simp; omega)))
  have X4 := hide ((X3.out.below bb).below hb4)
  have Y4 : Hid (x3 w4 w3.heap.size _ _ _) := x3.below Y3.out hb4
  have K4 := hide (K3.out.keep hb4)
  have hz4 : w3.heap.size < w4.heap.size := by have := hb4.size; simp at this; omega
  clear bb hb4
  go_wp2_with fail
  refine (pnum_any 4 10 _).mono ?_
  rintro e w5 ⟨rfl, hb5⟩
  go_wp2_with fail
  refine (pnum_any 8 80 _).mono ?_
  rintro e w6 ⟨rfl, hb6⟩
  go_wp2_with fail
  refine (palive_put _ 2 w6.heap.size (pl_read w6 _)).mono ?_
  rintro e w7 ⟨gb, rfl, hrow, hb7⟩
  have b47 : Below w4.heap.size w4 w7 := by
    have h5 := hb5; have h6 := hb6; have h7 := hb7
    have s5 := h5.size; have s6 := h6.size
    simp only [World.size_alloc] at h5 h7 s5
    exact ((Below.refl _ w4).alloc (Nat.le_refl _) _).trans ((h5.mono (by omega)).trans ((h6.mono (by omega)).trans (((Below.refl _ w6).alloc (by omega) _).trans (h7.mono (by omega)))))
  have P : Hid (PA w w7.drew g q c w2.heap.size w3.heap.size (.slice (some ⟨gb, 0, none⟩) 2 2)) := (PA.mk (B4.out.trans (b47.mono B4.out.size)) (K4.out.keep b47) (X4.out.below b47) (Y4.out.below b47) hrow).next (Below.refl _ _).drew
  clear hb5 hb6 hb7 b47 hrow K1 B1 K2 X2 B2 B3 X3 K3 Y3 B4 X4 Y4 K4 hz2 hz3 hz4
  go_wp2_with fail
  go_region_held3 (fun w' => PA w w' g q c w2.heap.size w3.heap.size (.slice (some ⟨gb, 0, none⟩) 2 2) ∧ w'.cell? ⟨w2.heap.size, 0, none⟩ = some (.int .i64 4) ∧ w'.cell? ⟨w2.heap.size, 1, none⟩ = some (.int .u64 0) ∧ w'.cell? ⟨w2.heap.size, 2, none⟩ = some (.int .u64 10) ∧ w'.cell? ⟨w3.heap.size, 0, none⟩ = some (.int .i64 8) ∧ w'.cell? ⟨w3.heap.size, 1, none⟩ = some (.int .u64 0) ∧ w'.cell? ⟨w3.heap.size, 2, none⟩ = some (.int .u64 80)) (first | exact (P.out).all | exact PA.nextS (by assumption) (And.left (by assumption)) | exact PA.nextS ((Below.refl _ _).alloc (Nat.le_refl _) _) (And.left (by assumption)))
    (first
      | (go_at_call 13; refine (pnum_any _ _ _).mono ?_; rintro e wn ⟨rfl, hb⟩)
      | (go_at_call 9; refine (at_any (PA.cur (And.left (by assumption)))).mono ?_; rintro e wn ⟨rfl, hb⟩)
      | (go_at_call 10; refine (left_any (PA.cur (And.left (by assumption))) (by decide) (by decide)).mono ?_; rintro e wn ⟨rfl, hb⟩)
      | (go_at_call 11; refine (palive_rest (PA.cur (And.left (by assumption))) HC.out).mono ?_; rintro e wn ⟨qr, cr, rfl, hrow, hb⟩; have R := hide hrow; have HBR := hide hb; clear hrow)
      | (go_at_call 14; refine (same_pa (l := [60]) ?_ ?_ (by decide)).mono ?_; (first | exact R.out.keep ((Below.refl _ _).alloc (Nat.le_refl _) _) | exact R.out); (first | exact lit_row _ [60] #[.int .u8 60] rfl 1 | exact (lit_row _ [60] #[.int .u8 60] rfl 1).keep HBR.out); rintro e wn ⟨rfl, hb⟩)
      | (go_at_call 14; refine (same_pa (l := [165, 0]) ?_ ?_ (by decide)).mono ?_; exact PA.b (And.left (by assumption)); exact lit_row _ [165, 0] #[.int .u8 165, .int .u8 0] rfl 2; rintro e wn ⟨rfl, hb⟩))
  all_goals
    go_wp2
    go_ret
    exact ⟨rfl, PA.below (And.left (by assumption))⟩
end Go.Proofs.Ytcpjibebloaohaa
