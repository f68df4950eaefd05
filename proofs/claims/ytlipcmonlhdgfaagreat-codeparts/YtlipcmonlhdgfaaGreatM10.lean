/- Pieces of the proof: TqCode. -/
import Derived.Test.YtlipcmonlhdgfaaGreatM6
import Derived.Test.YtlipcmonlhdgfaaGreatM7
import Derived.Test.YtlipcmonlhdgfaaGreatM8
import Derived.Test.YtlipcmonlhdgfaaGreatM9
/- TwinCode. -/
namespace Go.Proofs.YtlipcmonlhdgfaaGreat
open Go.RowKit

/- A twin of code: its slots lie below all else. -/
def kCo (W : World) (B : Nat) (x : CoL) : Prop := ∃ B1, B + 2 ≤ B1 ∧ (∀ q, x.sa = some q → q.block < B1) ∧ zT W B x.sa x.sc x.sl ∧ hT W B1 x.ha x.hc x.hd ∧ zT W B1 x.ma x.mc x.mt ∧ dT W B1 x.ta x.tc x.st ∧ iT W B1 x.na x.nc x.mn ∧ aT W B1 x.aa x.acc x.ac ∧ tT W B1 x.ba x.bc x.tb ∧ zT W B1 x.ea x.ec x.em ∧ yT W B1 x.ra x.rc x.ar
set_option maxRecDepth 100000 in
theorem sz_qCode : ∀ w : World, (sizeOf 30).run Tryz.prog w = .ok 9 w := fun w => by rfl
set_option maxRecDepth 100000 in
theorem ag_qCode : ∀ w : World, (isAgg 30).run Tryz.prog w = .ok true w := fun w => by rfl
set_option maxRecDepth 100000 in
set_option maxHeartbeats 16000000 in
theorem tqCode_any (y : CoL) (W : World) (hy : CoR W y) : Calls Tryz.prog 7 #[.agg y.cells.toArray] W fun e w' => ∃ z : CoL, e = .returned (.agg z.cells.toArray) ∧ bCo z = bCo y ∧ kCo w' W.heap.size z ∧ Below W.heap.size W w' := by
  have HC0 : Hid (∀ W', Below W.heap.size W W' → _) := fun W' hb => tqInts_any y.sa y.sc y.sl W' hy.sl.ln (liZ (hy.sl.rd.below hb))
  have HC1 : Hid (∀ W', Below W.heap.size W W' → _) := fun W' hb => tqHeads_any y.ha y.hc y.hd W' (hy.hd.below hb)
  have HC2 : Hid (∀ W', Below W.heap.size W W' → _) := fun W' hb => tqInts_any y.ma y.mc y.mt W' hy.mt.ln (liZ (hy.mt.rd.below hb))
  have HC3 : Hid (∀ W', Below W.heap.size W W' → _) := fun W' hb => tqNodes_any y.ta y.tc y.st W' (hy.st.below hb)
  have HC4 : Hid (∀ W', Below W.heap.size W W' → _) := fun W' hb => tqInses_any y.na y.nc y.mn W' (hy.mn.below hb)
  have HC5 : Hid (∀ W', Below W.heap.size W W' → _) := fun W' hb => tqActs_any y.aa y.acc y.ac W' (hy.ac.below hb)
  have HC6 : Hid (∀ W', Below W.heap.size W W' → _) := fun W' hb => tqTables_any y.ba y.bc y.tb W' (hy.tb.below hb)
  have HC7 : Hid (∀ W', Below W.heap.size W W' → _) := fun W' hb => tqInts_any y.ea y.ec y.em W' hy.em.ln (liZ (hy.em.rd.below hb))
  have HC8 : Hid (∀ W', Below W.heap.size W W' → _) := fun W' hb => tqArrs_any y.ra y.rc y.ar W' hy.ar.ln (hy.ar.rd.below hb)
  clear hy
  obtain ⟨sl, sa, sc, hd, ha, hc, mt, ma, mc, st, ta, tc, mn, na, nc, ac, aa, acc, tb, ba, bc, em, ea, ec, ar, ra, rc⟩ := y
  simp only [CoL.cells] at *
  go_enter Tryz.func7, Tryz.ntmps7
  go_wp2
  have hS0 : TwX W 30 9 #[.slice sa sl.length sc, .slice ha hd.length hc, .slice ma mt.length mc, .slice ta st.length tc, .slice na mn.length nc, .slice aa ac.length acc, .slice ba tb.length bc, .slice ea em.length ec, .slice ra ar.length rc] ((W.alloc (.cells #[.slice sa sl.length sc, .slice ha hd.length hc, .slice ma mt.length mc, .slice ta st.length tc, .slice na mn.length nc, .slice aa ac.length acc, .slice ba tb.length bc, .slice ea em.length ec, .slice ra ar.length rc] 30)).alloc (.cells #[.slice none 0 0, .slice none 0 0, .slice none 0 0, .slice none 0 0, .slice none 0 0, .slice none 0 0, .slice none 0 0, .slice none 0 0, .slice none 0 0] 30)).drew := TwX.start rfl
  generalize (W.alloc (.cells #[.slice sa sl.length sc, .slice ha hd.length hc, .slice ma mt.length mc, .slice ta st.length tc, .slice na mn.length nc, .slice aa ac.length acc, .slice ba tb.length bc, .slice ea em.length ec, .slice ra ar.length rc] 30)).alloc (.cells #[.slice none 0 0, .slice none 0 0, .slice none 0 0, .slice none 0 0, .slice none 0 0, .slice none 0 0, .slice none 0 0, .slice none 0 0, .slice none 0 0] 30) = w1 at *
  refine wp_region_noPanic ?_
  refine wp_region_held_drew (S := TwX W 30 9 #[.slice sa sl.length sc, .slice ha hd.length hc, .slice ma mt.length mc, .slice ta st.length tc, .slice na mn.length nc, .slice aa ac.length acc, .slice ba tb.length bc, .slice ea em.length ec, .slice ra ar.length rc]) (by kernel_rfl) hS0 (fun hHeld => ?_)
  clear hS0
  generalize w1.drew = yw at *
  refine wpAnyH_take (i := 0) (v := ?_) rfl (by kernel_rfl) (by kernel_rfl) (by kernel_rfl) (fun _ _ _ h => h) (Or.inl ⟨by kernel_rfl, ?_⟩) hHeld ?_
  rotate_left
  · (intro w hSw; clear hSw; go_simp; try (with_reducible rfl))
  refine wpAnyH_take (i := 1) (v := ?_) rfl (by kernel_rfl) (by kernel_rfl) (by kernel_rfl) (fun _ _ _ h => h) (Or.inl ⟨by kernel_rfl, ?_⟩) hHeld ?_
  rotate_left
  · (intro w hSw; have hc0 := cel_of hSw.2.1 0 rfl; clear hSw; go_simp; try (with_reducible rfl))
  refine wpAnyH_take (i := 3) (v := ?_) rfl (by kernel_rfl) (by kernel_rfl) (by kernel_rfl) (fun _ _ _ h => h) (Or.inl ⟨by kernel_rfl, ?_⟩) hHeld ?_
  rotate_left
  · (intro w hSw; clear hSw; go_simp; try (with_reducible rfl))
  refine wpAnyH_take (i := 4) (v := ?_) rfl (by kernel_rfl) (by kernel_rfl) (by kernel_rfl) (fun _ _ _ h => h) (Or.inl ⟨by kernel_rfl, ?_⟩) hHeld ?_
  rotate_left
  · (intro w hSw; have hc1 := cel_of hSw.2.1 1 rfl; clear hSw; go_simp; try (with_reducible rfl))
  refine wpAnyH_take (i := 6) (v := ?_) rfl (by kernel_rfl) (by kernel_rfl) (by kernel_rfl) (fun _ _ _ h => h) (Or.inl ⟨by kernel_rfl, ?_⟩) hHeld ?_
  rotate_left
  · (intro w hSw; clear hSw; go_simp; try (with_reducible rfl))
  refine wpAnyH_take (i := 7) (v := ?_) rfl (by kernel_rfl) (by kernel_rfl) (by kernel_rfl) (fun _ _ _ h => h) (Or.inl ⟨by kernel_rfl, ?_⟩) hHeld ?_
  rotate_left
  · (intro w hSw; have hc2 := cel_of hSw.2.1 2 rfl; clear hSw; go_simp; try (with_reducible rfl))
  refine wpAnyH_take (i := 9) (v := ?_) rfl (by kernel_rfl) (by kernel_rfl) (by kernel_rfl) (fun _ _ _ h => h) (Or.inl ⟨by kernel_rfl, ?_⟩) hHeld ?_
  rotate_left
  · (intro w hSw; clear hSw; go_simp; try (with_reducible rfl))
  refine wpAnyH_take (i := 10) (v := ?_) rfl (by kernel_rfl) (by kernel_rfl) (by kernel_rfl) (fun _ _ _ h => h) (Or.inl ⟨by kernel_rfl, ?_⟩) hHeld ?_
  rotate_left
  · (intro w hSw; have hc3 := cel_of hSw.2.1 3 rfl; clear hSw; go_simp; try (with_reducible rfl))
  refine wpAnyH_take (i := 12) (v := ?_) rfl (by kernel_rfl) (by kernel_rfl) (by kernel_rfl) (fun _ _ _ h => h) (Or.inl ⟨by kernel_rfl, ?_⟩) hHeld ?_
  rotate_left
  · (intro w hSw; clear hSw; go_simp; try (with_reducible rfl))
  refine wpAnyH_take (i := 13) (v := ?_) rfl (by kernel_rfl) (by kernel_rfl) (by kernel_rfl) (fun _ _ _ h => h) (Or.inl ⟨by kernel_rfl, ?_⟩) hHeld ?_
  rotate_left
  · (intro w hSw; have hc4 := cel_of hSw.2.1 4 rfl; clear hSw; go_simp; try (with_reducible rfl))
  refine wpAnyH_take (i := 15) (v := ?_) rfl (by kernel_rfl) (by kernel_rfl) (by kernel_rfl) (fun _ _ _ h => h) (Or.inl ⟨by kernel_rfl, ?_⟩) hHeld ?_
  rotate_left
  · (intro w hSw; clear hSw; go_simp; try (with_reducible rfl))
  refine wpAnyH_take (i := 16) (v := ?_) rfl (by kernel_rfl) (by kernel_rfl) (by kernel_rfl) (fun _ _ _ h => h) (Or.inl ⟨by kernel_rfl, ?_⟩) hHeld ?_
  rotate_left
  · (intro w hSw; have hc5 := cel_of hSw.2.1 5 rfl; clear hSw; go_simp; try (with_reducible rfl))
  refine wpAnyH_take (i := 18) (v := ?_) rfl (by kernel_rfl) (by kernel_rfl) (by kernel_rfl) (fun _ _ _ h => h) (Or.inl ⟨by kernel_rfl, ?_⟩) hHeld ?_
  rotate_left
  · (intro w hSw; clear hSw; go_simp; try (with_reducible rfl))
  refine wpAnyH_take (i := 19) (v := ?_) rfl (by kernel_rfl) (by kernel_rfl) (by kernel_rfl) (fun _ _ _ h => h) (Or.inl ⟨by kernel_rfl, ?_⟩) hHeld ?_
  rotate_left
  · (intro w hSw; have hc6 := cel_of hSw.2.1 6 rfl; clear hSw; go_simp; try (with_reducible rfl))
  refine wpAnyH_take (i := 21) (v := ?_) rfl (by kernel_rfl) (by kernel_rfl) (by kernel_rfl) (fun _ _ _ h => h) (Or.inl ⟨by kernel_rfl, ?_⟩) hHeld ?_
  rotate_left
  · (intro w hSw; clear hSw; go_simp; try (with_reducible rfl))
  refine wpAnyH_take (i := 22) (v := ?_) rfl (by kernel_rfl) (by kernel_rfl) (by kernel_rfl) (fun _ _ _ h => h) (Or.inl ⟨by kernel_rfl, ?_⟩) hHeld ?_
  rotate_left
  · (intro w hSw; have hc7 := cel_of hSw.2.1 7 rfl; clear hSw; go_simp; try (with_reducible rfl))
  refine wpAnyH_take (i := 24) (v := ?_) rfl (by kernel_rfl) (by kernel_rfl) (by kernel_rfl) (fun _ _ _ h => h) (Or.inl ⟨by kernel_rfl, ?_⟩) hHeld ?_
  rotate_left
  · (intro w hSw; clear hSw; go_simp; try (with_reducible rfl))
  refine wpAnyH_take (i := 25) (v := ?_) rfl (by kernel_rfl) (by kernel_rfl) (by kernel_rfl) (fun _ _ _ h => h) (Or.inl ⟨by kernel_rfl, ?_⟩) hHeld ?_
  rotate_left
  · (intro w hSw; have hc8 := cel_of hSw.2.1 8 rfl; clear hSw; go_simp; try (with_reducible rfl))
  refine wpAnyH_ready (rs := [2]) (by kernel_rfl) (by simp) ?_
  refine AllReadyH.cons rfl (fun K hK => ?_) AllReadyH.nil
  go_simp
  refine (HC0.out _ hHeld.1).mono ?_
  rintro e y0 ⟨g0, d0, rfl, k0, b0⟩
  have K0 : Hid (zT y0 yw.heap.size (some ⟨g0, 0, none⟩) d0 sl) := k0
  have Z0 : Hid (W.heap.size + 2 ≤ yw.heap.size) := hHeld.2.2.2
  have Q0 : Hid (∀ q, some (⟨g0, 0, none⟩ : Addr) = some q → q.block < y0.heap.size) := fun q e => by
    injection e with e
    subst e
    exact (World.ownsRow.lt K0.out.own g0 rfl).2
  replace hHeld := hHeld.next b0
  clear k0 b0
  go_wp2_with fail
  refine hK.out _ _ hHeld (fun _ => ?_)
  clear hK K
  refine wpAnyH_ready (rs := [5]) (by kernel_rfl) (by simp) ?_
  refine AllReadyH.cons rfl (fun K hK => ?_) AllReadyH.nil
  go_simp
  refine (HC1.out _ hHeld.1).mono ?_
  rintro e y1 ⟨g1, d1, x1, rfl, m1, k1, b1⟩
  have M1 := hide m1
  clear m1
  have K1 : Hid (hT y1 y0.heap.size (some ⟨g1, 0, none⟩) d1 x1) := k1
  have Z1 : Hid (W.heap.size + 2 ≤ y0.heap.size) := hHeld.2.2.2
  have Y1 : Hid (y0.heap.size ≤ y0.heap.size) := Nat.le_refl _
  have T1 : Hid (y0.heap.size ≤ y1.heap.size) := b1.size
  have K0 := hide (zT.fr (us := tsU) (by simp [tsU]) K0.out (E := fun _ => False) (Fr.ofBelow b1) (fun _ e => e.elim))
  replace hHeld := hHeld.next b1
  clear k1 b1
  go_wp2_with fail
  refine hK.out _ _ hHeld (fun _ => ?_)
  clear hK K
  refine wpAnyH_ready (rs := [8]) (by kernel_rfl) (by simp) ?_
  refine AllReadyH.cons rfl (fun K hK => ?_) AllReadyH.nil
  go_simp
  refine (HC2.out _ hHeld.1).mono ?_
  rintro e y2 ⟨g2, d2, rfl, k2, b2⟩
  have K2 : Hid (zT y2 y1.heap.size (some ⟨g2, 0, none⟩) d2 mt) := k2
  have Z2 : Hid (W.heap.size + 2 ≤ y1.heap.size) := hHeld.2.2.2
  have Y2 := T1
  have T2 : Hid (y0.heap.size ≤ y2.heap.size) := Nat.le_trans T1.out b2.size
  have K0 := hide (zT.fr (us := tsU) (by simp [tsU]) K0.out (E := fun _ => False) (Fr.ofBelow b2) (fun _ e => e.elim))
  have K1 := hide (hT.fr (us := tsU) (by simp [tsU]) (by simp [tsI, tsU]) K1.out (E := fun _ => False) (Fr.ofBelow b2) (fun _ e => e.elim))
  replace hHeld := hHeld.next b2
  clear k2 b2
  go_wp2_with fail
  refine hK.out _ _ hHeld (fun _ => ?_)
  clear hK K
  refine wpAnyH_ready (rs := [11]) (by kernel_rfl) (by simp) ?_
  refine AllReadyH.cons rfl (fun K hK => ?_) AllReadyH.nil
  go_simp
  refine (HC3.out _ hHeld.1).mono ?_
  rintro e y3 ⟨g3, d3, x3, rfl, m3, k3, b3⟩
  have M3 := hide m3
  clear m3
  have K3 : Hid (dT y3 y2.heap.size (some ⟨g3, 0, none⟩) d3 x3) := k3
  have Z3 : Hid (W.heap.size + 2 ≤ y2.heap.size) := hHeld.2.2.2
  have Y3 := T2
  have T3 : Hid (y0.heap.size ≤ y3.heap.size) := Nat.le_trans T2.out b3.size
  have K0 := hide (zT.fr (us := tsU) (by simp [tsU]) K0.out (E := fun _ => False) (Fr.ofBelow b3) (fun _ e => e.elim))
  have K1 := hide (hT.fr (us := tsU) (by simp [tsU]) (by simp [tsI, tsU]) K1.out (E := fun _ => False) (Fr.ofBelow b3) (fun _ e => e.elim))
  have K2 := hide (zT.fr (us := tsU) (by simp [tsU]) K2.out (E := fun _ => False) (Fr.ofBelow b3) (fun _ e => e.elim))
  replace hHeld := hHeld.next b3
  clear k3 b3
  go_wp2_with fail
  refine hK.out _ _ hHeld (fun _ => ?_)
  clear hK K
  refine wpAnyH_ready (rs := [14]) (by kernel_rfl) (by simp) ?_
  refine AllReadyH.cons rfl (fun K hK => ?_) AllReadyH.nil
  go_simp
  refine (HC4.out _ hHeld.1).mono ?_
  rintro e y4 ⟨g4, d4, x4, rfl, m4, k4, b4⟩
  have M4 := hide m4
  clear m4
  have K4 : Hid (iT y4 y3.heap.size (some ⟨g4, 0, none⟩) d4 x4) := k4
  have Z4 : Hid (W.heap.size + 2 ≤ y3.heap.size) := hHeld.2.2.2
  have Y4 := T3
  have T4 : Hid (y0.heap.size ≤ y4.heap.size) := Nat.le_trans T3.out b4.size
  have K0 := hide (zT.fr (us := tsU) (by simp [tsU]) K0.out (E := fun _ => False) (Fr.ofBelow b4) (fun _ e => e.elim))
  have K1 := hide (hT.fr (us := tsU) (by simp [tsU]) (by simp [tsI, tsU]) K1.out (E := fun _ => False) (Fr.ofBelow b4) (fun _ e => e.elim))
  have K2 := hide (zT.fr (us := tsU) (by simp [tsU]) K2.out (E := fun _ => False) (Fr.ofBelow b4) (fun _ e => e.elim))
  have K3 := hide (dT.fr (us := tsU) (by simp [tsU]) (by simp [tsA, tsU]) K3.out (E := fun _ => False) (Fr.ofBelow b4) (fun _ e => e.elim))
  replace hHeld := hHeld.next b4
  clear k4 b4
  go_wp2_with fail
  refine hK.out _ _ hHeld (fun _ => ?_)
  clear hK K
  refine wpAnyH_ready (rs := [17]) (by kernel_rfl) (by simp) ?_
  refine AllReadyH.cons rfl (fun K hK => ?_) AllReadyH.nil
  go_simp
  refine (HC5.out _ hHeld.1).mono ?_
  rintro e y5 ⟨g5, d5, x5, rfl, m5, k5, b5⟩
  have M5 := hide m5
  clear m5
  have K5 : Hid (aT y5 y4.heap.size (some ⟨g5, 0, none⟩) d5 x5) := k5
  have Z5 : Hid (W.heap.size + 2 ≤ y4.heap.size) := hHeld.2.2.2
  have Y5 := T4
  have T5 : Hid (y0.heap.size ≤ y5.heap.size) := Nat.le_trans T4.out b5.size
  have K0 := hide (zT.fr (us := tsU) (by simp [tsU]) K0.out (E := fun _ => False) (Fr.ofBelow b5) (fun _ e => e.elim))
  have K1 := hide (hT.fr (us := tsU) (by simp [tsU]) (by simp [tsI, tsU]) K1.out (E := fun _ => False) (Fr.ofBelow b5) (fun _ e => e.elim))
  have K2 := hide (zT.fr (us := tsU) (by simp [tsU]) K2.out (E := fun _ => False) (Fr.ofBelow b5) (fun _ e => e.elim))
  have K3 := hide (dT.fr (us := tsU) (by simp [tsU]) (by simp [tsA, tsU]) K3.out (E := fun _ => False) (Fr.ofBelow b5) (fun _ e => e.elim))
  have K4 := hide (iT.fr (us := tsU) (by simp [tsU]) (by simp [tsU]) K4.out (E := fun _ => False) (Fr.ofBelow b5) (fun _ e => e.elim))
  replace hHeld := hHeld.next b5
  clear k5 b5
  go_wp2_with fail
  refine hK.out _ _ hHeld (fun _ => ?_)
  clear hK K
  refine wpAnyH_ready (rs := [20]) (by kernel_rfl) (by simp) ?_
  refine AllReadyH.cons rfl (fun K hK => ?_) AllReadyH.nil
  go_simp
  refine (HC6.out _ hHeld.1).mono ?_
  rintro e y6 ⟨g6, d6, x6, rfl, m6, k6, b6⟩
  have M6 := hide m6
  clear m6
  have K6 : Hid (tT y6 y5.heap.size (some ⟨g6, 0, none⟩) d6 x6) := k6
  have Z6 : Hid (W.heap.size + 2 ≤ y5.heap.size) := hHeld.2.2.2
  have Y6 := T5
  have T6 : Hid (y0.heap.size ≤ y6.heap.size) := Nat.le_trans T5.out b6.size
  have K0 := hide (zT.fr (us := tsU) (by simp [tsU]) K0.out (E := fun _ => False) (Fr.ofBelow b6) (fun _ e => e.elim))
  have K1 := hide (hT.fr (us := tsU) (by simp [tsU]) (by simp [tsI, tsU]) K1.out (E := fun _ => False) (Fr.ofBelow b6) (fun _ e => e.elim))
  have K2 := hide (zT.fr (us := tsU) (by simp [tsU]) K2.out (E := fun _ => False) (Fr.ofBelow b6) (fun _ e => e.elim))
  have K3 := hide (dT.fr (us := tsU) (by simp [tsU]) (by simp [tsA, tsU]) K3.out (E := fun _ => False) (Fr.ofBelow b6) (fun _ e => e.elim))
  have K4 := hide (iT.fr (us := tsU) (by simp [tsU]) (by simp [tsU]) K4.out (E := fun _ => False) (Fr.ofBelow b6) (fun _ e => e.elim))
  have K5 := hide (aT.fr (us := tsU) (by simp [tsU]) (by simp [tsA, tsU]) K5.out (E := fun _ => False) (Fr.ofBelow b6) (fun _ e => e.elim))
  replace hHeld := hHeld.next b6
  clear k6 b6
  go_wp2_with fail
  refine hK.out _ _ hHeld (fun _ => ?_)
  clear hK K
  refine wpAnyH_ready (rs := [23]) (by kernel_rfl) (by simp) ?_
  refine AllReadyH.cons rfl (fun K hK => ?_) AllReadyH.nil
  go_simp
  refine (HC7.out _ hHeld.1).mono ?_
  rintro e y7 ⟨g7, d7, rfl, k7, b7⟩
  have K7 : Hid (zT y7 y6.heap.size (some ⟨g7, 0, none⟩) d7 em) := k7
  have Z7 : Hid (W.heap.size + 2 ≤ y6.heap.size) := hHeld.2.2.2
  have Y7 := T6
  have T7 : Hid (y0.heap.size ≤ y7.heap.size) := Nat.le_trans T6.out b7.size
  have K0 := hide (zT.fr (us := tsU) (by simp [tsU]) K0.out (E := fun _ => False) (Fr.ofBelow b7) (fun _ e => e.elim))
  have K1 := hide (hT.fr (us := tsU) (by simp [tsU]) (by simp [tsI, tsU]) K1.out (E := fun _ => False) (Fr.ofBelow b7) (fun _ e => e.elim))
  have K2 := hide (zT.fr (us := tsU) (by simp [tsU]) K2.out (E := fun _ => False) (Fr.ofBelow b7) (fun _ e => e.elim))
  have K3 := hide (dT.fr (us := tsU) (by simp [tsU]) (by simp [tsA, tsU]) K3.out (E := fun _ => False) (Fr.ofBelow b7) (fun _ e => e.elim))
  have K4 := hide (iT.fr (us := tsU) (by simp [tsU]) (by simp [tsU]) K4.out (E := fun _ => False) (Fr.ofBelow b7) (fun _ e => e.elim))
  have K5 := hide (aT.fr (us := tsU) (by simp [tsU]) (by simp [tsA, tsU]) K5.out (E := fun _ => False) (Fr.ofBelow b7) (fun _ e => e.elim))
  have K6 := hide (tT.fr (us := tsU) (by simp [tsU]) (by simp [tsA, tsU]) K6.out (E := fun _ => False) (Fr.ofBelow b7) (fun _ e => e.elim))
  replace hHeld := hHeld.next b7
  clear k7 b7
  go_wp2_with fail
  refine hK.out _ _ hHeld (fun _ => ?_)
  clear hK K
  refine wpAnyH_ready (rs := [26]) (by kernel_rfl) (by simp) ?_
  refine AllReadyH.cons rfl (fun K hK => ?_) AllReadyH.nil
  go_simp
  refine (HC8.out _ hHeld.1).mono ?_
  rintro e y8 ⟨g8, d8, rfl, k8, b8⟩
  have K8 : Hid (yT y8 y7.heap.size (some ⟨g8, 0, none⟩) d8 ar) := k8
  have Z8 : Hid (W.heap.size + 2 ≤ y7.heap.size) := hHeld.2.2.2
  have Y8 := T7
  have T8 : Hid (y0.heap.size ≤ y8.heap.size) := Nat.le_trans T7.out b8.size
  have K0 := hide (zT.fr (us := tsU) (by simp [tsU]) K0.out (E := fun _ => False) (Fr.ofBelow b8) (fun _ e => e.elim))
  have K1 := hide (hT.fr (us := tsU) (by simp [tsU]) (by simp [tsI, tsU]) K1.out (E := fun _ => False) (Fr.ofBelow b8) (fun _ e => e.elim))
  have K2 := hide (zT.fr (us := tsU) (by simp [tsU]) K2.out (E := fun _ => False) (Fr.ofBelow b8) (fun _ e => e.elim))
  have K3 := hide (dT.fr (us := tsU) (by simp [tsU]) (by simp [tsA, tsU]) K3.out (E := fun _ => False) (Fr.ofBelow b8) (fun _ e => e.elim))
  have K4 := hide (iT.fr (us := tsU) (by simp [tsU]) (by simp [tsU]) K4.out (E := fun _ => False) (Fr.ofBelow b8) (fun _ e => e.elim))
  have K5 := hide (aT.fr (us := tsU) (by simp [tsU]) (by simp [tsA, tsU]) K5.out (E := fun _ => False) (Fr.ofBelow b8) (fun _ e => e.elim))
  have K6 := hide (tT.fr (us := tsU) (by simp [tsU]) (by simp [tsA, tsU]) K6.out (E := fun _ => False) (Fr.ofBelow b8) (fun _ e => e.elim))
  have K7 := hide (zT.fr (us := tsU) (by simp [tsU]) K7.out (E := fun _ => False) (Fr.ofBelow b8) (fun _ e => e.elim))
  replace hHeld := hHeld.next b8
  clear k8 b8
  go_wp2_with fail
  refine hK.out _ _ hHeld (fun _ => ?_)
  clear hK K
  refine wpAnyH_take (i := 27) (v := ?_) rfl (by kernel_rfl) (by kernel_rfl) (by kernel_rfl) (fun _ _ _ h => h) (Or.inl ⟨by kernel_rfl, ?_⟩) hHeld ?_
  rotate_left
  · (intro w hSw; clear hSw; go_simp; try (with_reducible rfl))
  obtain ⟨cur, hcur, hcs⟩ := hHeld.2.2.1
  refine wpAnyH_ready (rs := [28]) (by kernel_rfl) (by simp) ?_
  refine AllReadyH.cons rfl (fun K hK => ?_) AllReadyH.nil
  refine step_storeA rfl 30 _ _ rfl (W.heap.size + 1) [.slice (some ⟨g0, 0, none⟩) sl.length d0, .slice (some ⟨g1, 0, none⟩) hd.length d1, .slice (some ⟨g2, 0, none⟩) mt.length d2, .slice (some ⟨g3, 0, none⟩) st.length d3, .slice (some ⟨g4, 0, none⟩) mn.length d4, .slice (some ⟨g5, 0, none⟩) ac.length d5, .slice (some ⟨g6, 0, none⟩) tb.length d6, .slice (some ⟨g7, 0, none⟩) em.length d7, .slice (some ⟨g8, 0, none⟩) ar.length d8] cur 30 rfl rfl (fun w => by rfl) hcur hcs (by simp [Value.oneCell']) ?_
  intro w9 hw9
  have hfr : Fr (· = W.heap.size + 1) y8 w9 := by rw [hw9]; exact fr_all _ _ _ _
  have h9 := hHeld.store (cs := [.slice (some ⟨g0, 0, none⟩) sl.length d0, .slice (some ⟨g1, 0, none⟩) hd.length d1, .slice (some ⟨g2, 0, none⟩) mt.length d2, .slice (some ⟨g3, 0, none⟩) st.length d3, .slice (some ⟨g4, 0, none⟩) mn.length d4, .slice (some ⟨g5, 0, none⟩) ac.length d5, .slice (some ⟨g6, 0, none⟩) tb.length d6, .slice (some ⟨g7, 0, none⟩) em.length d7, .slice (some ⟨g8, 0, none⟩) ar.length d8]) rfl hw9
  refine hK.out _ _ h9.1 (fun _ => ?_)
  clear hK K
  refine wpAnyH_done (by kernel_rfl) ?_ _
  refine NoPanic.normal ?_
  have H1 := hide h9.1.1; have H2 := hide h9.2.1
  have P0 := hide ((zT.fr (us := tsU) (by simp [tsU]) K0.out hfr (fun b e => .inl (by have := Z0.out; omega))).lower (B' := W.heap.size) (by have := Z0.out; omega))
  have P1 := hide ((hT.fr (us := tsU) (by simp [tsU]) (by simp [tsI, tsU]) K1.out hfr (fun b e => .inl (by have := Z1.out; omega))).lower (B' := y0.heap.size) Y1.out)
  have L1 : Hid (hd.length = x1.length) := by show _ = _; have := congrArg List.length M1.out; simpa using this.symm
  have P2 := hide ((zT.fr (us := tsU) (by simp [tsU]) K2.out hfr (fun b e => .inl (by have := Z2.out; omega))).lower (B' := y0.heap.size) Y2.out)
  have P3 := hide ((dT.fr (us := tsU) (by simp [tsU]) (by simp [tsA, tsU]) K3.out hfr (fun b e => .inl (by have := Z3.out; omega))).lower (B' := y0.heap.size) Y3.out)
  have L3 : Hid (st.length = x3.length) := by show _ = _; have := congrArg List.length M3.out; simpa using this.symm
  have P4 := hide ((iT.fr (us := tsU) (by simp [tsU]) (by simp [tsU]) K4.out hfr (fun b e => .inl (by have := Z4.out; omega))).lower (B' := y0.heap.size) Y4.out)
  have L4 : Hid (mn.length = x4.length) := by show _ = _; have := congrArg List.length M4.out; simpa using this.symm
  have P5 := hide ((aT.fr (us := tsU) (by simp [tsU]) (by simp [tsA, tsU]) K5.out hfr (fun b e => .inl (by have := Z5.out; omega))).lower (B' := y0.heap.size) Y5.out)
  have L5 : Hid (ac.length = x5.length) := by show _ = _; have := congrArg List.length M5.out; simpa using this.symm
  have P6 := hide ((tT.fr (us := tsU) (by simp [tsU]) (by simp [tsA, tsU]) K6.out hfr (fun b e => .inl (by have := Z6.out; omega))).lower (B' := y0.heap.size) Y6.out)
  have L6 : Hid (tb.length = x6.length) := by show _ = _; have := congrArg List.length M6.out; simpa using this.symm
  have P7 := hide ((zT.fr (us := tsU) (by simp [tsU]) K7.out hfr (fun b e => .inl (by have := Z7.out; omega))).lower (B' := y0.heap.size) Y7.out)
  have P8 := hide ((yT.fr (us := tsU) (by simp [tsU]) K8.out hfr (fun b e => .inl (by have := Z8.out; omega))).lower (B' := y0.heap.size) Y8.out)
  clear hw9 h9 hHeld hcur hcs hfr
  go_wp2
  exact bodyPost_ret (res_cell (cs := [.slice (some ⟨g0, 0, none⟩) sl.length d0, .slice (some ⟨g1, 0, none⟩) hd.length d1, .slice (some ⟨g2, 0, none⟩) mt.length d2, .slice (some ⟨g3, 0, none⟩) st.length d3, .slice (some ⟨g4, 0, none⟩) mn.length d4, .slice (some ⟨g5, 0, none⟩) ac.length d5, .slice (some ⟨g6, 0, none⟩) tb.length d6, .slice (some ⟨g7, 0, none⟩) em.length d7, .slice (some ⟨g8, 0, none⟩) ar.length d8]) (e := 30) Tryz.results7 rfl ag_qCode sz_qCode H2.out) rfl ⟨⟨sl, some ⟨g0, 0, none⟩, d0, x1, some ⟨g1, 0, none⟩, d1, mt, some ⟨g2, 0, none⟩, d2, x3, some ⟨g3, 0, none⟩, d3, x4, some ⟨g4, 0, none⟩, d4, x5, some ⟨g5, 0, none⟩, d5, x6, some ⟨g6, 0, none⟩, d6, em, some ⟨g7, 0, none⟩, d7, ar, some ⟨g8, 0, none⟩, d8⟩, by simp only [L1.out, L3.out, L4.out, L5.out, L6.out], by simp only [bCo, M1.out, M3.out, M4.out, M5.out, M6.out], ⟨_, Z1.out, Q0.out, P0.out, P1.out, P2.out, P3.out, P4.out, P5.out, P6.out, P7.out, P8.out⟩, H1.out⟩
end Go.Proofs.YtlipcmonlhdgfaaGreat
