/- Pieces of the proof: CpB, CpC, CpD. -/
import Derived.Test.YtlipcmonlhdgfaaGreatM38
import Derived.Deep.RegionHeld3
import Derived.Test.YtlipcmonlhdgfaaGreatM16
/- package code: a table's actions. -/
namespace Go.Proofs.YtlipcmonlhdgfaaGreat
open Go.RowKit

theorem unG_in {n : Nat} : ∀ (l S : List Int), unG n l S = true → ∀ z ∈ l, wtn z n = true
  | [], _, _, z, hz => by simp at hz
  | x :: l, S, h, z, hz => by
    rw [unG] at h
    simp only [Bool.and_eq_true] at h
    rcases List.mem_cons.1 hz with rfl | hz
    · exact h.1
    · exact unG_in l (x :: S) h.2.2 z hz
theorem ent_fits : ∀ args w, (callFunc 52 args).run Tryz.prog w = .ok (.enter 52 args) w := enters_of Tryz.func52 (by kernel_rfl) rfl
def aaB (c : CoL) (x : TaL) : Bool := unB c.ac.length [x.ats] && (x.ats.contains x.df && eqN (fun b s => fitB c.sl b s) x.gs (c.ac.getD x.df.toNat ac0).ps)
set_option maxRecDepth 100000 in
set_option maxHeartbeats 16000000 in
theorem actionsMayBe_any (c : CoL) (g : Nat) (rv : Value) (x : TaL) (w : World) (hj : Jd w g c rv) (hc : CoR w c) (hx : TaR w x) : Calls Tryz.prog 124 #[.pointer (some ⟨g, 0, none⟩), .agg x.cells.toArray] w fun ed w' => ed = .returned (.bool (aaB c x)) ∧ Below w.heap.size w w' := by
  obtain ⟨w1, hw1⟩ : ∃ w1, w1 = w.alloc (.cells x.cells.toArray 41) := ⟨_, rfl⟩
  have K0 : Hid (w1.heap[w.heap.size]? = some (.cells x.cells.toArray 41 (0, 0))) := by show _ = _; rw [hw1]; exact heap_alloc_new w _
  have B0 : Hid (Below w.heap.size w w1) := by show Below _ _ _; rw [hw1]; exact below1 _ _
  have HW1 := hide hw1
  clear hw1
  have HJ : Hid (∀ W, Below w1.heap.size w1 W → W.cell? ⟨g, 5, none⟩ = some (.slice c.aa c.ac.length c.acc)) := fun W hb => (hj.below (bstep B0.out hb)).at.2.2.2.2.2.1
  have HUN : Hid (∀ W, Below w1.heap.size w1 W → _) := fun W hb => unlike_any c.ac.length hc.ac.ln (some ⟨W.heap.size, 0, none⟩) 1 [⟨x.ats, x.aa, x.ac⟩] (W.alloc (.cells #[.slice x.aa x.ats.length x.ac] 22)) ⟨.inr ⟨W.heap.size, 0, rfl, by simp, fun i hi j u hu => by
    have hi0 : i = 0 := by simpa using hi
    subst hi0
    have hj0 : j = 0 := by have := (List.getElem?_eq_some_iff.1 hu).1; simp [HdL.cells] at this; exact this
    subst hj0
    rw [← hu]
    exact cellA (heap_alloc_new W _) 0⟩, by simp, fun y hy => by
      obtain rfl := List.mem_singleton.1 hy
      exact hx.ats.below (bstep (bstep B0.out hb) (below1 W _))⟩
  have HCO : Hid (∀ W, Below w.heap.size w W → _) := fun W hb => contains_any x.aa x.ac x.ats x.df W (hx.ats.rd.below hb) hx.ats.ln
  have HDF : Hid (unB c.ac.length [x.ats] = true → x.ats.contains x.df = true → ∃ mm : Nat, x.df = mm ∧ mm < c.ac.length) := fun h1 h2 => by
    have h3 := unG_in _ [] h1 x.df (by simp at h2 ⊢; exact h2)
    unfold wtn at h3
    simp at h3
    exact ⟨x.df.toNat, by omega, by omega⟩
  have HAC : Hid (∀ mm : Nat, mm < c.ac.length → ∃ q off, c.aa = some ⟨q, off, none⟩ ∧ ∀ W, Below w.heap.size w W → W.cell? ⟨q, off + mm * 3 + 1, none⟩ = some (.slice (c.ac.getD mm ac0).pa (c.ac.getD mm ac0).ps.length (c.ac.getD mm ac0).pc)) := fun mm hm => by
    obtain ⟨q, off, e, hq, hcl⟩ := hc.ac.rd.some (by omega)
    refine ⟨q, off, e, fun W hb => ?_⟩
    have e1 : c.ac.getD mm ac0 = c.ac[mm] := by rw [List.getD_eq_getElem?_getD, List.getElem?_eq_getElem hm]; rfl
    rw [e1]
    exact (hb.cell (p := ⟨q, _, none⟩) hq).trans (hcl mm hm 1 _ rfl)
  have HEF : Hid (∀ mm : Nat, mm < c.ac.length → ∀ W, Below w.heap.size w W → Calls Tryz.prog 148 #[.slice x.ga x.gs.length x.gc, .slice (c.ac.getD mm ac0).pa (c.ac.getD mm ac0).ps.length (c.ac.getD mm ac0).pc, .func (.func 52) #[.pointer (some ⟨g, 0, none⟩)] #[]] W fun e w' => e = .returned (.bool (eqN (fun b s => fitB c.sl b s) x.gs (c.ac.getD mm ac0).ps)) ∧ Below W.heap.size W w') := fun mm hm W hb => by
    have e1 : c.ac.getD mm ac0 = c.ac[mm] := by rw [List.getD_eq_getElem?_getD, List.getElem?_eq_getElem hm]; rfl
    rw [e1]
    have hps := (hc.ac.ok _ (List.getElem_mem hm)).ps
    exact eqNb_any 52 ent_fits (.pointer (some ⟨g, 0, none⟩)) (fun b s => fitB c.sl b s) x.ga c.ac[mm].pa x.gc c.ac[mm].pc x.gs c.ac[mm].ps W (hx.gs.rd.below hb) (hps.rd.below hb) hx.gs.ln hps.ln (fun y hy z W' hb' => fits_any c g rv y z W' (hx.gs.ok y hy) (hj.below (bstep hb hb')) (hc.sl.below (bstep hb hb')))
  unfold aaB
  unfold TaL.cells at *
  clear hj hc hx
  have e0 : unB c.ac.length (List.map HdL.l [⟨x.ats, x.aa, x.ac⟩]) = unB c.ac.length [x.ats] := rfl
  rw [e0] at HUN
  clear e0
  generalize unB c.ac.length [x.ats] = t1 at *
  generalize x.ats.contains x.df = t2 at *
  generalize c.ac = acs at *
  generalize c.aa = caa at *
  generalize c.acc = cac at *
  generalize c.sl = sl at *
  obtain ⟨name, ks, ka, kc, kd, da, dc, ats, aa, ac, df, gs, ga, gc, size, bf, ba, bc⟩ := x
  simp only at *
  generalize ks.length = kn at *
  generalize kd.length = dn at *
  generalize ats.length = an at *
  generalize bf.length = bn at *
  generalize gs.length = gn at *
  generalize acs.length = acn at *
  go_enter Tryz.func124, Tryz.ntmps124
  go_wp2
  rw [← HW1.out]
  refine wp_region_noPanic ?_
  refine wp_region_held_drew (S := fun w' => Below w1.heap.size w1 w') (by kernel_rfl) (Below.refl _ _).drew (fun hHeld => ?_)
  generalize w1.drew = wc0 at *
  refine wpAnyH_take (i := 0) (v := ?_) rfl (by kernel_rfl) (by kernel_rfl) (by kernel_rfl) (fun _ _ _ h => h) (Or.inl ⟨by kernel_rfl, ?_⟩) hHeld ?_
  rotate_left
  · (intro w hSw; clear hSw; go_simp; try (with_reducible rfl))
  refine wpAnyH_take (i := 1) (v := ?_) rfl (by kernel_rfl) (by kernel_rfl) (by kernel_rfl) (fun _ _ _ h => h) (Or.inl ⟨by kernel_rfl, ?_⟩) hHeld ?_
  rotate_left
  · (intro w hSw; clear hSw; go_simp; try (with_reducible rfl))
  refine wpAnyH_take (i := 2) (v := ?_) rfl (by kernel_rfl) (by kernel_rfl) (by kernel_rfl) (fun _ _ _ h => h) (Or.inl ⟨by kernel_rfl, ?_⟩) hHeld ?_
  rotate_left
  · (intro w hSw; clear hSw; go_simp; try (with_reducible rfl))
  refine wpAnyH_take (i := 3) (v := ?_) rfl (by kernel_rfl) (by kernel_rfl) (by kernel_rfl) (fun _ _ _ h => h) (Or.inl ⟨by kernel_rfl, ?_⟩) hHeld ?_
  rotate_left
  · (intro w hSw; clear hSw; go_simp; try (with_reducible rfl))
  refine wpAnyH_take (i := 4) (v := ?_) rfl (by kernel_rfl) (by kernel_rfl) (by kernel_rfl) (fun _ _ _ h => h) (Or.inl ⟨by kernel_rfl, ?_⟩) hHeld ?_
  rotate_left
  · (intro w hSw; have hj5 := (HJ.out _ hSw); clear hSw; go_simp; try (with_reducible rfl))
  refine wpAnyH_take (i := 5) (v := ?_) rfl (by kernel_rfl) (by kernel_rfl) (by kernel_rfl) (fun _ _ _ h => h) (Or.inl ⟨by kernel_rfl, ?_⟩) hHeld ?_
  rotate_left
  · (intro w hSw; clear hSw; go_simp; try (with_reducible rfl))
  refine wpAnyH_take (i := 6) (v := ?_) rfl (by kernel_rfl) (by kernel_rfl) (by kernel_rfl) (fun _ _ _ h => h) (Or.inl ⟨by kernel_rfl, ?_⟩) hHeld ?_
  rotate_left
  · (intro w hSw; clear hSw; go_simp; try (with_reducible rfl))
  refine wpAnyH_take (i := 7) (v := ?_) rfl (by kernel_rfl) (by kernel_rfl) (by kernel_rfl) (fun _ _ _ h => h) (Or.inl ⟨by kernel_rfl, ?_⟩) hHeld ?_
  rotate_left
  · (intro w hSw; have hc3 := (cellA (heap_below hSw K0.out) 3).trans rfl; clear hSw; go_simp; try (with_reducible rfl))
  refine wpAnyH_ready (rs := [8]) (by kernel_rfl) (by simp) ?_
  refine AllReadyH.cons rfl (fun K hK => ?_) AllReadyH.nil
  go_simp
  have HU := hide (HUN.out wc0 hHeld)
  replace hHeld := bstep hHeld (below1 wc0 (.cells #[.slice aa an ac] 22))
  refine hK.out _ _ hHeld (fun _ => ?_)
  clear hK K
  refine wpAnyH_ready (rs := [9]) (by kernel_rfl) (by simp) ?_
  refine AllReadyH.cons rfl (fun K hK => ?_) AllReadyH.nil
  go_simp
  refine (HU.out).mono ?_
  rintro e wc1 ⟨rfl, hb⟩
  replace hHeld := bstep hHeld hb
  clear hb
  go_wp2_with fail
  refine hK.out _ _ hHeld (fun _ => ?_)
  clear hK K
  cases t1
  · refine wpAnyH_take (i := 10) (v := ?_) rfl (by kernel_rfl) (by kernel_rfl) (by kernel_rfl) (fun _ _ _ h => h) (Or.inl ⟨by kernel_rfl, ?_⟩) hHeld ?_
    rotate_left
    · (intro w hSw; clear hSw; go_simp; try (with_reducible rfl))
    refine wpAnyH_take (i := 11) (v := undef) rfl (by kernel_rfl) (by kernel_rfl) (by kernel_rfl) (fun _ _ _ h => h) (Or.inr ⟨by kernel_rfl, rfl⟩) hHeld ?_
    refine wpAnyH_take (i := 12) (v := undef) rfl (by kernel_rfl) (by kernel_rfl) (by kernel_rfl) (fun _ _ _ h => h) (Or.inr ⟨by kernel_rfl, rfl⟩) hHeld ?_
    refine wpAnyH_take (i := 13) (v := undef) rfl (by kernel_rfl) (by kernel_rfl) (by kernel_rfl) (fun _ _ _ h => h) (Or.inr ⟨by kernel_rfl, rfl⟩) hHeld ?_
    refine wpAnyH_take (i := 14) (v := undef) rfl (by kernel_rfl) (by kernel_rfl) (by kernel_rfl) (fun _ _ _ h => h) (Or.inr ⟨by kernel_rfl, rfl⟩) hHeld ?_
    refine wpAnyH_take (i := 15) (v := undef) rfl (by kernel_rfl) (by kernel_rfl) (by kernel_rfl) (fun _ _ _ h => h) (Or.inr ⟨by kernel_rfl, rfl⟩) hHeld ?_
    refine wpAnyH_take (i := 16) (v := ?_) rfl (by kernel_rfl) (by kernel_rfl) (by kernel_rfl) (fun _ _ _ h => h) (Or.inl ⟨by kernel_rfl, ?_⟩) hHeld ?_
    rotate_left
    · (intro w hSw; clear hSw; go_simp; try (with_reducible rfl))
    refine wpAnyH_take (i := 17) (v := ?_) rfl (by kernel_rfl) (by kernel_rfl) (by kernel_rfl) (fun _ _ _ h => h) (Or.inl ⟨by kernel_rfl, ?_⟩) hHeld ?_
    rotate_left
    · (intro w hSw; clear hSw; go_simp; try (with_reducible rfl))
    refine wpAnyH_take (i := 18) (v := undef) rfl (by kernel_rfl) (by kernel_rfl) (by kernel_rfl) (fun _ _ _ h => h) (Or.inr ⟨by kernel_rfl, rfl⟩) hHeld ?_
    refine wpAnyH_take (i := 19) (v := undef) rfl (by kernel_rfl) (by kernel_rfl) (by kernel_rfl) (fun _ _ _ h => h) (Or.inr ⟨by kernel_rfl, rfl⟩) hHeld ?_
    refine wpAnyH_take (i := 20) (v := undef) rfl (by kernel_rfl) (by kernel_rfl) (by kernel_rfl) (fun _ _ _ h => h) (Or.inr ⟨by kernel_rfl, rfl⟩) hHeld ?_
    refine wpAnyH_take (i := 21) (v := undef) rfl (by kernel_rfl) (by kernel_rfl) (by kernel_rfl) (fun _ _ _ h => h) (Or.inr ⟨by kernel_rfl, rfl⟩) hHeld ?_
    refine wpAnyH_take (i := 22) (v := undef) rfl (by kernel_rfl) (by kernel_rfl) (by kernel_rfl) (fun _ _ _ h => h) (Or.inr ⟨by kernel_rfl, rfl⟩) hHeld ?_
    refine wpAnyH_take (i := 23) (v := undef) rfl (by kernel_rfl) (by kernel_rfl) (by kernel_rfl) (fun _ _ _ h => h) (Or.inr ⟨by kernel_rfl, rfl⟩) hHeld ?_
    refine wpAnyH_take (i := 24) (v := undef) rfl (by kernel_rfl) (by kernel_rfl) (by kernel_rfl) (fun _ _ _ h => h) (Or.inr ⟨by kernel_rfl, rfl⟩) hHeld ?_
    refine wpAnyH_take (i := 25) (v := undef) rfl (by kernel_rfl) (by kernel_rfl) (by kernel_rfl) (fun _ _ _ h => h) (Or.inr ⟨by kernel_rfl, rfl⟩) hHeld ?_
    refine wpAnyH_take (i := 26) (v := undef) rfl (by kernel_rfl) (by kernel_rfl) (by kernel_rfl) (fun _ _ _ h => h) (Or.inr ⟨by kernel_rfl, rfl⟩) hHeld ?_
    refine wpAnyH_take (i := 27) (v := undef) rfl (by kernel_rfl) (by kernel_rfl) (by kernel_rfl) (fun _ _ _ h => h) (Or.inr ⟨by kernel_rfl, rfl⟩) hHeld ?_
    refine wpAnyH_take (i := 28) (v := undef) rfl (by kernel_rfl) (by kernel_rfl) (by kernel_rfl) (fun _ _ _ h => h) (Or.inr ⟨by kernel_rfl, rfl⟩) hHeld ?_
    refine wpAnyH_take (i := 29) (v := undef) rfl (by kernel_rfl) (by kernel_rfl) (by kernel_rfl) (fun _ _ _ h => h) (Or.inr ⟨by kernel_rfl, rfl⟩) hHeld ?_
    refine wpAnyH_take (i := 30) (v := undef) rfl (by kernel_rfl) (by kernel_rfl) (by kernel_rfl) (fun _ _ _ h => h) (Or.inr ⟨by kernel_rfl, rfl⟩) hHeld ?_
    refine wpAnyH_take (i := 31) (v := undef) rfl (by kernel_rfl) (by kernel_rfl) (by kernel_rfl) (fun _ _ _ h => h) (Or.inr ⟨by kernel_rfl, rfl⟩) hHeld ?_
    refine wpAnyH_take (i := 32) (v := undef) rfl (by kernel_rfl) (by kernel_rfl) (by kernel_rfl) (fun _ _ _ h => h) (Or.inr ⟨by kernel_rfl, rfl⟩) hHeld ?_
    refine wpAnyH_take (i := 33) (v := ?_) rfl (by kernel_rfl) (by kernel_rfl) (by kernel_rfl) (fun _ _ _ h => h) (Or.inl ⟨by kernel_rfl, ?_⟩) hHeld ?_
    rotate_left
    · (intro w hSw; clear hSw; go_simp; try (with_reducible rfl))
    refine wpAnyH_take (i := 34) (v := ?_) rfl (by kernel_rfl) (by kernel_rfl) (by kernel_rfl) (fun _ _ _ h => h) (Or.inl ⟨by kernel_rfl, ?_⟩) hHeld ?_
    rotate_left
    · (intro w hSw; clear hSw; go_simp; try (with_reducible rfl))
    refine wpAnyH_done (by kernel_rfl) ?_ _
    refine NoPanic.normal ?_
    go_simp
    have BE := hide (bstep B0.out hHeld)
    clear hHeld
    go_wp2
    go_ret
    exact ⟨rfl, BE.out⟩
  · refine wpAnyH_take (i := 10) (v := ?_) rfl (by kernel_rfl) (by kernel_rfl) (by kernel_rfl) (fun _ _ _ h => h) (Or.inl ⟨by kernel_rfl, ?_⟩) hHeld ?_
    rotate_left
    · (intro w hSw; clear hSw; go_simp; try (with_reducible rfl))
    refine wpAnyH_take (i := 11) (v := ?_) rfl (by kernel_rfl) (by kernel_rfl) (by kernel_rfl) (fun _ _ _ h => h) (Or.inl ⟨by kernel_rfl, ?_⟩) hHeld ?_
    rotate_left
    · (intro w hSw; clear hSw; go_simp; try (with_reducible rfl))
    refine wpAnyH_take (i := 12) (v := ?_) rfl (by kernel_rfl) (by kernel_rfl) (by kernel_rfl) (fun _ _ _ h => h) (Or.inl ⟨by kernel_rfl, ?_⟩) hHeld ?_
    rotate_left
    · (intro w hSw; have hc3 := (cellA (heap_below hSw K0.out) 3).trans rfl; clear hSw; go_simp; try (with_reducible rfl))
    refine wpAnyH_take (i := 13) (v := ?_) rfl (by kernel_rfl) (by kernel_rfl) (by kernel_rfl) (fun _ _ _ h => h) (Or.inl ⟨by kernel_rfl, ?_⟩) hHeld ?_
    rotate_left
    · (intro w hSw; clear hSw; go_simp; try (with_reducible rfl))
    refine wpAnyH_take (i := 14) (v := ?_) rfl (by kernel_rfl) (by kernel_rfl) (by kernel_rfl) (fun _ _ _ h => h) (Or.inl ⟨by kernel_rfl, ?_⟩) hHeld ?_
    rotate_left
    · (intro w hSw; have hc4 := (cellA (heap_below hSw K0.out) 4).trans rfl; clear hSw; go_simp; try (with_reducible rfl))
    refine wpAnyH_ready (rs := [15]) (by kernel_rfl) (by simp) ?_
    refine AllReadyH.cons rfl (fun K hK => ?_) AllReadyH.nil
    go_simp
    refine (HCO.out _ (bstep B0.out hHeld)).mono ?_
    rintro e wc2 ⟨rfl, hb⟩
    replace hHeld := bstep hHeld hb
    clear hb
    go_wp2_with fail
    refine hK.out _ _ hHeld (fun _ => ?_)
    clear hK K
    cases t2
    · refine wpAnyH_take (i := 16) (v := ?_) rfl (by kernel_rfl) (by kernel_rfl) (by kernel_rfl) (fun _ _ _ h => h) (Or.inl ⟨by kernel_rfl, ?_⟩) hHeld ?_
      rotate_left
      · (intro w hSw; clear hSw; go_simp; try (with_reducible rfl))
      refine wpAnyH_take (i := 17) (v := ?_) rfl (by kernel_rfl) (by kernel_rfl) (by kernel_rfl) (fun _ _ _ h => h) (Or.inl ⟨by kernel_rfl, ?_⟩) hHeld ?_
      rotate_left
      · (intro w hSw; clear hSw; go_simp; try (with_reducible rfl))
      refine wpAnyH_take (i := 18) (v := undef) rfl (by kernel_rfl) (by kernel_rfl) (by kernel_rfl) (fun _ _ _ h => h) (Or.inr ⟨by kernel_rfl, rfl⟩) hHeld ?_
      refine wpAnyH_take (i := 19) (v := undef) rfl (by kernel_rfl) (by kernel_rfl) (by kernel_rfl) (fun _ _ _ h => h) (Or.inr ⟨by kernel_rfl, rfl⟩) hHeld ?_
      refine wpAnyH_take (i := 20) (v := undef) rfl (by kernel_rfl) (by kernel_rfl) (by kernel_rfl) (fun _ _ _ h => h) (Or.inr ⟨by kernel_rfl, rfl⟩) hHeld ?_
      refine wpAnyH_take (i := 21) (v := undef) rfl (by kernel_rfl) (by kernel_rfl) (by kernel_rfl) (fun _ _ _ h => h) (Or.inr ⟨by kernel_rfl, rfl⟩) hHeld ?_
      refine wpAnyH_take (i := 22) (v := undef) rfl (by kernel_rfl) (by kernel_rfl) (by kernel_rfl) (fun _ _ _ h => h) (Or.inr ⟨by kernel_rfl, rfl⟩) hHeld ?_
      refine wpAnyH_take (i := 23) (v := undef) rfl (by kernel_rfl) (by kernel_rfl) (by kernel_rfl) (fun _ _ _ h => h) (Or.inr ⟨by kernel_rfl, rfl⟩) hHeld ?_
      refine wpAnyH_take (i := 24) (v := undef) rfl (by kernel_rfl) (by kernel_rfl) (by kernel_rfl) (fun _ _ _ h => h) (Or.inr ⟨by kernel_rfl, rfl⟩) hHeld ?_
      refine wpAnyH_take (i := 25) (v := undef) rfl (by kernel_rfl) (by kernel_rfl) (by kernel_rfl) (fun _ _ _ h => h) (Or.inr ⟨by kernel_rfl, rfl⟩) hHeld ?_
      refine wpAnyH_take (i := 26) (v := undef) rfl (by kernel_rfl) (by kernel_rfl) (by kernel_rfl) (fun _ _ _ h => h) (Or.inr ⟨by kernel_rfl, rfl⟩) hHeld ?_
      refine wpAnyH_take (i := 27) (v := undef) rfl (by kernel_rfl) (by kernel_rfl) (by kernel_rfl) (fun _ _ _ h => h) (Or.inr ⟨by kernel_rfl, rfl⟩) hHeld ?_
      refine wpAnyH_take (i := 28) (v := undef) rfl (by kernel_rfl) (by kernel_rfl) (by kernel_rfl) (fun _ _ _ h => h) (Or.inr ⟨by kernel_rfl, rfl⟩) hHeld ?_
      refine wpAnyH_take (i := 29) (v := undef) rfl (by kernel_rfl) (by kernel_rfl) (by kernel_rfl) (fun _ _ _ h => h) (Or.inr ⟨by kernel_rfl, rfl⟩) hHeld ?_
      refine wpAnyH_take (i := 30) (v := undef) rfl (by kernel_rfl) (by kernel_rfl) (by kernel_rfl) (fun _ _ _ h => h) (Or.inr ⟨by kernel_rfl, rfl⟩) hHeld ?_
      refine wpAnyH_take (i := 31) (v := undef) rfl (by kernel_rfl) (by kernel_rfl) (by kernel_rfl) (fun _ _ _ h => h) (Or.inr ⟨by kernel_rfl, rfl⟩) hHeld ?_
      refine wpAnyH_take (i := 32) (v := undef) rfl (by kernel_rfl) (by kernel_rfl) (by kernel_rfl) (fun _ _ _ h => h) (Or.inr ⟨by kernel_rfl, rfl⟩) hHeld ?_
      refine wpAnyH_take (i := 33) (v := ?_) rfl (by kernel_rfl) (by kernel_rfl) (by kernel_rfl) (fun _ _ _ h => h) (Or.inl ⟨by kernel_rfl, ?_⟩) hHeld ?_
      rotate_left
      · (intro w hSw; clear hSw; go_simp; try (with_reducible rfl))
      refine wpAnyH_take (i := 34) (v := ?_) rfl (by kernel_rfl) (by kernel_rfl) (by kernel_rfl) (fun _ _ _ h => h) (Or.inl ⟨by kernel_rfl, ?_⟩) hHeld ?_
      rotate_left
      · (intro w hSw; clear hSw; go_simp; try (with_reducible rfl))
      refine wpAnyH_done (by kernel_rfl) ?_ _
      refine NoPanic.normal ?_
      go_simp
      have BE := hide (bstep B0.out hHeld)
      clear hHeld
      go_wp2
      go_ret
      exact ⟨rfl, BE.out⟩
    · obtain ⟨mm, rfl, hml⟩ := HDF.out (by simp) (by simp)
      obtain ⟨q, off, rfl, hact⟩ := HAC.out mm hml
      have HACT := hide hact
      have HE3 := hide (HEF.out mm hml)
      have hmI : (mm : Int) < (acn : Int) := by omega
      have HML := hide hml
      clear hact HEF HAC HDF hml
      obtain ⟨⟨nm, ps, pa, pc, cd, ca, cc⟩, hx⟩ : ∃ y, y = acs.getD mm ac0 := ⟨_, rfl⟩
      rw [← hx] at HACT HE3
      have HXX := hide hx
      clear hx
      simp only at HACT HE3
      refine wpAnyH_take (i := 16) (v := ?_) rfl (by kernel_rfl) (by kernel_rfl) (by kernel_rfl) (fun _ _ _ h => h) (Or.inl ⟨by kernel_rfl, ?_⟩) hHeld ?_
      rotate_left
      · (intro w hSw; clear hSw; go_simp; try (with_reducible rfl))
      refine wpAnyH_take (i := 17) (v := ?_) rfl (by kernel_rfl) (by kernel_rfl) (by kernel_rfl) (fun _ _ _ h => h) (Or.inl ⟨by kernel_rfl, ?_⟩) hHeld ?_
      rotate_left
      · (intro w hSw; clear hSw; go_simp; try (with_reducible rfl))
      refine wpAnyH_take (i := 18) (v := ?_) rfl (by kernel_rfl) (by kernel_rfl) (by kernel_rfl) (fun _ _ _ h => h) (Or.inl ⟨by kernel_rfl, ?_⟩) hHeld ?_
      rotate_left
      · (intro w hSw; clear hSw; go_simp; try (with_reducible rfl))
      refine wpAnyH_take (i := 19) (v := ?_) rfl (by kernel_rfl) (by kernel_rfl) (by kernel_rfl) (fun _ _ _ h => h) (Or.inl ⟨by kernel_rfl, ?_⟩) hHeld ?_
      rotate_left
      · (intro w hSw; have hc5 := (cellA (heap_below hSw K0.out) 5).trans rfl; clear hSw; go_simp; try (with_reducible rfl))
      refine wpAnyH_take (i := 20) (v := ?_) rfl (by kernel_rfl) (by kernel_rfl) (by kernel_rfl) (fun _ _ _ h => h) (Or.inl ⟨by kernel_rfl, ?_⟩) hHeld ?_
      rotate_left
      · (intro w hSw; clear hSw; go_simp; try (with_reducible rfl))
      refine wpAnyH_take (i := 21) (v := ?_) rfl (by kernel_rfl) (by kernel_rfl) (by kernel_rfl) (fun _ _ _ h => h) (Or.inl ⟨by kernel_rfl, ?_⟩) hHeld ?_
      rotate_left
      · (intro w hSw; clear hSw; go_simp; try (with_reducible rfl))
      refine wpAnyH_take (i := 22) (v := ?_) rfl (by kernel_rfl) (by kernel_rfl) (by kernel_rfl) (fun _ _ _ h => h) (Or.inl ⟨by kernel_rfl, ?_⟩) hHeld ?_
      rotate_left
      · (intro w hSw; clear hSw; go_simp; try (with_reducible rfl))
      refine wpAnyH_take (i := 23) (v := ?_) rfl (by kernel_rfl) (by kernel_rfl) (by kernel_rfl) (fun _ _ _ h => h) (Or.inl ⟨by kernel_rfl, ?_⟩) hHeld ?_
      rotate_left
      · (intro w hSw; clear hSw; go_simp; try (with_reducible rfl))
      refine wpAnyH_take (i := 24) (v := ?_) rfl (by kernel_rfl) (by kernel_rfl) (by kernel_rfl) (fun _ _ _ h => h) (Or.inl ⟨by kernel_rfl, ?_⟩) hHeld ?_
      rotate_left
      · (intro w hSw; have hj5 := (HJ.out _ hSw); clear hSw; go_simp; try (with_reducible rfl))
      refine wpAnyH_take (i := 25) (v := ?_) rfl (by kernel_rfl) (by kernel_rfl) (by kernel_rfl) (fun _ _ _ h => h) (Or.inl ⟨by kernel_rfl, ?_⟩) hHeld ?_
      rotate_left
      · (intro w hSw; clear hSw; go_simp; try (with_reducible rfl))
      refine wpAnyH_take (i := 26) (v := ?_) rfl (by kernel_rfl) (by kernel_rfl) (by kernel_rfl) (fun _ _ _ h => h) (Or.inl ⟨by kernel_rfl, ?_⟩) hHeld ?_
      rotate_left
      · (intro w hSw; have hc4 := (cellA (heap_below hSw K0.out) 4).trans rfl; clear hSw; go_simp; try (with_reducible rfl))
      refine wpAnyH_take (i := 27) (v := ?_) rfl (by kernel_rfl) (by kernel_rfl) (by kernel_rfl) (fun _ _ _ h => h) (Or.inl ⟨by kernel_rfl, ?_⟩) hHeld ?_
      rotate_left
      · (intro w hSw; clear hSw; go_simp; try (with_reducible rfl))
      refine wpAnyH_take (i := 28) (v := ?_) rfl (by kernel_rfl) (by kernel_rfl) (by kernel_rfl) (fun _ _ _ h => h) (Or.inl ⟨by kernel_rfl, ?_⟩) hHeld ?_
      rotate_left
      · (intro w hSw; clear hSw; go_simp; try (with_reducible rfl))
      refine wpAnyH_take (i := 29) (v := ?_) rfl (by kernel_rfl) (by kernel_rfl) (by kernel_rfl) (fun _ _ _ h => h) (Or.inl ⟨by kernel_rfl, ?_⟩) hHeld ?_
      rotate_left
      · (intro w hSw; have ha5 := HACT.out _ (bstep B0.out hSw); clear hSw; go_simp; try (with_reducible rfl))
      refine wpAnyH_take (i := 30) (v := ?_) rfl (by kernel_rfl) (by kernel_rfl) (by kernel_rfl) (fun _ _ _ h => h) (Or.inl ⟨by kernel_rfl, ?_⟩) hHeld ?_
      rotate_left
      · (intro w hSw; clear hSw; go_simp; try (with_reducible rfl))
      refine wpAnyH_take (i := 31) (v := ?_) rfl (by kernel_rfl) (by kernel_rfl) (by kernel_rfl) (fun _ _ _ h => h) (Or.inl ⟨by kernel_rfl, ?_⟩) hHeld ?_
      rotate_left
      · (intro w hSw; clear hSw; go_simp; try (with_reducible rfl))
      refine wpAnyH_ready (rs := [32]) (by kernel_rfl) (by simp) ?_
      refine AllReadyH.cons rfl (fun K hK => ?_) AllReadyH.nil
      go_simp
      refine (HE3.out _ (bstep B0.out hHeld)).mono ?_
      rintro e wc3 ⟨rfl, hb⟩
      replace hHeld := bstep hHeld hb
      clear hb
      go_wp2_with fail
      refine hK.out _ _ hHeld (fun _ => ?_)
      clear hK K
      refine wpAnyH_take (i := 33) (v := ?_) rfl (by kernel_rfl) (by kernel_rfl) (by kernel_rfl) (fun _ _ _ h => h) (Or.inl ⟨by kernel_rfl, ?_⟩) hHeld ?_
      rotate_left
      · (intro w hSw; clear hSw; go_simp; try (with_reducible rfl))
      refine wpAnyH_take (i := 34) (v := ?_) rfl (by kernel_rfl) (by kernel_rfl) (by kernel_rfl) (fun _ _ _ h => h) (Or.inl ⟨by kernel_rfl, ?_⟩) hHeld ?_
      rotate_left
      · (intro w hSw; clear hSw; go_simp; try (with_reducible rfl))
      refine wpAnyH_done (by kernel_rfl) ?_ _
      refine NoPanic.normal ?_
      go_simp
      have BE := hide (bstep B0.out hHeld)
      clear hHeld
      go_wp2
      go_ret
      have hz := HXX.out
      refine ⟨?_, BE.out⟩
      simp only [Bool.true_and, Int.toNat_natCast, ← hz]
      rfl
end Go.Proofs.YtlipcmonlhdgfaaGreat
/- package code: tables; the metadata; what is short. -/
namespace Go.Proofs.YtlipcmonlhdgfaaGreat
open Go.RowKit

def tbB (D : Int → Int → Int → Int → Int → Int × Int × Int × Int) (c : CoL) (x : TaL) : Bool := kyB c x && (aaB c x && (frB 1 x.size 4096 && lsB D c 0 x.bf))
set_option maxRecDepth 100000 in
set_option maxHeartbeats 4000000 in
theorem tableMayBe_any (D : Int → Int → Int → Int → Int → Int × Int × Int × Int) (hD : DoOk D) (c : CoL) (g jb : Nat) (rv : Value) (x : TaL) (w : World) (hj : Jd w g c rv) (hjb : Jb w jb g) (hr : RwR w rv g jb) (hc : CoR w c) (hx : TaR w x) : Calls Tryz.prog 90 #[.pointer (some ⟨g, 0, none⟩), .agg x.cells.toArray] w fun ed w' => ed = .returned (.bool (tbB D c x)) ∧ Below w.heap.size w w' := by
  have H1 : Hid (∀ W, Below w.heap.size w W → _) := fun W hb => keysMayBe_any c g rv x W (hj.below hb) (hc.below hb) (hx.below hb)
  have H2 : Hid (∀ W, Below w.heap.size w W → _) := fun W hb => actionsMayBe_any c g rv x W (hj.below hb) (hc.below hb) (hx.below hb)
  have H3 : Hid (Pure _ _ _) := from_any 1 x.size 4096
  have H4 : Hid (∀ W, Below w.heap.size w W → _) := fun W hb => listMayBe_any D hD c g jb rv 0 x.ba x.bc x.bf W (hj.below hb) (hjb.below hb) (hr.below hb) (hc.below hb) (hx.bf.below hb)
  have K0 := hide (heap_alloc_new w (.cells x.cells.toArray 41))
  have B0 := hide (below1 w (.cells x.cells.toArray 41))
  unfold tbB
  unfold TaL.cells at *
  generalize kyB c x = t1 at *
  generalize aaB c x = t2 at *
  generalize frB 1 x.size 4096 = t3 at *
  generalize lsB D c 0 x.bf = t4 at *
  clear hj hjb hr hc hx
  obtain ⟨name, ks, ka, kc, kd, da, dc, ats, aa, ac, df, gs, ga, gc, size, bf, ba, bc⟩ := x
  simp only at *
  generalize ks.length = kn at *
  generalize kd.length = dn at *
  generalize ats.length = an at *
  generalize gs.length = gn at *
  generalize bf.length = bn at *
  have a0 := (cellA K0.out 0).trans rfl
  have a1 := (cellA K0.out 1).trans rfl
  have a2 := (cellA K0.out 2).trans rfl
  have a3 := (cellA K0.out 3).trans rfl
  have a4 := (cellA K0.out 4).trans rfl
  have a5 := (cellA K0.out 5).trans rfl
  have a6 := (cellA K0.out 6).trans rfl
  have a7 := (cellA K0.out 7).trans rfl
  go_enter Tryz.func90, Tryz.ntmps90
  go_wp2_with fail
  refine (H1.out _ B0.out).mono ?_
  rintro e w1 ⟨rfl, hb⟩
  have B1 := hide (bstep B0.out hb)
  have K1 := hide (heap_below hb K0.out)
  clear hb a0 a1 a2 a3 a4 a5 a6 a7
  have b0 := (cellA K1.out 0).trans rfl
  have b1 := (cellA K1.out 1).trans rfl
  have b2 := (cellA K1.out 2).trans rfl
  have b3 := (cellA K1.out 3).trans rfl
  have b4 := (cellA K1.out 4).trans rfl
  have b5 := (cellA K1.out 5).trans rfl
  have b6 := (cellA K1.out 6).trans rfl
  have b7 := (cellA K1.out 7).trans rfl
  cases t1
  · go_wp2
    go_ret
    exact ⟨rfl, B1.out⟩
  · go_wp2_with fail
    refine (H2.out _ B1.out).mono ?_
    rintro e w2 ⟨rfl, hb⟩
    have B2 := hide (bstep B1.out hb)
    have K2 := hide (heap_below hb K1.out)
    clear hb b0 b1 b2 b3 b4 b5 b6 b7
    have d6 := (cellA K2.out 6).trans rfl
    cases t2
    · go_wp2
      go_ret
      exact ⟨rfl, B2.out⟩
    · go_wp2_with fail
      refine (H3.out _).mono ?_
      rintro e w3 ⟨rfl, hb⟩
      have B3 := hide (bstep B2.out hb)
      have e7 := (cellA (heap_below hb K2.out) 7).trans rfl
      clear hb d6
      cases t3
      · go_wp2
        go_ret
        exact ⟨rfl, B3.out⟩
      · go_wp2_with fail
        refine (H4.out _ B3.out).mono ?_
        rintro e w4 ⟨rfl, hb⟩
        have B4 := hide (bstep B3.out hb)
        clear hb
        go_wp2
        go_ret
        exact ⟨rfl, B4.out⟩
end Go.Proofs.YtlipcmonlhdgfaaGreat
/- package code: what is short. -/
namespace Go.Proofs.YtlipcmonlhdgfaaGreat
open Go.RowKit

def shB (c : CoL) : Bool := decide (c.sl.length ≤ 65536) && (decide (c.hd.length ≤ 256) && (decide (c.ac.length ≤ 256) && (decide (c.ar.length ≤ 256) && (decide (c.tb.length ≤ 256) && (decide (c.st.length ≤ 4096) && decide (insN c ≤ 65536))))))
set_option maxRecDepth 100000 in
set_option maxHeartbeats 8000000 in
theorem shortEnough_any (c : CoL) (g : Nat) (r : Value) (w : World) (hj : Jd w g c r) (hc : CoR w c) : Calls Tryz.prog 77 #[.pointer (some ⟨g, 0, none⟩)] w fun ed w' => ed = .returned (.bool (shB c)) ∧ Below w.heap.size w w' := by
  have HI := hide (instructions_any c g r w hj hc)
  obtain ⟨q0, q1, -, q3, -, q5, q6, -, q8, -⟩ := hj.at
  unfold shB
  clear hj hc
  generalize insN c = N at *
  generalize c.sl.length = n0 at *
  generalize c.hd.length = n1 at *
  generalize c.ac.length = n2 at *
  generalize c.ar.length = n3 at *
  generalize c.tb.length = n4 at *
  generalize c.st.length = n5 at *
  by_cases h0 : n0 ≤ 65536
  · have d0 : ((n0 : Int) ≤ 65536) = True := by simp; omega
    by_cases h1 : n1 ≤ 256
    · have d1 : ((n1 : Int) ≤ 256) = True := by simp; omega
      by_cases h2 : n2 ≤ 256
      · have d2 : ((n2 : Int) ≤ 256) = True := by simp; omega
        by_cases h3 : n3 ≤ 256
        · have d3 : ((n3 : Int) ≤ 256) = True := by simp; omega
          by_cases h4 : n4 ≤ 256
          · have d4 : ((n4 : Int) ≤ 256) = True := by simp; omega
            by_cases h5 : n5 ≤ 4096
            · have d5 : ((n5 : Int) ≤ 4096) = True := by simp; omega
              go_enter Tryz.func77, Tryz.ntmps77
              go_wp2_with fail
              refine HI.out.mono ?_
              rintro e w1 ⟨rfl, hb⟩
              by_cases h6 : N ≤ 65536
              · have d6 : ((N : Int) ≤ 65536) = True := by simp; omega
                go_wp2
                go_ret
                exact ⟨by simp [h0, h1, h2, h3, h4, h5, h6], hb⟩
              · have d6 : ((N : Int) ≤ 65536) = False := by simp; omega
                go_wp2
                go_ret
                exact ⟨by simp [h6], hb⟩
            · have d5 : ((n5 : Int) ≤ 4096) = False := by simp; omega
              clear HI
              go_enter Tryz.func77, Tryz.ntmps77
              go_wp2
              go_ret
              exact ⟨by simp [h5], Below.refl _ _⟩
          · have d4 : ((n4 : Int) ≤ 256) = False := by simp; omega
            clear HI
            go_enter Tryz.func77, Tryz.ntmps77
            go_wp2
            go_ret
            exact ⟨by simp [h4], Below.refl _ _⟩
        · have d3 : ((n3 : Int) ≤ 256) = False := by simp; omega
          clear HI
          go_enter Tryz.func77, Tryz.ntmps77
          go_wp2
          go_ret
          exact ⟨by simp [h3], Below.refl _ _⟩
      · have d2 : ((n2 : Int) ≤ 256) = False := by simp; omega
        clear HI
        go_enter Tryz.func77, Tryz.ntmps77
        go_wp2
        go_ret
        exact ⟨by simp [h2], Below.refl _ _⟩
    · have d1 : ((n1 : Int) ≤ 256) = False := by simp; omega
      clear HI
      go_enter Tryz.func77, Tryz.ntmps77
      go_wp2
      go_ret
      exact ⟨by simp [h1], Below.refl _ _⟩
  · have d0 : ((n0 : Int) ≤ 65536) = False := by simp; omega
    clear HI
    go_enter Tryz.func77, Tryz.ntmps77
    go_wp2
    go_ret
    exact ⟨by simp [h0], Below.refl _ _⟩
end Go.Proofs.YtlipcmonlhdgfaaGreat
