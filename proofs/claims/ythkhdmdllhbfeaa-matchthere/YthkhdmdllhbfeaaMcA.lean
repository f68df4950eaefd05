/- The law's helpers: lists of entries that are the same are told to be so. -/
import Derived.Test.YthkhdmdllhbfeaaMtO
import Derived.Test.YthkhdmdllhbfeaaSmN
namespace Go.Proofs.Ythkhdmdllhbfeaa
open Go.RowKit

set_option maxRecDepth 100000 in
set_option maxHeartbeats 4000000 in
theorem sameX_any (a b : Option Addr) (ca cb : Nat) (l : List Mx) (w : World) (h1 : RdX w a l) (h2 : RdX w b l) (hl : l.length ≤ 1000000) : Calls Try.prog 54 #[.slice a l.length ca, .slice b l.length cb] w fun e w' => e = .returned (.bool true) ∧ Below w.heap.size w w' := by
  have H1 := hide h1
  have H2 := hide h2
  clear h1 h2
  go_enter Try.func54, Try.ntmps54
  go_wp2
  go_loopw [5] (fun i wr => ∃ k : Nat, k ≤ l.length ∧ i = .int .i64 k ∧ Below w.heap.size w wr) (fun i _ => l.length - (intOf i).toNat)
  case atStart => exact ⟨0, by omega, rfl, Below.refl _ _⟩
  case round =>
    obtain ⟨k, hk, rfl, hb⟩ := hrel
    have HB := hide hb
    clear hb
    by_cases hlt : k < l.length
    · obtain ⟨p, off, rfl, _, hcl⟩ := (H1.out.below HB.out).some (by omega)
      obtain ⟨q, off2, rfl, _, hdl⟩ := (H2.out.below HB.out).some (by omega)
      obtain ⟨c0, c1, c2, c3, c4, c5, c6⟩ := hcl k hlt
      obtain ⟨d0, d1, d2, d3, d4, d5, d6⟩ := hdl k hlt
      have hlI : ((k : Int) < (l.length : Int)) := by omega
      clear hcl hdl
      generalize l[k] = y at *
      obtain ⟨⟨vw, vh, vl⟩, ⟨mw, mh, ml⟩, len⟩ := y
      simp only at c0 c1 c2 c3 c4 c5 c6 d0 d1 d2 d3 d4 d5 d6
      go_wp2
      go_region
      go_wp2
      go_roundw
      case rel => exact ⟨k + 1, by omega, by go_num, HB.out.drew⟩
      case measure => simp [intOf]; omega
    · obtain rfl : k = l.length := by omega
      go_wp2
      go_ret
      exact ⟨rfl, HB.out⟩
set_option maxRecDepth 100000 in
set_option maxHeartbeats 4000000 in
theorem sameEn_any (x y : EnL) (w : World) (he : x.e = y.e) (hx : EnR w x) (hy : EnR w y) : Calls Try.prog 35 #[x.val, y.val] w fun e w' => e = .returned (.bool true) ∧ Below w.heap.size w w' := by
  obtain ⟨⟨ms, prio, act, args⟩, ma, mc, aa, ac⟩ := x
  obtain ⟨ye, ma2, mc2, aa2, ac2⟩ := y
  simp only at he
  subst he
  have HN : Hid (∀ W, Below w.heap.size w W → _) := fun W hb => sameX_any ma ma2 mc mc2 ms W (hx.ms.below hb) (hy.ms.below hb) hx.mn
  have HI : Hid (∀ W, Below w.heap.size w W → _) := fun W hb => sameN_any aa aa2 ac ac2 args W (hx.args.below hb) (hy.args.below hb) (Nat.le_trans hx.an (by decide))
  clear hx hy
  simp only [EnL.val] at *
  generalize ms.length = n1 at *
  generalize args.length = n2 at *
  go_enter Try.func35, Try.ntmps35
  go_wp2_with fail
  refine (HN.out _ (below2 _ _ _)).mono ?_
  rintro e w1 ⟨rfl, hb⟩
  obtain ⟨p0, p1, p2, p3, -⟩ := at4 (heap_below hb (heap_past _ (heap_alloc_new w _)))
  obtain ⟨q0, q1, q2, q3, -⟩ := at4 (heap_below hb (heap_snd w _ _ _))
  have BB := hide (bstep (below2 _ _ _) hb)
  clear hb
  go_wp2_with fail
  refine (HI.out _ BB.out).mono ?_
  rintro e w2 ⟨rfl, hb⟩
  go_wp2
  go_ret
  exact ⟨rfl, bstep BB.out hb⟩
set_option maxRecDepth 100000 in
set_option maxHeartbeats 4000000 in
theorem sameEs_any (a b : Option Addr) (ca cb n : Nat) (l m : List EnL) (w : World) (h1 : RdE w a l) (h2 : RdE w b m) (hl : l.length = n) (hm : m.length = n) (he : ens l = ens m) (hn : n ≤ 1000000) : Calls Try.prog 15 #[.slice a n ca, .slice b n cb] w fun e w' => e = .returned (.bool true) ∧ Below w.heap.size w w' := by
  have H1 := hide h1
  have H2 := hide h2
  have HS : Hid (∀ i (h : i < l.length) (h' : i < m.length) W, Below w.heap.size w W → _) := fun i h h' W hb => sameEn_any l[i] m[i] W (by
    have h3 : (ens l)[i]'(by rw [ens_len]; exact h) = l[i].e := by simp [ens]
    have h4 : (ens m)[i]'(by rw [ens_len]; exact h') = m[i].e := by simp [ens]
    rw [← h3, ← h4]
    simp only [he]) ((h1.ok _ (List.getElem_mem h)).below hb) ((h2.ok _ (List.getElem_mem h')).below hb)
  have HL := hide hl
  have HM := hide hm
  clear h1 h2 he hl hm
  go_enter Try.func15, Try.ntmps15
  go_wp2
  go_loopw [5] (fun i wr => ∃ k : Nat, k ≤ n ∧ i = .int .i64 k ∧ Below w.heap.size w wr) (fun i _ => n - (intOf i).toNat)
  case atStart => exact ⟨0, by omega, rfl, Below.refl _ _⟩
  case round =>
    obtain ⟨k, hk, rfl, hb⟩ := hrel
    have HB := hide hb
    clear hb
    by_cases hlt : k < n
    · have hkl : k < l.length := by have := HL.out; omega
      have hkm : k < m.length := by have := HM.out; omega
      obtain ⟨p, off, rfl, _, hcl⟩ := (H1.out.below HB.out).some (by omega)
      obtain ⟨q, off2, rfl, _, hdl⟩ := (H2.out.below HB.out).some (by omega)
      obtain ⟨c0, c1, c2, c3⟩ := hcl k hkl
      obtain ⟨d0, d1, d2, d3⟩ := hdl k hkm
      have hlI : ((k : Int) < (n : Int)) := by omega
      have HC : Hid (∀ W, Below w.heap.size w W → _) := fun W hb => HS.out k hkl hkm W hb
      clear hcl hdl
      generalize l[k] = x at *
      generalize m[k] = y at *
      obtain ⟨⟨ms, prio, act, args⟩, ma, mc, aa, ac⟩ := x
      obtain ⟨⟨ms2, prio2, act2, args2⟩, ma2, mc2, aa2, ac2⟩ := y
      simp only [EnL.val] at *
      generalize ms.length = n1 at *
      generalize args.length = n2 at *
      generalize ms2.length = n3 at *
      generalize args2.length = n4 at *
      go_wp2
      go_region_with (go_at_call 35; refine (HC.out _ HB.out.drew).mono ?_; rintro e w5 ⟨rfl, hb5⟩; have B5 := hide (bstep HB.out.drew hb5); clear hb5)
      all_goals
        go_wp2
        go_roundw
        case rel => exact ⟨k + 1, by omega, by go_num, B5.out⟩
        case measure => simp [intOf]; omega
    · obtain rfl : k = n := by omega
      go_wp2
      go_ret
      exact ⟨rfl, HB.out⟩
def thI (t : Tb) (l : List En) (e : En) : Int × Int := if chkB t e then (if 0 ≤ hereI l e then (hereI l e, 0) else (-1, 11)) else (-1, 1)
set_option maxHeartbeats 2000000 in
theorem there_any (x : TbL) (a : Option Addr) (cap : Nat) (l : List EnL) (y : EnL) (w : World) (hx : TbR w x) (hl : RdE w a l) (hy : EnR w y) (hn : l.length ≤ 900000) :
    Calls Try.prog 34 #[x.val, .slice a l.length cap, y.val] w fun e w' => e = .returned (.tuple #[.int .i64 (thI x.t (ens l) y.e).1, .int .i64 (thI x.t (ens l) y.e).2]) ∧ Below w.heap.size w w' := by
  have HC : Hid (∀ W, Below w.heap.size w W → _) := fun W hb => check13_any x y W (hx.below hb) (hy.below hb)
  have HP : Hid (∀ W, Below w.heap.size w W → _) := fun W hb => placeOf_any a cap l y W (hl.below hb) (by omega) (hy.below hb)
  have HH : Hid (firstI (fun x : EnL => sameP x.e y.e) l = hereI (ens l) y.e) := firstI_ens (fun x => sameP x y.e) l
  rw [HH.out] at HP
  have HS : Hid (-1 ≤ hereI (ens l) y.e) := by
    have := firstI_lt (fun x => sameP x y.e) (ens l)
    unfold hereI
    show _ ≤ _
    omega
  unfold thI chkI at *
  clear hx hl hy hn HH
  generalize hereI (ens l) y.e = r at *
  generalize chkB x.t y.e = t at *
  obtain ⟨⟨ks, ws, size⟩, ka, kc, wa, wc⟩ := x
  obtain ⟨⟨ms, prio, act, args⟩, ma, mc, aa, ac⟩ := y
  simp only [TbL.val, EnL.val] at *
  generalize l.length = n at *
  generalize ks.length = n1 at *
  generalize ws.length = n2 at *
  generalize ms.length = n3 at *
  generalize args.length = n4 at *
  cases t
  · simp only [Bool.false_eq_true, if_false] at HC ⊢
    go_enter Try.func34, Try.ntmps34
    go_wp2_with fail
    refine (HC.out _ (below2 _ _ _)).mono ?_
    rintro e w1 ⟨rfl, hb⟩
    go_wp2
    refine bodyPost_ret (v := .tuple #[.int .i64 (-1), .int .i64 1]) (by simp [results, Try.results34, go_sem]) rfl ⟨rfl, ?_⟩
    exact bstep (below2 _ _ _) hb
  · simp only [if_true] at HC ⊢
    by_cases h1 : 0 ≤ r
    · rw [if_pos h1]
      have f1 : (r == -1) = false := by simp; omega
      have f2 : (r = -1) = False := by simp; omega
      clear HS h1
      go_enter Try.func34, Try.ntmps34
      go_wp2_with fail
      refine (HC.out _ (below2 _ _ _)).mono ?_
      rintro e w1 ⟨rfl, hb⟩
      have B1 := hide (bstep (below2 _ _ _) hb)
      obtain ⟨b0, b1, b2, b3, -⟩ := at4 (heap_below hb (heap_snd _ _ _ _))
      clear hb
      go_wp2_with fail
      refine (HP.out _ B1.out).mono ?_
      rintro e w2 ⟨rfl, hb2⟩
      go_wp2
      refine bodyPost_ret (v := .tuple #[.int .i64 r, .int .i64 0]) (by simp [results, Try.results34, go_sem]) rfl ⟨rfl, ?_⟩
      exact bstep B1.out hb2
    · rw [if_neg h1]
      obtain rfl : r = -1 := by have := HS.out; omega
      clear HS h1
      go_enter Try.func34, Try.ntmps34
      go_wp2_with fail
      refine (HC.out _ (below2 _ _ _)).mono ?_
      rintro e w1 ⟨rfl, hb⟩
      have B1 := hide (bstep (below2 _ _ _) hb)
      obtain ⟨b0, b1, b2, b3, -⟩ := at4 (heap_below hb (heap_snd _ _ _ _))
      clear hb
      go_wp2_with fail
      refine (HP.out _ B1.out).mono ?_
      rintro e w2 ⟨rfl, hb2⟩
      go_wp2
      refine bodyPost_ret (v := .tuple #[.int .i64 (-1), .int .i64 11]) (by simp [results, Try.results34, go_sem]) rfl ⟨rfl, ?_⟩
      exact bstep B1.out hb2
end Go.Proofs.Ythkhdmdllhbfeaa
