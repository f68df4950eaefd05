/- Pieces of the proof: MtV. -/
import Derived.Test.YteflnicgohjiiaaGreatDoorM14
/- package match: Find, the other ways in which a table counts. -/
namespace Go.Proofs.YteflnicgohjiiaaGreatDoor
open Go.RowKit Go.Shelf

attribute [local go_sem] Oper.semAt_some
set_option maxRecDepth 100000 in
set_option maxHeartbeats 8000000 in
theorem find_yes2 (x : TbL) (la : Option Addr) (lc : Nat) (es : List EnL) (ka : Option Addr) (kc : Nat) (keys : List Nb) (w : World) (hi : Mi w x la lc es ka kc keys) (hb : findB x.t keys = true) (hcs : weighsB x.t = false) (k0 : Nat) (hcp : preI x.t = k0) (hck : k0 < x.t.ks.length) (P : EnL → Bool) (hP : P = fun y => hitB x.t keys y.e) :
    Calls Tryz.prog 25 #[x.val, .slice la es.length lc, .slice ka keys.length kc] w fun e w' => e = .returned (.int .i64 (bestC (bestL (wtAt x.t es) (idxsTo P es es.length)))) ∧ Below w.heap.size w w' := by
  have hk1 : keys.length ≤ 1000000 := by have := (tab_row hi.may).1; have := hi.kl; omega
  have HT : Hid (∀ W, Below w.heap.size w W → _) := fun W hb => tableMayBe_any x W (hi.t.below hb)
  have HE : Hid (∀ W, Below w.heap.size w W → _) := fun W hb => equalFunc_any ka x.wa kc x.wc keys x.t.ws W (hi.k.below hb) (hi.t.ws.below hb) hi.kr (by omega)
  have HG : Hid (∀ W, Below w.heap.size w W → _) := fun W hb => weigher_any x W (hi.t.below hb)
  have HM : Hid (∀ W, _) := fun W => matching_any x la ka es.length lc keys.length kc W
  unfold findB at hb
  rw [Bool.and_eq_true] at hb
  rw [hi.may] at HT
  rw [hb.2] at HE
  clear hb hk1
  have HI := hide hi
  have HCS := hide hcs
  have HCP := hide hcp
  have HCK := hide hck
  clear hcs hcp hck
  have HP := hide hP
  clear hi hP
  obtain ⟨R, hR⟩ : ∃ R : Int, R = bestC (bestL (wtAt x.t es) (idxsTo P es es.length)) := ⟨_, rfl⟩
  rw [← hR]
  have HR := hide hR
  clear hR
  obtain ⟨V, hV⟩ : ∃ V : Value, V = x.val := ⟨_, rfl⟩
  have HV := hide hV
  obtain ⟨⟨ks, ws, size⟩, xka, xkc, xwa, xwc⟩ := x
  simp only [TbL.val] at HT HE HG HM ⊢
  clear hV
  refine (callsIn_wide (n := 6)).1 ?_
  refine callsIn_of_wp_marks Tryz.func25 rfl trivial ?_ rfl
  simp only [Tryz.ntmps25, List.size_toArray, List.length_cons, List.length_nil, Nat.reduceAdd, Nat.reduceSub, Array.replicate_succ, Array.replicate_zero, List.push_toArray, List.append_toArray, List.nil_append, List.cons_append]
  gi_wp2_with fail
  refine ⟨trivial, (callsIn_wide.2 (HT.out _ (below2 _ _ _))).mono ?_⟩
  rintro e w1 ⟨rfl, hb⟩
  have B1 := hide (bstep (below2 _ _ _) hb)
  have T1 := hide (heap_below hb (heap_past _ (heap_alloc_new _ _)))
  have L1 := hide (heap_below hb (heap_snd _ _ _ _))
  obtain ⟨c0, c1, c2, -⟩ := at3 T1.out
  clear hb
  gi_wp2_with fail
  refine ⟨trivial, (callsIn_wide.2 (HE.out _ B1.out)).mono ?_⟩
  rintro e w2 ⟨rfl, hb2⟩
  have B2 := hide (bstep B1.out hb2)
  have T2 := hide (heap_below hb2 T1.out)
  have L2 := hide (heap_below hb2 L1.out)
  obtain ⟨d0, d1, d2, -⟩ := at3 T2.out
  clear hb2 c0 c1 c2
  gi_wp2_with fail
  refine ⟨trivial, (callsIn_wide.2 (HG.out _ B2.out)).mono ?_⟩
  rintro e w3 ⟨fv, rfl, hwf, hb3⟩
  have B3 := hide (bstep B2.out hb3)
  have T3 := hide (heap_below hb3 T2.out)
  have L3 := hide (heap_below hb3 L2.out)
  obtain ⟨e0, e1, e2, -⟩ := at3 T3.out
  have HWF := hide hwf
  clear hb3 d0 d1 d2 hwf
  rcases HWF.out with ⟨h, -⟩ | ⟨hw1, k1, ab, hp1, rfl, hab⟩ | ⟨-, h, -⟩
  · rw [HCS.out] at h; cases h
  rotate_left
  · rw [HCP.out] at h; omega
  obtain rfl : k1 = k0 := by rw [HCP.out] at hp1; omega
  have HAB := hide hab
  have HLA := hide (lt_heap hab)
  clear hab hp1
  have T4 := hide (heap_past (.cells #[.int .i64 (-1)] 3) (heap_past (.cells #[.func (.func 216) #[] #[.pointer (some ⟨ab, 0, none⟩)]] 80) T3.out))
  have L4 := hide (heap_past (.cells #[.int .i64 (-1)] 3) (heap_past (.cells #[.func (.func 216) #[] #[.pointer (some ⟨ab, 0, none⟩)]] 80) L3.out))
  obtain ⟨f0, f1, f2, -⟩ := at3 T4.out
  obtain ⟨f3, -⟩ := at1 L4.out
  have F4 := hide (heap_past (.cells #[.int .i64 (-1)] 3) (heap_alloc_new w3 (.cells #[.func (.func 216) #[] #[.pointer (some ⟨ab, 0, none⟩)]] 80)))
  have G4 := hide (heap_snd w3 (.cells #[.func (.func 216) #[] #[.pointer (some ⟨ab, 0, none⟩)]] 80) #[.int .i64 (-1)] 3)
  clear hw1 e0 e1 e2
  gi_wp2_with fail
  refine ⟨trivial, (callsIn_wide.2 (HM.out _)).mono ?_⟩
  rintro e w4 ⟨tb, lb, kb, rb, hb, rfl, hmg, h1, h2, h3, h4, h5, hb4⟩
  simp only [World.size_alloc] at h1 h2 h3 h4 h5
  have B4 := hide (bstep (bstep B3.out (below2 _ _ _)) hb4)
  have MG := hide hmg
  have hz4 : w3.heap.size + 1 < w4.heap.size := by have := hb4.size; simp only [World.size_alloc] at this; omega
  have I4 : Hid (FiI w4 (w.heap.size + 1) w3.heap.size (w3.heap.size + 1) la es.length lc (.func (.func 216) #[] #[.pointer (some ⟨ab, 0, none⟩)]) ⟨ks, ws, size⟩ none) := ⟨heap_below hb4 G4.out, heap_below hb4 F4.out, heap_below hb4 L4.out, .inr (.inl ⟨HCS.out, k1, ab, HCP.out, rfl, heap_below hb4 (heap_past _ (heap_past _ HAB.out))⟩)⟩
  have hz3 : w.heap.size + 1 < w3.heap.size := lt_heap L3.out
  clear hmg hb4 f0 f1 f2 f3 T4 L4 F4 G4 T3 L3 T2 L2 T1 L1
  gi_wp2
  refine' wpIn_rangeFunc_ownF rfl (by omega) (gf := 220) (lb := #[.pointer (some ⟨lb, 0, none⟩), .pointer (some ⟨kb, 0, none⟩), .pointer (some ⟨hb, 0, none⟩)]) rfl trivial (enters_of Tryz.func220 (by kernel_rfl) rfl)
    (match_stops _ (by omega) (w3.heap.size + 1) HI.out P HP.out B4.out MG.out (by omega) (by omega) (by omega) (by omega) (by omega) (by omega))
    Kq.t (Kq.b (Nat.le_refl _)) (Below.refl _ _) (fun _ => rfl)
    (fun pre W => FiI W (w.heap.size + 1) w3.heap.size (w3.heap.size + 1) la es.length lc (.func (.func 216) #[] #[.pointer (some ⟨ab, 0, none⟩)]) ⟨ks, ws, size⟩ (bestL (wtAt ⟨ks, ws, size⟩ es) (hv pre)) ∧ Below w.heap.size w W ∧ w4.heap.size ≤ W.heap.size)
    (fun _ _ _ => False)
    (OwnFrom.and (Own.from (fun s A B row hs hg hr => hs.kept hg hr) _) (OwnFrom.and (ownFrom_below (Nat.le_refl _) (by omega)) (fun s A B row hs hg hr => Nat.le_trans hs hg.size)))
    (fun _ _ _ _ _ hs _ _ => hs)
    ⟨I4.out, B4.out, Nat.le_refl _⟩ _ ?assign ?body ?done ?stop
  case assign =>
    intro l x W K hK
    dsimp only [encH]
    gi_wp2
    exact hK
  case stop =>
    rintro D c pre W _ _ h _
    exact h.elim
  case body =>
    rintro lp pre ⟨k, hk, hpk⟩ W ⟨hI, hBW, hsz⟩ hlen
    obtain ⟨p, off, rfl, hp, hcl⟩ := (HI.out.l.below hBW).some (by omega)
    have HN : Hid (hv (pre ++ [⟨k, hk, hpk⟩]) = hv pre ++ [k]) := hv_snoc pre _
    have HI0 := hide hI
    have HBW := hide hBW
    have HSZ := hide hsz
    have hmx : Tryz.prog.follows .mixedOrders = true := by kernel_rfl
    obtain ⟨X, f, hX, hS, hcov⟩ := class_of (fun w' => Below W.heap.size W w') W.drew (Below.refl _ _).drew
    have HC0 : Hid (∃ x, W.drew = f x) := hcov _ (Below.refl _ _).drew
    have HNX : Hid (∀ x w', Below (f x).heap.size (f x) w' → ∃ y, w' = f y) := fun x w' hb => hcov w' ((hS x).trans (hb.mono (hS x).size))
    have HSS := hide hS
    obtain ⟨o, ho⟩ : ∃ o, o = bestL (wtAt ⟨ks, ws, size⟩ es) (hv pre) := ⟨_, rfl⟩
    rw [← ho] at hI HI0
    have t8 := fun x => (at1 (heap_below (hS x) hI.best)).1
    have t8f := fun x => (at1 (heap_below (hS x) hI.best)).2
    have t7 := fun x => (at1 (heap_below (hS x) hI.fn)).1
    have t4 := fun x => (at1 (heap_below (hS x) hI.lb)).1
    have hab : W.heap[ab]? = some (.cells #[.int .i64 k1] 3 (0, 0)) := by
      rcases hI.wf with ⟨h, -⟩ | ⟨-, k2, b2, e2, e3, e4⟩ | ⟨-, h, -⟩
      · have h1 : weighsB ⟨ks, ws, size⟩ = false := HCS.out
        rw [h1] at h; cases h
      · have h2 : preI ⟨ks, ws, size⟩ = k1 := HCP.out
        obtain rfl : k2 = k1 := by rw [h2] at e2; omega
        cases e3
        exact e4
      · have h2 : preI ⟨ks, ws, size⟩ = k1 := HCP.out
        rw [h2] at h; omega
    have HO : Hid (bestL (wtAt ⟨ks, ws, size⟩ es) (hv (pre ++ [⟨k, hk, hpk⟩])) = pickB (wtAt ⟨ks, ws, size⟩ es) o k) := by show _ = _; rw [HN.out, bestL_snoc, ← ho]
    have HBH : Hid (∀ j, o = some j → ∃ hj : j < es.length, P es[j] = true) := fun j e => best_hit pre j (by rw [← ho, e])
    have HJ : Hid (∀ j (hj : j < es.length), (∀ x, (f x).cell? ⟨p, off + j * 4, none⟩ = some (.slice es[j].ma es[j].e.ms.length es[j].mc) ∧ (f x).cell? ⟨p, off + j * 4 + 1, none⟩ = some (.int .i64 es[j].e.prio) ∧ (f x).cell? ⟨p, off + j * 4 + 2, none⟩ = some (.string es[j].e.act) ∧ (f x).cell? ⟨p, off + j * 4 + 3, none⟩ = some (.slice es[j].aa es[j].e.args.length es[j].ac))) := fun j hj x => by
      have hc := hcl j hj
      exact ⟨((hS x).cell (p := ⟨p, _, none⟩) hp).trans hc.1, ((hS x).cell (p := ⟨p, _, none⟩) hp).trans hc.2.1, ((hS x).cell (p := ⟨p, _, none⟩) hp).trans hc.2.2.1, ((hS x).cell (p := ⟨p, _, none⟩) hp).trans hc.2.2.2⟩
    have HWT2 : Hid (∀ i (hi : i < es.length), P es[i] = true → ∀ x, Calls Tryz.prog 216 #[.agg #[.slice es[i].ma es[i].e.ms.length es[i].mc, .int .i64 es[i].e.prio, .string es[i].e.act, .slice es[i].aa es[i].e.args.length es[i].ac], .pointer (some ⟨ab, 0, none⟩)] (f x) fun e w' => e = .returned (.int .i64 (wtAt ⟨ks, ws, size⟩ es i)) ∧ Below (f x).heap.size (f x) w') := fun i hi hp x => by
      have hml : k1 < es[i].e.ms.length := by
        rw [HP.out] at hp
        have h1 : es[i].e.ms.length = keys.length := by
          simp only [hitB, Bool.and_eq_true, beq_iff_eq] at hp
          exact hp.1
        have h2 := HI.out.kl
        have h3 := HCK.out
        rw [h1, h2]
        exact h3
      have e : wtAt ⟨ks, ws, size⟩ es i = es[i].e.ms[k1].len := by
        have h1 : weighsB ⟨ks, ws, size⟩ = false := HCS.out
        have h2 : preI ⟨ks, ws, size⟩ = k1 := HCP.out
        simp [wtAt, hi, wtI, h1, h2, hml]
      rw [e]
      exact weight2_any es[i] ab k1 (f x) ((HI.out.l.ok _ (List.getElem_mem hi)).below (bstep hBW (hS x))) (heap_below (hS x) hab) hml
    have HRS : Hid (∀ x, _) := fun x => round_sets (n₀ := w4.heap.size) HI0.out HBW.out (hS x) HSZ.out (by omega) k (by omega) (by omega) (fun b e => by cases e; have := HLA.out; omega)
    have HRK : Hid (∀ x, _) := fun x => round_keeps (n₀ := w4.heap.size) HI0.out HBW.out (hS x) HSZ.out
    clear hcov hS hI hBW hsz ho hcl hab
    cases o with
    | none =>
      have t8' : ∀ x, (f x).cell? ⟨w3.heap.size + 1, 0, none⟩ = some (.int .i64 (-1)) := t8
      clear t8
      gi_wp2
      refine wpIn_region_class f hmx (by kernel_rfl) (by kernel_rfl) HC0.out ?_
      repeat (first
        | go_big_quiet_skip
        | (go_big_quiet_want; go_big_quiet_op; first
            | go_big_quiet_on
            | fail))
      refine wpQuiet_nil ?_
      rintro _ ⟨x, rfl⟩
      gi_wp2
      obtain ⟨z1, z2, z3, z4, z5⟩ := HRS.out x
      exact ⟨z1, z2, by rw [HO.out]; exact z3, z4, z5⟩
    | some j =>
      obtain ⟨hj, hpj⟩ := HBH.out j rfl
      have t8' : ∀ x, (f x).cell? ⟨w3.heap.size + 1, 0, none⟩ = some (.int .i64 (j : Int)) := t8
      have f1 : ((j : Int) == -1) = false := by simp <;> omega
      have f2 : ((j : Int) = -1) = False := by simp <;> omega
      have hkI : (k : Int) < (es.length : Int) := by omega
      have hjI : (j : Int) < (es.length : Int) := by omega
      have a0 := fun x => (HJ.out k hk x).1
      have a1 := fun x => (HJ.out k hk x).2.1
      have a2 := fun x => (HJ.out k hk x).2.2.1
      have a3 := fun x => (HJ.out k hk x).2.2.2
      have b0 := fun x => (HJ.out j hj x).1
      have b1 := fun x => (HJ.out j hj x).2.1
      have b2 := fun x => (HJ.out j hj x).2.2.1
      have b3 := fun x => (HJ.out j hj x).2.2.2
      clear t8
      cases hd : decide (wtAt ⟨ks, ws, size⟩ es j < wtAt ⟨ks, ws, size⟩ es k)
      · have HD : Hid (pickB (wtAt ⟨ks, ws, size⟩ es) (some j) k = some j) := by
          show _ = _
          have := of_decide_eq_false hd
          simp [pickB, this]
        have hd' : decide (wtAt ⟨ks, ws, size⟩ es k > wtAt ⟨ks, ws, size⟩ es j) = false := hd
        gi_wp2
        refine wpIn_region_class f hmx (by kernel_rfl) (by kernel_rfl) HC0.out ?_
        repeat (first
          | go_big_quiet_skip
          | (go_big_quiet_want; go_big_quiet_op; first
              | go_big_quiet_on
              | (apply Exists.intro
                 refine ⟨fun _ => ?_, ?_⟩
                 · (go_at_call 216; refine (HWT2.out _ (by assumption) (by assumption) _).mono ?_; rintro e' wn ⟨rfl, hb⟩; exact ⟨rfl, HNX.out _ _ hb⟩)
                 go_big_quiet_on)))
        refine wpQuiet_nil ?_
        rintro _ ⟨x, rfl⟩
        gi_wp2
        obtain ⟨z1, z2, z3, z4, z5⟩ := HRK.out x
        exact ⟨z1, z2, by rw [HO.out, HD.out]; exact z3, z4, z5⟩
      · have HD : Hid (pickB (wtAt ⟨ks, ws, size⟩ es) (some j) k = some k) := by
          show _ = _
          have := of_decide_eq_true hd
          simp [pickB, this]
        have hd' : decide (wtAt ⟨ks, ws, size⟩ es k > wtAt ⟨ks, ws, size⟩ es j) = true := hd
        gi_wp2
        refine wpIn_region_class f hmx (by kernel_rfl) (by kernel_rfl) HC0.out ?_
        repeat (first
          | go_big_quiet_skip
          | (go_big_quiet_want; go_big_quiet_op; first
              | go_big_quiet_on
              | (apply Exists.intro
                 refine ⟨fun _ => ?_, ?_⟩
                 · (go_at_call 216; refine (HWT2.out _ (by assumption) (by assumption) _).mono ?_; rintro e' wn ⟨rfl, hb⟩; exact ⟨rfl, HNX.out _ _ hb⟩)
                 go_big_quiet_on)))
        refine wpQuiet_nil ?_
        rintro _ ⟨x, rfl⟩
        gi_wp2
        obtain ⟨z1, z2, z3, z4, z5⟩ := HRS.out x
        exact ⟨z1, z2, by rw [HO.out, HD.out]; exact z3, z4, z5⟩
  case done =>
    rintro D ys W hD hys ⟨hI, hBW, hsz⟩ hK
    have HH : Hid (bestC (bestL (wtAt ⟨ks, ws, size⟩ es) (hv ys)) = R) := by show _ = _; rw [HR.out, hys]
    obtain ⟨g8, -⟩ := at1 hI.best
    rw [HH.out] at g8
    have HB := hide hBW
    have HK := hide hK
    clear hI hBW hK hys
    gi_wp2
    refine ⟨by simp, .inl ⟨_, _, rfl, run_takeDeferred HK.out, ?_⟩⟩
    refine ⟨_, results_tmp rfl _ _ _, rfl, ?_⟩
    exact HB.out.trans (belowK_b (w := w) (Nat.le_refl _) W D _ _ (by omega) HK.out rfl rfl)
set_option maxRecDepth 100000 in
set_option maxHeartbeats 8000000 in
theorem find_yes3 (x : TbL) (la : Option Addr) (lc : Nat) (es : List EnL) (ka : Option Addr) (kc : Nat) (keys : List Nb) (w : World) (hi : Mi w x la lc es ka kc keys) (hb : findB x.t keys = true) (hcs : weighsB x.t = false) (hcp : preI x.t = -1) (P : EnL → Bool) (hP : P = fun y => hitB x.t keys y.e) :
    Calls Tryz.prog 25 #[x.val, .slice la es.length lc, .slice ka keys.length kc] w fun e w' => e = .returned (.int .i64 (bestC (bestL (wtAt x.t es) (idxsTo P es es.length)))) ∧ Below w.heap.size w w' := by
  have hk1 : keys.length ≤ 1000000 := by have := (tab_row hi.may).1; have := hi.kl; omega
  have HT : Hid (∀ W, Below w.heap.size w W → _) := fun W hb => tableMayBe_any x W (hi.t.below hb)
  have HE : Hid (∀ W, Below w.heap.size w W → _) := fun W hb => equalFunc_any ka x.wa kc x.wc keys x.t.ws W (hi.k.below hb) (hi.t.ws.below hb) hi.kr (by omega)
  have HG : Hid (∀ W, Below w.heap.size w W → _) := fun W hb => weigher_any x W (hi.t.below hb)
  have HM : Hid (∀ W, _) := fun W => matching_any x la ka es.length lc keys.length kc W
  unfold findB at hb
  rw [Bool.and_eq_true] at hb
  rw [hi.may] at HT
  rw [hb.2] at HE
  clear hb hk1
  have HI := hide hi
  have HCS := hide hcs
  have HCP := hide hcp
  clear hcs hcp
  have HP := hide hP
  clear hi hP
  obtain ⟨R, hR⟩ : ∃ R : Int, R = bestC (bestL (wtAt x.t es) (idxsTo P es es.length)) := ⟨_, rfl⟩
  rw [← hR]
  have HR := hide hR
  clear hR
  obtain ⟨V, hV⟩ : ∃ V : Value, V = x.val := ⟨_, rfl⟩
  have HV := hide hV
  obtain ⟨⟨ks, ws, size⟩, xka, xkc, xwa, xwc⟩ := x
  simp only [TbL.val] at HT HE HG HM ⊢
  clear hV
  refine (callsIn_wide (n := 6)).1 ?_
  refine callsIn_of_wp_marks Tryz.func25 rfl trivial ?_ rfl
  simp only [Tryz.ntmps25, List.size_toArray, List.length_cons, List.length_nil, Nat.reduceAdd, Nat.reduceSub, Array.replicate_succ, Array.replicate_zero, List.push_toArray, List.append_toArray, List.nil_append, List.cons_append]
  gi_wp2_with fail
  refine ⟨trivial, (callsIn_wide.2 (HT.out _ (below2 _ _ _))).mono ?_⟩
  rintro e w1 ⟨rfl, hb⟩
  have B1 := hide (bstep (below2 _ _ _) hb)
  have T1 := hide (heap_below hb (heap_past _ (heap_alloc_new _ _)))
  have L1 := hide (heap_below hb (heap_snd _ _ _ _))
  obtain ⟨c0, c1, c2, -⟩ := at3 T1.out
  clear hb
  gi_wp2_with fail
  refine ⟨trivial, (callsIn_wide.2 (HE.out _ B1.out)).mono ?_⟩
  rintro e w2 ⟨rfl, hb2⟩
  have B2 := hide (bstep B1.out hb2)
  have T2 := hide (heap_below hb2 T1.out)
  have L2 := hide (heap_below hb2 L1.out)
  obtain ⟨d0, d1, d2, -⟩ := at3 T2.out
  clear hb2 c0 c1 c2
  gi_wp2_with fail
  refine ⟨trivial, (callsIn_wide.2 (HG.out _ B2.out)).mono ?_⟩
  rintro e w3 ⟨fv, rfl, hwf, hb3⟩
  have B3 := hide (bstep B2.out hb3)
  have T3 := hide (heap_below hb3 T2.out)
  have L3 := hide (heap_below hb3 L2.out)
  obtain ⟨e0, e1, e2, -⟩ := at3 T3.out
  have HWF := hide hwf
  clear hb3 d0 d1 d2 hwf
  rcases HWF.out with ⟨h, -⟩ | ⟨-, k1, -, h, -, -⟩ | ⟨hw1, -, rfl⟩
  · rw [HCS.out] at h; cases h
  · rw [HCP.out] at h; omega
  have T4 := hide (heap_past (.cells #[.int .i64 (-1)] 3) (heap_past (.cells #[.func (.func 217) #[] #[]] 80) T3.out))
  have L4 := hide (heap_past (.cells #[.int .i64 (-1)] 3) (heap_past (.cells #[.func (.func 217) #[] #[]] 80) L3.out))
  obtain ⟨f0, f1, f2, -⟩ := at3 T4.out
  obtain ⟨f3, -⟩ := at1 L4.out
  have F4 := hide (heap_past (.cells #[.int .i64 (-1)] 3) (heap_alloc_new w3 (.cells #[.func (.func 217) #[] #[]] 80)))
  have G4 := hide (heap_snd w3 (.cells #[.func (.func 217) #[] #[]] 80) #[.int .i64 (-1)] 3)
  clear hw1 e0 e1 e2
  gi_wp2_with fail
  refine ⟨trivial, (callsIn_wide.2 (HM.out _)).mono ?_⟩
  rintro e w4 ⟨tb, lb, kb, rb, hb, rfl, hmg, h1, h2, h3, h4, h5, hb4⟩
  simp only [World.size_alloc] at h1 h2 h3 h4 h5
  have B4 := hide (bstep (bstep B3.out (below2 _ _ _)) hb4)
  have MG := hide hmg
  have hz4 : w3.heap.size + 1 < w4.heap.size := by have := hb4.size; simp only [World.size_alloc] at this; omega
  have I4 : Hid (FiI w4 (w.heap.size + 1) w3.heap.size (w3.heap.size + 1) la es.length lc (.func (.func 217) #[] #[]) ⟨ks, ws, size⟩ none) := ⟨heap_below hb4 G4.out, heap_below hb4 F4.out, heap_below hb4 L4.out, .inr (.inr ⟨HCS.out, HCP.out, rfl⟩)⟩
  have hz3 : w.heap.size + 1 < w3.heap.size := lt_heap L3.out
  clear hmg hb4 f0 f1 f2 f3 T4 L4 F4 G4 T3 L3 T2 L2 T1 L1
  gi_wp2
  refine' wpIn_rangeFunc_ownF rfl (by omega) (gf := 220) (lb := #[.pointer (some ⟨lb, 0, none⟩), .pointer (some ⟨kb, 0, none⟩), .pointer (some ⟨hb, 0, none⟩)]) rfl trivial (enters_of Tryz.func220 (by kernel_rfl) rfl)
    (match_stops _ (by omega) (w3.heap.size + 1) HI.out P HP.out B4.out MG.out (by omega) (by omega) (by omega) (by omega) (by omega) (by omega))
    Kq.t (Kq.b (Nat.le_refl _)) (Below.refl _ _) (fun _ => rfl)
    (fun pre W => FiI W (w.heap.size + 1) w3.heap.size (w3.heap.size + 1) la es.length lc (.func (.func 217) #[] #[]) ⟨ks, ws, size⟩ (bestL (wtAt ⟨ks, ws, size⟩ es) (hv pre)) ∧ Below w.heap.size w W ∧ w4.heap.size ≤ W.heap.size)
    (fun _ _ _ => False)
    (OwnFrom.and (Own.from (fun s A B row hs hg hr => hs.kept hg hr) _) (OwnFrom.and (ownFrom_below (Nat.le_refl _) (by omega)) (fun s A B row hs hg hr => Nat.le_trans hs hg.size)))
    (fun _ _ _ _ _ hs _ _ => hs)
    ⟨I4.out, B4.out, Nat.le_refl _⟩ _ ?assign ?body ?done ?stop
  case assign =>
    intro l x W K hK
    dsimp only [encH]
    gi_wp2
    exact hK
  case stop =>
    rintro D c pre W _ _ h _
    exact h.elim
  case body =>
    rintro lp pre ⟨k, hk, hpk⟩ W ⟨hI, hBW, hsz⟩ hlen
    obtain ⟨p, off, rfl, hp, hcl⟩ := (HI.out.l.below hBW).some (by omega)
    have HN : Hid (hv (pre ++ [⟨k, hk, hpk⟩]) = hv pre ++ [k]) := hv_snoc pre _
    have HI0 := hide hI
    have HBW := hide hBW
    have HSZ := hide hsz
    have hmx : Tryz.prog.follows .mixedOrders = true := by kernel_rfl
    obtain ⟨X, f, hX, hS, hcov⟩ := class_of (fun w' => Below W.heap.size W w') W.drew (Below.refl _ _).drew
    have HC0 : Hid (∃ x, W.drew = f x) := hcov _ (Below.refl _ _).drew
    have HNX : Hid (∀ x w', Below (f x).heap.size (f x) w' → ∃ y, w' = f y) := fun x w' hb => hcov w' ((hS x).trans (hb.mono (hS x).size))
    have HSS := hide hS
    obtain ⟨o, ho⟩ : ∃ o, o = bestL (wtAt ⟨ks, ws, size⟩ es) (hv pre) := ⟨_, rfl⟩
    rw [← ho] at hI HI0
    have t8 := fun x => (at1 (heap_below (hS x) hI.best)).1
    have t8f := fun x => (at1 (heap_below (hS x) hI.best)).2
    have t7 := fun x => (at1 (heap_below (hS x) hI.fn)).1
    have t4 := fun x => (at1 (heap_below (hS x) hI.lb)).1
    have HO : Hid (bestL (wtAt ⟨ks, ws, size⟩ es) (hv (pre ++ [⟨k, hk, hpk⟩])) = pickB (wtAt ⟨ks, ws, size⟩ es) o k) := by show _ = _; rw [HN.out, bestL_snoc, ← ho]
    have HBH : Hid (∀ j, o = some j → ∃ hj : j < es.length, P es[j] = true) := fun j e => best_hit pre j (by rw [← ho, e])
    have HJ : Hid (∀ j (hj : j < es.length), (∀ x, (f x).cell? ⟨p, off + j * 4, none⟩ = some (.slice es[j].ma es[j].e.ms.length es[j].mc) ∧ (f x).cell? ⟨p, off + j * 4 + 1, none⟩ = some (.int .i64 es[j].e.prio) ∧ (f x).cell? ⟨p, off + j * 4 + 2, none⟩ = some (.string es[j].e.act) ∧ (f x).cell? ⟨p, off + j * 4 + 3, none⟩ = some (.slice es[j].aa es[j].e.args.length es[j].ac))) := fun j hj x => by
      have hc := hcl j hj
      exact ⟨((hS x).cell (p := ⟨p, _, none⟩) hp).trans hc.1, ((hS x).cell (p := ⟨p, _, none⟩) hp).trans hc.2.1, ((hS x).cell (p := ⟨p, _, none⟩) hp).trans hc.2.2.1, ((hS x).cell (p := ⟨p, _, none⟩) hp).trans hc.2.2.2⟩
    have HWT2 : Hid (∀ i (hi : i < es.length), P es[i] = true → ∀ x, Calls Tryz.prog 217 #[.agg #[.slice es[i].ma es[i].e.ms.length es[i].mc, .int .i64 es[i].e.prio, .string es[i].e.act, .slice es[i].aa es[i].e.args.length es[i].ac]] (f x) fun e w' => e = .returned (.int .i64 (wtAt ⟨ks, ws, size⟩ es i)) ∧ Below (f x).heap.size (f x) w') := fun i hi _ x => by
      have e : wtAt ⟨ks, ws, size⟩ es i = 0 := by
        have h1 : weighsB ⟨ks, ws, size⟩ = false := HCS.out
        have h2 : preI ⟨ks, ws, size⟩ = -1 := HCP.out
        simp [wtAt, wtI, h1, h2]
      rw [e]
      exact weight3_any es[i] (f x)
    have HRS : Hid (∀ x, _) := fun x => round_sets (n₀ := w4.heap.size) HI0.out HBW.out (hS x) HSZ.out (by omega) k (by omega) (by omega) (fun b e => by cases e)
    have HRK : Hid (∀ x, _) := fun x => round_keeps (n₀ := w4.heap.size) HI0.out HBW.out (hS x) HSZ.out
    clear hcov hS hI hBW hsz ho hcl
    cases o with
    | none =>
      have t8' : ∀ x, (f x).cell? ⟨w3.heap.size + 1, 0, none⟩ = some (.int .i64 (-1)) := t8
      clear t8
      gi_wp2
      refine wpIn_region_class f hmx (by kernel_rfl) (by kernel_rfl) HC0.out ?_
      repeat (first
        | go_big_quiet_skip
        | (go_big_quiet_want; go_big_quiet_op; first
            | go_big_quiet_on
            | fail))
      refine wpQuiet_nil ?_
      rintro _ ⟨x, rfl⟩
      gi_wp2
      obtain ⟨z1, z2, z3, z4, z5⟩ := HRS.out x
      exact ⟨z1, z2, by rw [HO.out]; exact z3, z4, z5⟩
    | some j =>
      obtain ⟨hj, hpj⟩ := HBH.out j rfl
      have t8' : ∀ x, (f x).cell? ⟨w3.heap.size + 1, 0, none⟩ = some (.int .i64 (j : Int)) := t8
      have f1 : ((j : Int) == -1) = false := by simp <;> omega
      have f2 : ((j : Int) = -1) = False := by simp <;> omega
      have hkI : (k : Int) < (es.length : Int) := by omega
      have hjI : (j : Int) < (es.length : Int) := by omega
      have a0 := fun x => (HJ.out k hk x).1
      have a1 := fun x => (HJ.out k hk x).2.1
      have a2 := fun x => (HJ.out k hk x).2.2.1
      have a3 := fun x => (HJ.out k hk x).2.2.2
      have b0 := fun x => (HJ.out j hj x).1
      have b1 := fun x => (HJ.out j hj x).2.1
      have b2 := fun x => (HJ.out j hj x).2.2.1
      have b3 := fun x => (HJ.out j hj x).2.2.2
      clear t8
      cases hd : decide (wtAt ⟨ks, ws, size⟩ es j < wtAt ⟨ks, ws, size⟩ es k)
      · have HD : Hid (pickB (wtAt ⟨ks, ws, size⟩ es) (some j) k = some j) := by
          show _ = _
          have := of_decide_eq_false hd
          simp [pickB, this]
        have hd' : decide (wtAt ⟨ks, ws, size⟩ es k > wtAt ⟨ks, ws, size⟩ es j) = false := hd
        gi_wp2
        refine wpIn_region_class f hmx (by kernel_rfl) (by kernel_rfl) HC0.out ?_
        repeat (first
          | go_big_quiet_skip
          | (go_big_quiet_want; go_big_quiet_op; first
              | go_big_quiet_on
              | (apply Exists.intro
                 refine ⟨fun _ => ?_, ?_⟩
                 · (go_at_call 217; refine (HWT2.out _ (by assumption) (by assumption) _).mono ?_; rintro e' wn ⟨rfl, hb⟩; exact ⟨rfl, HNX.out _ _ hb⟩)
                 go_big_quiet_on)))
        refine wpQuiet_nil ?_
        rintro _ ⟨x, rfl⟩
        gi_wp2
        obtain ⟨z1, z2, z3, z4, z5⟩ := HRK.out x
        exact ⟨z1, z2, by rw [HO.out, HD.out]; exact z3, z4, z5⟩
      · have HD : Hid (pickB (wtAt ⟨ks, ws, size⟩ es) (some j) k = some k) := by
          show _ = _
          have := of_decide_eq_true hd
          simp [pickB, this]
        have hd' : decide (wtAt ⟨ks, ws, size⟩ es k > wtAt ⟨ks, ws, size⟩ es j) = true := hd
        gi_wp2
        refine wpIn_region_class f hmx (by kernel_rfl) (by kernel_rfl) HC0.out ?_
        repeat (first
          | go_big_quiet_skip
          | (go_big_quiet_want; go_big_quiet_op; first
              | go_big_quiet_on
              | (apply Exists.intro
                 refine ⟨fun _ => ?_, ?_⟩
                 · (go_at_call 217; refine (HWT2.out _ (by assumption) (by assumption) _).mono ?_; rintro e' wn ⟨rfl, hb⟩; exact ⟨rfl, HNX.out _ _ hb⟩)
                 go_big_quiet_on)))
        refine wpQuiet_nil ?_
        rintro _ ⟨x, rfl⟩
        gi_wp2
        obtain ⟨z1, z2, z3, z4, z5⟩ := HRS.out x
        exact ⟨z1, z2, by rw [HO.out, HD.out]; exact z3, z4, z5⟩
  case done =>
    rintro D ys W hD hys ⟨hI, hBW, hsz⟩ hK
    have HH : Hid (bestC (bestL (wtAt ⟨ks, ws, size⟩ es) (hv ys)) = R) := by show _ = _; rw [HR.out, hys]
    obtain ⟨g8, -⟩ := at1 hI.best
    rw [HH.out] at g8
    have HB := hide hBW
    have HK := hide hK
    clear hI hBW hK hys
    gi_wp2
    refine ⟨by simp, .inl ⟨_, _, rfl, run_takeDeferred HK.out, ?_⟩⟩
    refine ⟨_, results_tmp rfl _ _ _, rfl, ?_⟩
    exact HB.out.trans (belowK_b (w := w) (Nat.le_refl _) W D _ _ (by omega) HK.out rfl rfl)
theorem find_any (x : TbL) (la : Option Addr) (lc : Nat) (es : List EnL) (ka : Option Addr) (kc : Nat) (keys : List Nb) (w : World) (hx : TbR w x) (hl : RdE w la es) (hn : es.length ≤ 1000000) (hk : RdN w ka keys) (hkr : ∀ b ∈ keys, NbR b) (hkn : keys.length ≤ 1000000) :
    Calls Tryz.prog 25 #[x.val, .slice la es.length lc, .slice ka keys.length kc] w fun e w' => e = .returned (.int .i64 (findI x.t es keys)) ∧ Below w.heap.size w w' := by
  unfold findI
  cases hb : findB x.t keys
  · exact find_no x la lc es ka kc keys w hx hk hkr hkn hb
  · have hb2 := hb
    simp only [findB, Bool.and_eq_true, beq_iff_eq] at hb2
    have hi : Mi w x la lc es ka kc keys := ⟨hx, hl, hk, hkr, hb2.1, by rw [hb2.2.1, (tab_row hb2.1).2.1], hn⟩
    cases hw : weighsB x.t
    · rcases preI_cases x.t with hp | ⟨k, hp, hk⟩
      · exact find_yes3 x la lc es ka kc keys w hi hb hw hp _ rfl
      · exact find_yes2 x la lc es ka kc keys w hi hb hw k hp hk _ rfl
    · exact find_yes1 x la lc es ka kc keys w hi hb hw _ rfl
end Go.Proofs.YteflnicgohjiiaaGreatDoor
