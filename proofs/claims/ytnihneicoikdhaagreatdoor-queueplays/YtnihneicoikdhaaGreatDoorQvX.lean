/- pointsmanlaw17.QueuePlays, walked. -/
import Derived.Test.YtnihneicoikdhaaGreatDoorQvW
import Derived.Deep.CutBlock
namespace Go.Proofs.YtnihneicoikdhaaGreatDoor
open Go.RowKit

theorem bk0_one : ∀ v ∈ bk0.toList, v.oneCell' = true := by
  intro v hv
  simp [bk0] at hv
  rcases hv with rfl | rfl <;> rfl
set_option maxRecDepth 100000 in
theorem bk_size : ∀ w : World, (sizeOf 70).run Tryz.prog w = .ok bk0.size w := fun w => by rfl
theorem RdQ.get {W : World} {a : Option Addr} {l : List Qa} (h : RdQ W a l) (h0 : 0 < l.length) : ∃ p off, a = some ⟨p, off, none⟩ ∧ p < W.heap.size ∧ ∀ i (h : i < l.length), W.cell? ⟨p, off + i * 4, none⟩ = some (.bool l[i].put) ∧ W.cell? ⟨p, off + i * 4 + 1, none⟩ = some (.int .i64 l[i].port) ∧ W.cell? ⟨p, off + i * 4 + 2, none⟩ = some (.slice l[i].a l[i].xs.length l[i].cap) ∧ W.cell? ⟨p, off + i * 4 + 3, none⟩ = some (.int .i64 l[i].n) := by
  rcases h.rd with rfl | h
  · simp at h0
  · exact h
theorem PD.mono {w W : World} {gr gb r N N' : Nat} {U M : List Cy} (h : PD w gr gb r N U M W) (hN : N ≤ N') : PD w gr gb r N' U M W := by
  obtain ⟨n, v, hs, hb, hl⟩ := h.b
  exact ⟨h.d, ⟨n, v, hs, hb, by omega⟩, h.o, h.m, h.x, h.ne⟩
theorem PD.apart {w W : World} {gr gb r N : Nat} {U M : List Cy} (h : PD w gr gb r N U M W) : Calls Tryz.prog 17 #[.pointer (some ⟨gb, 0, none⟩)] W fun e W' => e = .returned (.bool true) ∧ Below w.heap.size w W' := by
  obtain ⟨n, v, hs, hb, hl⟩ := h.b
  exact BoR.apart kQ_ok bookQ hb
/- A list with one more behind it is told as it is. -/
theorem PD.twin {w wr W1 w5 : World} {gr gb r N : Nat} {L M : List Cy} (h : PD w gr gb r N L M wr) (b1 : Below wr.heap.size wr W1) (b5 : Below W1.heap.size W1 w5) {tb tc : Nat} {xs : List Nat} (ho : Own8 w5 W1.heap.size (.slice (some ⟨tb, 0, none⟩) (xs.length + 1) tc) (xs ++ [77])) (hx : xs.length ≤ 140737488351232) :
    PD w gr gb r (N + 1) ([⟨0, some ⟨tb, 0, none⟩, tc, xs⟩] ++ L) M w5 := by
  have h1 := h.next b1
  refine PD.add (U1 := []) (U2 := L) h1 (h1.next b5) (fun n v hs hb => hb.next b5) ⟨0, some ⟨tb, 0, none⟩, tc, xs⟩ ?_ hx
  have := Own8.cut ho xs.length (by simp)
  rw [List.take_left] at this
  exact this
theorem rdc_own {W : World} {B n cap : Nat} {e : TypeId} {a : Option Addr} {L : List Cy} (h : W.ownsRow B e 2 (.slice a n cap) L.length (flat Cy.cells L)) (i : Nat) (hi : i < L.length) : ∃ p, a = some ⟨p, 0, none⟩ ∧ W.cell? ⟨p, i * 2, none⟩ = some (.int .i64 L[i].port) ∧ W.cell? ⟨p, i * 2 + 1, none⟩ = some (.slice L[i].a L[i].xs.length L[i].cap) := by
  rcases h.2 with ⟨_, hn⟩ | ⟨g, c, cur, e, hg, hcur, _⟩
  · omega
  · injection e with e1 e2 e3
    subst e1
    have k0 := World.ownsRow.cells h rfl (i * 2 + 0) _ (flat_get cy_len L i 0 hi (by decide))
    have k1 := World.ownsRow.cells h rfl (i * 2 + 1) _ (flat_get cy_len L i 1 hi (by decide))
    rw [Addr.add_mid] at k0 k1
    simp only [Nat.zero_add, Nat.add_zero] at k0 k1
    exact ⟨g, rfl, k0, k1⟩
/- Ahead of each round. -/
structure PX (w : World) (gq gr gb r k : Nat) (W : World) : Prop where
  ge : w.heap.size ≤ gq ∧ gq ≠ gb
  x : ∃ f L M, Qs W gq r f L ∧ PD w gr gb r (2 * k) L M W ∧ L.map Cy.key = M.map Cy.key
theorem PX.start {w w1 w2 : World} {r : Nat} (hq : Qs w1 w.heap.size r 0 []) (hb1 : Below w.heap.size w w1) (hd : Rs w2 w1.heap.size w1.heap.size r (.slice none 0 0) []) (hb2 : Below w1.heap.size w1 w2) (t : TypeId) : PX w w.heap.size w1.heap.size w2.heap.size r 0 (w2.alloc (.cells bk0 t)) := by
  have hb3 := below1 w2 (.cells bk0 t)
  have s1 := hb1.size; have s2 := hb2.size
  have hlt := hq.lt
  have hd2 := hd.below hb3
  refine ⟨⟨Nat.le_refl _, by omega⟩, 0, [], [], (hq.below hb2).below hb3, ⟨⟨_, ⟨hd2.blk, owR_lower hd2.row (by omega), by omega⟩, fun e => by cases e⟩, ⟨0, _, _, BoR.start (hb1.trans (hb2.mono s1)) t, by simp⟩, fun c hc => by simp at hc, fun c hc => by simp at hc, fun c hc => by simp at hc, ?_⟩, rfl⟩
  have := lt_heap hd.blk
  omega
set_option maxRecDepth 100000 in
set_option maxHeartbeats 4000000 in
theorem plays_good (r : Nat) (hr64 : r ≤ 64) (a : Option Addr) (cap : Nat) (qs : List Qa) (w : World) (h : qs.length ≤ 3000) (hrd : RdQ w a qs) : Calls Tryz.prog 3 #[.int .i64 r, .slice a qs.length cap] w fun e w' => e = .returned (.bool true) ∧ Below w.heap.size w w' := by
  have HV : Hid (∀ W, _) := fun W => lives_any W
  have HR := hide hrd
  have d1 : decide ((qs.length : Int) > 3000) = false := by simp; omega
  have d2 : (3000 < qs.length) = False := by simp; omega
  have H1 := hide (new_yes r w hr64)
  have H2 : Hid (∀ W, _) := fun W => rnew_yes r W hr64
  clear hrd
  go_enter Tryz.func3, Tryz.ntmps3
  go_wp2_with fail
  refine H1.out.mono ?_
  rintro e w1 ⟨rfl, hq, hb1⟩
  have Q1 := hide hq
  have B1 := hide hb1
  clear hq hb1
  go_wp2_with fail
  refine (H2.out w1).mono ?_
  rintro e w2 ⟨rfl, hd, hb2⟩
  have P0 := hide (PX.start Q1.out B1.out hd hb2 70)
  clear hd hb2 Q1 B1 H1 H2
  go_wp2
  obtain ⟨gr, hgr⟩ : ∃ gr, gr = w1.heap.size := ⟨_, rfl⟩
  obtain ⟨gb, hgb⟩ : ∃ gb, gb = w2.heap.size := ⟨_, rfl⟩
  simp only [← hgr, ← hgb] at P0 ⊢
  clear hgr hgb
  go_loopg [12] qs.length (fun gk i wr => ∃ (k : Nat), k + gk = qs.length ∧ i = .int .i64 k ∧ PX w w.heap.size gr gb r k wr)
  case atStart => exact ⟨0, by omega, rfl, P0.out⟩
  case round =>
    obtain ⟨k, hk, rfl, hP⟩ := hrel
    have HK := hide hk
    obtain ⟨go, hgo⟩ : ∃ go, go = gk := ⟨_, rfl⟩
    subst hgo
    obtain ⟨hge, f, L, M, hq, hd, hkey⟩ := hP
    have HGE := hide hge
    clear P0 hk hge
    by_cases hlt : k < qs.length
    · have hkI : (k : Int) < (qs.length : Int) := by omega
      have dk : decide (k < qs.length) = true := by simp; omega
      have hbl := hd.bl
      obtain ⟨p, off, rfl, hp, hc⟩ := HR.out.get (by omega)
      obtain ⟨q0, q1, q2, q3⟩ := hc k hlt
      have c0 := (hbl.cell (p := ⟨p, off + k * 4, none⟩) hp).trans q0
      have c1 := (hbl.cell (p := ⟨p, off + k * 4 + 1, none⟩) hp).trans q1
      have c2 := (hbl.cell (p := ⟨p, off + k * 4 + 2, none⟩) hp).trans q2
      have c3 := (hbl.cell (p := ⟨p, off + k * 4 + 3, none⟩) hp).trans q3
      have HO := hide (HR.out.ok _ (List.getElem_mem hlt))
      have hgbl := hd.gbl
      have hLr := hq.at.2.2.2.2.2.2.2
      clear hc q0 q1 q2 q3 HR
      generalize qs[k] = x at *
      obtain ⟨xput, xport, xa, xcap, xs, xn⟩ := x
      simp only at *
      have hML : M.length = L.length := by have := congrArg List.length hkey; simpa using this.symm
      have hb1 := below1 wr (.cells #[.bool xput, .int .i64 xport, .slice xa xs.length xcap, .int .i64 xn] 72)
      have hbox := heap_alloc_new wr (.cells #[.bool xput, .int .i64 xport, .slice xa xs.length xcap, .int .i64 xn] 72)
      generalize hW1 : wr.alloc (.cells #[.bool xput, .int .i64 xport, .slice xa xs.length xcap, .int .i64 xn] 72) = W1 at *
      have HW1 := hide hW1
      have hq1 := hide (hq.below hb1)
      have hd1 := hide (hd.next hb1)
      have HB1 := hide hb1
      have HBOX := hide hbox
      have HDW := hide hd
      have HKEY := hide hkey
      have HGB := hide hgbl
      have HXL : Hid (xs.length ≤ 140737488351232) := HO.out.ln
      have HLR : Hid (L.length ≤ r) := hLr
      have HML := hide hML
      have HR64 := hide hr64
      have e0 : W1.cell? ⟨wr.heap.size, 0, none⟩ = some (.bool xput) := cellA hbox 0
      have e1 : W1.cell? ⟨wr.heap.size, 1, none⟩ = some (.int .i64 xport) := cellA hbox 1
      have e2 : W1.cell? ⟨wr.heap.size, 2, none⟩ = some (.slice xa xs.length xcap) := cellA hbox 2
      have e3 : W1.cell? ⟨wr.heap.size, 3, none⟩ = some (.int .i64 xn) := cellA hbox 3
      clear hq hd hbl hkey hgbl hLr hML hb1 hbox hW1 hp
      cases xput with
      | true =>
        have HT := hide (twin_any xa xcap xs W1 HXL.out (HO.out.rd.below (HDW.out.bl.trans (HB1.out.mono HDW.out.bl.size))))
        go_wp2_with fail
        rw [HW1.out]
        refine HT.out.mono ?_
        rintro e w5 ⟨tb, tc, rfl, ht, htc, htg, hb5⟩
        have hgo : wr.heap.size < W1.heap.size := lt_heap HBOX.out
        have htne : (Value.slice (some ⟨tb, 0, none⟩) (xs.length + 1) tc).ownBlock ≠ some gb := fun e => by
          injection (show some tb = some gb from e) with e
          have := HGB.out
          have := HB1.out.size
          omega
        have hP5 := HDW.out.twin HB1.out hb5 ht HXL.out
        have hq5 := hq1.out.below hb5
        have hbox5 := heap_below hb5 HBOX.out
        have hrd5 := (Own8.cut ht xs.length (by simp)).rd.2
        rw [List.take_left] at hrd5
        have HPUT := hide (pput [⟨0, some ⟨tb, 0, none⟩, tc, xs⟩] hq5 hP5 HGE.out.1 HGE.out.2 xport (some ⟨tb, 0, none⟩) tc xs hrd5 (fun e => by cases e) HXL.out)
        have HRP : Hid (∀ W U N, PD w gr gb r N U M W → Calls Tryz.prog 12 #[.pointer (some ⟨gr, 0, none⟩), .agg #[.int .i64 xport, .slice xa xs.length xcap]] W fun e W' => e = .returned (.int .i64 (nx r (L.map Cy.key) (xport, xs)).1) ∧ ∃ M', M'.map Cy.key = (nx r (L.map Cy.key) (xport, xs)).2 ∧ PD w gr gb r N U M' W' ∧ TR gb W W') := fun W U N h => by
          rw [HKEY.out]
          exact prput h (by rw [HML.out]; exact HLR.out) HR64.out ⟨xport, xa, xcap, xs⟩ HO.out.rd
        have HT5 := hide ht
        have HTC := hide htc
        have HBOX5 := hide hbox5
        have f1 : w5.cell? ⟨wr.heap.size, 1, none⟩ = some (.int .i64 xport) := (cellA hbox5 1)
        have f2 : w5.cell? ⟨wr.heap.size, 2, none⟩ = some (.slice xa xs.length xcap) := (cellA hbox5 2)
        have HGO : Hid (wr.heap.size ≠ gb) := by have := HGB.out; show _ ≠ _; omega
        clear ht htc htg hb5 hP5 hq5 hbox5 hrd5 hgo HT
        generalize nx r (L.map Cy.key) (xport, xs) = NX at HPUT HRP
        obtain ⟨pc, K2⟩ := NX
        simp only at HPUT HRP
        go_wp2_with fail
        refine HPUT.out.mono ?_
        rintro e w6 ⟨rfl, L', hL', hq6, hP6, ht6⟩
        have hbox6 := ht6.2 _ _ _ _ HBOX5.out (by decide) (by decide) (by decide) (by decide) HGO.out
        have f1' : w6.cell? ⟨wr.heap.size, 1, none⟩ = some (.int .i64 xport) := (cellA hbox6 1)
        have f2' : w6.cell? ⟨wr.heap.size, 2, none⟩ = some (.slice xa xs.length xcap) := (cellA hbox6 2)
        have T6 := hide (ht6.own8 HT5.out htne)
        have Q6 := hide hq6
        have P6 := hide hP6
        have HL6 := hide hL'
        have HBOX6 := hide hbox6
        clear hq6 hP6 ht6 hL' hbox6 HPUT HBOX5 HT5
        go_wp2_with fail
        refine (HRP.out _ _ _ P6.out).mono ?_
        rintro e w7 ⟨rfl, M', hM', hP7, ht7⟩
        have hbox7 := ht7.2 _ _ _ _ HBOX6.out (by decide) (by decide) (by decide) HGO.out
        have f1'' : w7.cell? ⟨wr.heap.size, 1, none⟩ = some (.int .i64 xport) := (cellA hbox7 1)
        have f2'' : w7.cell? ⟨wr.heap.size, 2, none⟩ = some (.slice xa xs.length xcap) := (cellA hbox7 2)
        have T7 := hide (ht7.tf.own8 T6.out htne)
        have Q7 := hide (ht7.qs Q6.out HGE.out.2)
        have P7 := hide hP7
        have HKK : Hid (L'.map Cy.key = M'.map Cy.key) := HL6.out.trans hM'.symm
        have hcm : tc ≤ 9223372036854775807 := by
          have := Own8.some8 T7.out (by simp)
          obtain ⟨_, _, e, _, _, _, h⟩ := this
          injection e with _ _ e
          unfold maxLen at h
          omega
        have HLB := hide (left_yes tb tc xa xcap xs w7 _ HXL.out (HO.out.rd.below hP7.bl) HTC.out hcm T7.out)
        clear hP7 ht7 hM' hbox7 P6 Q6 HL6 T6 HBOX6
        go_wp2_with fail
        refine HLB.out.mono ?_
        rintro e w8 ⟨rfl, hb8⟩
        have P8 := hide (P7.out.next hb8)
        have Q8 := hide (Q7.out.below hb8)
        clear hb8 P7 Q7 HLB T7
        go_wp2_with fail
        refine (PD.tell (U := L') P8.out (by omega)).mono ?_
        rintro e w9 ⟨rfl, P9, ht9⟩
        have hq9 := ht9.qs Q8.out HGE.out.2
        have hk9 := HKK.out
        obtain ⟨L9, hL9⟩ : ∃ L9, L9 = L' := ⟨_, rfl⟩
        obtain ⟨M9, hM9⟩ : ∃ M9, M9 = M' := ⟨_, rfl⟩
        rw [← hL9] at P9 hq9 hk9
        rw [← hM9] at P9 hk9
        clear ht9 P8 Q8 HKK hL9 hM9 HRP
        have hlM : M9.length = L9.length := by have := congrArg List.length hk9; simpa using this.symm
        obtain ⟨vr, hd9, _⟩ := P9.d
        obtain ⟨av, cv, hvr⟩ := owR_shape hd9.row
        have cM := hd9.at.2.1
        rw [hvr, hlM] at cM
        have HLN : Hid (∀ n, Calls Tryz.prog 10 #[.pointer (some ⟨w.heap.size, 0, none⟩)] (w9.drewN n) fun e w' => e = .returned (.int .i64 L9.length) ∧ w' = w9.drewN n) := fun n => len_any (hq9.below (below_drewN (Below.refl _ _) n))
        have HEND : Hid (∀ n, PX w w.heap.size gr gb r (k + 1) (w9.drewN n)) := fun n => ⟨HGE.out, _, L9, M9, hq9.below (below_drewN (Below.refl _ _) n), (P9.next (below_drewN (Below.refl _ _) n)).mono (by omega), hk9⟩
        clear hq9 P9 hk9 hd9 hvr hlM
        generalize L9.length = ll at *
        go_wp2
        go_quiet ((go_at_call 10; exact Calls.quiet_of_same (HLN.out _)))
        go_wp2
        go_roundg (go - 1)
        case measure => have := HK.out; omega
        case rel => exact ⟨k + 1, by have := HK.out; omega, by go_num, HEND.out _⟩
      | false =>
        have HS1 := hide (psend hq1.out hd1.out HGE.out.1 HGE.out.2 xn)
        have HS2 : Hid (∀ W U N, PD w gr gb r N U M W → Calls Tryz.prog 15 #[.pointer (some ⟨gr, 0, none⟩), .int .i64 xn] W fun e W' => ∃ a c, e = .returned (.tuple #[.slice a (sx L.length xn).2 c, .int .i64 (sx L.length xn).1]) ∧ W'.ownsRow W.heap.size 75 2 (.slice a (sx L.length xn).2 c) (sx L.length xn).2 (flat Cy.cells (M.take (sx L.length xn).2)) ∧ PD w gr gb r N U (M.drop (sx L.length xn).2) W' ∧ TR gb W W') := fun W U N h => by
          have := prsend h (by rw [HML.out]; have := HLR.out; have := HR64.out; omega) xn
          rw [HML.out] at this
          exact this
        have HKL : Hid ((sx L.length xn).2 ≤ L.length) := by show _ ≤ _; unfold sx; split <;> simp <;> omega
        have HGO : Hid (wr.heap.size ≠ gb) := by have := HGB.out; show _ ≠ _; omega
        generalize sx L.length xn = SX at HS1 HS2 HKL
        obtain ⟨pc, kk⟩ := SX
        simp only at HS1 HS2 HKL
        go_wp2_with fail
        rw [HW1.out]
        refine HS1.out.mono ?_
        rintro e w5 ⟨sa, sc, rfl, ho5, ⟨f', hq5⟩, hP5, ht5⟩
        have hbox5 := ht5.2 _ _ _ _ HBOX.out (by decide) (by decide) (by decide) (by decide) HGO.out
        have f3 : w5.cell? ⟨wr.heap.size, 3, none⟩ = some (.int .i64 xn) := (cellA hbox5 3)
        have HSB : Hid ((Value.slice sa kk sc).ownBlock ≠ some gb) := fun e => by
          have h1 := (World.ownsRow.lt ho5 _ e).1
          have h2 := HGB.out
          have h3 := HB1.out.size
          omega
        have O5 := hide ho5
        have Q5 := hide hq5
        have P5 := hide hP5
        clear ho5 hq5 hP5 ht5 hbox5 HS1
        go_wp2_with fail
        refine (HS2.out _ _ _ P5.out).mono ?_
        rintro e w6 ⟨ra, rc, rfl, ho6, hP6, ht6⟩
        have hkt : (L.take kk).length = kk := by rw [List.length_take]; have := HKL.out; omega
        have hktM : (M.take kk).length = kk := by rw [List.length_take, HML.out]; have := HKL.out; omega
        have ho5' := ht6.tf.own O5.out (by decide) (by decide) (by decide) (by decide) HSB.out
        have hr1 : RdY w6 sa (L.take kk) := by
          refine rdY_own (n := kk) (cap := sc) (by rw [hkt]; exact ho5') (fun c hc => ?_)
          have := (hP6.o c (List.mem_of_mem_take hc)).rd.2
          exact this
        have hr2 : RdY w6 ra (M.take kk) := by
          refine rdY_own (n := kk) (cap := rc) (by rw [hktM]; exact ho6) (fun c hc => ?_)
          exact (HDW.out.m c (List.mem_of_mem_take hc)).below hP6.bl
        have hsm := same_any (L.take kk) (M.take kk) (by rw [List.map_take, List.map_take, HKEY.out]) sa ra sc rc w6 hr1 hr2 (fun c hc => hP6.x c (List.mem_of_mem_take hc)) (by rw [hkt]; have := HKL.out; have := HLR.out; have := HR64.out; omega)
        rw [hkt, hktM] at hsm
        have HSM := hide hsm
        have O6 := hide ho5'
        have Q6 := hide (ht6.qs Q5.out HGE.out.2)
        have P6 := hide hP6
        have HKT := hide hkt
        clear ho6 hP6 ht6 ho5' hr1 hr2 hsm O5 Q5 P5 HS2 hkt hktM
        go_wp2_with fail
        refine HSM.out.mono ?_
        rintro e w7 ⟨rfl, hb7⟩
        have O7 := hide (owR_below O6.out hb7)
        have Q7 := hide (Q6.out.below hb7)
        have P7 : Hid (PD w gr gb r (2 * (k + 1)) ((L.take kk).drop 0 ++ L.drop kk) (M.drop kk) w7) := by
          show PD _ _ _ _ _ _ _ _
          rw [List.drop_zero, List.take_append_drop]
          exact (P6.out.next hb7).mono (by omega)
        have hkkI : Hid (kk ≤ 64) := by show _ ≤ _; have := HKL.out; have := HLR.out; have := HR64.out; omega
        clear hb7 O6 Q6 P6 HSM
        go_wp2
        go_loopg [20] kk (fun gk j wi => ∃ (q : Nat), q + gk = kk ∧ j = .int .i64 q ∧ PD w gr gb r (2 * (k + 1)) ((L.take kk).drop q ++ L.drop kk) (M.drop kk) wi ∧ TR gb w7 wi)
        case atStart => exact ⟨0, by omega, rfl, P7.out, TR.below (Below.refl _ _)⟩
        case round =>
          obtain ⟨q, hq, rfl, hPi, hti⟩ := hrel
          have HQ := hide hq
          have PI := hide hPi
          have TI := hide hti
          clear hPi hti hq P7
          by_cases hqt : q < kk
          · have hqI : (q : Int) < (kk : Int) := by omega
            have dq : decide (q < kk) = true := by simp; omega
            have hql : q < (L.take kk).length := by rw [HKT.out]; exact hqt
            have hown := TI.out.tf.own O7.out (by decide) (by decide) (by decide) (by decide) HSB.out
            obtain ⟨p2, hsa, g0, g1⟩ := rdc_own (L := L.take kk) (by rw [HKT.out]; exact hown) q hql
            subst hsa
            have hdr : (L.take kk).drop q = (L.take kk)[q] :: (L.take kk).drop (q + 1) := List.drop_eq_getElem_cons hql
            have hPI2 := PI.out
            rw [hdr, List.cons_append] at hPI2
            have HTL := hide (PD.tell hPI2 (by omega))
            clear hPI2 hdr hown PI g0
            generalize (L.take kk)[q] = cy at *
            go_wp2_with fail
            refine HTL.out.mono ?_
            rintro e w8 ⟨rfl, hP8, ht8⟩
            have P9 := hide hP8
            have T9 := hide (TI.out.trans ht8)
            clear hP8 ht8 HTL
            have hq64 : q < 64 := by have := hkkI.out; omega
            go_wp2
            go_roundg (gk - 1)
            case measure => have := HQ.out; omega
            case rel => exact ⟨q + 1, by have := HQ.out; omega, by go_num, P9.out, T9.out⟩
          · obtain rfl : q = kk := by have := HQ.out; omega
            have dq : decide (q < q) = false := by simp
            have P9 := PI.out
            rw [List.drop_eq_nil_of_le (by rw [HKT.out]; exact Nat.le_refl _), List.nil_append] at P9
            have hq9 := TI.out.qs Q7.out HGE.out.2
            have hk9 : (L.drop q).map Cy.key = (M.drop q).map Cy.key := by rw [List.map_drop, List.map_drop, HKEY.out]
            clear PI
            generalize L.drop q = L9 at *
            generalize M.drop q = M9 at *
            obtain ⟨w9, hw9⟩ : ∃ w9, w9 = wr := ⟨_, rfl⟩
            subst hw9
            have hlM : M9.length = L9.length := by have := congrArg List.length hk9; simpa using this.symm
            obtain ⟨vr, hd9, _⟩ := P9.d
            obtain ⟨av, cv, hvr⟩ := owR_shape hd9.row
            have cM := hd9.at.2.1
            rw [hvr, hlM] at cM
            have HLN : Hid (∀ n, Calls Tryz.prog 10 #[.pointer (some ⟨w.heap.size, 0, none⟩)] (w9.drewN n) fun e w' => e = .returned (.int .i64 L9.length) ∧ w' = w9.drewN n) := fun n => len_any (hq9.below (below_drewN (Below.refl _ _) n))
            have HEND : Hid (∀ n, PX w w.heap.size gr gb r (k + 1) (w9.drewN n)) := fun n => ⟨HGE.out, _, L9, M9, hq9.below (below_drewN (Below.refl _ _) n), (P9.next (below_drewN (Below.refl _ _) n)).mono (by omega), hk9⟩
            clear hq9 P9 hk9 hd9 hvr hlM
            generalize L9.length = ll at *
            go_wp2
            go_quiet ((go_at_call 10; exact Calls.quiet_of_same (HLN.out _)))
            go_wp2
            go_roundg (go - 1)
            case measure => have := HK.out; omega
            case rel => exact ⟨k + 1, by have := HK.out; omega, by go_num, HEND.out _⟩
    · obtain rfl : k = qs.length := by have := HK.out; omega
      have dk : decide (qs.length < qs.length) = false := by simp
      have HAP := hide hd.apart
      clear hq hd hkey HR
      generalize qs.length = ql at *
      go_wp2_with fail
      refine HAP.out.mono ?_
      rintro e wa ⟨rfl, hba⟩
      have BA := hide hba
      clear hba HAP
      go_wp2_with fail
      refine (HV.out _).mono ?_
      rintro e wz ⟨rfl, hbz⟩
      have BZ := hide hbz
      clear hbz
      go_wp2
      go_ret
      exact ⟨rfl, bstep BA.out BZ.out⟩
theorem queuePlays_walk (room : Int) (a : Option Addr) (cap : Nat) (qs : List Qa) (w : World) (hrd : RdQ w a qs) : Calls Tryz.prog 3 #[.int .i64 room, .slice a qs.length cap] w fun e w' => e = .returned (.bool true) ∧ Below w.heap.size w w' := by
  by_cases hl : qs.length ≤ 3000
  · by_cases hr : room < 0 ∨ 64 < room
    · exact plays_bad room a qs.length cap w hl hr
    · have : ((room.toNat : Nat) : Int) = room := Int.toNat_of_nonneg (by omega)
      rw [← this]
      exact plays_good room.toNat (by omega) a cap qs w hl hrd
  · exact plays_long room a qs.length cap w (by omega)
end Go.Proofs.YtnihneicoikdhaaGreatDoor
