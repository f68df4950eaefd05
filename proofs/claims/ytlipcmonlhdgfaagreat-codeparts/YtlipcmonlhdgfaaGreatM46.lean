/- Pieces of the proof: CpP. -/
import Derived.Test.YtlipcmonlhdgfaaGreatM42
import Derived.Test.YtlipcmonlhdgfaaGreatM43
import Derived.Test.YtlipcmonlhdgfaaGreatM45
/- CodeParts: the law's walk. -/
namespace Go.Proofs.YtlipcmonlhdgfaaGreat
open Go.RowKit

theorem cap_cs {w W : World} {p B1 : Nat} {x : CoL} (h : Cs w W p B1 x) : x.mt.length ≤ x.mc := by
  have h1 := h.ls.mt
  have h2 : x.mt.length + 1 ≤ x.mc := Tl.le h1
  omega
theorem at_tb {w W : World} {p B1 : Nat} {x : CoL} (h : Cs w W p B1 x) : ∃ g, x.ba = some ⟨g, 0, none⟩ ∧ ∀ k, k < x.tb.length → (∃ u, W.cell? ⟨g, k * 8 + 7, none⟩ = some u) ∧ W.frozen? ⟨g, k * 8 + 7, none⟩ = false := by
  obtain ⟨s, ht⟩ := h.ls.tb
  obtain ⟨g, hg⟩ := ht.at'
  refine ⟨g, hg, fun k hk => ?_⟩
  have hO := ht.own
  rw [hg] at hO
  refine ⟨?_, World.ownsRow.frozenAt hO _⟩
  rw [World.ownsRow.cellAt hO (k * 8 + 7) (by omega)]
  have hl : k * 8 + 7 < (flat TaL.cells x.tb ++ s).length := by
    rw [List.length_append, flat_length (c := 8) (fun _ => rfl)]; omega
  exact ⟨_, List.getElem?_eq_getElem hl⟩
theorem at_ac {w W : World} {p B1 : Nat} {x : CoL} (h : Cs w W p B1 x) : ∃ g, x.aa = some ⟨g, 0, none⟩ ∧ ∀ k, k < x.ac.length → (∃ u, W.cell? ⟨g, k * 3 + 2, none⟩ = some u) ∧ W.frozen? ⟨g, k * 3 + 2, none⟩ = false := by
  obtain ⟨s, ht⟩ := h.ls.ac
  obtain ⟨g, hg⟩ := ht.at'
  refine ⟨g, hg, fun k hk => ?_⟩
  have hO := ht.own
  rw [hg] at hO
  refine ⟨?_, World.ownsRow.frozenAt hO _⟩
  rw [World.ownsRow.cellAt hO (k * 3 + 2) (by omega)]
  have hl : k * 3 + 2 < (flat AcL.cells x.ac ++ s).length := by
    rw [List.length_append, flat_length (c := 3) (fun _ => rfl)]; omega
  exact ⟨_, List.getElem?_eq_getElem hl⟩
set_option maxRecDepth 100000 in
set_option maxHeartbeats 8000000 in
theorem codeParts_any (c : CoL) (m : Nat) (hm : m < 256) (W : World) (hc : CoO W c) : Calls Tryz.prog 4 #[.agg c.cells.toArray, .int .u8 (m : Int)] W fun e w' => e = .returned (.bool true) ∧ Below W.heap.size W w' := by
  obtain ⟨D, hD⟩ := do_all
  have HLV := hide (fun V => lives12_any D hD V)
  have B0 := hide (below1 W (.cells c.cells.toArray 30))
  have K0 := hide (heap_alloc_new W (.cells c.cells.toArray 30))
  have HS := hide (szCode_any c _ (hc.below B0.out))
  have HSM : Hid (∀ n, n ≤ 100000 → (n ≤ 1048576 → smCode n c) → CoR W c) := fun n h1 h2 => hc.sm (h2 (by omega)) (by omega)
  have HCK : Hid (CoR W c → ∀ V, Below W.heap.size W V → _) := fun hr V hb => codeCheck_any D hD c V (hr.below hb) hc.cap
  have HTW : Hid (CoR W c → ∀ V, Below W.heap.size W V → _) := fun hr V hb => tqCode_any c V (hr.below hb)
  have HX : Hid (CoR W c → chB D c = true → ∀ (x : CoL) (t : List Int) (p B1 : Nat) (V : World), Cs W V p B1 x → Mo c x t → (∀ z ∈ t, i64R z) → Calls Tryz.prog 8 #[.agg x.cells.toArray] V fun e w' => e = .returned (.int .i64 0) ∧ Below V.heap.size V w') := fun hr hch x t p B1 V h1 h2 h3 => by
    have := codeCheck_any D hD x V (coR_cs h1 hr h2 h3) (cap_cs h1)
    rw [chB_mo D h2 hch] at this
    exact this
  have HM0 : Hid (chB D c = true → ∀ z, bCo z = bCo c → Mo c z []) := fun hch z hz => Mo.start hz (by
    unfold chB shB at hch
    simp only [Bool.and_eq_true, decide_eq_true_eq] at hch
    exact hch.1.1)
  have EA : Hid (c.cells.toArray = #[.slice c.sa c.sl.length c.sc, .slice c.ha c.hd.length c.hc, .slice c.ma c.mt.length c.mc, .slice c.ta c.st.length c.tc, .slice c.na c.mn.length c.nc, .slice c.aa c.ac.length c.acc, .slice c.ba c.tb.length c.bc, .slice c.ea c.em.length c.ec, .slice c.ra c.ar.length c.rc]) := rfl
  rw [EA.out]
  rw [EA.out] at HS HCK HTW B0 K0
  clear hc hD
  obtain ⟨tt, htt⟩ : ∃ tt, tt = chB D c := ⟨_, rfl⟩
  rw [← htt] at HCK HX HM0
  have HTT := hide htt
  clear htt
  have HTL : Hid (∀ (x : CoL) (t : List Int), Mo c x t → x.tb.length = c.tb.length ∧ x.ac.length = c.ac.length) := fun x t h => ⟨h.tb.1.symm, h.ac.1.symm⟩
  have c0 : (W.alloc (.cells #[.slice c.sa c.sl.length c.sc, .slice c.ha c.hd.length c.hc, .slice c.ma c.mt.length c.mc, .slice c.ta c.st.length c.tc, .slice c.na c.mn.length c.nc, .slice c.aa c.ac.length c.acc, .slice c.ba c.tb.length c.bc, .slice c.ea c.em.length c.ec, .slice c.ra c.ar.length c.rc] 30)).cell? ⟨W.heap.size, 0, none⟩ = some (.slice c.sa c.sl.length c.sc) := (cellA K0.out 0).trans rfl
  have c1 : (W.alloc (.cells #[.slice c.sa c.sl.length c.sc, .slice c.ha c.hd.length c.hc, .slice c.ma c.mt.length c.mc, .slice c.ta c.st.length c.tc, .slice c.na c.mn.length c.nc, .slice c.aa c.ac.length c.acc, .slice c.ba c.tb.length c.bc, .slice c.ea c.em.length c.ec, .slice c.ra c.ar.length c.rc] 30)).cell? ⟨W.heap.size, 1, none⟩ = some (.slice c.ha c.hd.length c.hc) := (cellA K0.out 1).trans rfl
  have c2 : (W.alloc (.cells #[.slice c.sa c.sl.length c.sc, .slice c.ha c.hd.length c.hc, .slice c.ma c.mt.length c.mc, .slice c.ta c.st.length c.tc, .slice c.na c.mn.length c.nc, .slice c.aa c.ac.length c.acc, .slice c.ba c.tb.length c.bc, .slice c.ea c.em.length c.ec, .slice c.ra c.ar.length c.rc] 30)).cell? ⟨W.heap.size, 2, none⟩ = some (.slice c.ma c.mt.length c.mc) := (cellA K0.out 2).trans rfl
  have c3 : (W.alloc (.cells #[.slice c.sa c.sl.length c.sc, .slice c.ha c.hd.length c.hc, .slice c.ma c.mt.length c.mc, .slice c.ta c.st.length c.tc, .slice c.na c.mn.length c.nc, .slice c.aa c.ac.length c.acc, .slice c.ba c.tb.length c.bc, .slice c.ea c.em.length c.ec, .slice c.ra c.ar.length c.rc] 30)).cell? ⟨W.heap.size, 3, none⟩ = some (.slice c.ta c.st.length c.tc) := (cellA K0.out 3).trans rfl
  have c4 : (W.alloc (.cells #[.slice c.sa c.sl.length c.sc, .slice c.ha c.hd.length c.hc, .slice c.ma c.mt.length c.mc, .slice c.ta c.st.length c.tc, .slice c.na c.mn.length c.nc, .slice c.aa c.ac.length c.acc, .slice c.ba c.tb.length c.bc, .slice c.ea c.em.length c.ec, .slice c.ra c.ar.length c.rc] 30)).cell? ⟨W.heap.size, 4, none⟩ = some (.slice c.na c.mn.length c.nc) := (cellA K0.out 4).trans rfl
  have c5 : (W.alloc (.cells #[.slice c.sa c.sl.length c.sc, .slice c.ha c.hd.length c.hc, .slice c.ma c.mt.length c.mc, .slice c.ta c.st.length c.tc, .slice c.na c.mn.length c.nc, .slice c.aa c.ac.length c.acc, .slice c.ba c.tb.length c.bc, .slice c.ea c.em.length c.ec, .slice c.ra c.ar.length c.rc] 30)).cell? ⟨W.heap.size, 5, none⟩ = some (.slice c.aa c.ac.length c.acc) := (cellA K0.out 5).trans rfl
  have c6 : (W.alloc (.cells #[.slice c.sa c.sl.length c.sc, .slice c.ha c.hd.length c.hc, .slice c.ma c.mt.length c.mc, .slice c.ta c.st.length c.tc, .slice c.na c.mn.length c.nc, .slice c.aa c.ac.length c.acc, .slice c.ba c.tb.length c.bc, .slice c.ea c.em.length c.ec, .slice c.ra c.ar.length c.rc] 30)).cell? ⟨W.heap.size, 6, none⟩ = some (.slice c.ba c.tb.length c.bc) := (cellA K0.out 6).trans rfl
  have c7 : (W.alloc (.cells #[.slice c.sa c.sl.length c.sc, .slice c.ha c.hd.length c.hc, .slice c.ma c.mt.length c.mc, .slice c.ta c.st.length c.tc, .slice c.na c.mn.length c.nc, .slice c.aa c.ac.length c.acc, .slice c.ba c.tb.length c.bc, .slice c.ea c.em.length c.ec, .slice c.ra c.ar.length c.rc] 30)).cell? ⟨W.heap.size, 7, none⟩ = some (.slice c.ea c.em.length c.ec) := (cellA K0.out 7).trans rfl
  have c8 : (W.alloc (.cells #[.slice c.sa c.sl.length c.sc, .slice c.ha c.hd.length c.hc, .slice c.ma c.mt.length c.mc, .slice c.ta c.st.length c.tc, .slice c.na c.mn.length c.nc, .slice c.aa c.ac.length c.acc, .slice c.ba c.tb.length c.bc, .slice c.ea c.em.length c.ec, .slice c.ra c.ar.length c.rc] 30)).cell? ⟨W.heap.size, 8, none⟩ = some (.slice c.ra c.ar.length c.rc) := (cellA K0.out 8).trans rfl
  go_enter Tryz.func4, Tryz.ntmps4
  go_wp2_with fail
  refine HS.out.mono ?_
  rintro e w1 ⟨n, rfl, hn, hsm, hb⟩
  have B1 := hide (bstep B0.out hb)
  have K1 := hide (heap_below hb K0.out)
  have SM := hide hsm
  have HN := hide hn
  clear hb hsm hn c0 c1 c2 c3 c4 c5 c6 c7 c8 HS
  have c0 : w1.cell? ⟨W.heap.size, 0, none⟩ = some (.slice c.sa c.sl.length c.sc) := (cellA K1.out 0).trans rfl
  have c1 : w1.cell? ⟨W.heap.size, 1, none⟩ = some (.slice c.ha c.hd.length c.hc) := (cellA K1.out 1).trans rfl
  have c2 : w1.cell? ⟨W.heap.size, 2, none⟩ = some (.slice c.ma c.mt.length c.mc) := (cellA K1.out 2).trans rfl
  have c3 : w1.cell? ⟨W.heap.size, 3, none⟩ = some (.slice c.ta c.st.length c.tc) := (cellA K1.out 3).trans rfl
  have c4 : w1.cell? ⟨W.heap.size, 4, none⟩ = some (.slice c.na c.mn.length c.nc) := (cellA K1.out 4).trans rfl
  have c5 : w1.cell? ⟨W.heap.size, 5, none⟩ = some (.slice c.aa c.ac.length c.acc) := (cellA K1.out 5).trans rfl
  have c6 : w1.cell? ⟨W.heap.size, 6, none⟩ = some (.slice c.ba c.tb.length c.bc) := (cellA K1.out 6).trans rfl
  have c7 : w1.cell? ⟨W.heap.size, 7, none⟩ = some (.slice c.ea c.em.length c.ec) := (cellA K1.out 7).trans rfl
  have c8 : w1.cell? ⟨W.heap.size, 8, none⟩ = some (.slice c.ra c.ar.length c.rc) := (cellA K1.out 8).trans rfl
  by_cases hle : n ≤ 100000
  rotate_left
  · have dq : ((100000 : Int) < (n : Int)) = True := by simp; omega
    clear HCK HTW HX HSM HM0
    go_wp2_with fail
    refine (HLV.out _).mono ?_
    rintro e w2 ⟨rfl, hb⟩
    have B2 := hide (bstep B1.out hb)
    clear hb
    go_wp2
    go_ret
    exact ⟨rfl, B2.out⟩
  have dq : ((100000 : Int) < (n : Int)) = False := by simp; omega
  have HR := hide (HSM.out n hle SM.out)
  have HC1 := hide (HCK.out HR.out _ B1.out)
  clear HSM SM HCK hle
  go_wp2_with fail
  refine HC1.out.mono ?_
  rintro e w2 ⟨rfl, hb⟩
  have B2 := hide (bstep B1.out hb)
  have K2 := hide (heap_below hb K1.out)
  clear hb HC1 c0 c1 c2 c3 c4 c5 c6 c7 c8
  cases tt
  · clear HTW HX HM0
    go_wp2_with fail
    refine (HLV.out _).mono ?_
    rintro e w3 ⟨rfl, hb⟩
    have B3 := hide (bstep B2.out hb)
    clear hb
    go_wp2
    go_ret
    exact ⟨rfl, B3.out⟩
  have c0 : w2.cell? ⟨W.heap.size, 0, none⟩ = some (.slice c.sa c.sl.length c.sc) := (cellA K2.out 0).trans rfl
  have c1 : w2.cell? ⟨W.heap.size, 1, none⟩ = some (.slice c.ha c.hd.length c.hc) := (cellA K2.out 1).trans rfl
  have c2 : w2.cell? ⟨W.heap.size, 2, none⟩ = some (.slice c.ma c.mt.length c.mc) := (cellA K2.out 2).trans rfl
  have c3 : w2.cell? ⟨W.heap.size, 3, none⟩ = some (.slice c.ta c.st.length c.tc) := (cellA K2.out 3).trans rfl
  have c4 : w2.cell? ⟨W.heap.size, 4, none⟩ = some (.slice c.na c.mn.length c.nc) := (cellA K2.out 4).trans rfl
  have c5 : w2.cell? ⟨W.heap.size, 5, none⟩ = some (.slice c.aa c.ac.length c.acc) := (cellA K2.out 5).trans rfl
  have c6 : w2.cell? ⟨W.heap.size, 6, none⟩ = some (.slice c.ba c.tb.length c.bc) := (cellA K2.out 6).trans rfl
  have c7 : w2.cell? ⟨W.heap.size, 7, none⟩ = some (.slice c.ea c.em.length c.ec) := (cellA K2.out 7).trans rfl
  have c8 : w2.cell? ⟨W.heap.size, 8, none⟩ = some (.slice c.ra c.ar.length c.rc) := (cellA K2.out 8).trans rfl
  have HT := hide (HTW.out HR.out _ B2.out)
  have HXX := hide (HX.out HR.out (by first | rfl | trivial))
  have HMM := hide (HM0.out (by first | rfl | trivial))
  clear HTW HX HM0
  go_wp2_with fail
  refine HT.out.mono ?_
  rintro e w3 ⟨z, rfl, hbz, hkz, hb⟩
  have B3 := hide (bstep B2.out hb)
  have KZ := hide hkz
  have MZ := hide (HMM.out z hbz)
  have BS2 := hide B2.out.size
  clear hb hkz hbz c0 c1 c2 c3 c4 c5 c6 c7 c8 HMM HT K2 B2 B1 K1 B0 K0 HTT
  have E3 := hide (heap_alloc_new w3 (.cells #[.slice none 0 0, .slice none 0 0, .slice none 0 0, .slice none 0 0, .slice none 0 0, .slice none 0 0, .slice none 0 0, .slice none 0 0, .slice none 0 0] 30))
  have B30 := hide (below1 w3 (.cells #[.slice none 0 0, .slice none 0 0, .slice none 0 0, .slice none 0 0, .slice none 0 0, .slice none 0 0, .slice none 0 0, .slice none 0 0, .slice none 0 0] 30))
  have ZO : Hid (∀ v ∈ z.cells, v.oneCell' = true) := fun v hv => by
    simp only [CoL.cells, List.mem_cons, List.not_mem_nil, or_false] at hv
    rcases hv with rfl | rfl | rfl | rfl | rfl | rfl | rfl | rfl | rfl <;> rfl
  obtain ⟨zn, hzn⟩ : ∃ zn, zn = z.sl.length := ⟨_, rfl⟩
  have HZN := hide hzn
  clear hzn

  have hLT : c.tb.length ≤ 1000000 := HR.out.tb.ln
  have hLA : c.ac.length ≤ 1000000 := HR.out.ac.ln
  obtain ⟨i0, hi0, hz0, hz1, hz2⟩ := info_parts info_dZ
  by_cases hs : zn < 65536
  · have ds : ((zn : Int) < 65536) = True := by simp; omega
    have HYI : Hid (∀ z ∈ [1 + (m : Int) % 128], i64R z) := fun z hz => by
      obtain rfl := List.mem_singleton.1 hz
      unfold i64R; omega
    have HYW : Hid (widB (1 + (m : Int) % 128) = true) := by
      show _ = _
      unfold widB frB
      simp
      omega
    have MA := hide (fun (a : Option Addr) (n : Nat) => Mo.app MZ.out HYW.out (by rw [← HZN.out]; exact hs) a n)
    go_wp2_with (first
      | (refine wpList_storeA rfl 30 _ _ rfl w3.heap.size z.cells _ 30 rfl rfl szCo E3.out rfl ZO.out ?_; intro w5 hw5; have Z5 : Hid (w5.heap[w3.heap.size]? = some (.cells z.cells.toArray 30 (0, 0))) := (by show _ = _; rw [hw5]; exact got0 E3.out rfl); have F5 : Hid (Fr (· = w3.heap.size) _ w5) := (by rw [hw5]; exact fr_all _ _ _ _); clear hw5; have B35 : Hid (Below w3.heap.size w3 w5) := ((Fr.ofBelow (E := (· = w3.heap.size)) B30.out).trans F5.out (fun b _ e => e)).below (fun b e => by omega) (Nat.le_refl _); obtain ⟨Bo, g, hCs, hg, hlt, hcap, hmx⟩ := cs_start B3.out KZ.out BS2.out B35.out Z5.out; have CS := hide hCs; have HG := hide (And.intro hg hlt); have HCP := hide (And.intro hcap hmx); have p0 : w5.cell? ⟨w3.heap.size, 0, none⟩ = some (.slice (some ⟨g, 0, none⟩) zn z.sc) := (hCs.cell 0).trans (by rw [← hg, HZN.out]; rfl); clear hlt hcap hmx F5 B30 E3 ZO KZ hCs hg)
      | (at_builtin; go_loud (refine wpList_append_own_at _ rfl _ _ 22 rfl W.heap.size 3 i0 (.int .i64 0) 1 8 Tryz.underlying22 hi0 hz0 hz1 hz2 rfl (by decide) _ zn (flat intC z.sl) rfl (own_allocD (by have := CS.out.ls.sl; rw [HG.out.1, ← HZN.out] at this; exact this) _) ⟨w5.heap.size, 0, none⟩ 1 1 [.int .i64 (1 + (m : Int) % 128)] rfl rfl (cells_newD _ _ _) (by simp [Value.oneCell']) (by unfold maxLen; omega) (by omega) (by have := CS.out.bl.size; simp; omega) ?_; intro v7 w7 O7 G7 _ K7; obtain ⟨g7, cap7, hv7, hgc, hgB, hgl, hcm⟩ := own_someD O7 (by omega); subst hv7; have C7 := hide (cs_app CS.out HG.out.1 HG.out.2 (below1 w5 _) (by rw [← HZN.out]; exact O7) G7); have q0 : w7.cell? ⟨w3.heap.size, 0, none⟩ = some (.slice z.sa z.sl.length z.sc) := cellA C7.out.1 0; have s0 : w7.frozen? ⟨w3.heap.size, 0, none⟩ = false := softA C7.out.1 0; clear O7 G7 K7 hgc hgB hgl hcm p0))
      | (refine wpList_loadA rfl 30 _ rfl w3.heap.size (apS z (1 + (m : Int) % 128) (some ⟨g7, 0, none⟩) cap7).cells 30 rfl agCo szCo (by have := C7.out.2.pb; rw [← HZN.out] at this; exact this) ?_))
    have C8 := hide C7.out.2
    rw [← HZN.out] at C8
    have HC8 := hide (HXX.out _ _ _ _ _ C8.out (MA.out _ _) HYI.out)
    clear C7 q0 s0
    refine HC8.out.mono ?_
    rintro e w8 ⟨rfl, hb⟩
    have C9 := hide (C8.out.below hb)
    have M9 := hide (MA.out (some ⟨g7, 0, none⟩) cap7)
    clear hb C8 HC8 MA
    go_wp2
    go_loopw [6] (fun i wr => ∃ (k : Nat) (x : CoL), k ≤ c.tb.length ∧ i = .int .i64 k ∧ Cs W wr w3.heap.size Bo x ∧ Mo c x [1 + (m : Int) % 128]) (fun i _ => c.tb.length - (intOf i).toNat)
    case atStart => exact ⟨0, _, by omega, rfl, C9.out, M9.out⟩
    case round =>
      obtain ⟨k, x, hk, rfl, hcs, hmo⟩ := hrel
      have CS1 := hide hcs
      have MO1 := hide hmo
      have hlen := (HTL.out x [1 + (m : Int) % 128] hmo).1
      obtain ⟨gt, hgt, hat⟩ := at_tb hcs
      have p6 : wr.cell? ⟨w3.heap.size, 6, none⟩ = some (.slice (some ⟨gt, 0, none⟩) c.tb.length x.bc) := (hcs.cell 6).trans (by rw [← hgt, ← hlen]; rfl)
      by_cases hlt : k < c.tb.length
      · have hkI : (k : Int) < (c.tb.length : Int) := by omega
        obtain ⟨⟨u, hu⟩, hf⟩ := hat k (by omega)
        have HKX := hide (show k < x.tb.length by omega)
        have N1 := hide (Cs.nilT hcs hgt (k := k) HKX.out)
        have M1 := hide (Mo.setT hmo (k := k) HKX.out)
        clear hcs hmo hat hlen hgt
        go_wp2
        go_roundw
        case rel => exact ⟨k + 1, _, by omega, by go_num, N1.out, M1.out⟩
        case measure => simp [intOf]; omega
      · obtain rfl : k = c.tb.length := by omega
        clear hcs hmo hat hlen hgt
        go_wp2
        go_loopw [7] (fun i wr => ∃ (k : Nat) (x : CoL), k ≤ c.ac.length ∧ i = .int .i64 k ∧ Cs W wr w3.heap.size Bo x ∧ Mo c x [1 + (m : Int) % 128]) (fun i _ => c.ac.length - (intOf i).toNat)
        case atStart => exact ⟨0, x, by omega, rfl, CS1.out, MO1.out⟩
        case round =>
          clear CS1 MO1 p6 hk hlt
          obtain ⟨k, x, hk, rfl, hcs, hmo⟩ := hrel
          have CS1 := hide hcs
          have MO1 := hide hmo
          have hlen := (HTL.out x [1 + (m : Int) % 128] hmo).2
          obtain ⟨gt, hgt, hat⟩ := at_ac hcs
          have p5 : wr.cell? ⟨w3.heap.size, 5, none⟩ = some (.slice (some ⟨gt, 0, none⟩) c.ac.length x.acc) := (hcs.cell 5).trans (by rw [← hgt, ← hlen]; rfl)
          by_cases hlt : k < c.ac.length
          · have hkI : (k : Int) < (c.ac.length : Int) := by omega
            obtain ⟨⟨u, hu⟩, hf⟩ := hat k (by omega)
            have HKX := hide (show k < x.ac.length by omega)
            have N1 := hide (Cs.nilA hcs hgt (k := k) HKX.out)
            have M1 := hide (Mo.setA hmo (k := k) HKX.out)
            clear hcs hmo hat hlen hgt
            go_wp2
            go_roundw
            case rel => exact ⟨k + 1, _, by omega, by go_num, N1.out, M1.out⟩
            case measure => simp [intOf]; omega
          · obtain rfl : k = c.ac.length := by omega
            have N9 := hide (Cs.nilM hcs)
            have HC9 := hide (HXX.out _ _ _ _ _ N9.out (Mo.noM hmo) HYI.out)
            have s4 : wr.frozen? ⟨w3.heap.size, 4, none⟩ = false := softA hcs.pb 4
            have p4 : wr.cell? ⟨w3.heap.size, 4, none⟩ = some (.slice x.na x.mn.length x.nc) := (hcs.cell 4).trans rfl
            clear hcs hmo hat hlen hgt
            go_wp2_with (refine wpList_loadA rfl 30 _ rfl w3.heap.size (noM x).cells 30 rfl agCo szCo N9.out.pb ?_)
            refine HC9.out.mono ?_
            rintro e w9 ⟨rfl, hb⟩
            have BE := hide (bstep N9.out.bl hb)
            clear hb
            go_wp2_with fail
            refine (HLV.out _).mono ?_
            rintro e w10 ⟨rfl, hb⟩
            have BF := hide (bstep BE.out hb)
            clear hb
            go_wp2
            go_ret
            exact ⟨rfl, BF.out⟩
  · have ds : ((zn : Int) < 65536) = False := by simp; omega
    go_wp2_with (refine wpList_storeA rfl 30 _ _ rfl w3.heap.size z.cells _ 30 rfl rfl szCo E3.out rfl ZO.out ?_; intro w5 hw5; have Z5 : Hid (w5.heap[w3.heap.size]? = some (.cells z.cells.toArray 30 (0, 0))) := (by show _ = _; rw [hw5]; exact got0 E3.out rfl); have F5 : Hid (Fr (· = w3.heap.size) _ w5) := (by rw [hw5]; exact fr_all _ _ _ _); clear hw5; have B35 : Hid (Below w3.heap.size w3 w5) := ((Fr.ofBelow (E := (· = w3.heap.size)) B30.out).trans F5.out (fun b _ e => e)).below (fun b e => by omega) (Nat.le_refl _); obtain ⟨Bo, g, hCs, hg, hlt, hcap, hmx⟩ := cs_start B3.out KZ.out BS2.out B35.out Z5.out; have CS := hide hCs; have HG := hide (And.intro hg hlt); have HCP := hide (And.intro hcap hmx); have p0 : w5.cell? ⟨w3.heap.size, 0, none⟩ = some (.slice (some ⟨g, 0, none⟩) zn z.sc) := (hCs.cell 0).trans (by rw [← hg, HZN.out]; rfl); clear hlt hcap hmx F5 B30 E3 ZO KZ hCs hg)
    go_loopw [6] (fun i wr => ∃ (k : Nat) (x : CoL), k ≤ c.tb.length ∧ i = .int .i64 k ∧ Cs W wr w3.heap.size Bo x ∧ Mo c x []) (fun i _ => c.tb.length - (intOf i).toNat)
    case atStart => exact ⟨0, z, by omega, rfl, CS.out, MZ.out⟩
    case round =>
      obtain ⟨k, x, hk, rfl, hcs, hmo⟩ := hrel
      have CS1 := hide hcs
      have MO1 := hide hmo
      have hlen := (HTL.out x [] hmo).1
      obtain ⟨gt, hgt, hat⟩ := at_tb hcs
      have p6 : wr.cell? ⟨w3.heap.size, 6, none⟩ = some (.slice (some ⟨gt, 0, none⟩) c.tb.length x.bc) := (hcs.cell 6).trans (by rw [← hgt, ← hlen]; rfl)
      by_cases hlt : k < c.tb.length
      · have hkI : (k : Int) < (c.tb.length : Int) := by omega
        obtain ⟨⟨u, hu⟩, hf⟩ := hat k (by omega)
        have HKX := hide (show k < x.tb.length by omega)
        have N1 := hide (Cs.nilT hcs hgt (k := k) HKX.out)
        have M1 := hide (Mo.setT hmo (k := k) HKX.out)
        clear hcs hmo hat hlen hgt
        go_wp2
        go_roundw
        case rel => exact ⟨k + 1, _, by omega, by go_num, N1.out, M1.out⟩
        case measure => simp [intOf]; omega
      · obtain rfl : k = c.tb.length := by omega
        clear hcs hmo hat hlen hgt
        go_wp2
        go_loopw [7] (fun i wr => ∃ (k : Nat) (x : CoL), k ≤ c.ac.length ∧ i = .int .i64 k ∧ Cs W wr w3.heap.size Bo x ∧ Mo c x []) (fun i _ => c.ac.length - (intOf i).toNat)
        case atStart => exact ⟨0, x, by omega, rfl, CS1.out, MO1.out⟩
        case round =>
          clear CS1 MO1 p6 hk hlt
          obtain ⟨k, x, hk, rfl, hcs, hmo⟩ := hrel
          have CS1 := hide hcs
          have MO1 := hide hmo
          have hlen := (HTL.out x [] hmo).2
          obtain ⟨gt, hgt, hat⟩ := at_ac hcs
          have p5 : wr.cell? ⟨w3.heap.size, 5, none⟩ = some (.slice (some ⟨gt, 0, none⟩) c.ac.length x.acc) := (hcs.cell 5).trans (by rw [← hgt, ← hlen]; rfl)
          by_cases hlt : k < c.ac.length
          · have hkI : (k : Int) < (c.ac.length : Int) := by omega
            obtain ⟨⟨u, hu⟩, hf⟩ := hat k (by omega)
            have HKX := hide (show k < x.ac.length by omega)
            have N1 := hide (Cs.nilA hcs hgt (k := k) HKX.out)
            have M1 := hide (Mo.setA hmo (k := k) HKX.out)
            clear hcs hmo hat hlen hgt
            go_wp2
            go_roundw
            case rel => exact ⟨k + 1, _, by omega, by go_num, N1.out, M1.out⟩
            case measure => simp [intOf]; omega
          · obtain rfl : k = c.ac.length := by omega
            have N9 := hide (Cs.nilM hcs)
            have HC9 := hide (HXX.out _ _ _ _ _ N9.out (Mo.noM hmo) (fun z hz => by simp at hz))
            have s4 : wr.frozen? ⟨w3.heap.size, 4, none⟩ = false := softA hcs.pb 4
            have p4 : wr.cell? ⟨w3.heap.size, 4, none⟩ = some (.slice x.na x.mn.length x.nc) := (hcs.cell 4).trans rfl
            clear hcs hmo hat hlen hgt
            go_wp2_with (refine wpList_loadA rfl 30 _ rfl w3.heap.size (noM x).cells 30 rfl agCo szCo N9.out.pb ?_)
            refine HC9.out.mono ?_
            rintro e w9 ⟨rfl, hb⟩
            have BE := hide (bstep N9.out.bl hb)
            clear hb
            go_wp2_with fail
            refine (HLV.out _).mono ?_
            rintro e w10 ⟨rfl, hb⟩
            have BF := hide (bstep BE.out hb)
            clear hb
            go_wp2
            go_ret
            exact ⟨rfl, BF.out⟩
end Go.Proofs.YtlipcmonlhdgfaaGreat
