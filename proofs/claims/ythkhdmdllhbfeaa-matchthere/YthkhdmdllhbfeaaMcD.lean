/- MatchThere, walked. -/
import Derived.Test.YthkhdmdllhbfeaaMcC
import Derived.Test.YthkhdmdllhbfeaaMwC
namespace Go.Proofs.Ythkhdmdllhbfeaa
open Go.RowKit

theorem eqMs_refl (l : List Mx) : eqMs l l = true := (eqMs_iff l l).2 rfl
theorem sameP_refl (e : En) : sameP e e = true := by simp [sameP, eqMs_refl]
theorem here_last {l : List En} {e : En} (h : ¬ 0 ≤ hereI l e) : hereI (l ++ [e]) e = l.length := by
  unfold hereI at h ⊢
  rcases firstI_cases (fun x => sameP x e) l with ⟨_, hn⟩ | ⟨k, _, hk, _⟩
  · exact firstI_hit (by simp) (by simp [sameP_refl]) (fun j hj => by rw [List.getElem_append_left hj]; exact hn _ (List.getElem_mem hj))
  · rw [hk] at h; omega
theorem ins_zero {t : Tb} {l : List En} {e : En} (h : insI t l e = 0) : chkB t e = true ∧ ¬ 0 ≤ hereI l e := by
  unfold insI at h
  split at h
  · rename_i hc
    split at h
    · cases h
    · rename_i hh; exact ⟨hc, hh⟩
  · cases h
set_option maxRecDepth 100000 in
set_option maxHeartbeats 8000000 in
theorem matchThere_any (x : TbL) (la : Option Addr) (lc : Nat) (l : List EnL) (y : EnL) (w : World) (h : CaO w x la lc l y) : Calls Try.prog 4 #[.agg (caCells x la lc l y)] w fun e w' => e = .returned (.bool true) ∧ Below w.heap.size w w' := by
  have HLV : Hid (Pure _ _ _) := lives_any
  have HBY : Hid (∀ W, Below w.heap.size w W → _) := fun W hb => beyond_any x la lc l y W ⟨h.t.below hb, h.es.below hb, h.ln, h.lz, h.e.below hb⟩
  by_cases hbig : 30000 < caSz x l y
  · have ed : decide (30000 < caSz x l y) = true := by simp [hbig]
    rw [ed] at HBY
    clear ed hbig h
    obtain ⟨⟨ks, ws, size⟩, ka, kc, wa, wc⟩ := x
    obtain ⟨⟨ms, prio, act, args⟩, ma, mc, aa, ac⟩ := y
    simp only [caCells] at *
    go_enter Try.func4, Try.ntmps4
    go_wp2_with fail
    refine (HBY.out _ (below1 _ _)).mono ?_
    rintro e w1 ⟨rfl, hb⟩
    go_wp2_with fail
    refine (HLV.out _).mono ?_
    rintro e w2 ⟨rfl, hb2⟩
    go_wp2
    go_ret
    exact ⟨rfl, bstep (bstep (below1 _ _) hb) hb2⟩
  have ed : decide (30000 < caSz x l y) = false := by simp; omega
  rw [ed] at HBY
  have hsz : caSz x l y ≤ 30000 := by omega
  unfold caSz at hsz
  have hE : EnR w y := h.e.small (by omega)
  have hL : RdE w la l := h.es.small (fun z hz => by
    have := szF_mem (ens l) (ens l).length (by unfold esz at hsz; omega) z.e (List.mem_map.2 ⟨z, hz, rfl⟩)
    unfold esz at hsz; omega)
  have hln : l.length ≤ 30000 := by
    have := szF_le (ens l) (ens l).length
    rw [ens_len] at this
    unfold esz at hsz
    rw [ens_len] at hsz
    omega
  have HE := hide hE
  have HL := hide hL
  have HN := hide hln
  have HT := hide h.t
  by_cases hc : insI x.t (ens l) y.e = 0
  · have HIN : Hid (∀ W, Below w.heap.size w W → Calls Try.prog 12 #[x.val, .slice la l.length lc, y.val] W fun e w' => ∃ va vcap acc, e = .returned (.tuple #[.slice va (l.length + 1) vcap, .int .i64 0]) ∧ ens acc = ens l ++ [y.e] ∧ acc.length = l.length + 1 ∧ RdE w' va acc ∧ (l.length + 1 ≤ vcap) ∧ Below W.heap.size W w') := fun W hb => by
      refine (insert_is x la lc l.length l y W (HT.out.below hb) (HL.out.below hb) (HE.out.below hb) (by have := HN.out; omega) rfl 0 hc (ens l ++ [y.e]) (by rw [if_pos rfl])).mono ?_
      rintro e w' ⟨a', cap', acc, rfl, h1, h2, h3, _, h5, h6⟩
      have e1 : (ens l ++ [y.e]).length = l.length + 1 := by simp [ens_len]
      rw [e1] at h2 h5 ⊢
      exact ⟨a', cap', acc, rfl, h1, h2, h3, h5, h6⟩
    obtain ⟨hck, hno⟩ := ins_zero hc
    have hlast := here_last hno
    rw [ens_len] at hlast
    have hins2 : insI x.t (ens l ++ [y.e]) y.e = 12 := by
      unfold insI
      rw [hck, if_pos rfl, hlast, if_pos (by omega)]
    have hth : thI x.t (ens l ++ [y.e]) y.e = ((l.length : Int), 0) := by
      unfold thI
      rw [hck, if_pos rfl, hlast, if_pos (by omega)]
    have hth2 : (thI x.t (ens l) y.e).2 = 11 := by
      unfold thI
      rw [hck, if_pos rfl, if_neg hno]
    have HI2 : Hid (∀ W va vcap acc, Below w.heap.size w W → RdE W va acc → ens acc = ens l ++ [y.e] → acc.length = l.length + 1 → Calls Try.prog 12 #[x.val, .slice va (l.length + 1) vcap, y.val] W fun e w' => ∃ a' cap', e = .returned (.tuple #[.slice a' 0 cap', .int .i64 12]) ∧ Below W.heap.size W w') := fun W va vcap acc hb hr he hl => by
      refine (insert_is x va vcap (l.length + 1) acc y W (HT.out.below hb) hr (HE.out.below hb) (by have := HN.out; omega) hl.symm 12 (by rw [he]; exact hins2) [] (by rw [if_neg (by decide)])).mono ?_
      rintro e w' ⟨a', cap', acc', rfl, _, _, _, _, _, h6⟩
      exact ⟨a', cap', rfl, h6⟩
    have HMO : Hid (∀ W va vcap acc, Below w.heap.size w W → RdE W va acc → ens acc = ens l ++ [y.e] → acc.length = l.length + 1 → l.length + 1 ≤ vcap → Calls Try.prog 13 #[x.val, .slice va (l.length + 1) vcap, y.val] W fun e w' => ∃ a' cap' accm, e = .returned (.tuple #[.slice a' (l.length + 1) cap', .int .i64 0]) ∧ RdE w' a' accm ∧ accm.length = l.length + 1 ∧ ens accm = ens l ++ [y.e] ∧ Below W.heap.size W w') := fun W va vcap acc hb hr he hl hcap => by
      have hk : l.length < acc.length := by omega
      have h1 := modify_yes x va vcap acc y W (HT.out.below hb) hr (HE.out.below hb) (by have := HN.out; omega) (by omega) l.length hk (by rw [he]; exact hth)
      rw [hl] at h1
      refine h1.mono ?_
      rintro e w' ⟨v, accm, rfl, hacc, hcp⟩
      have e3 : acc[l.length].e = y.e := by
        have h2 : (ens acc)[l.length]'(by rw [ens_len]; exact hk) = acc[l.length].e := by simp [ens]
        rw [← h2]
        simp only [he]
        rw [List.getElem_append_right (by rw [ens_len]; exact Nat.le_refl _)]
        simp [ens_len]
      have e4 : (chE acc[l.length] y).e = y.e := by
        unfold chE
        rw [e3]
      rw [e4, he] at hacc
      have e5 : ens accm = ens l ++ [y.e] := by
        rw [hacc, List.take_append_of_le_length (by rw [ens_len]; exact Nat.le_refl _), List.take_of_length_le (by rw [ens_len]; exact Nat.le_refl _), List.drop_of_length_le (by simp [ens_len])]
      have e6 : accm.length = l.length + 1 := by rw [← ens_len, e5]; simp [ens_len]
      obtain ⟨a', cap', rfl, hr', _, _, _⟩ := hcp.rd
      rw [e6]
      exact ⟨a', cap', accm, rfl, hr', e6, e5, hcp.bl⟩
    have HDE : Hid (∀ W va vcap acc, Below w.heap.size w W → RdE W va acc → ens acc = ens l ++ [y.e] → acc.length = l.length + 1 → l.length + 1 ≤ vcap → Calls Try.prog 14 #[x.val, .slice va (l.length + 1) vcap, y.val] W fun e w' => ∃ a' cap' accm, e = .returned (.tuple #[.slice a' l.length cap', .int .i64 0]) ∧ RdE w' a' accm ∧ accm.length = l.length ∧ ens accm = ens l ∧ Below W.heap.size W w') := fun W va vcap acc hb hr he hl hcap => by
      have hk : l.length < acc.length := by omega
      have h1 := delete_yes x va vcap acc y W (HT.out.below hb) hr (HE.out.below hb) (by have := HN.out; omega) (by omega) l.length hk (by rw [he]; exact hth)
      rw [hl] at h1
      refine h1.mono ?_
      rintro e w' ⟨v, accm, rfl, hacc, hcp⟩
      rw [he] at hacc
      have e5 : ens accm = ens l := by
        rw [hacc, List.take_append_of_le_length (by rw [ens_len]; exact Nat.le_refl _), List.take_of_length_le (by rw [ens_len]; exact Nat.le_refl _), List.drop_of_length_le (by simp [ens_len]), List.append_nil]
      have e6 : accm.length = l.length := by rw [← ens_len, e5, ens_len]
      obtain ⟨a', cap', rfl, hr', _, _, _⟩ := hcp.rd
      rw [e6]
      exact ⟨a', cap', accm, rfl, hr', e6, e5, hcp.bl⟩
    have HD2 : Hid (∀ W va vcap acc, Below w.heap.size w W → RdE W va acc → ens acc = ens l → acc.length = l.length → Calls Try.prog 14 #[x.val, .slice va l.length vcap, y.val] W fun e w' => e = .returned (.tuple #[.slice none 0 0, .int .i64 11]) ∧ Below W.heap.size W w') := fun W va vcap acc hb hr he hl => by
      have h1 := delete_no x va vcap acc y W (HT.out.below hb) hr (HE.out.below hb) (by have := HN.out; omega) 11 (by rw [he]; exact hth2) (by decide)
      rw [hl] at h1
      exact h1
    have HSE : Hid (∀ W a b ca cb n (l1 l2 : List EnL), RdE W a l1 → RdE W b l2 → l1.length = n → l2.length = n → ens l1 = ens l2 → n ≤ 1000000 → _) := fun W a b ca cb n l1 l2 h1 h2 h3 h4 h5 h6 => sameEs_any a b ca cb n l1 l2 W h1 h2 h3 h4 h5 h6
    clear ed hbig hsz hE hL hln h hck hno hlast hins2 hth hth2 hc HT HE
    obtain ⟨⟨ks, ws, size⟩, ka, kc, wa, wc⟩ := x
    obtain ⟨⟨ms, prio, act, args⟩, ma, mc, aa, ac⟩ := y
    generalize ens l ++ [(⟨ms, prio, act, args⟩ : En)] = EL at *
    simp only [caCells, TbL.val, EnL.val] at *
    generalize hLn : l.length = ln at *
    have HLL := hide hLn
    clear hLn
    generalize ks.length = n1 at *
    generalize ws.length = n2 at *
    generalize ms.length = n3 at *
    generalize args.length = n4 at *
    go_enter Try.func4, Try.ntmps4
    go_wp2_with fail
    refine (HBY.out _ (below1 _ _)).mono ?_
    rintro e w1 ⟨rfl, hb⟩
    have BB := hide (bstep (below1 _ _) hb)
    have K8 := hide (heap_below hb (heap_alloc_new w _))
    clear hb HBY
    obtain ⟨b0, b1, b2, b3, b4, b5, b6, b7⟩ := at8 K8.out
    go_wp2_with fail
    refine (HIN.out _ BB.out).mono ?_
    rintro e w2 ⟨va, vcap, acc, rfl, ha1, ha2, ha3, ha4, hb⟩
    replace BB := hide (bstep BB.out hb)
    replace K8 := hide (heap_below hb K8.out)
    have A1 := hide ha1
    have A2 := hide ha2
    have A3 := hide ha3
    have A4 := hide ha4
    clear hb ha1 ha2 ha3 ha4 b0 b1 b2 b3 b4 b5 b6 b7 HIN
    obtain ⟨b0, b1, b2, b3, b4, b5, b6, b7⟩ := at8 K8.out
    go_wp2_with fail
    refine (HI2.out _ _ _ _ BB.out A3.out A1.out A2.out).mono ?_
    rintro e w3 ⟨a3, cap3, rfl, hb⟩
    replace BB := hide (bstep BB.out hb)
    replace K8 := hide (heap_below hb K8.out)
    replace A3 := hide (A3.out.below hb)
    clear hb b0 b1 b2 b3 b4 b5 b6 b7 HI2
    obtain ⟨b0, b1, b2, b3, b4, b5, b6, b7⟩ := at8 K8.out
    go_wp2_with fail
    refine (HMO.out _ _ _ _ BB.out A3.out A1.out A2.out A4.out).mono ?_
    rintro e w4 ⟨am, capm, accm, rfl, hm1, hm2, hm3, hb⟩
    replace BB := hide (bstep BB.out hb)
    replace K8 := hide (heap_below hb K8.out)
    replace A3 := hide (A3.out.below hb)
    have M1 := hide hm1
    have M2 := hide hm2
    have M3 := hide hm3
    clear hb hm1 hm2 hm3 b0 b1 b2 b3 b4 b5 b6 b7 HMO
    obtain ⟨b0, b1, b2, b3, b4, b5, b6, b7⟩ := at8 K8.out
    go_wp2_with fail
    refine (HDE.out _ _ _ _ BB.out A3.out A1.out A2.out A4.out).mono ?_
    rintro e w5 ⟨ad, capd, accd, rfl, hd1, hd2, hd3, hb⟩
    replace BB := hide (bstep BB.out hb)
    replace K8 := hide (heap_below hb K8.out)
    replace A3 := hide (A3.out.below hb)
    replace M1 := hide (M1.out.below hb)
    have D1 := hide hd1
    have D2 := hide hd2
    have D3 := hide hd3
    clear hb hd1 hd2 hd3 b0 b1 b2 b3 b4 b5 b6 b7 HDE
    obtain ⟨b0, b1, b2, b3, b4, b5, b6, b7⟩ := at8 K8.out
    go_wp2_with fail
    refine (HD2.out _ _ _ _ BB.out D1.out D3.out D2.out).mono ?_
    rintro e w6 ⟨rfl, hb⟩
    replace BB := hide (bstep BB.out hb)
    replace K8 := hide (heap_below hb K8.out)
    replace A3 := hide (A3.out.below hb)
    replace M1 := hide (M1.out.below hb)
    replace D1 := hide (D1.out.below hb)
    clear hb b0 b1 b2 b3 b4 b5 b6 b7 HD2
    obtain ⟨b0, b1, b2, b3, b4, b5, b6, b7⟩ := at8 K8.out
    go_wp2_with fail
    refine (HSE.out _ _ _ _ _ _ _ _ M1.out A3.out M2.out A2.out (M3.out.trans A1.out.symm) (by have := HN.out; have := HLL.out; omega)).mono ?_
    rintro e w7 ⟨rfl, hb⟩
    replace BB := hide (bstep BB.out hb)
    replace K8 := hide (heap_below hb K8.out)
    replace D1 := hide (D1.out.below hb)
    clear hb b0 b1 b2 b3 b4 b5 b6 b7
    obtain ⟨b0, b1, b2, b3, b4, b5, b6, b7⟩ := at8 K8.out
    go_wp2_with fail
    refine (HSE.out _ _ _ _ _ _ _ _ D1.out (HL.out.below BB.out) D2.out HLL.out D3.out (by have := HN.out; have := HLL.out; omega)).mono ?_
    rintro e w8 ⟨rfl, hb⟩
    replace BB := hide (bstep BB.out hb)
    clear hb b0 b1 b2 b3 b4 b5 b6 b7
    go_wp2_with fail
    refine (HLV.out _).mono ?_
    rintro e w9 ⟨rfl, hb⟩
    go_wp2
    go_ret
    exact ⟨rfl, bstep BB.out hb⟩
  · have HIN : Hid (∀ W, Below w.heap.size w W → Calls Try.prog 12 #[x.val, .slice la l.length lc, y.val] W fun e w' => ∃ va vcap, e = .returned (.tuple #[.slice va 0 vcap, .int .i64 (insI x.t (ens l) y.e)]) ∧ Below W.heap.size W w') := fun W hb => by
      refine (insert_is x la lc l.length l y W (HT.out.below hb) (HL.out.below hb) (HE.out.below hb) (by have := HN.out; omega) rfl _ rfl [] (by rw [if_neg hc])).mono ?_
      rintro e w' ⟨a', cap', acc, rfl, _, _, _, _, _, h6⟩
      exact ⟨a', cap', rfl, h6⟩
    generalize insI x.t (ens l) y.e = c at *
    have f1 : (c == 0) = false := by simp [hc]
    have f2 : (c = 0) = False := by simp [hc]
    clear ed hbig hsz hE hL hln h hc HT HE
    obtain ⟨⟨ks, ws, size⟩, ka, kc, wa, wc⟩ := x
    obtain ⟨⟨ms, prio, act, args⟩, ma, mc, aa, ac⟩ := y
    simp only [caCells, TbL.val, EnL.val] at *
    generalize l.length = ln at *
    generalize ks.length = n1 at *
    generalize ws.length = n2 at *
    generalize ms.length = n3 at *
    generalize args.length = n4 at *
    go_enter Try.func4, Try.ntmps4
    go_wp2_with fail
    refine (HBY.out _ (below1 _ _)).mono ?_
    rintro e w1 ⟨rfl, hb⟩
    have BB := hide (bstep (below1 _ _) hb)
    obtain ⟨b0, b1, b2, b3, b4, b5, b6, b7⟩ := at8 (heap_below hb (heap_alloc_new w _))
    clear hb HBY
    go_wp2_with fail
    refine (HIN.out _ BB.out).mono ?_
    rintro e w2 ⟨va, vcap, rfl, hb⟩
    replace BB := hide (bstep BB.out hb)
    clear hb b0 b1 b2 b3 b4 b5 b6 b7
    go_wp2_with fail
    refine (HLV.out _).mono ?_
    rintro e w9 ⟨rfl, hb⟩
    go_wp2
    go_ret
    exact ⟨rfl, bstep BB.out hb⟩
end Go.Proofs.Ythkhdmdllhbfeaa
