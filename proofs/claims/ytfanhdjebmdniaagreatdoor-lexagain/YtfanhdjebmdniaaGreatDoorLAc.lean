/- LexAgain: its walk. -/
import Derived.Test.YtfanhdjebmdniaaGreatDoorLAb
import Derived.Test.YtfanhdjebmdniaaGreatDoorOwnB
import Derived.Laws.IdiomStrings
namespace Go.Proofs.YtfanhdjebmdniaaGreatDoor
open Go.RowKit

def u8n (l : List UInt8) : List Nat := l.map UInt8.toNat
theorem u8n_len (l : List UInt8) : (u8n l).length = l.length := by simp [u8n]
theorem u8n_app (a b : List UInt8) : u8n (a ++ b) = u8n a ++ u8n b := by simp [u8n]
theorem str_txt (l : List UInt8) : strOfNums ((u8n l).map fun (x : Nat) => (x : Int)) = txt l := by
  have e : (u8n l).map (fun (x : Nat) => (x : Int)) = l.map fun b => (b.toNat : Int) := by simp [u8n]
  rw [e]
  unfold strOfNums txt
  congr 2
  rw [List.map_map]
  conv => rhs; rw [← List.map_id l]
  refine List.map_congr_left fun b _ => ?_
  simp
theorem str_nil (W : World) : (convert 62 9 (.slice none 0 0)).run Tryz.prog W = .ok (.string (txt [])) W := by kernel_rfl
theorem str_own {W : World} {B : Nat} {v : Value} {l : List UInt8} (h : Own8 W B v (u8n l)) : (convert 62 9 v).run Tryz.prog W = .ok (.string (txt l)) W := by
  have h0 := h
  rcases h.2 with ⟨rfl, hn⟩ | ⟨g, cap, cur, rfl, _⟩
  · have e : l = [] := by rw [u8n_len] at hn; exact List.length_eq_zero_iff.1 hn
    subst e
    exact str_nil W
  · rw [← str_txt]
    refine run_convert_bytes_arg W 62 5 Tryz.underlying62 Tryz.underlying5 g 0 (u8n l).length cap _ (by simp) (fun i hi => ?_) 9 Tryz.underlying9
    have := World.ownsRow.cellAt h0 i (by omega)
    rw [Nat.zero_add, this]
    simp [u8s, hi]
theorem bytes_rd (W : World) (l : List UInt8) (cap : Nat) (t : TypeId) (f : Nat × Nat) (_ : l ≠ []) : RdA (W.alloc (.cells (bytesRow (txt l) cap) t f)) (some ⟨W.heap.size, 0, none⟩) (u8n l) := by
  refine .inr ⟨W.heap.size, 0, rfl, by simp, fun i hi => ?_⟩
  rw [u8n_len] at hi
  have h : (W.alloc (.cells (bytesRow (txt l) cap) t f)).heap[W.heap.size]? = some (.cells (bytesRow (txt l) cap) t f) := heap_alloc_new W _
  unfold World.cell?; simp only [h]
  have hs : i < (txt l).data.size := by show i < (txt l).size; rw [txt_size]; exact hi
  have e1 : (bytesRow (txt l) cap)[i]? = some (.int .u8 (l[i].toNat : Int)) := by
    unfold bytesRow
    rw [Array.getElem?_append_left (by simpa using hs)]
    simp [txt, hi]
    rfl
  rw [Nat.zero_add, e1]
  simp [u8n]
  rfl
set_option maxHeartbeats 4000000 in
set_option maxRecDepth 100000 in
theorem again_no (s : List UInt8) (w : World) (hL : Ls w) (hs : s.length ≤ 9223372036854775807) (h : 65536 < s.length ∨ ∃ k, toks s = .error k) :
    Calls Tryz.prog 4 #[.string (txt s)] w fun e w' => e = .returned (.bool true) ∧ Below w.heap.size w w' := by
  have HA : Hid (∀ W, Ls W → _) := fun W h => alive7 W h
  have HW : Hid (Calls Tryz.prog 7 #[.string (txt s)] w fun e w' => ∃ k c : Nat, e = .returned (.tuple #[.slice none 0 0, .int .i64 (k : Int), .int .i64 (c : Int)]) ∧ ((c : Int) == 0) = false ∧ Below w.heap.size w w') := by
    refine (words_any s w hL hs).mono ?_
    rintro e w' ⟨hb, ⟨_, h1⟩ | ⟨h0, ⟨k, _, h1⟩ | ⟨ys, v, h1, _⟩⟩⟩
    · exact ⟨0, 3, h1, rfl, hb⟩
    · exact ⟨k, 4, h1, rfl, hb⟩
    · rcases h with h | ⟨k, h⟩
      · omega
      · rw [h] at h1; cases h1
  have HL := hide hL
  clear hL h
  generalize txt s = T at *
  go_enter Tryz.func4, Tryz.ntmps4
  go_wp2_with fail
  refine HW.out.mono ?_
  rintro e w1 ⟨k, c, rfl, hc, hb⟩
  have B1 := hide hb
  clear hb
  have hc' : ¬ ((c : Int) = 0) := by simpa using hc
  clear hc
  go_wp2_with fail
  refine (HA.out _ (HL.out.below B1.out)).mono ?_
  rintro e w2 ⟨rfl, hb⟩
  have B2 := hide (B1.out.trans (hb.mono B1.out.size))
  clear hb
  go_wp2_with fail
  refine (HA.out _ (HL.out.below B2.out)).mono ?_
  rintro e w3 ⟨rfl, hb⟩
  have B3 := hide (B2.out.trans (hb.mono B2.out.size))
  clear hb
  go_wp2
  go_ret
  exact ⟨rfl, B3.out⟩
set_option maxHeartbeats 4000000 in
set_option maxRecDepth 100000 in
theorem again_yes (s : List UInt8) (xs : List (Wd × Nat)) (w : World) (hL : Ls w) (hs : s.length ≤ 65536) (h : toks s = .ok xs) :
    Calls Tryz.prog 4 #[.string (txt s)] w fun e w' => e = .returned (.bool true) ∧ Below w.heap.size w w' := by
  have HA : Hid (∀ W, Ls W → _) := fun W h => alive7 W h
  have HW : Hid (∀ W, Ls W → _) := fun W h' => words_ok h hs (txt s) rfl W h'
  have HT : Hid (∀ (x : Wd) (ln : Nat) W, Ls W → Good x → _) := fun x ln W h1 h2 => told_any x ln W h1 h2
  obtain ⟨hg, hp⟩ := toks_good h
  have HG := hide hg
  have HP := hide hp
  have HL := hide hL
  clear hL h hg hp
  generalize txt s = T at *
  go_enter Tryz.func4, Tryz.ntmps4
  go_wp2_with fail
  refine (HW.out _ HL.out).mono ?_
  rintro e w1 ⟨v1, rfl, ho1, hl1, hb⟩
  have B1 := hide hb
  have S1 := hide ho1.sl
  obtain ⟨ad1, cap1, rfl⟩ := ho1.shape
  clear hb ho1
  go_wp2_with fail
  refine (HA.out _ (HL.out.below B1.out)).mono ?_
  rintro e w2 ⟨rfl, hb⟩
  have B2 := hide (B1.out.trans (hb.mono B1.out.size))
  have S2 := hide (S1.out.keep hb)
  clear hb S1
  go_wp2
  go_loopw [6, 7] (fun vb vi wr => ∃ (j : Nat), vi = .int .i64 (j : Int) ∧ j ≤ xs.length ∧ Hid ((ag ((xs.take j).map Prod.fst)).length ≤ 65536) ∧ Hid (Own8 wr w2.heap.size vb (u8n (ag ((xs.take j).map Prod.fst)))) ∧ Hid (Below w2.heap.size w2 wr)) (fun _ vi _ => xs.length - (intOf vi).toNat)
  case atStart => exact ⟨0, rfl, by omega, by simp [Hid, ag], Own8.nil _ _, Below.refl _ _⟩
  case round =>
    obtain ⟨j, rfl, hj, HLen, HO, HB⟩ := hrel
    by_cases hlt : j < xs.length
    · have hltI : (j : Int) < (xs.length : Int) := by omega
      have hR : ∃ g, ad1 = some ⟨g, 0, none⟩ ∧ RdG wr g xs := by
        rcases S2.out.keep HB.out with ⟨_, e⟩ | ⟨g, c, e, hr⟩
        · rw [e] at hlt; simp at hlt
        · injection e with e1; exact ⟨g, e1, hr⟩
      obtain ⟨g, rfl, hr⟩ := hR
      have c0 := hr.2 j hlt 0 _ rfl; have c1 := hr.2 j hlt 1 _ rfl; have c2 := hr.2 j hlt 2 _ rfl; have c3 := hr.2 j hlt 3 _ rfl; have c4 := hr.2 j hlt 4 _ rfl; have c5 := hr.2 j hlt 5 _ rfl
      rw [Nat.add_zero] at c0
      have HRG := hide hr
      have HGx := hide (HG.out _ (List.getElem_mem hlt))
      have HNx : Hid (xs.take (j + 1) = xs.take j ++ [xs[j]]) := List.take_succ_eq_append_getElem hlt
      clear hr
      generalize hxj : xs[j] = xj at *
      have HXJ := hide hxj
      clear hxj
      obtain ⟨x, ln⟩ := xj
      dsimp only at c0 c1 c2 c3 c4 c5
      have hcv2 := fun w s => run_bytes_of_string (P := Tryz.prog) w 9 62 5 s Tryz.underlying9 Tryz.underlying62 Tryz.underlying5
      have HTn : Hid (toldW x ≠ []) := by obtain ⟨c, l, e, _⟩ := told_head HGx.out; unfold Hid; rw [e]; simp
      have HTl := hide (good_len HGx.out)
      obtain ⟨N, hN⟩ : ∃ N, N = ag ((xs.take (j + 1)).map Prod.fst) := ⟨_, rfl⟩
      have hN2 := hN
      rw [HNx.out, List.map_append, List.map_cons, List.map_nil, ag_snoc] at hN2
      have HN0 := hide hN
      obtain ⟨M, hM⟩ : ∃ M, M = ag ((xs.take j).map Prod.fst) := ⟨_, rfl⟩
      rw [← hM] at hN2 HO HLen
      by_cases h0 : j = 0
      · subst h0
        have HNN : Hid (u8n M ++ u8n (toldW x) = u8n N) := by
          unfold Hid
          rw [hN2, if_pos (by simp), List.append_nil, u8n_app]
        have HPl : Hid (M.length ≤ 65537) := Nat.le_trans HLen.out (by omega)
        clear hN hN2 hM HNx HXJ
        go_wp2_with fail
        refine (HT.out x ln _ (HL.out.below (B2.out.trans (HB.out.mono B2.out.size))) HGx.out).mono ?_
        rintro e w5 ⟨rfl, hb⟩
        have HB5 := hide (HB.out.trans (hb.mono HB.out.size))
        have HO5 := hide (HO.out.below hb)
        clear hb
        go_wp2_with (at_builtin; refine wpList_app8 rfl _ _ rfl w2.heap.size _ (u8n M) rfl (HO5.out.below (((Below.refl _ w5).drew).alloc (Nat.le_refl _) _)) (some ⟨w5.heap.size, 0, none⟩) _ _ (u8n (toldW x)) rfl (by rw [txt_size, u8n_len]) (bytes_rd w5.drew (toldW x) _ _ _ HTn.out) (fun e => by cases e) (by rw [u8n_len, u8n_len]; have := HTl.out; have := HPl.out; omega) (by have := HB5.out.size; simp; omega) ?_; intro v6 w6 O6 G6 K6)
        have B6 := hide (below_own ((HB5.out.drew).alloc HB5.out.size _) (HO5.out.below (((Below.refl _ w5).drew).alloc (Nat.le_refl _) _)) G6 (by have := HB5.out.size; simp; omega))
        rw [HNN.out] at O6
        have O6' := hide O6
        obtain ⟨a6, c6, rfl, _, _, _⟩ := O6.shape
        rw [u8n_len] at O6' ⊢
        clear O6 G6 K6 hcv2
        have hNl : N.length ≤ 65792 := by have h1 := congrArg List.length HNN.out; rw [List.length_append, u8n_len, u8n_len, u8n_len] at h1; have := HPl.out; have := HTl.out; omega
        obtain ⟨nl, hnl⟩ : ∃ nl, nl = N.length := ⟨_, rfl⟩
        rw [← hnl] at O6' hNl ⊢
        have HNL := hide hnl
        clear hnl
        by_cases hbig : 65536 < nl
        · have hbI : (65536 : Int) < (nl : Int) := by omega
          go_wp2
          have hlen : (Builtin.len_ #[62] 3 #[.slice a6 nl c6]).run Tryz.prog w6 = .ok (.int .i64 (nl : Int)) w6 := by
            simp [Builtin.len_, go_sem]
          rw [hlen]
          go_wp2
          go_ret
          exact ⟨rfl, B2.out.trans (Below.mono B6.out B2.out.size)⟩
        · have hbI : ¬ (65536 : Int) < (nl : Int) := by omega
          go_wp2
          refine ⟨⟨0 + 1, rfl, by omega, ?_, ?_, B6⟩, by simp [intOf]; omega⟩
          · rw [← HN0.out]; unfold Hid; have := HNL.out; omega
          · rw [← HN0.out]; exact O6'
      · obtain ⟨i, rfl⟩ : ∃ i, j = i + 1 := ⟨j - 1, by omega⟩
        have HNN : Hid (u8n (M ++ [32]) ++ u8n (toldW x) = u8n N) := by
          unfold Hid
          rw [hN2, if_neg (by simp; intro e; rw [e] at hlt; simp at hlt), u8n_app (M ++ [32])]
        have HPl : Hid ((M ++ [32]).length ≤ 65537) := by unfold Hid; have := HLen.out; simp; omega
        clear hN hN2 hM HNx
        have hpos : (0 : Int) < ((i + 1 : Nat) : Int) := by omega
        go_wp2_with (at_builtin; refine wpList_app8 rfl _ _ rfl w2.heap.size _ (u8n M) rfl (HO.out.below ((Below.refl _ wr).alloc (Nat.le_refl _) _)) (some ⟨wr.heap.size, 0, none⟩) 1 1 [32] rfl rfl (one_rd wr 32 _) (fun e => by cases e) (by rw [u8n_len]; have := HLen.out; simp; omega) (by have := HB.out.size; simp; omega) ?_; intro v4 w4 O4 G4 K4)
        have B4 := hide (below_own (HB.out.alloc HB.out.size _) (HO.out.below ((Below.refl _ wr).alloc (Nat.le_refl _) _)) G4 (by have := HB.out.size; simp; omega))
        have hr4 : RdG w4 g xs := by
          rcases S2.out.keep B4.out with ⟨e, _⟩ | ⟨g', c, e, hr⟩
          · cases e
          · injection e with e1; injection e1 with e1; injection e1 with e1; subst e1; exact hr
        have HX1 : Hid (xs[i].2 ≤ xs[i + 1].2) := (List.pairwise_iff_getElem.1 HP.out) i (i + 1) (by omega) hlt (by omega)
        have O4' : Hid (Own8 w4 w2.heap.size v4 (u8n (M ++ [32]))) := by unfold Hid; rw [u8n_app]; exact O4
        clear c0 c1 c2 c3 c4 c5 O4 G4 K4
        have c0 := hr4.2 (i + 1) hlt 0 _ rfl; have c1 := hr4.2 (i + 1) hlt 1 _ rfl; have c2 := hr4.2 (i + 1) hlt 2 _ rfl; have c3 := hr4.2 (i + 1) hlt 3 _ rfl; have c4 := hr4.2 (i + 1) hlt 4 _ rfl; have c5 := hr4.2 (i + 1) hlt 5 _ rfl
        rw [Nat.add_zero] at c0
        have d5 := hr4.2 i (by omega) 5 _ rfl
        rw [HXJ.out] at c0 c1 c2 c3 c4 c5 HX1
        have hle : ¬ ((ln : Int) < (xs[i].2 : Int)) := by have := HX1.out; simp only at this; omega
        clear hr4 HX1
        dsimp only at c0 c1 c2 c3 c4 c5 d5
        generalize xs[i].2 = lm at *
        have B4d : Hid (Below w2.heap.size w2 w4.drew) := B4.out.drew
        have O4d : Hid (Own8 w4.drew w2.heap.size v4 (u8n (M ++ [32]))) := O4'.out
        go_wp2
        go_region
        all_goals
          clear B4 O4' HB HO
          go_wp2_with fail
          refine (HT.out x ln _ (HL.out.below (B2.out.trans (B4d.out.mono B2.out.size))) HGx.out).mono ?_
          rintro e w5 ⟨rfl, hb⟩
          have HB5 := hide (B4d.out.trans (hb.mono B4d.out.size))
          have HO5 := hide (O4d.out.below hb)
          clear hb
          go_wp2_with (at_builtin; refine wpList_app8 rfl _ _ rfl w2.heap.size _ (u8n (M ++ [32])) rfl (HO5.out.below (((Below.refl _ w5).drew).alloc (Nat.le_refl _) _)) (some ⟨w5.heap.size, 0, none⟩) _ _ (u8n (toldW x)) rfl (by rw [txt_size, u8n_len]) (bytes_rd w5.drew (toldW x) _ _ _ HTn.out) (fun e => by cases e) (by rw [u8n_len, u8n_len]; have := HTl.out; have := HPl.out; omega) (by have := HB5.out.size; simp; omega) ?_; intro v6 w6 O6 G6 K6)
          have B6 := hide (below_own ((HB5.out.drew).alloc HB5.out.size _) (HO5.out.below (((Below.refl _ w5).drew).alloc (Nat.le_refl _) _)) G6 (by have := HB5.out.size; simp; omega))
          rw [HNN.out] at O6
          have O6' := hide O6
          obtain ⟨a6, c6, rfl, _, _, _⟩ := O6.shape
          rw [u8n_len] at O6' ⊢
          clear O6 G6 K6 hcv2
          have hNl : N.length ≤ 65792 := by have h1 := congrArg List.length HNN.out; rw [List.length_append, u8n_len, u8n_len, u8n_len] at h1; have := HPl.out; have := HTl.out; omega
          obtain ⟨nl, hnl⟩ : ∃ nl, nl = N.length := ⟨_, rfl⟩
          rw [← hnl] at O6' hNl ⊢
          have HNL := hide hnl
          clear hnl
          by_cases hbig : 65536 < nl
          · have hbI : (65536 : Int) < (nl : Int) := by omega
            go_wp2
            have hlen : (Builtin.len_ #[62] 3 #[.slice a6 nl c6]).run Tryz.prog w6 = .ok (.int .i64 (nl : Int)) w6 := by
              simp [Builtin.len_, go_sem]
            rw [hlen]
            go_wp2
            go_ret
            exact ⟨rfl, B2.out.trans (Below.mono B6.out B2.out.size)⟩
          · have hbI : ¬ (65536 : Int) < (nl : Int) := by omega
            go_wp2
            refine ⟨⟨i + 1 + 1, by congr 1, by omega, ?_, ?_, B6⟩, by simp [intOf]; omega⟩
            · rw [← HN0.out]; unfold Hid; have := HNL.out; omega
            · rw [← HN0.out]; exact O6'
    · have hge : ¬ ((j : Int) < (xs.length : Int)) := by omega
      obtain rfl : j = xs.length := by omega
      rw [List.take_length] at HO HLen
      have hstr := str_own HO.out
      have hgs : ∀ y ∈ xs.map Prod.fst, Good y := fun y hy => by
        obtain ⟨z, hz, rfl⟩ := List.mem_map.1 hy
        exact HG.out z hz
      have HW2 : Hid (∀ W, Ls W → _) := fun W h' => words_ok (toks_ag _ hgs) HLen.out (txt (ag (xs.map Prod.fst))) rfl W h'
      have HLr := hide (HL.out.below (B2.out.trans (HB.out.mono B2.out.size)))
      have S3 := hide (S2.out.keep HB.out)
      clear hgs HLen HO
      generalize txt (ag (xs.map Prod.fst)) = T2 at *
      go_wp2_with fail
      refine (HW2.out _ HLr.out).mono ?_
      rintro e w5 ⟨v2, rfl, ho2, hl2, hb⟩
      have B5 := hide (B2.out.trans ((HB.out.mono B2.out.size).trans (hb.mono (B2.out.trans (HB.out.mono B2.out.size)).size)))
      have S5 := hide (S3.out.keep hb)
      have P5 := hide ho2.sl
      obtain ⟨ad2, cap2, rfl⟩ := ho2.shape
      have hln : ((xs.map Prod.fst).map fun y => ((y, 0) : Wd × Nat)).length = xs.length := by simp
      rw [hln]
      clear hb ho2 hstr S3 hl2
      have HMs : Hid (∀ k (h : k < xs.length) (h' : k < ((xs.map Prod.fst).map fun y => ((y, 0) : Wd × Nat)).length), ((xs.map Prod.fst).map fun y => ((y, 0) : Wd × Nat))[k] = (xs[k].1, 0)) := fun k h h' => by simp
      have HNl := hide hln
      generalize (xs.map Prod.fst).map (fun y => ((y, 0) : Wd × Nat)) = ms at *
      clear HW2 HW HT HA HG HP HLr hln
      go_wp2
      go_loopw [11] (fun vi wq => ∃ k : Nat, vi = .int .i64 (k : Int) ∧ k ≤ xs.length ∧ Hid (Below w5.heap.size w5 wq)) (fun vi _ => xs.length - (intOf vi).toNat)
      case atStart => exact ⟨0, rfl, by omega, Below.refl _ _⟩
      case round =>
        obtain ⟨k, rfl, hk, HK⟩ := hrel
        by_cases hlt : k < xs.length
        · have hltI : (k : Int) < (xs.length : Int) := by omega
          have hR1 : ∃ g, ad1 = some ⟨g, 0, none⟩ ∧ RdG wr g xs := by
            rcases S5.out.keep HK.out with ⟨_, e⟩ | ⟨g, c, e, hr⟩
            · rw [e] at hlt; simp at hlt
            · injection e with e1; exact ⟨g, e1, hr⟩
          have hR2 : ∃ g, ad2 = some ⟨g, 0, none⟩ ∧ RdG wr g ms := by
            rcases P5.out.keep HK.out with ⟨_, e⟩ | ⟨g, c, e, hr⟩
            · have := HNl.out; rw [e] at this; simp at this; omega
            · injection e with e1; exact ⟨g, e1, hr⟩
          obtain ⟨g, rfl, h1⟩ := hR1
          obtain ⟨q, rfl, h2⟩ := hR2
          have hk2 : k < ms.length := by rw [HNl.out]; exact hlt
          have c0 := h1.2 k hlt 0 _ rfl; have c1 := h1.2 k hlt 1 _ rfl; have c2 := h1.2 k hlt 2 _ rfl; have c3 := h1.2 k hlt 3 _ rfl; have c4 := h1.2 k hlt 4 _ rfl; have c5 := h1.2 k hlt 5 _ rfl
          have d0 := h2.2 k hk2 0 _ rfl; have d1 := h2.2 k hk2 1 _ rfl; have d2 := h2.2 k hk2 2 _ rfl; have d3 := h2.2 k hk2 3 _ rfl; have d4 := h2.2 k hk2 4 _ rfl; have d5 := h2.2 k hk2 5 _ rfl
          rw [Nat.add_zero] at c0 d0
          rw [HMs.out k hlt hk2] at d0 d1 d2 d3 d4 d5
          have hgl := h1.1
          have hql := h2.1
          clear h1 h2
          generalize xs[k] = x at *
          obtain ⟨⟨xk, xs', xw, xv⟩, ln⟩ := x
          dsimp only at c0 c1 c2 c3 c4 c5 d0 d1 d2 d3 d4 d5
          generalize (xk : Int) = y0 at *
          generalize txt xs' = y1 at *
          generalize (xw : Int) = y2 at *
          generalize wHi xv = y3 at *
          generalize wLo xv = y4 at *
          generalize (ln : Int) = y5 at *
          go_wp2
          go_region
          all_goals
            go_wp2
            exact ⟨⟨k + 1, by congr 1, by omega, (HK.out.alloc HK.out.size _).drew⟩, by simp [intOf]; omega⟩
        · have hltI : ¬ (k : Int) < (xs.length : Int) := by omega
          go_wp2
          go_ret
          exact ⟨rfl, B5.out.trans (HK.out.mono B5.out.size)⟩
theorem again_any (s : List UInt8) (w : World) (hL : Ls w) (hs : s.length ≤ 9223372036854775807) :
    Calls Tryz.prog 4 #[.string (txt s)] w fun e w' => e = .returned (.bool true) ∧ Below w.heap.size w w' := by
  by_cases h : s.length ≤ 65536
  · cases ht : toks s with
    | error k => exact again_no s w hL hs (.inr ⟨k, ht⟩)
    | ok xs => exact again_yes s xs w hL h ht
  · exact again_no s w hL hs (.inl (by omega))
end Go.Proofs.YtfanhdjebmdniaaGreatDoor
