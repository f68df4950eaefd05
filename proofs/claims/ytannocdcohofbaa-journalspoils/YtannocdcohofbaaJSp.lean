/- pointsmanlaw05.JournalSpoils, walked. -/
import Derived.Test.YtannocdcohofbaaJSm
namespace Go.Proofs.Ytannocdcohofbaa
open Go.RowKit

theorem Bk3.setB {w W : World} {B g n c : Nat} {vw ve : Value} {xs : List Nat} {ws : List It} {es : List Nat} (h : Bk3 w W B (.slice (some ⟨g, 0, none⟩) n c) vw ve xs ws es) (k y : Nat) : Bk3 w (W.setCell ⟨g, k, none⟩ (.int .u8 (y : Nat))) B (.slice (some ⟨g, 0, none⟩) n c) vw ve (xs.set k y) ws es := by
  have hg := (World.ownsRow.lt h.ob g rfl).1
  refine ⟨h.bl.setCell (Nat.le_trans h.wB hg) _, h.wB, by simpa using h.BW, h.ob.set k y, sameRow h.ow (fun b hb => Below.heap_setCell _ _ _ _ (fun e => h.a1 g rfl (by rw [hb, e]))), sameRow h.oe (fun b hb => Below.heap_setCell _ _ _ _ (fun e => h.a2 g rfl (by rw [hb, e]))), h.a1, h.a2, h.a3, h.ok⟩
theorem ownL_at {W : World} {B g n c : Nat} {ws : List It} (h : OwnL W B (.slice (some ⟨g, 0, none⟩) n c) (ws.map vof)) (i : Nat) (hi : i < ws.length) : W.cell? ⟨g, i, none⟩ = some (.slice ws[i].a ws[i].xs.length ws[i].cap) := by
  have hi2 : i < (ws.map vof).length := by rw [List.length_map]; exact hi
  have h5 := World.ownsRow.cells h (g := g) rfl i _ (List.getElem?_eq_getElem hi2)
  rw [add8, Nat.zero_add] at h5
  rw [h5, List.getElem_map]; rfl
theorem ownZ_at {W : World} {B g n c : Nat} {ns : List Nat} (h : OwnZ W B (.slice (some ⟨g, 0, none⟩) n c) ns) (i : Nat) (hi : i < ns.length) : W.cell? ⟨g, i, none⟩ = some (.int .i64 (ns[i] : Nat)) := by
  have hi2 : i < (ns.map zof).length := by rw [List.length_map]; exact hi
  have h5 := World.ownsRow.cells h (g := g) rfl i _ (List.getElem?_eq_getElem hi2)
  rw [add8, Nat.zero_add] at h5
  rw [h5, List.getElem_map]; rfl
theorem own8_at {W : World} {B g n c : Nat} {xs : List Nat} (h : Own8 W B (.slice (some ⟨g, 0, none⟩) n c) xs) (i : Nat) (hi : i < xs.length) : W.cell? ⟨g, i, none⟩ = some (.int .u8 (xs[i] : Nat)) := by
  have h5 := World.ownsRow.cells h (g := g) rfl i _ (u8s_get hi)
  rw [add8, Nat.zero_add] at h5
  exact h5
/- What the loop that frames holds. -/
structure BsL (w W : World) (B : Nat) (vb vw ve : Value) (ls : List It) (k : Nat) (ws : List It) : Prop where
  st : Bk3 w W B vb vw ve (frms (recs ws)) ws (begsOf (recs ws))
  us : used (recs ws) ≤ 8 * (k + tot (ls.take k))
  wl : ws.length ≤ k
  ok : ∀ r ∈ recs ws, okR r ∧ ∀ y ∈ r, y < 256
set_option maxRecDepth 100000 in
set_option maxHeartbeats 4000000 in
theorem spoils_yes (a : Option Addr) (cap : Nat) (ls : List It) (x y z : Nat) (w : World) (hx : x < 65536) (hy : y < 4294967296) (hz : z < 256) (hll : ls.length ≤ 140737488355328) (hr : RdL w a ls) (hby : ∀ it ∈ ls, ∀ y ∈ it.xs, y < 256) : Calls Try.prog 6 #[.slice a ls.length cap, .agg #[.int .u16 x, .int .u32 y, .int .u8 z]] w fun e w' => e = .returned (.bool true) ∧ Below w.heap.size w w' := by
  obtain ⟨w0, hw0⟩ : ∃ w0, w0 = w.alloc (.cells #[.int .u16 x, .int .u32 y, .int .u8 z] 66) := ⟨_, rfl⟩
  have b0 : Below w.heap.size w w0 := by rw [hw0]; exact (Below.refl _ w).alloc (Nat.le_refl _) _
  have hz0 : w.heap.size < w0.heap.size := by rw [hw0]; simp
  obtain ⟨s0, s1, s2, _⟩ := cells_new3 w (.int .u16 (x : Int)) (.int .u32 (y : Int)) (.int .u8 (z : Int)) 66
  rw [← hw0] at s0 s1 s2
  have HSC : Hid (∀ W, Below w0.heap.size w0 W → W.cell? ⟨w.heap.size, 0, none⟩ = some (.int .u16 (x : Int)) ∧ W.cell? ⟨w.heap.size, 1, none⟩ = some (.int .u32 (y : Int)) ∧ W.cell? ⟨w.heap.size, 2, none⟩ = some (.int .u8 (z : Int))) := fun W hb => ⟨(hb.cell (p := ⟨w.heap.size, 0, none⟩) hz0).trans s0, (hb.cell (p := ⟨w.heap.size, 1, none⟩) hz0).trans s1, (hb.cell (p := ⟨w.heap.size, 2, none⟩) hz0).trans s2⟩
  have hr0 := hr.below b0
  have HG := hide (fun W (hb : Below w0.heap.size w0 W) => great_any a cap ls W hll (hr0.below hb))
  have HA : Hid (∀ W, Below w0.heap.size w0 W → Calls Try.prog 26 #[] W fun e w' => e = .returned (.bool true) ∧ Below w0.heap.size w0 w') := fun W hb => (alive_yes W).mono (fun e w' h => ⟨h.1, hb.trans (h.2.mono hb.size)⟩)
  have HR := hide hr0
  have HBY := hide hby
  have B0 := hide b0
  have HFN : Hid (∀ W, Below w0.heap.size w0 W → Below w.heap.size w W) := fun W hb => b0.trans (hb.mono b0.size)
  clear hr hr0 hby hll b0 s0 s1 s2
  go_enter Try.func6, Try.ntmps6
  go_wp2_with fail
  rw [← hw0]
  have HW0 := hide hw0
  clear hw0
  refine (HA.out _ (Below.refl _ _)).mono ?_
  rintro e w1 ⟨rfl, hb⟩
  have B1 := hide hb
  clear hb
  go_wp2_with fail
  refine (HG.out _ B1.out).mono ?_
  rintro e w2 ⟨bg, rfl, hbg, hw2⟩
  subst hw2
  obtain ⟨s0, s1, s2⟩ := HSC.out w2 B1.out
  cases bg with
  | true =>
    clear hbg
    go_wp2_with fail
    refine (HA.out _ B1.out).mono ?_
    rintro e w3 ⟨rfl, hb⟩
    go_wp2
    go_ret
    exact ⟨rfl, HFN.out _ hb⟩
  | false =>
    have HT := hide (hbg rfl)
    clear hbg HG
    by_cases hz1 : z = 0
    · subst hz1
      go_wp2_with fail
      refine (HA.out _ B1.out).mono ?_
      rintro e w3 ⟨rfl, hb⟩
      go_wp2
      go_ret
      exact ⟨rfl, HFN.out _ hb⟩
    have d0 : ((z : Int) == 0) = false := beq_eq_false_iff_ne.2 (by omega)
    have d0' : (z = 0) = False := eq_false hz1
    have S1 : Hid (BsL w0 w2 w2.heap.size (.slice none 0 0) (.slice none 0 0) (.slice none 0 0) ls 0 []) := ⟨⟨B1.out, B1.out.size, Nat.le_refl _, Own8.nil _ _, World.ownsRow_nil _ _ _ _, World.ownsRow_nil _ _ _ _, (fun b e => by cases e), (fun b e => by cases e), (fun b e => by cases e), fun it h => absurd h (by simp)⟩, by simp [recs, used], by simp, fun r h => by simp [recs] at h⟩
    generalize hB : w2.heap.size = B at S1
    clear hB HA
    go_wp2
    clear s0 s1 s2
    go_loopw [5, 6, 7, 8] (fun b5 b6 b7 i wr => ∃ (k : Nat) (ws : List It) (vb vw ve : Value), k ≤ ls.length ∧ i = .int .i64 k ∧ vb = b5 ∧ vw = b6 ∧ ve = b7 ∧ BsL w0 wr B vb vw ve ls k ws) (fun _ _ _ i _ => ls.length - (intOf i).toNat)
    case atStart => exact ⟨0, [], _, _, _, by omega, rfl, rfl, rfl, rfl, S1.out⟩
    case round =>
      obtain ⟨k, ws, vb, vw, ve, hk, rfl, rfl, rfl, rfl, hS⟩ := hrel
      have S2 := hide hS
      have hkb : k < 9223372036854775807 := by have := HT.out; omega
      clear S1 hS
      by_cases hlt : k < ls.length
      · obtain ⟨p, off, rfl, hp, hcl⟩ := HR.out.some (by omega)
        have q0 : wr.cell? ⟨p, off + k, none⟩ = some (.slice ls[k].a ls[k].xs.length ls[k].cap) := (S2.out.st.bl.cell (p := ⟨p, off + k, none⟩) hp).trans (hcl k hlt)
        have HC0 : Hid (∀ W, Below w0.heap.size w0 W → W.cell? ⟨p, off + k, none⟩ = some (.slice ls[k].a ls[k].xs.length ls[k].cap)) := fun W hb => (hb.cell (p := ⟨p, off + k, none⟩) hp).trans (hcl k hlt)
        have HIO := hide (HR.out.ok _ (List.getElem_mem hlt))
        have HBX := hide (HBY.out _ (List.getElem_mem hlt))
        have HSU := hide (tot_succ ls k hlt)
        have hone := tot_le ls (k + 1)
        have HL2 := hide hone
        have hlI : (k : Int) < (ls.length : Int) := by omega
        clear hcl HR HBY hone
        generalize ls[k] = it at *
        by_cases hok : okR it.xs
        · have HF := hide (frame_yes it.a it.cap it.xs wr HBX.out hok (HIO.out.rd.below S2.out.st.bl))
          rw [frm_length] at HF
          have HOKX := hide hok
          have hun : used (recs (ws ++ [it])) = used (recs ws) + (8 + it.xs.length) := by rw [recs_snoc, used_append, used_cons, used_nil, Nat.add_zero]
          have hus := S2.out.us
          have hsu := HSU.out
          have hl2 := HL2.out
          have ht := HT.out
          have hwl := S2.out.wl
          have hlw : (ws.map vof).length ≤ 1000000000 := by rw [List.length_map]; omega
          have hle : (begsOf (recs ws)).length ≤ 1000000000 := by rw [begsOf_length, recs_length]; omega
          have hlb : (frms (recs ws)).length + (frm it.xs).length ≤ 1000000000 := by rw [frms_length, frm_length]; omega
          have HLB := hide hlb
          have HUS : Hid (used (recs (ws ++ [it])) ≤ 8 * (k + 1 + tot (ls.take (k + 1)))) := by show _ ≤ _; omega
          have HWL : Hid ((ws ++ [it]).length ≤ k + 1) := by show _ ≤ _; rw [List.length_append, List.length_singleton]; omega
          obtain ⟨ab, cb, hvb, _, _, _⟩ := S2.out.st.ob.shape
          rw [frms_length] at hvb
          subst hvb
          clear hok hun hus hsu hl2 ht hwl hlb
          go_wp2_with fail
          refine HF.out.mono ?_
          rintro e w5 ⟨g5, rfl, ho, hb⟩
          have S5 := hide (S2.out.st.next hb)
          have S5b := hide (S5.out.next ((Below.refl _ w5).alloc (Nat.le_refl _) (.cells #[zof (used (recs ws))] 3)))
          have HNE : Hid ((Value.slice (some ⟨g5, 0, none⟩) (it.xs.length + 8) (it.xs.length + 8)).ownBlock ≠ ve.ownBlock) := fun e => by
            have h1 := (World.ownsRow.lt ho g5 rfl).1
            have h2 := (World.ownsRow.lt S2.out.st.oe g5 e.symm).2
            omega
          have F5 := hide (ho.below ((Below.refl _ w5).alloc (Nat.le_refl _) (.cells #[zof (used (recs ws))] 3)))
          clear ho hb HF
          have hlf : (frm it.xs).length = it.xs.length + 8 := frm_length _
          have HLF := hide hlf
          clear hlf
          have HFIN : Hid (∀ (w9 : World) (vb' vw' ve' : Value), Bk3 w0 w9 B vb' vw' ve' (frms (recs ws) ++ frm it.xs) (ws ++ [it]) (begsOf (recs ws) ++ [used (recs ws)]) → BsL w0 w9 B vb' vw' ve' ls (k + 1) (ws ++ [it])) := fun w9 vb' vw' ve' h => ⟨by rw [recs_snoc, frms_snoc, begsOf_snoc]; exact h, HUS.out, HWL.out, fun r hr => by
            rw [recs_snoc] at hr
            rcases List.mem_append.1 hr with hr | hr
            · exact S2.out.ok r hr
            · rw [List.mem_singleton.1 hr]; exact ⟨HOKX.out, HBX.out⟩⟩
          go_wp2_with (first
            | (at_builtin; refine wpList_appZ rfl _ _ rfl B _ (begsOf (recs ws)) rfl S5b.out.oe ⟨w5.heap.size, 0, none⟩ (used (recs ws)) rfl (one_cell w5 _ _) rfl hle S5b.out.BW ?_; intro v8 w8 O8 G8 K8; have S8 := hide (S5b.out.appE O8 G8 K8); have F8 := hide (F5.out.kept G8 (.inr HNE.out)).rd.2; clear O8 G8 K8)
            | (at_builtin; refine wpList_app8 rfl _ _ rfl B _ (frms (recs ws)) rfl S8.out.ob (some ⟨g5, 0, none⟩) (it.xs.length + 8) (it.xs.length + 8) (frm it.xs) rfl HLF.out.symm F8.out (fun e => by cases e) HLB.out S8.out.BW ?_; intro v6 w6 O6 G6 K6; have S6 := hide (S8.out.appB O6 G6 K6); have q6 := HC0.out w6 S6.out.bl; have S6b := hide (S6.out.next ((Below.refl _ w6).alloc (Nat.le_refl _) (.cells #[.slice it.a it.xs.length it.cap] 31))); clear O6 G6 K6)
            | (at_builtin; refine wpList_appR rfl _ _ rfl B _ (ws.map vof) rfl S6b.out.ow ⟨w6.heap.size, 0, none⟩ _ rfl (one_cell w6 _ _) rfl rfl hlw S6b.out.BW ?_; intro v7 w7 O7 G7 K7; have S7 := hide (S6b.out.appW (it := it) HIO.out O7 G7 K7); clear O7 G7 K7))
          go_roundw
          case rel => exact ⟨k + 1, ws ++ [it], _, _, _, by omega, by go_num, rfl, rfl, rfl, HFIN.out _ _ _ _ S7.out⟩
          case measure => simp [intOf]; omega
        · have HF := hide (frame_no it.a it.xs.length it.cap wr hok (by have := HIO.out.ln; omega))
          have HNX : Hid (BsL w0 wr B vb vw ve ls (k + 1) ws) := ⟨S2.out.st, by have := S2.out.us; have := HSU.out; omega, by have := S2.out.wl; omega, S2.out.ok⟩
          clear hok
          go_wp2_with fail
          refine HF.out.mono ?_
          rintro e w5 ⟨rfl, hw5⟩
          subst hw5
          go_wp2
          go_roundw
          case rel => exact ⟨k + 1, ws, _, _, _, by omega, by go_num, rfl, rfl, rfl, HNX.out⟩
          case measure => simp [intOf]; omega
      · have hlI : ((k : Int) < (ls.length : Int)) = False := eq_false (by omega)
        have hlJ : (k < ls.length) = False := eq_false (by omega)
        have hwk := S2.out.wl
        have ht := HT.out
        have hwl : ws.length ≤ 200000 := by omega
        have htk := tot_le ls k
        have huu := S2.out.us
        have hub : used (recs ws) ≤ 2000000 := by omega
        have HOK := hide S2.out.ok
        have HBB := hide (frms_bytes (recs ws) (fun r h => (S2.out.ok r h).2))
        have HFL := hide (frms_length (recs ws))
        clear HR HBY hwk ht htk huu
        by_cases hws : ws = []
        · subst hws
          obtain ⟨aw, cw, rfl⟩ := S2.out.st.ow.sl
          go_wp2
          go_ret
          exact ⟨rfl, HFN.out _ S2.out.st.bl⟩
        · have hw0 : 0 < ws.length := by rcases ws with _ | ⟨x, l⟩; exact absurd rfl hws; simp
          have hu0 : 0 < used (recs ws) := by
            rcases ws with _ | ⟨x, l⟩
            · exact absurd rfl hws
            · show 0 < used (x.xs :: recs l)
              rw [used_cons]; omega
          obtain ⟨gb, cb, rfl, hcb, _, _, _⟩ := S2.out.st.ob.some8 (by rw [frms_length]; exact hu0)
          obtain ⟨gw, cw, rfl, hcw⟩ := S2.out.st.ow.some (by rw [List.length_map]; exact hw0)
          obtain ⟨ge, ce, rfl, hce, _⟩ := S2.out.st.oe.some (by rw [begsOf_length, recs_length]; exact hw0)
          have SS := hide S2.out.st
          have hlen1 : (frms (recs ws)).length = used (recs ws) := HFL.out
          have hlen3 : (begsOf (recs ws)).length = ws.length := by rw [begsOf_length, recs_length]
          rw [hlen1] at hcb SS ⊢
          rw [List.length_map] at hcw SS ⊢
          rw [hlen3] at hce SS ⊢
          obtain ⟨kk, hkk⟩ : ∃ kk, kk = x % ws.length := ⟨_, rfl⟩
          have hkl : kk < ws.length := by rw [hkk]; exact Nat.mod_lt _ hw0
          have hkr : kk < (recs ws).length := by rw [recs_length]; exact hkl
          have hkm : (x : Int).tmod (ws.length : Int) = kk := by rw [Int.tmod_eq_emod_of_nonneg (by omega), hkk]; simp
          have hkm2 : (x : Int) % (ws.length : Int) = kk := by rw [hkk]; simp
          have q1 := ownL_at SS.out.ow kk hkl
          have q2 := ownZ_at SS.out.oe kk (by rw [hlen3]; exact hkl)
          rw [begsOf_get] at q2
          have hit : (recs ws)[kk] = ws[kk].xs := recs_get ws kk hkl
          have hnx := used_take_le (recs ws) (kk + 1)
          rw [List.take_succ_eq_append_getElem hkr, used_append, used_cons, used_nil, hit] at hnx
          have hit2 : ws[kk].xs.length ≤ 65537 := by rw [← hit]; exact (HOK.out _ (List.getElem_mem hkr)).1.2
          obtain ⟨q, hq⟩ : ∃ q, q = y % (4 + ws[kk].xs.length) := ⟨_, rfl⟩
          have hql : q < 4 + ws[kk].xs.length := by rw [hq]; exact Nat.mod_lt _ (by omega)
          have hPl : used ((recs ws).take kk) + (4 + q) < (frms (recs ws)).length := by rw [hlen1]; omega
          have q3 := own8_at SS.out.ob _ hPl
          have hXb : (frms (recs ws))[used ((recs ws).take kk) + (4 + q)] < 256 := HBB.out _ (List.getElem_mem hPl)
          have HRS := hide (rd_spoil (recs ws) HOK.out kk q z ((frms (recs ws))[used ((recs ws).take kk) + (4 + q)]) hkr (by rw [hit]; exact hql) hz hz1 (List.getElem?_eq_getElem hPl))
          have HSB := hide (set_bytes (frms (recs ws)) _ z hPl hz HBB.out)
          generalize (frms (recs ws))[used ((recs ws).take kk) + (4 + q)] = X0 at q3 hXb HRS HSB
          have hx8 := u8_xor_nat X0 z hXb hz
          generalize X0 ^^^ z = Y at hx8 HRS HSB
          have hqm : (y : Int) % (4 + (ws[kk].xs.length : Int)) = q := by rw [hq]; simp
          have hqm2 : (y : Int).tmod (4 + (ws[kk].xs.length : Int)) = q := by rw [Int.tmod_eq_emod_of_nonneg (by omega)]; exact hqm
          obtain ⟨U, hU⟩ : ∃ U, U = used ((recs ws).take kk) := ⟨_, rfl⟩
          rw [← hU] at q2 hPl q3 HRS HSB hnx
          rw [hlen1] at hPl
          obtain ⟨N, hN⟩ : ∃ N, N = used (recs ws) := ⟨_, rfl⟩
          rw [← hN] at hcb hub hu0 SS hPl hnx ⊢
          clear hit hkk hq hws hlen3 HBB S2
          generalize ws[kk] = it at q1 hnx hit2 hql hqm hqm2
          generalize it.xs.length = L at q1 hnx hit2 hql hqm hqm2
          have v1 : IntKind.i64.wrap (4 + (L : Int)) = 4 + (L : Int) := by rw [IntKind.wrap_i64]; omega
          have v2 : IntKind.u32.wrap (4 + (L : Int)) = 4 + (L : Int) := by rw [IntKind.wrap_u32]; omega
          have v3 : IntKind.i64.wrap ((U : Int) + 4) = (U : Int) + 4 := by rw [IntKind.wrap_i64]; omega
          have v4 : IntKind.i64.wrap (q : Int) = (q : Int) := by rw [IntKind.wrap_i64]; omega
          obtain ⟨P, hP⟩ : ∃ P, P = U + (4 + q) := ⟨_, rfl⟩
          rw [← hP] at q3 HRS HSB hPl
          have v5 : IntKind.i64.wrap ((U : Int) + 4 + (q : Int)) = (P : Int) := by rw [IntKind.wrap_i64]; omega
          have v6 : IntKind.i64.wrap (kk : Int) = (kk : Int) := by rw [IntKind.wrap_i64]; omega
          have v7 : IntKind.i64.wrap (x : Int) = (x : Int) := by rw [IntKind.wrap_i64]; omega
          have n1 : ((ws.length : Int) == 0) = false := beq_eq_false_iff_ne.2 (by omega)
          have n2 : (ws.length = 0) = False := eq_false (by omega)
          have n3 : ((4 + (L : Int)) == 0) = false := beq_eq_false_iff_ne.2 (by omega)
          have n4 : ((4 + (L : Int)) = 0) = False := eq_false (by omega)
          have m1 : (kk : Int) < (ws.length : Int) := by omega
          have m2 : (P : Int) < (N : Int) := by omega
          obtain ⟨s0, s1, s2⟩ := HSC.out wr SS.out.bl
          have f3 := SS.out.ob.soft P
          have HU := hide hU
          have HN := hide hN
          have HP := hide hP
          clear hU hN hP
          generalize hM : ws.length = M at *
          have HM := hide hM
          clear hM
          go_wp2
          go_quiet (fail)
          have SQ : Hid (∀ n, Bk3 w0 ((wr.drewN n).setCell ⟨gb, P, none⟩ (.int .u8 (Y : Nat))) B (.slice (some ⟨gb, 0, none⟩) N cb) (.slice (some ⟨gw, 0, none⟩) M cw) (.slice (some ⟨ge, 0, none⟩) M ce) ((frms (recs ws)).set P Y) ws (begsOf (recs ws))) := fun n => (SS.out.next (W' := wr.drewN n) ⟨rfl, rfl, rfl, Nat.le_refl _, fun _ _ => rfl⟩).setB P Y
          go_wp2_with fail
          go_region
          all_goals
            go_wp2_with fail
            have S3 := hide (SQ.out (nq + 1))
            generalize (wr.drewN (nq + 1)).setCell ⟨gb, P, none⟩ (.int .u8 (Y : Nat)) = w3 at S3 ⊢
            have hsl : ((frms (recs ws)).set P Y).length = N := by rw [List.length_set, HFL.out, ← HN.out]
            have HR1 := hide (read_yes (some ⟨gb, 0, none⟩) cb ((frms (recs ws)).set P Y) w3 HSB.out (by rw [hsl]; omega) (by rw [hsl]; omega) S3.out.ob.rd.2)
            rw [hsl, HRS.out, ← HU.out] at HR1
            clear hsl SS SQ q1 q2 q3 s0 s1 s2 f3
            refine HR1.out.mono ?_
            rintro e w4 ⟨v4, vs4, rfl, hrc, hb⟩
            have S4 := hide (S3.out.next hb)
            obtain ⟨a4, c4, l4, rfl, he4, hrl4⟩ := hrc.rdl (fun r h => (HOK.out r (List.mem_of_mem_take h)).1.2)
            have q4 := ownZ_at S4.out.oe kk (by rw [begsOf_length]; exact hkr)
            rw [begsOf_get, ← HU.out] at q4
            have hlt4 : (ws.take kk).length = kk := by rw [List.length_take, HM.out]; omega
            have HSR := hide (same_recs l4 (ws.take kk) (by rw [he4, recs_take]) (fun r h => by rw [he4] at h; have := (HOK.out r (List.mem_of_mem_take h)).1.2; omega) (by have := congrArg List.length he4; rw [recs_length, List.length_take] at this; omega) a4 (some ⟨gw, 0, none⟩) c4 cw w4 hrl4 (want_rdl S4.out.bl S4.out.ow S4.out.ok kk))
            rw [hlt4] at HSR
            have hkc : (kk : Int) ≤ (cw : Int) := by omega
            have hkc2 : kk ≤ cw := by omega
            clear hrc hb hrl4 hlt4 HR1
            go_wp2_with fail
            refine HSR.out.mono ?_
            rintro e w5 ⟨rfl, hb⟩
            have S5 := hide (S4.out.next hb)
            clear hb
            go_wp2
            go_ret
            exact ⟨rfl, HFN.out _ S5.out.bl⟩



end Go.Proofs.Ytannocdcohofbaa
