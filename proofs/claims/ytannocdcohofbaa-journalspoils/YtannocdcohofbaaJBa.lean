/- pointsmanlaw05.JournalBack, walked. -/
import Derived.Test.YtannocdcohofbaaJBk
namespace Go.Proofs.Ytannocdcohofbaa
open Go.RowKit

theorem recs_take (ws : List It) (k : Nat) : recs (ws.take k) = (recs ws).take k := by simp [recs, List.map_take]
theorem frms_append (a b : List (List Nat)) : frms (a ++ b) = frms a ++ frms b := by simp [frms]
theorem rd_cut (rs : List (List Nat)) (ok : ∀ r ∈ rs, okR r) (K wh : Nat) (hK : K ≤ used rs) (hw : wh ≤ rs.length) (h1 : used (rs.take wh) ≤ K) (h2 : wh < rs.length → K < used (rs.take (wh + 1))) : rd ((frms rs).take K) = rs.take wh := by
  by_cases he : wh = rs.length
  · subst he
    rw [List.take_length] at h1 ⊢
    have : K = (frms rs).length := by rw [frms_length]; omega
    rw [this, List.take_length, rd_frms_all _ ok]
  · have hlt : wh < rs.length := by omega
    have h3 := h2 hlt
    rw [List.take_succ_eq_append_getElem hlt, used_append, used_cons, used_nil] at h3
    have e : rs = rs.take wh ++ rs[wh] :: rs.drop (wh + 1) := by rw [List.getElem_cons_drop hlt, List.take_append_drop]
    have hokr : okR rs[wh] := ok _ (List.getElem_mem hlt)
    have hf : (frms rs).take K = frms (rs.take wh) ++ (frm rs[wh]).take (K - used (rs.take wh)) := by
      have e2 : frms rs = frms (rs.take wh) ++ (frm rs[wh] ++ frms (rs.drop (wh + 1))) := by
        exact (congrArg frms e).trans (by rw [frms_append, frms_cons])
      rw [e2, List.take_append, List.take_of_length_le (by rw [frms_length]; exact h1), frms_length, List.take_append_of_le_length (by rw [frm_length]; omega)]
    rw [hf]
    exact rd_part _ _ _ (fun r h => ok r (List.mem_of_mem_take h)) hokr (by rw [frm_length]; omega)
def endsOf (rs : List (List Nat)) : List Nat := (List.range rs.length).map (fun i => used (rs.take (i + 1)))
theorem endsOf_length (rs : List (List Nat)) : (endsOf rs).length = rs.length := by simp [endsOf]
theorem endsOf_get (rs : List (List Nat)) (i : Nat) (h : i < (endsOf rs).length) : (endsOf rs)[i] = used (rs.take (i + 1)) := by simp [endsOf]
theorem endsOf_snoc (rs : List (List Nat)) (r : List Nat) : endsOf (rs ++ [r]) = endsOf rs ++ [used (rs ++ [r])] := by
  apply List.ext_getElem
  · simp [endsOf]
  · intro i h1 h2
    rw [endsOf_get]
    by_cases hi : i < rs.length
    · rw [List.getElem_append_left (by rw [endsOf_length]; exact hi), endsOf_get, List.take_append_of_le_length (by omega)]
    · have : i = rs.length := by rw [endsOf_length, List.length_append, List.length_singleton] at h1; omega
      subst this
      rw [List.getElem_append_right (by rw [endsOf_length]; exact Nat.le_refl _)]
      simp only [endsOf_length, Nat.sub_self, List.getElem_cons_zero]
      rw [List.take_of_length_le (by simp)]
theorem used_take_le (rs : List (List Nat)) (k : Nat) : used (rs.take k) ≤ used rs := by
  conv => rhs; rw [← List.take_append_drop k rs]
  rw [used_append]; omega
theorem frms_bytes (rs : List (List Nat)) (h : ∀ r ∈ rs, ∀ y ∈ r, y < 256) : ∀ y ∈ frms rs, y < 256 := fun y hy => by
  obtain ⟨l, hl, hyl⟩ := List.mem_flatten.1 hy
  obtain ⟨r, hr, rfl⟩ := List.mem_map.1 hl
  exact frm_bytes r (h r hr) y hyl
theorem OwnL.some {W : World} {B : Nat} {v : Value} {vs : List Value} (h : OwnL W B v vs) (h0 : 0 < vs.length) : ∃ g c, v = .slice (Option.some ⟨g, 0, none⟩) vs.length c ∧ vs.length ≤ c := by
  rcases h.2 with ⟨_, hn⟩ | ⟨g, cap, cur, hv, hg, hcur, h1, _⟩
  · omega
  · exact ⟨g, cap, hv, h1⟩
/- What the loop that frames holds. -/
structure BkL (w W : World) (B : Nat) (vb vw ve : Value) (ls : List It) (k : Nat) (ws : List It) : Prop where
  st : Bk3 w W B vb vw ve (frms (recs ws)) ws (endsOf (recs ws))
  us : used (recs ws) ≤ 8 * (k + tot (ls.take k))
  wl : ws.length ≤ k
  ok : ∀ r ∈ recs ws, okR r ∧ ∀ y ∈ r, y < 256
  nil : ws = [] → vb = .slice none 0 0 ∧ vw = .slice none 0 0 ∧ ve = .slice none 0 0
set_option maxRecDepth 100000 in
set_option maxHeartbeats 4000000 in
theorem back_yes (a : Option Addr) (cap : Nat) (ls : List It) (C : Nat) (w : World) (hC : C < 4294967296) (hll : ls.length ≤ 140737488355328) (hr : RdL w a ls) (hby : ∀ it ∈ ls, ∀ y ∈ it.xs, y < 256) : Calls Try.prog 4 #[.slice a ls.length cap, .int .u32 C] w fun e w' => e = .returned (.bool true) ∧ Below w.heap.size w w' := by
  have HG := hide (fun W (hb : Below w.heap.size w W) => great_any a cap ls W hll (hr.below hb))
  have HA : Hid (∀ W, Below w.heap.size w W → Calls Try.prog 26 #[] W fun e w' => e = .returned (.bool true) ∧ Below w.heap.size w w') := fun W hb => (alive_yes W).mono (fun e w' h => ⟨h.1, hb.trans (h.2.mono hb.size)⟩)
  have HR := hide hr
  have HBY := hide hby
  have HLL := hide hll
  clear hr hby hll
  go_enter Try.func4, Try.ntmps4
  go_wp2_with fail
  refine (HA.out _ (Below.refl _ _)).mono ?_
  rintro e w1 ⟨rfl, hb⟩
  have B1 := hide hb
  clear hb
  go_wp2_with fail
  refine (HG.out _ B1.out).mono ?_
  rintro e w2 ⟨bg, rfl, hbg, hw2⟩
  subst hw2
  cases bg with
  | true =>
    clear hbg
    go_wp2_with fail
    refine (HA.out _ B1.out).mono ?_
    rintro e w3 ⟨rfl, hb⟩
    go_wp2
    go_ret
    exact ⟨rfl, hb⟩
  | false =>
    have HT := hide (hbg rfl)
    clear hbg HA HG
    have S1 : Hid (BkL w w2 w2.heap.size (.slice none 0 0) (.slice none 0 0) (.slice none 0 0) ls 0 []) := ⟨⟨B1.out, B1.out.size, Nat.le_refl _, Own8.nil _ _, World.ownsRow_nil _ _ _ _, World.ownsRow_nil _ _ _ _, (fun b e => by cases e), (fun b e => by cases e), (fun b e => by cases e), fun it h => absurd h (by simp)⟩, by simp [recs, used], by simp, fun r h => by simp [recs] at h, fun _ => ⟨rfl, rfl, rfl⟩⟩
    generalize hB : w2.heap.size = B at S1
    clear hB
    go_wp2
    go_loopw [5, 6, 7, 8] (fun b5 b6 b7 i wr => ∃ (k : Nat) (ws : List It) (vb vw ve : Value), k ≤ ls.length ∧ i = .int .i64 k ∧ vb = b5 ∧ vw = b6 ∧ ve = b7 ∧ BkL w wr B vb vw ve ls k ws) (fun _ _ _ i _ => ls.length - (intOf i).toNat)
    case atStart => exact ⟨0, [], _, _, _, by omega, rfl, rfl, rfl, rfl, S1.out⟩
    case round =>
      obtain ⟨k, ws, vb, vw, ve, hk, rfl, rfl, rfl, rfl, hS⟩ := hrel
      have S2 := hide hS
      have hkb : k < 9223372036854775807 := by have := HT.out; omega
      clear S1 hS
      by_cases hlt : k < ls.length
      · obtain ⟨p, off, rfl, hp, hcl⟩ := HR.out.some (by omega)
        have q0 : wr.cell? ⟨p, off + k, none⟩ = some (.slice ls[k].a ls[k].xs.length ls[k].cap) := (S2.out.st.bl.cell (p := ⟨p, off + k, none⟩) hp).trans (hcl k hlt)
        have HC0 : Hid (∀ W, Below w.heap.size w W → W.cell? ⟨p, off + k, none⟩ = some (.slice ls[k].a ls[k].xs.length ls[k].cap)) := fun W hb => (hb.cell (p := ⟨p, off + k, none⟩) hp).trans (hcl k hlt)
        have HIO := hide (HR.out.ok _ (List.getElem_mem hlt))
        have HBX := hide (HBY.out _ (List.getElem_mem hlt))
        have HSU := hide (tot_succ ls k hlt)
        have hone := tot_le ls (k + 1)
        have HL2 := hide hone
        have hlI : (k : Int) < (ls.length : Int) := by omega
        clear hcl HR HBY hone
        generalize ls[k] = it at *
        by_cases hok : okR it.xs
        · have HF := hide (frame_yes it.a it.cap it.xs wr HBX.out hok (HIO.out.rd.below S2.out.st.bl))
          rw [frm_length] at HF
          have HOKX := hide hok
          have hun : used (recs (ws ++ [it])) = used (recs ws) + (8 + it.xs.length) := by rw [recs_snoc, used_append, used_cons, used_nil, Nat.add_zero]
          have hus := S2.out.us
          have hsu := HSU.out
          have hl2 := HL2.out
          have ht := HT.out
          have hwl := S2.out.wl
          have hlw : (ws.map vof).length ≤ 1000000000 := by rw [List.length_map]; omega
          have hle : (endsOf (recs ws)).length ≤ 1000000000 := by rw [endsOf_length, recs_length]; omega
          have hlb : (frms (recs ws)).length + (frm it.xs).length ≤ 1000000000 := by rw [frms_length, frm_length]; omega
          have HUN := hide hun
          have HLB := hide hlb
          have HUS : Hid (used (recs (ws ++ [it])) ≤ 8 * (k + 1 + tot (ls.take (k + 1)))) := by show _ ≤ _; omega
          have HWL : Hid ((ws ++ [it]).length ≤ k + 1) := by show _ ≤ _; rw [List.length_append, List.length_singleton]; omega
          clear hok hun hus hsu hl2 ht hwl hlb
          go_wp2_with fail
          refine HF.out.mono ?_
          rintro e w5 ⟨g5, rfl, ho, hb⟩
          have S5 := hide (S2.out.st.next hb)
          have F5 := hide ho.rd
          clear ho hb HF
          have hlf : (frm it.xs).length = it.xs.length + 8 := frm_length _
          have HLF := hide hlf
          clear hlf
          have HFIN : Hid (∀ (w7 w9 : World) (vb' vw' ve' : Value), Bk3 w w9 B vb' vw' ve' (frms (recs ws) ++ frm it.xs) (ws ++ [it]) (endsOf (recs ws) ++ [used (recs (ws ++ [it]))]) → BkL w w9 B vb' vw' ve' ls (k + 1) (ws ++ [it])) := fun w7 w9 vb' vw' ve' h => ⟨by rw [recs_snoc, frms_snoc, endsOf_snoc, ← recs_snoc]; exact h, HUS.out, HWL.out, fun r hr => by
            rw [recs_snoc] at hr
            rcases List.mem_append.1 hr with hr | hr
            · exact S2.out.ok r hr
            · rw [List.mem_singleton.1 hr]; exact ⟨HOKX.out, HBX.out⟩, fun e => by simp at e⟩
          go_wp2_with (first
            | (at_builtin; refine wpList_app8 rfl _ _ rfl B _ (frms (recs ws)) rfl S5.out.ob (some ⟨g5, 0, none⟩) (it.xs.length + 8) (it.xs.length + 8) (frm it.xs) rfl HLF.out.symm F5.out.2 (fun e => by cases e) HLB.out S5.out.BW ?_; intro v6 w6 O6 G6 K6; have S6 := hide (S5.out.appB O6 G6 K6); have q6 := HC0.out w6 S6.out.bl; obtain ⟨a6, c6, hv6, _, _, _⟩ := O6.shape; rw [List.length_append, frms_length, HLF.out] at hv6; subst hv6; have S6b := hide (S6.out.next ((Below.refl _ w6).alloc (Nat.le_refl _) (.cells #[.slice it.a it.xs.length it.cap] 31))); clear O6 G6 K6)
            | (at_builtin; refine wpList_appR rfl _ _ rfl B _ (ws.map vof) rfl S6b.out.ow ⟨w6.heap.size, 0, none⟩ _ rfl (one_cell w6 _ _) rfl rfl hlw S6b.out.BW ?_; intro v7 w7 O7 G7 K7; have S7 := hide (S6b.out.appW (it := it) HIO.out O7 G7 K7); have S7b := hide (S7.out.next ((Below.refl _ w7).alloc (Nat.le_refl _) (.cells #[zof (used (recs ws) + (it.xs.length + 8))] 3))); clear O7 G7 K7)
            | (at_builtin; refine wpList_appZ rfl _ _ rfl B _ (endsOf (recs ws)) rfl S7b.out.oe ⟨w7.heap.size, 0, none⟩ (used (recs ws) + (it.xs.length + 8)) rfl (one_cell w7 _ _) rfl hle S7b.out.BW ?_; intro v8 w8 O8 G8 K8; have S8 := hide (S7b.out.appE O8 G8 K8); clear O8 G8 K8))
          go_roundw
          case rel => exact ⟨k + 1, ws ++ [it], _, _, _, by omega, by go_num, rfl, rfl, rfl, HFIN.out w7 w8 _ _ _ (by rw [show used (recs (ws ++ [it])) = used (recs ws) + (it.xs.length + 8) by rw [HUN.out]; omega]; exact S8.out)⟩
          case measure => simp [intOf]; omega
        · have HF := hide (frame_no it.a it.xs.length it.cap wr hok (by have := HIO.out.ln; omega))
          have HNX : Hid (BkL w wr B vb vw ve ls (k + 1) ws) := ⟨S2.out.st, by have := S2.out.us; have := HSU.out; omega, by have := S2.out.wl; omega, S2.out.ok, S2.out.nil⟩
          by_cases h0 : it.xs.length = 0
          · generalize it.xs.length = L at *
            subst h0
            go_wp2_with fail
            refine HF.out.mono ?_
            rintro e w5 ⟨rfl, hw5⟩
            subst hw5
            go_wp2
            go_roundw
            case rel => exact ⟨k + 1, ws, _, _, _, by omega, by go_num, rfl, rfl, rfl, HNX.out⟩
            case measure => simp [intOf]; omega
          · have hbg : 65537 < it.xs.length := by unfold okR at hok; omega
            clear hok
            generalize it.xs.length = L at *
            have d0 : ((L : Int) > 0) = True := eq_true (by omega)
            have d0' : (0 < L) = True := eq_true (by omega)
            have d1 : ((L : Int) ≤ 65537) = False := eq_false (by omega)
            have d1' : (L ≤ 65537) = False := eq_false (by omega)
            clear hbg h0
            go_wp2_with fail
            refine HF.out.mono ?_
            rintro e w5 ⟨rfl, hw5⟩
            subst hw5
            go_wp2
            go_roundw
            case rel => exact ⟨k + 1, ws, _, _, _, by omega, by go_num, rfl, rfl, rfl, HNX.out⟩
            case measure => simp [intOf]; omega
      · have hlI : ((k : Int) < (ls.length : Int)) = False := eq_false (by omega)
        have hlJ : (k < ls.length) = False := eq_false (by omega)
        have hwk := S2.out.wl
        have ht := HT.out
        have hwl : ws.length ≤ 200000 := by omega
        have htk := tot_le ls k
        have huu := S2.out.us
        have hub : used (recs ws) ≤ 2000000 := by omega
        have HOK := hide S2.out.ok
        have HRR := hide (rd_frms_all (recs ws) (fun r h => (S2.out.ok r h).1))
        have HBB := hide (frms_bytes (recs ws) (fun r h => (S2.out.ok r h).2))
        have HFL := hide (frms_length (recs ws))
        clear HR HBY hwk ht htk huu
        by_cases hws : ws = []
        · subst hws
          obtain ⟨rfl, rfl, rfl⟩ := S2.out.nil rfl
          have HR1 := hide (fun W => read_yes none 0 [] W (by simp) (by simp) (by simp) (.inl rfl))
          have HS0 := hide (fun (l : List It) (hl : recs l = []) (a : Option Addr) (c : Nat) (W : World) (h : RdL W a l) => same_recs l [] (by rw [hl]; rfl) (fun r h => by rw [hl] at h; simp at h) (by have := congrArg List.length hl; rw [recs_length] at this; simp at this; rw [this]; simp) a none c 0 W h ⟨.inl rfl, fun it h => by simp at h⟩)
          have hcm : (C : Int) % 1 = 0 := by omega
          have hcm2 : (C : Int).tmod 1 = 0 := by rw [Int.tmod_eq_emod_of_nonneg (by omega)]; omega
          go_wp2_with fail
          refine (HR1.out wr).mono ?_
          rintro e w3 ⟨v3, vs3, rfl, hrc, hb⟩
          rw [rd_nil] at hrc
          rw [rd_nil, used_nil]
          have S3 := hide (S2.out.st.next hb)
          obtain ⟨a3, c3, l3, rfl, he3, hrl3⟩ := hrc.rdl (fun r h => by simp at h)
          have HS1 := hide (HS0.out l3 he3 a3 c3 w3 hrl3)
          clear hrc hb hrl3
          go_wp2_with fail
          refine HS1.out.mono ?_
          rintro e w4 ⟨rfl, hb⟩
          have S4 := hide (S3.out.next hb)
          clear hb S3 HS1
          go_wp2
          go_loopw [14] (fun i wr => i = .int .i64 0 ∧ wr = w4) (fun _ _ => 0)
          case atStart => exact ⟨rfl, rfl⟩
          case round =>
            obtain ⟨rfl, hw5⟩ := hrel
            subst hw5
            go_wp2_with fail
            refine (HR1.out _).mono ?_
            rintro e w6 ⟨v6, vs6, rfl, hrc, hb⟩
            rw [rd_nil] at hrc
            rw [rd_nil, used_nil]
            have S6 := hide (S4.out.next hb)
            obtain ⟨a6, c6, l6, rfl, he6, hrl6⟩ := hrc.rdl (fun r h => by simp at h)
            have HS1 := hide (HS0.out l6 he6 a6 c6 w6 hrl6)
            clear hrc hb hrl6
            go_wp2_with fail
            refine HS1.out.mono ?_
            rintro e w7 ⟨rfl, hb⟩
            have S7 := hide (S6.out.next hb)
            clear hb
            go_wp2
            go_ret
            exact ⟨rfl, S7.out.bl⟩
        · have hw0 : 0 < ws.length := by rcases ws with _ | ⟨x, l⟩; exact absurd rfl hws; simp
          have hu0 : 0 < used (recs ws) := by
            rcases ws with _ | ⟨x, l⟩
            · exact absurd rfl hws
            · show 0 < used (x.xs :: recs l)
              rw [used_cons]; omega
          obtain ⟨gb, cb, rfl, hcb, _, _, _⟩ := S2.out.st.ob.some8 (by rw [frms_length]; exact hu0)
          obtain ⟨gw, cw, rfl, hcw⟩ := S2.out.st.ow.some (by rw [List.length_map]; exact hw0)
          obtain ⟨ge, ce, rfl, hce, _⟩ := S2.out.st.oe.some (by rw [endsOf_length, recs_length]; exact hw0)
          have SS := hide S2.out.st
          have HR1 := hide (read_yes (some ⟨gb, 0, none⟩) cb (frms (recs ws)) wr HBB.out (by rw [HFL.out]; omega) hcb S2.out.st.ob.rd.2)
          rw [HRR.out, HFL.out] at HR1
          rw [HFL.out] at hcb SS ⊢
          rw [List.length_map] at hcw SS ⊢
          rw [endsOf_length, recs_length] at hce SS ⊢
          have HUT := hide (fun k => used_take_le (recs ws) k)
          have HRC := hide (fun K wh (hK : K ≤ used (recs ws)) (hw : wh ≤ ws.length) (h1 : used ((recs ws).take wh) ≤ K) (h2 : wh < ws.length → K < used ((recs ws).take (wh + 1))) => rd_cut (recs ws) (fun r h => (HOK.out r h).1) K wh hK (by rw [recs_length]; exact hw) h1 (fun h => h2 (by rw [recs_length] at h; exact h)))
          obtain ⟨N, hN⟩ : ∃ N, N = used (recs ws) := ⟨_, rfl⟩
          rw [← hN] at HR1 hcb hub hu0 SS HUT HRC ⊢
          obtain ⟨K, hK⟩ : ∃ K, K = C % (N + 1) := ⟨_, rfl⟩
          have hKN : K ≤ N := Nat.le_of_lt_succ (by rw [hK]; exact Nat.mod_lt _ (Nat.succ_pos _))
          have hKC : (K : Int) = (C : Int) % ((N : Int) + 1) := by rw [hK]; simp
          have hcm : (C : Int) % ((N : Int) + 1) = K := hKC.symm
          have hcm2 : (C : Int).tmod ((N : Int) + 1) = K := by rw [Int.tmod_eq_emod_of_nonneg (by omega)]; exact hcm
          have hw1 : IntKind.i64.wrap ((N : Int) + 1) = (N : Int) + 1 := by rw [IntKind.wrap_i64]; omega
          have hw2 : IntKind.u32.wrap ((N : Int) + 1) = (N : Int) + 1 := by rw [IntKind.wrap_u32]; omega
          have hw3 : IntKind.i64.wrap (K : Int) = (K : Int) := by rw [IntKind.wrap_i64]; omega
          have hw4 : IntKind.u32.wrap (K : Int) = (K : Int) := by rw [IntKind.wrap_u32]; omega
          have hn1 : ((N : Int) + 1 == 0) = false := beq_eq_false_iff_ne.2 (by omega)
          have hn2 : ((N : Int) + 1 = 0) = False := eq_false (by omega)
          have HN := hide hN
          clear hN hK hKC hws S2
          go_wp2_with fail
          refine HR1.out.mono ?_
          rintro e w3 ⟨v3, vs3, rfl, hrc, hb⟩
          have S3 := hide (SS.out.next hb)
          obtain ⟨a3, c3, l3, rfl, he3, hrl3⟩ := hrc.rdl (fun r h => (HOK.out r h).1.2)
          have HS1 := hide (same_recs l3 ws he3 (fun r h => by rw [he3] at h; have := (HOK.out r h).1.2; omega) (by have := congrArg List.length he3; rw [recs_length, recs_length] at this; omega) a3 (some ⟨gw, 0, none⟩) c3 cw w3 hrl3 (by have := want_rdl S3.out.bl S3.out.ow S3.out.ok ws.length; rwa [List.take_length] at this))
          clear hrc hb hrl3 HR1
          go_wp2_with fail
          refine HS1.out.mono ?_
          rintro e w4 ⟨rfl, hb⟩
          have S4 := hide (S3.out.next hb)
          clear hb S3 HS1 SS
          go_wp2
          go_loopw [14] (fun i wr => ∃ wh : Nat, wh ≤ ws.length ∧ i = .int .i64 wh ∧ used ((recs ws).take wh) ≤ K ∧ wr = w4) (fun i _ => ws.length - (intOf i).toNat)
          case atStart => exact ⟨0, by omega, rfl, by simp [used], rfl⟩
          case round =>
            obtain ⟨wh, hwh, rfl, hwu, hw5⟩ := hrel
            have hw6 := hw5.symm
            clear hw5
            subst hw6
            obtain ⟨ge2, ce2, hve, _, hcell⟩ := S4.out.oe.some (by rw [endsOf_length, recs_length]; exact hw0)
            injection hve with x1 x2 x3
            injection x1 with x1
            injection x1 with x1
            subst x1
            clear x2 x3
            have hce2 : ∀ i, i < ws.length → w4.cell? ⟨ge, i, none⟩ = some (.int .i64 ((used ((recs ws).take (i + 1)) : Nat) : Int)) := fun i hi => by
              have := hcell i (by rw [endsOf_length, recs_length]; exact hi)
              rw [this, endsOf_get]
            have HCE := hide hce2
            have HWU := hide hwu
            clear hcell hce2 hwu
            have HRB := hide (fun (hx : RdA w4 (some ⟨gb, 0, none⟩) (frms (recs ws))) => read_yes (some ⟨gb, 0, none⟩) cb ((frms (recs ws)).take K) w4 (fun y hy => HBB.out y (List.mem_of_mem_take hy)) (by rw [List.length_take]; omega) (by rw [List.length_take]; omega) (hx.pre K))
            have HR2 := hide (HRB.out S4.out.ob.rd.2)
            have hlt5 : ((frms (recs ws)).take K).length = K := by rw [List.length_take, HFL.out, ← HN.out]; omega
            rw [hlt5] at HR2
            have hKc : (K : Int) ≤ (cb : Int) := by omega
            have hKc2 : K ≤ cb := by omega
            have hwc : (wh : Int) ≤ (cw : Int) := by omega
            have hwc2 : wh ≤ cw := by omega
            have S5 := S4
            clear HRB hlt5
            by_cases hin : wh < ws.length
            · have q1 := HCE.out wh hin
              have hinI : ((wh : Int) < (ws.length : Int)) = True := eq_true (by omega)
              have hinJ : (wh < ws.length) = True := eq_true hin
              have hinK : (wh : Int) < (ws.length : Int) := by omega
              by_cases hle : used ((recs ws).take (wh + 1)) ≤ K
              · have HLE := hide hle
                obtain ⟨E, hE⟩ : ∃ E, E = used ((recs ws).take (wh + 1)) := ⟨_, rfl⟩
                rw [← hE] at q1 hle
                clear hE
                have d1 : ((E : Int) ≤ (K : Int)) = True := eq_true (by omega)
                have d2 : (E ≤ K) = True := eq_true hle
                go_wp2
                go_roundw
                case rel => exact ⟨wh + 1, by omega, by go_num, HLE.out, by first | rfl | trivial⟩
                case measure => simp [intOf]; omega
              · have hrd := HRC.out K wh hKN hwh HWU.out (fun _ => by omega)
                rw [hrd] at HR2
                have q1b := q1
                obtain ⟨E, hE⟩ : ∃ E, E = used ((recs ws).take (wh + 1)) := ⟨_, rfl⟩
                rw [← hE] at q1 hle
                have d1 : ((E : Int) ≤ (K : Int)) = False := eq_false (by omega)
                have d2 : (E ≤ K) = False := eq_false hle
                clear hle hrd hE q1b
                by_cases hz : wh = 0
                · have hu : used ((recs ws).take wh) = 0 := by rw [hz, List.take_zero, used_nil]
                  rw [hu] at HR2
                  have hzI : ((wh : Int) > 0) = False := eq_false (by omega)
                  have hzJ : (0 < wh) = False := eq_false (by omega)
                  clear hu hz
                  go_wp2_with fail
                  refine HR2.out.mono ?_
                  rintro e w6 ⟨v6, vs6, rfl, hrc, hb⟩
                  have S6 := hide (S5.out.next hb)
                  obtain ⟨a6, c6, l6, rfl, he6, hrl6⟩ := hrc.rdl (fun r h => (HOK.out r (List.mem_of_mem_take h)).1.2)
                  have HSR := hide (same_recs l6 (ws.take wh) (by rw [he6, recs_take]) (fun r h => by rw [he6] at h; have := (HOK.out r (List.mem_of_mem_take h)).1.2; omega) (by have := congrArg List.length he6; rw [recs_length, List.length_take] at this; omega) a6 (some ⟨gw, 0, none⟩) c6 cw w6 hrl6 (want_rdl S6.out.bl S6.out.ow S6.out.ok wh))
                  have hlt6 : (ws.take wh).length = wh := by rw [List.length_take]; omega
                  rw [hlt6] at HSR
                  clear hrc hb hrl6 hlt6 HR2
                  go_wp2_with fail
                  refine HSR.out.mono ?_
                  rintro e w7 ⟨rfl, hb⟩
                  have S7 := hide (S6.out.next hb)
                  clear hb
                  go_wp2
                  go_ret
                  exact ⟨rfl, S7.out.bl⟩
                · obtain ⟨m, hm⟩ : ∃ m, wh = m + 1 := ⟨wh - 1, by omega⟩
                  have hml : m < ws.length := by omega
                  have hwm : IntKind.i64.wrap ((wh : Int) - 1) = (m : Int) := by rw [IntKind.wrap_i64]; omega
                  have hmI : (m : Int) < (ws.length : Int) := by omega
                  have hzI : ((wh : Int) > 0) = True := eq_true (by omega)
                  have hzJ : (0 < wh) = True := eq_true (by omega)
                  obtain ⟨U, hU⟩ : ∃ U, U = used ((recs ws).take wh) := ⟨_, rfl⟩
                  rw [← hU] at HR2
                  have HM := hide hm
                  have HU := hide hU
                  clear hm hU
                  go_wp2_with fail
                  refine HR2.out.mono ?_
                  rintro e w6 ⟨v6, vs6, rfl, hrc, hb⟩
                  have S6 := hide (S5.out.next hb)
                  obtain ⟨a6, c6, l6, rfl, he6, hrl6⟩ := hrc.rdl (fun r h => (HOK.out r (List.mem_of_mem_take h)).1.2)
                  have HSR := hide (same_recs l6 (ws.take wh) (by rw [he6, recs_take]) (fun r h => by rw [he6] at h; have := (HOK.out r (List.mem_of_mem_take h)).1.2; omega) (by have := congrArg List.length he6; rw [recs_length, List.length_take] at this; omega) a6 (some ⟨gw, 0, none⟩) c6 cw w6 hrl6 (want_rdl S6.out.bl S6.out.ow S6.out.ok wh))
                  have hlt6 : (ws.take wh).length = wh := by rw [List.length_take]; omega
                  rw [hlt6] at HSR
                  have q2 := (hb.cell (p := ⟨ge, m, none⟩) (World.block_lt_of_cell? w4 _ (HCE.out m hml))).trans (HCE.out m hml)
                  rw [← HM.out, ← HU.out] at q2
                  clear hrc hb hrl6 hlt6 HR2
                  go_wp2_with fail
                  refine HSR.out.mono ?_
                  rintro e w7 ⟨rfl, hb⟩
                  have S7 := hide (S6.out.next hb)
                  clear hb
                  go_wp2
                  go_ret
                  exact ⟨rfl, S7.out.bl⟩
            · have hinI : ((wh : Int) < (ws.length : Int)) = False := eq_false (by omega)
              have hinJ : (wh < ws.length) = False := eq_false hin
              have hrd := HRC.out K wh hKN hwh HWU.out (fun h => absurd h hin)
              rw [hrd] at HR2
              clear hrd
              obtain ⟨m, hm⟩ : ∃ m, wh = m + 1 := ⟨wh - 1, by omega⟩
              have hml : m < ws.length := by omega
              have hwm : IntKind.i64.wrap ((wh : Int) - 1) = (m : Int) := by rw [IntKind.wrap_i64]; omega
              have hmI : (m : Int) < (ws.length : Int) := by omega
              have hzI : ((wh : Int) > 0) = True := eq_true (by omega)
              have hzJ : (0 < wh) = True := eq_true (by omega)
              obtain ⟨U, hU⟩ : ∃ U, U = used ((recs ws).take wh) := ⟨_, rfl⟩
              rw [← hU] at HR2
              have HM := hide hm
              have HU := hide hU
              clear hm hU
              go_wp2_with fail
              refine HR2.out.mono ?_
              rintro e w6 ⟨v6, vs6, rfl, hrc, hb⟩
              have S6 := hide (S5.out.next hb)
              obtain ⟨a6, c6, l6, rfl, he6, hrl6⟩ := hrc.rdl (fun r h => (HOK.out r (List.mem_of_mem_take h)).1.2)
              have HSR := hide (same_recs l6 (ws.take wh) (by rw [he6, recs_take]) (fun r h => by rw [he6] at h; have := (HOK.out r (List.mem_of_mem_take h)).1.2; omega) (by have := congrArg List.length he6; rw [recs_length, List.length_take] at this; omega) a6 (some ⟨gw, 0, none⟩) c6 cw w6 hrl6 (want_rdl S6.out.bl S6.out.ow S6.out.ok wh))
              have hlt6 : (ws.take wh).length = wh := by rw [List.length_take]; omega
              rw [hlt6] at HSR
              have q2 := (hb.cell (p := ⟨ge, m, none⟩) (World.block_lt_of_cell? w4 _ (HCE.out m hml))).trans (HCE.out m hml)
              rw [← HM.out, ← HU.out] at q2
              clear hrc hb hrl6 hlt6 HR2
              go_wp2_with fail
              refine HSR.out.mono ?_
              rintro e w7 ⟨rfl, hb⟩
              have S7 := hide (S6.out.next hb)
              clear hb
              go_wp2
              go_ret
              exact ⟨rfl, S7.out.bl⟩
end Go.Proofs.Ytannocdcohofbaa
