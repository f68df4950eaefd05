/- MatchAlone, where one is found. -/
import Derived.Test.YtoonlpdohhconaaMvC
import Derived.Deep.RegionLaw
namespace Go.Proofs.Ytoonlpdohhconaa
open Go.RowKit

theorem step_appEs {w0 : World} {ops : Array Oper} {o : Oper} {a : Act} {w : World} {K : Act → World → Prop} {Q : Exit → Act → World → Prop} {E : Prop}
    (hg : o.guard = none) (s x : Operand) (hop : o.op = Op.call { callee := Callee.builtin Builtin.append, args := #[s, x], argTypes := #[26, 26] })
    (v : Value) (acc : List EnL) (hs : a.eval s = v) (how : Ow w0 w v acc) (q : Addr) (n cap : Nat) (l : List EnL) (hn : n = l.length) (hx : a.eval x = .slice (some q) n cap) (hr : RdE w0 (some q) l) (hl : acc.length + n ≤ 1000000)
    (hK : ∀ v' w', Ow w0 w' v' (acc ++ l) → K (a.put o.dst v') w') :
    if Region.wanted o (yielded ops a.tmps) = true then Oper.wp Try.prog o a w K Q else E := by
  have hw : Region.wanted o (yielded ops a.tmps) = true := by simp [Region.wanted, hg]
  rw [if_pos hw]
  subst hn
  obtain ⟨i0, hi0, hz0, hz1, hz2⟩ := info_parts Try.infoEn
  have hsrc : ∀ j u, (flat EnL.cells l)[j]? = some u → w.cell? (q.add j) = some u := by
    rcases (hr.below how.bl).rd with rfl | ⟨p', off', e, hp, hc⟩
    · intro j u hu; simp [flat] at hu
    · injection e with e
      subst e
      exact en_src hc
  obtain ⟨v', w', hrun, r1, r2, _, r4⟩ := run_append_own_at (P := Try.prog) w w0.heap.size 26 o.type 30 i0 _ 4 72 Try.underlying26 hi0 hz0 hz1 hz2 rfl (by decide) v acc.length (flat EnL.cells acc) how.own q l.length cap (flat EnL.cells l) (flat_length en_len l) hsrc (flat_one en_one l) (by unfold maxLen; omega) (by omega) how.bl.size
  unfold Oper.wp
  simp [execOp, hop, resolve, invoke, builtin, hs, hx, hrun, Result.andThen]
  refine hK v' w' ⟨how.bl.grown r2 how.bl.size (fun k e => (how.own.lt k e).1), ?_, fun y hy => ?_⟩
  · rw [List.length_append, flat_append]; exact r1
  · rcases List.mem_append.1 hy with hy | hy
    · exact how.ok y hy
    · exact hr.ok y hy
theorem rdE_nil' (W : World) (a : Option Addr) : RdE W a [] := ⟨.inl rfl, fun x hx => absurd hx (by simp)⟩
theorem Ow.drew {w W : World} {v : Value} {acc : List EnL} (h : Ow w W v acc) : Ow w W.drew v acc := ⟨h.bl.drew, h.own, h.ok⟩
set_option maxRecDepth 100000 in
set_option maxHeartbeats 8000000 in
theorem alone_b (x : TbL) (la : Option Addr) (lc : Nat) (l : List EnL) (y : EnL) (ka' : Option Addr) (kc' : Nat) (keys : List Nb) (w : World) (h : CaO w x la lc l y) (hcap : l.length ≤ lc) (hk : RdN w ka' keys) (hkr : ∀ b ∈ keys, NbR b) (hkn : keys.length ≤ 1000) (hsz : caSz x l y ≤ 30000) (hl60 : l.length ≤ 60) (m : Nat) (hpos : findE x.t (ens l) keys = m) :
    Calls Try.prog 6 #[.agg (caCells x la lc l y), .slice ka' keys.length kc'] w fun e w' => e = .returned (.bool true) ∧ Below w.heap.size w w' := by
  have HLV : Hid (Pure _ _ _) := lives_any
  have HBY : Hid (∀ W, Below w.heap.size w W → _) := fun W hb => beyond_any x la lc l y W ⟨h.t.below hb, h.es.below hb, h.ln, h.lz, h.e.below hb⟩
  have ed : decide (30000 < caSz x l y) = false := by simp; omega
  rw [ed] at HBY
  unfold caSz at hsz
  have hL : RdE w la l := h.es.small (fun z hz => by
    have := szF_mem (ens l) (ens l).length (by unfold esz at hsz; omega) z.e (List.mem_map.2 ⟨z, hz, rfl⟩)
    unfold esz at hsz; omega)
  have hm : m < l.length := by obtain ⟨hm, _⟩ := alone_self hpos; rw [ens_len] at hm; exact hm
  obtain ⟨p, off, rfl, hp, -⟩ := hL.some (by omega)
  have HL := hide hL
  have HT := hide h.t
  have HK := hide hk
  have HKR := hide hkr
  have HKN := hide hkn
  have HPO := hide hpos
  have HF : Hid (∀ (W : World) (fa : Option Addr) (fc n : Nat) (es : List EnL), n = es.length → es.length ≤ 60 → Below w.heap.size w W → RdE W fa es → ∀ r, findE x.t (ens es) keys = r → Calls Try.prog 20 #[.agg #[.slice x.ka x.t.ks.length x.kc, .slice x.wa x.t.ws.length x.wc, .int .i64 x.t.size], .slice fa n fc, .slice ka' keys.length kc'] W fun e w' => e = .returned (.int .i64 r) ∧ Below W.heap.size W w') := fun W fa fc n es hn he hb hr r hr' =>
    find_is x fa fc n keys.length es ka' kc' keys W (HT.out.below hb) hr (by omega) hn (HK.out.below hb) HKR.out (by have := HKN.out; omega) rfl r hr'
  have HF1 : Hid (∀ W, Below w.heap.size w W → Calls Try.prog 20 #[.agg #[.slice x.ka x.t.ks.length x.kc, .slice x.wa x.t.ws.length x.wc, .int .i64 x.t.size], .slice (some ⟨p, off, none⟩) l.length lc, .slice ka' keys.length kc'] W fun e w' => e = .returned (.int .i64 m) ∧ Below W.heap.size W w') := fun W hb => HF.out W _ lc _ l rfl hl60 hb (HL.out.below hb) _ hpos
  have HF2 : Hid (∀ W fc, Below w.heap.size w W → Calls Try.prog 20 #[.agg #[.slice x.ka x.t.ks.length x.kc, .slice x.wa x.t.ws.length x.wc, .int .i64 x.t.size], .slice (some ⟨p, off + m * 4, none⟩) 1 fc, .slice ka' keys.length kc'] W fun e w' => e = .returned (.int .i64 0) ∧ Below W.heap.size W w') := fun W fc hb => by
    obtain ⟨hm', e⟩ := alone_self HPO.out
    exact HF.out W _ fc 1 ((l.drop m).take 1) (by simp; omega) (by simp; omega) hb ((rdE_part HL.out m 1).below hb) _ (by rw [ens_at l m hm]; exact e)
  have HF3 : Hid (∀ i, i < l.length → i ≠ m → ∀ W0 W v, Below w.heap.size w W0 → Ow W0 W v (l.take i ++ l.drop (i + 1)) → Calls Try.prog 20 #[.agg #[.slice x.ka x.t.ks.length x.kc, .slice x.wa x.t.ws.length x.wc, .int .i64 x.t.size], v, .slice ka' keys.length kc'] W fun e w' => e = .returned (.int .i64 (if (i : Int) < m then (m : Int) - 1 else m)) ∧ Below W.heap.size W w') := fun i hi hne W0 W v hb0 how => by
    obtain ⟨a, cap, rfl, hr, _⟩ := how.rd
    refine HF.out W a cap _ _ rfl (by simp; omega) (bstep hb0 how.bl) hr _ ?_
    rw [ens_del]
    exact alone_del HPO.out (by rw [ens_len]; exact hi) hne
  have HR1 : Hid (∀ i, i < l.length → RdE w (some ⟨p, off, none⟩) (l.take i)) := fun i hi => by
    have := rdE_part HL.out 0 i
    rw [Nat.zero_mul, Nat.add_zero, List.drop_zero] at this; exact this
  have HR2 : Hid (∀ i, i < l.length → RdE w (some ⟨p, off + (i + 1) * 4, none⟩) (l.drop (i + 1))) := fun i hi => by
    have := rdE_part HL.out (i + 1) l.length
    rw [List.take_of_length_le (by simp)] at this; exact this
  have k1 : ((keys.length : Int) > 1000) = False := by simp; omega
  have k2 : ((l.length : Int) > 60) = False := by simp; omega
  have k3 : ((m : Int) < 0) = False := by simp
  have k4 : ((m : Int) ≥ (l.length : Int)) = False := by simp; omega
  clear ed hsz hL h hk hkr HF
  obtain ⟨⟨ks, ws, size⟩, ka, kc, wa, wc⟩ := x
  obtain ⟨⟨ms, prio, act, args⟩, ma, mc, aa, ac⟩ := y
  simp only [caCells] at HBY HF1 HF2 HF3 ⊢
  go_enter Try.func6, Try.ntmps6
  go_wp2_with fail
  refine (HBY.out _ (below1 _ _)).mono ?_
  rintro e w1 ⟨rfl, hb⟩
  have B1 := hide (bstep (below1 _ _) hb)
  have H8 := hide (heap_below hb (heap_alloc_new _ _))
  obtain ⟨b0, b1, b2, b3, b4, b5, b6, b7⟩ := at8 H8.out
  clear hb
  go_wp2_with fail
  refine (HF1.out _ B1.out).mono ?_
  rintro e w2 ⟨rfl, hb⟩
  have B2 := hide (bstep B1.out hb)
  have H82 := hide (heap_below hb H8.out)
  clear b0 b1 b2 b3 b4 b5 b6 b7 HF1 HBY
  obtain ⟨b0, b1, b2, b3, b4, b5, b6, b7⟩ := at8 H82.out
  clear hb H8
  go_wp2
  clear b0 b1 b2 b3 b4 b5 b6 b7
  go_loopw [7] (fun i wr => ∃ (k : Nat), k ≤ l.length ∧ i = .int .i64 k ∧ Below w2.heap.size w2 wr) (fun i _ => l.length - (intOf i).toNat)
  case atStart => exact ⟨0, by omega, rfl, Below.refl _ _⟩
  case round =>
    obtain ⟨k, hk, rfl, hbr⟩ := hrel
    have HB := hide hbr
    have H83 := hide (heap_below hbr H82.out)
    have BW := hide (bstep B2.out HB.out)
    obtain ⟨b0, b1, b2, b3, b4, b5, b6, b7⟩ := at8 H83.out
    clear hbr
    by_cases hlt : k < l.length
    · have hlI : (k : Int) < (l.length : Int) := by omega
      by_cases hkm : k = m
      · subst hkm
        go_wp2
        go_roundw
        case rel => exact ⟨k + 1, by omega, by go_num, HB.out⟩
        case measure => simp [intOf]; omega
      · have hkI : ((k : Int) = (m : Int)) = False := by simp; omega
        have hc1 : k + 1 ≤ lc := by omega
        have hc2 : (k : Int) + 1 ≤ (l.length : Int) := by omega
        have hc3 : (k : Int) ≤ (lc : Int) := by omega
        have hc4 : k ≤ lc := by omega
        have hc5 : k + 1 ≤ l.length := by omega
        have hc6 : (k : Int) + 1 ≤ (lc : Int) := by omega
        have hc7 : l.length ≤ lc := hcap
        have hc8 : (l.length : Int) ≤ (lc : Int) := by omega
        have HA1 := hide ((HR1.out k hlt).below BW.out)
        obtain ⟨o', hck, hA2⟩ : ∃ o', ((lc = k + 1 ∧ o' = off) ∨ (¬ lc = k + 1 ∧ off + (k + 1) * 4 = o')) ∧ RdE wr (some ⟨p, o', none⟩) (l.drop (k + 1)) := by
          by_cases hck : lc = k + 1
          · have e : l.drop (k + 1) = [] := List.drop_eq_nil_of_le (by omega)
            exact ⟨off, .inl ⟨hck, rfl⟩, by rw [e]; exact rdE_nil' _ _⟩
          · exact ⟨_, .inr ⟨hck, rfl⟩, (HR2.out k hlt).below BW.out⟩
        have HA2 := hide hA2
        clear hA2
        have HF4 : Hid (∀ W v, _) := fun W v => HF3.out k hlt hkm wr W v BW.out
        have HBK : Hid (∀ W v acc, Ow wr W v acc → W.heap[w.heap.size]? = _) := fun W v acc ho => heap_below ho.bl H83.out
        have HO0 := hide (Ow.start (Below.refl wr.heap.size wr).drew)
        have hc9 : (0 : Int) ≤ (k : Int) + 1 := by omega
        have hwk : IntKind.i64.wrap ((k : Int) + 1) = (k : Int) + 1 := by rw [IntKind.wrap_i64]; omega
        have hwm : IntKind.i64.wrap ((m : Int) - 1) = (m : Int) - 1 := by rw [IntKind.wrap_i64]; omega
        obtain ⟨r, hr, hF5⟩ : ∃ r : Int, ((((k : Int) < (m : Int)) = True ∧ r = (m : Int) - 1) ∨ (((k : Int) < (m : Int)) = False ∧ r = (m : Int))) ∧ ∀ W v, Ow wr W v (l.take k ++ l.drop (k + 1)) → Calls Try.prog 20 #[.agg #[.slice ka ks.length kc, .slice wa ws.length wc, .int .i64 size], v, .slice ka' keys.length kc'] W fun e w' => e = .returned (.int .i64 r) ∧ Below W.heap.size W w' := by
          by_cases hq : (k : Int) < (m : Int)
          · exact ⟨_, .inl ⟨eq_true hq, rfl⟩, fun W v ho => by have := HF4.out W v ho; rw [if_pos hq] at this; exact this⟩
          · exact ⟨_, .inr ⟨eq_false hq, rfl⟩, fun W v ho => by have := HF4.out W v ho; rw [if_neg hq] at this; exact this⟩
        have HF5 := hide hF5
        clear hF5 HF4 HF3 HR1 HR2
        have hck2 : ((lc = k + 1) = True ∧ o' = off) ∨ ((lc = k + 1) = False ∧ off + (k + 1) * 4 = o') := by
          rcases hck with ⟨h1, h2⟩ | ⟨h1, h2⟩
          · exact .inl ⟨eq_true h1, h2⟩
          · exact .inr ⟨eq_false h1, h2⟩
        clear hck
        rcases hck2 with ⟨hcq, rfl⟩ | ⟨hcq, rfl⟩ <;> rcases hr with ⟨hq, rfl⟩ | ⟨hq, rfl⟩
        all_goals
          go_wp2
          go_region_law (first
            | (refine step_appEs (w0 := wr) rfl _ _ rfl (.slice none 0 0) [] rfl HO0.out _ k lc (l.take k) (by simp; omega) rfl HA1.out (by simp; omega) ?_; intro v7 w7 O7; have OO7 := hide O7; obtain ⟨c0, c1, c2, c3, c4, c5, c6, c7⟩ := at8 (HBK.out _ _ _ O7); clear O7)
            | (refine step_appEs (w0 := wr) rfl _ _ rfl v7 _ rfl OO7.out _ (l.length - (k + 1)) _ (l.drop (k + 1)) (by simp) rfl HA2.out (by simp; omega) ?_; intro v8 w8 O8; have OO8 := hide O8; obtain ⟨d0, d1, d2, d3, d4, d5, d6, d7⟩ := at8 (HBK.out _ _ _ O8); clear O8))
          all_goals
            go_wp2_with fail
            refine (HF5.out _ _ OO8.out).mono ?_
            rintro e w9 ⟨rfl, hb9⟩
            have HB9 := hide (HB.out.trans ((bstep OO8.out.bl hb9).mono HB.out.size))
            clear hb9
            go_wp2
            go_roundw
            case rel => exact ⟨k + 1, by omega, by go_num, HB9.out⟩
            case measure => simp [intOf]; omega
    · obtain rfl : k = l.length := by omega
      obtain ⟨X, f, hX, hS, hcov⟩ := class_of (fun w' => Below wr.heap.size wr w') wr.drew (Below.refl _ _).drew
      have HC0 : Hid (∃ x, wr.drew = f x) := hcov _ (Below.refl _ _).drew
      have HNX : Hid (∀ x w', Below (f x).heap.size (f x) w' → ∃ y, w' = f y) := fun x w' hb => hcov w' ((hS x).trans (hb.mono (hS x).size))
      have HSS := hide hS
      have HFX : Hid (∀ x fc, _) := fun x fc => HF2.out (f x) fc (bstep BW.out (hS x))
      have t0 := fun x => (at8 (heap_below (hS x) H83.out)).1
      have t1 := fun x => (at8 (heap_below (hS x) H83.out)).2.1
      have t2 := fun x => (at8 (heap_below (hS x) H83.out)).2.2.1
      have t3 := fun x => (at8 (heap_below (hS x) H83.out)).2.2.2.1
      have hc1 : m + 1 ≤ lc := by omega
      have hc2 : (m : Int) + 1 ≤ (lc : Int) := by omega
      clear hcov hS
      go_wp2
      refine wp_region_class f (by kernel_rfl) (by kernel_rfl) HC0.out ?_
      repeat (first
        | go_big_quiet_skip
        | (go_big_quiet_want; go_big_quiet_op; first
            | go_big_quiet_on
            | (apply Exists.intro
               refine ⟨fun _ => ?_, ?_⟩
               · first
                  | (go_at_call 20; refine (HFX.out _ _).mono ?_; rintro e' wn ⟨rfl, hb⟩; exact ⟨rfl, HNX.out _ _ hb⟩)
                  | (go_at_call 10; refine (HLV.out _).mono ?_; rintro e' wn ⟨rfl, hb⟩; exact ⟨rfl, HNX.out _ _ hb⟩)
               go_big_quiet_on)))
      refine wpQuiet_nil ?_
      rintro _ ⟨x, rfl⟩
      have HBX := hide (bstep BW.out (HSS.out x))
      clear t0 t1 t2 t3 HFX HNX HC0
      go_wp2
      go_ret
      exact ⟨rfl, HBX.out⟩
end Go.Proofs.Ytoonlpdohhconaa
