/- MatchAlone, where nothing is found. -/
import Derived.Test.YtoonlpdohhconaaMvB
namespace Go.Proofs.Ytoonlpdohhconaa
open Go.RowKit

set_option maxRecDepth 100000 in
set_option maxHeartbeats 8000000 in
theorem alone_a (x : TbL) (la : Option Addr) (lc : Nat) (l : List EnL) (y : EnL) (ka' : Option Addr) (kc' : Nat) (keys : List Nb) (w : World) (h : CaO w x la lc l y) (hcap : l.length ≤ lc) (hk : RdN w ka' keys) (hkr : ∀ b ∈ keys, NbR b) (hkn : keys.length ≤ 1000) (hsz : caSz x l y ≤ 30000) (hl60 : l.length ≤ 60) (hneg : findE x.t (ens l) keys < 0) :
    Calls Try.prog 6 #[.agg (caCells x la lc l y), .slice ka' keys.length kc'] w fun e w' => e = .returned (.bool true) ∧ Below w.heap.size w w' := by
  have HLV : Hid (Pure _ _ _) := lives_any
  have HBY : Hid (∀ W, Below w.heap.size w W → _) := fun W hb => beyond_any x la lc l y W ⟨h.t.below hb, h.es.below hb, h.ln, h.lz, h.e.below hb⟩
  have ed : decide (30000 < caSz x l y) = false := by simp; omega
  rw [ed] at HBY
  unfold caSz at hsz
  have hL : RdE w la l := h.es.small (fun z hz => by
    have := szF_mem (ens l) (ens l).length (by unfold esz at hsz; omega) z.e (List.mem_map.2 ⟨z, hz, rfl⟩)
    unfold esz at hsz; omega)
  have HL := hide hL
  have HT := hide h.t
  have HK := hide hk
  have HKR := hide hkr
  have HKN := hide hkn
  have HCAP := hide hcap
  have HNG := hide hneg
  have HF : Hid (∀ (W : World) (fa : Option Addr) (fc n : Nat) (es : List EnL), n = es.length → es.length ≤ 60 → Below w.heap.size w W → RdE w fa es → ∀ r, findE x.t (ens es) keys = r → Calls Try.prog 20 #[.agg #[.slice x.ka x.t.ks.length x.kc, .slice x.wa x.t.ws.length x.wc, .int .i64 x.t.size], .slice fa n fc, .slice ka' keys.length kc'] W fun e w' => e = .returned (.int .i64 r) ∧ Below W.heap.size W w') := fun W fa fc n es hn he hb hr r hr' =>
    find_is x fa fc n keys.length es ka' kc' keys W (HT.out.below hb) (hr.below hb) (by omega) hn (HK.out.below hb) HKR.out (by have := HKN.out; omega) rfl r hr'
  have HF1 : Hid (∀ W, Below w.heap.size w W → Calls Try.prog 20 #[.agg #[.slice x.ka x.t.ks.length x.kc, .slice x.wa x.t.ws.length x.wc, .int .i64 x.t.size], .slice la l.length lc, .slice ka' keys.length kc'] W fun e w' => e = .returned (.int .i64 (findE x.t (ens l) keys)) ∧ Below W.heap.size W w') := fun W hb => HF.out W la lc _ l rfl hl60 hb HL.out _ rfl
  have HF2 : Hid (∀ i (hi : i < l.length) p off, la = some ⟨p, off, none⟩ → ∃ r, r < 0 ∧ ∀ W fc, Below w.heap.size w W → Calls Try.prog 20 #[.agg #[.slice x.ka x.t.ks.length x.kc, .slice x.wa x.t.ws.length x.wc, .int .i64 x.t.size], .slice (some ⟨p, off + i * 4, none⟩) 1 fc, .slice ka' keys.length kc'] W fun e w' => e = .returned (.int .i64 r) ∧ Below W.heap.size W w') := fun i hi p off e => by
    subst e
    refine ⟨_, alone_none HNG.out i (by rw [ens_len]; exact hi), fun W fc hb => ?_⟩
    exact HF.out W _ fc 1 ((l.drop i).take 1) (by simp; omega) (by simp; omega) hb (rdE_part HL.out i 1) _ (by rw [ens_at l i hi])
  have k1 : ((keys.length : Int) > 1000) = False := by simp; omega
  have k2 : ((l.length : Int) > 60) = False := by simp; omega
  generalize findE x.t (ens l) keys = r0 at HF1 hneg
  have k3 : (r0 < 0) = True := by simp; omega
  clear ed hsz hL h hk hkr HF HNG
  obtain ⟨⟨ks, ws, size⟩, ka, kc, wa, wc⟩ := x
  obtain ⟨⟨ms, prio, act, args⟩, ma, mc, aa, ac⟩ := y
  simp only [caCells] at HBY HF1 HF2 ⊢
  go_enter Try.func6, Try.ntmps6
  go_wp2_with fail
  refine (HBY.out _ (below1 _ _)).mono ?_
  rintro e w1 ⟨rfl, hb⟩
  have B1 := hide (bstep (below1 _ _) hb)
  have H8 := hide (heap_below hb (heap_alloc_new _ _))
  obtain ⟨b0, b1, b2, b3, b4, b5, b6, b7⟩ := at8 H8.out
  clear hb
  go_wp2_with fail
  refine (HF1.out _ B1.out).mono ?_
  rintro e w2 ⟨rfl, hb⟩
  have B2 := hide (bstep B1.out hb)
  have H82 := hide (heap_below hb H8.out)
  clear hb b0 b1 b2 b3 b4 b5 b6 b7 HF1 HBY H8
  go_wp2
  go_loopw [6] (fun i wr => ∃ (k : Nat), k ≤ l.length ∧ i = .int .i64 k ∧ Below w2.heap.size w2 wr) (fun i _ => l.length - (intOf i).toNat)
  case atStart => exact ⟨0, by omega, rfl, Below.refl _ _⟩
  case round =>
    obtain ⟨k, hk, rfl, hbr⟩ := hrel
    have HB := hide hbr
    have H83 := hide (heap_below hbr H82.out)
    obtain ⟨b0, b1, b2, b3, b4, b5, b6, b7⟩ := at8 H83.out
    clear hbr
    by_cases hlt : k < l.length
    · have hlI : (k : Int) < (l.length : Int) := by omega
      obtain ⟨p, off, rfl, hp, hcl⟩ := HL.out.some (by omega)
      obtain ⟨r, hr, hF⟩ := HF2.out k hlt p off rfl
      have f1 : (r ≥ 0) = False := by simp; omega
      have f2 : (0 ≤ r) = False := by simp; omega
      have hc1 : k + 1 ≤ lc := by omega
      have hc2 : (k : Int) + 1 ≤ (lc : Int) := by omega
      have BW := hide (bstep B2.out HB.out)
      obtain ⟨X, f, hX, hS, hcov⟩ := class_of (fun w' => Below wr.heap.size wr w') wr.drew (Below.refl _ _).drew
      have HC0 : Hid (∃ x, wr.drew = f x) := hcov _ (Below.refl _ _).drew
      have HNX : Hid (∀ x w', Below (f x).heap.size (f x) w' → ∃ y, w' = f y) := fun x w' hb => hcov w' ((hS x).trans (hb.mono (hS x).size))
      have HSS := hide hS
      have HFX : Hid (∀ x fc, _) := fun x fc => hF (f x) fc (bstep BW.out (hS x))
      have t0 := fun x => (at8 (heap_below (hS x) H83.out)).1
      have t1 := fun x => (at8 (heap_below (hS x) H83.out)).2.1
      have t2 := fun x => (at8 (heap_below (hS x) H83.out)).2.2.1
      have t3 := fun x => (at8 (heap_below (hS x) H83.out)).2.2.2.1
      clear hcl hcov hS hF
      go_wp2
      refine wp_region_class f (by kernel_rfl) (by kernel_rfl) HC0.out ?_
      repeat (first
        | go_big_quiet_skip
        | (go_big_quiet_want; go_big_quiet_op; first
            | go_big_quiet_on
            | (apply Exists.intro
               refine ⟨fun _ => ?_, ?_⟩
               · (go_at_call 20; refine (HFX.out _ _).mono ?_; rintro e' wn ⟨rfl, hb⟩; exact ⟨rfl, HNX.out _ _ hb⟩)
               go_big_quiet_on)))
      refine wpQuiet_nil ?_
      rintro _ ⟨x, rfl⟩
      have HBX := hide (HB.out.trans ((HSS.out x).mono HB.out.size))
      clear t0 t1 t2 t3 HFX HNX HC0
      go_wp2
      go_roundw
      case rel => exact ⟨k + 1, by omega, by go_num, HBX.out⟩
      case measure => simp [intOf]; omega
    · obtain rfl : k = l.length := by omega
      go_wp2_with fail
      refine (HLV.out _).mono ?_
      rintro e w10 ⟨rfl, hb10⟩
      go_wp2
      go_ret
      exact ⟨rfl, bstep (bstep B2.out HB.out) hb10⟩
end Go.Proofs.Ytoonlpdohhconaa
