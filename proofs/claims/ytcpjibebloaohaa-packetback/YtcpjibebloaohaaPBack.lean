/- pointsmanlaw02.PacketBack, walked. -/
import Derived.Test.YtcpjibebloaohaaPAliv
import Derived.Test.YtcpjibebloaohaaPBackM
namespace Go.Proofs.Ytcpjibebloaohaa
open Go.RowKit

theorem pback_long (a : Option Addr) (n cap : Nat) (w : World) (hn : 2000 < n) : Calls Try.prog 3 #[.slice a n cap] w fun e w' => e = .returned (.bool true) ∧ Below w.heap.size w w' := by
  have H := hide palive_any
  have hI : (n : Int) > 2000 := by omega
  go_enter Try.func3, Try.ntmps3
  go_wp2_with fail
  refine (H.out _).mono ?_
  rintro e w1 ⟨rfl, hb1⟩
  go_wp2_with fail
  refine (H.out _).mono ?_
  rintro e w2 ⟨rfl, hb2⟩
  go_wp2
  go_ret
  exact ⟨rfl, hb1.trans (hb2.mono hb1.size)⟩
theorem pback_bad (b off cap i0 : Nat) (L : List (Int × Nat)) (w : World) (hL : RdN w b off L) (hv : ∀ j (h : j < L.length), L[j].2 < top) (hl : L.length ≤ 2000) (hi0 : i0 < L.length) (hok : ∀ j (h : j < L.length), j < i0 → okN L[j].1 L[j].2 = true) (hbad : ∀ h : i0 < L.length, okN L[i0].1 L[i0].2 = false) (a : Option Addr) (ha : a = some ⟨b, off, none⟩ ∨ L.length = 0) :
    Calls Try.prog 3 #[.slice a L.length cap] w fun e w' => e = .returned (.bool true) ∧ Below w.heap.size w w' := by
  have H := hide palive_any
  have HP := hide (fun W (h : RdN W b off L) => put_bad b off cap i0 L W h hv (by omega) hi0 hok hbad a ha)
  have HL := hide hL
  have hI : (L.length : Int) ≤ 2000 := by omega
  clear hL hv hok hbad
  go_enter Try.func3, Try.ntmps3
  go_wp2_with fail
  refine (H.out _).mono ?_
  rintro e w1 ⟨rfl, hb1⟩
  go_wp2_with fail
  refine (HP.out _ (HL.out.keep hb1)).mono ?_
  rintro e w2 ⟨rfl, hb2⟩
  go_wp2
  go_ret
  exact ⟨rfl, hb1.trans (hb2.mono hb1.size)⟩
set_option maxHeartbeats 4000000 in
theorem pback_yes (b off cap : Nat) (L : List (Int × Nat)) (w : World) (hL : RdN w b off L) (hv : ∀ j (h : j < L.length), L[j].2 < top) (hl : L.length ≤ 2000) (hok : ∀ j (h : j < L.length), okN L[j].1 L[j].2 = true) (a : Option Addr) (ha : a = some ⟨b, off, none⟩ ∨ L.length = 0) :
    Calls Try.prog 3 #[.slice a L.length cap] w fun e w' => e = .returned (.bool true) ∧ Below w.heap.size w w' := by
  have H := hide palive_any
  have HP := hide (fun W (h : RdN W b off L) => put_yes b off cap L W h hv (by omega) hok a ha)
  have HL := hide hL; have HV := hide hv; have HO := hide hok
  have hI : (L.length : Int) ≤ 2000 := by omega
  have hT := sumTo_le L L.length (Nat.le_refl _) (fun j hj _ => hok j hj)
  have HT := hide hT
  clear hL hv hok hT
  go_enter Try.func3, Try.ntmps3
  go_wp2_with fail
  refine (H.out _).mono ?_
  rintro e w1 ⟨rfl, hb1⟩
  have B1 := hide hb1
  clear hb1
  go_wp2_with fail
  refine (HP.out _ (HL.out.keep B1.out)).mono ?_
  rintro e w2 ⟨p, N, ys, hN, rfl, hpk, hr, hp0, hp1, hb2⟩
  have hNl : ys.length = N := hpk.len
  have hN2 : N ≤ 65536 := by have := HT.out; omega
  have B2 := hide (B1.out.trans (hb2.mono B1.out.size))
  have HN := hide hN; have PK := hide hpk; have HR := hide hr
  clear hN hpk hr hb2
  have HNew := hide (new_some p 0 N ys w2 (by omega) HR.out)
  rw [hNl] at HNew
  go_wp2_with fail
  refine HNew.out.mono ?_
  rintro e w3 ⟨g, q, c, rfl, hc, hg, hq, k3, hb3⟩
  have K3 := hide k3
  have B3 := hide (B2.out.trans (hb3.mono B2.out.size))
  have hgw : w.heap.size ≤ g := by have := B2.out.size; omega
  clear k3 hb3
  go_wp2
  go_loopw [7, 8] (fun s i wr => ∃ k : Nat, k ≤ L.length ∧ i = .int .i64 k ∧ s = .int .i64 (sumTo L k : Nat) ∧ Cur wr g (some ⟨q, 0, none⟩) c ys (sumTo L k) ∧ Below w.heap.size w wr) (fun s i _ => L.length - (intOf i).toNat)
  case atStart => exact ⟨0, Nat.zero_le _, rfl, rfl, K3.out, B3.out⟩
  case round =>
    obtain ⟨k, hk, rfl, rfl, hcur, hnx⟩ := hrel
    have HC := hide hcur; have HX := hide hnx
    clear hcur hnx
    by_cases hlt : k < L.length
    · obtain rfl : a = some ⟨b, off, none⟩ := by rcases ha with h | h; exact h; omega
      have hkI : (k : Int) < (L.length : Int) := by omega
      have hr := HL.out.keep HX.out
      have c0 := hr.c0 k hlt
      have c1 := hr.c1 k hlt
      have c2 := hr.c2 k hlt
      have hp := ok_parts (HO.out k hlt)
      have HBV := hide (back_val PK.out HN.out k hlt (HO.out k hlt))
      have HS := hide (sumTo_succ L k hlt)
      have HM := hide (sumTo_mono L (show k + 1 ≤ L.length by omega))
      have HSL : Hid (sumTo L k < 1000000) := by have h1 := HT.out; have h2 := sumTo_mono L (Nat.le_of_lt hlt); unfold Hid; omega
      obtain ⟨nn, hnn⟩ : ∃ nn : Nat, L[k].1 = (nn : Int) := ⟨L[k].1.toNat, by omega⟩
      have HLk : Hid (∀ W, Below w.heap.size w W → W.cell? ⟨b, off + k * 3, none⟩ = some (.int .i64 L[k].1) ∧ W.cell? ⟨b, off + k * 3 + 1, none⟩ = some (.int .u64 (wHi L[k].2)) ∧ W.cell? ⟨b, off + k * 3 + 2, none⟩ = some (.int .u64 (wLo L[k].2))) := fun W hW => ⟨(HL.out.keep hW).c0 k hlt, (HL.out.keep hW).c1 k hlt, (HL.out.keep hW).c2 k hlt⟩
      clear hr
      generalize L[k].2 = v at *
      generalize L[k].1 = nI at *
      subst hnn
      rw [Int.toNat_natCast] at HBV HS hp
      have HTk : Hid (Calls Try.prog 8 #[.pointer (some ⟨g, 0, none⟩), .int .i64 nn] wr fun e w' => e = .returned (.tuple #[.agg #[.int .i64 nn, .int .u64 (wHi v), .int .u64 (wLo v)], .int .i64 0]) ∧ Moved g wr w' ∧ Cur w' g (some ⟨q, 0, none⟩) c ys (sumTo L (k + 1))) := by
        have h := take_yes (n := nn) HC.out PK.out.small (by omega) (by omega) (by omega) (by have h1 := HS.out; have h2 := HM.out; have h3 := HN.out; omega)
        rw [HBV.out, ← HS.out] at h
        exact h
      have hnn1 : 1 ≤ nn := by omega
      have hnn2 : nn ≤ 128 := by omega
      clear hp HBV
      generalize wHi v = h1 at *
      generalize wLo v = l1 at *
      go_wp2_with fail
      refine HTk.out.mono ?_
      rintro e w4 ⟨rfl, m4, k4⟩
      have BX4 := hide (HX.out.trans (m4.below hgw HX.out.size))
      have BX5 := hide (BX4.out.alloc BX4.out.size (.cells #[.int .i64 nn, .int .u64 h1, .int .u64 l1] 33))
      obtain ⟨d0, d1, d2⟩ := HLk.out _ BX5.out
      have K5 := hide (k4.keep ((Below.refl _ w4).alloc (Nat.le_refl _) (.cells #[.int .i64 nn, .int .u64 h1, .int .u64 l1] 33)))
      clear m4 k4 c0 c1 c2
      have hSi : ((sumTo L k : Nat) : Int) < 1000000 := by have := HSL.out; omega
      go_wp2
      go_quiet (fail)
      go_wp2
      go_roundw
      case rel => exact ⟨k + 1, by omega, by go_num, by rw [HS.out]; congr 1, K5.out.keep (below_drewN (Below.refl _ _) _), below_drewN BX5.out _⟩
      case measure => simp [intOf]; omega
    · obtain rfl : k = L.length := by omega
      have HTN := HT.out
      obtain ⟨T, hTT⟩ : ∃ T, T = sumTo L L.length := ⟨_, rfl⟩
      have HTail := hide (fun n h => back_tail (n := n) PK.out h)
      rw [← hTT] at HC HTail
      have hNT : N = (T + 7) / 8 := by rw [hTT]; exact HN.out
      rw [← hTT]
      have HA := hide (at_any HC.out)
      obtain ⟨lf, hlf⟩ : ∃ lf, lf = 8 * ys.length - T := ⟨_, rfl⟩
      have F : Hid (N = (T + 7) / 8 ∧ lf = 8 * ys.length - T ∧ ys.length = N ∧ N ≤ c ∧ N ≤ 65536 ∧ T ≤ 8 * ys.length ∧ lf ≤ 7) := ⟨hNT, hlf, hNl, hc, hN2, by omega, by omega⟩
      have hl7 : (lf : Int) ≤ 7 := by omega
      have hl0 : (0 : Int) ≤ (lf : Int) := by omega
      have HLf : Hid (∀ W, Cur W g (some ⟨q, 0, none⟩) c ys T → Calls Try.prog 10 #[.pointer (some ⟨g, 0, none⟩)] W fun e w' => e = .returned (.int .i64 (lf : Nat)) ∧ Below W.heap.size W w') := fun W hW => by
        have h := left_any hW (by omega) (by omega)
        rw [← hlf] at h; exact h
      have HRe : Hid (∀ W, Cur W g (some ⟨q, 0, none⟩) c ys T → Calls Try.prog 11 #[.pointer (some ⟨g, 0, none⟩)] W fun e w' => ∃ q6 c6, e = .returned (.slice (some ⟨q6, 0, none⟩) 0 c6) ∧ Below W.heap.size W w') := fun W hW => by
        have h := rest_some (k := N) hW (by omega) (by omega) (by omega) hNT
        rw [show ys.length - N = 0 by omega] at h
        exact h.mono (fun e w' ⟨q6, c6, h1, _, h2⟩ => ⟨q6, c6, h1, h2⟩)
      have HTk : Hid (∀ W, lf ≠ 0 → Cur W g (some ⟨q, 0, none⟩) c ys T → Calls Try.prog 8 #[.pointer (some ⟨g, 0, none⟩), .int .i64 (lf : Nat)] W fun e w' => e = .returned (.tuple #[.agg #[.int .i64 (lf : Nat), .int .u64 0, .int .u64 0], .int .i64 0]) ∧ Moved g W w') := fun W h0 hW => by
        have h := take_yes (n := lf) hW PK.out.small (by omega) (by omega) (by omega) (by omega)
        rw [HTail.out lf (by omega), w_zero.1, w_zero.2] at h
        exact h.mono (fun e w' ⟨h1, h2, _⟩ => ⟨h1, h2⟩)
      clear hTT hNT hlf hNl hc hN2 HTN HL HV HO HP HNew PK HTail HR HN hp0 hp1 hg hq
      go_wp2_with fail
      refine HA.out.mono ?_
      rintro e w4 ⟨rfl, hb4⟩
      have K4 := hide (HC.out.keep hb4)
      have B4 := hide (HX.out.trans (hb4.mono HX.out.size))
      clear hb4
      go_wp2_with fail
      refine (HLf.out _ K4.out).mono ?_
      rintro e w5 ⟨rfl, hb5⟩
      have K5 := hide (K4.out.keep hb5)
      have B5 := hide (B4.out.trans (hb5.mono B4.out.size))
      clear hb5
      go_wp2_with fail
      refine (HRe.out _ K5.out).mono ?_
      rintro e w6 ⟨q6, c6, rfl, hb6⟩
      have K6 := hide (K5.out.keep hb6)
      have B6 := hide (B5.out.trans (hb6.mono B5.out.size))
      clear hb6
      go_wp2_with fail
      refine (HLf.out _ K6.out).mono ?_
      rintro e w7 ⟨rfl, hb7⟩
      have K7 := hide (K6.out.keep hb7)
      have B7 := hide (B6.out.trans (hb7.mono B6.out.size))
      clear hb7
      by_cases h0 : lf = 0
      · have h0' : ((lf : Int) == 0) = true := by simp [h0]
        clear h0
        go_wp2
        go_ret
        exact ⟨rfl, B7.out⟩
      · have h0' : ((lf : Int) == 0) = false := by simp; omega
        have H0 := hide h0
        clear h0
        go_wp2_with fail
        refine (HLf.out _ K7.out).mono ?_
        rintro e w8 ⟨rfl, hb8⟩
        have K8 := hide (K7.out.keep hb8)
        have B8 := hide (B7.out.trans (hb8.mono B7.out.size))
        clear hb8
        go_wp2_with fail
        refine (HTk.out _ H0.out K8.out).mono ?_
        rintro e w9 ⟨rfl, m9⟩
        have B9 := hide (B8.out.trans (m9.below hgw B8.out.size))
        clear m9
        go_wp2
        go_ret
        exact ⟨rfl, B9.out.alloc B9.out.size _⟩
theorem pback_all (b off cap : Nat) (L : List (Int × Nat)) (w : World) (hL : RdN w b off L) (hv : ∀ j (h : j < L.length), L[j].2 < top) (hl : L.length ≤ 2000) (a : Option Addr) (ha : a = some ⟨b, off, none⟩ ∨ L.length = 0) :
    Calls Try.prog 3 #[.slice a L.length cap] w fun e w' => e = .returned (.bool true) ∧ Below w.heap.size w w' := by
  have key : ∀ n, n ≤ L.length → (∀ j (h : j < L.length), j < n → okN L[j].1 L[j].2 = true) ∨ ∃ i, ∃ h : i < L.length, (∀ j (h : j < L.length), j < i → okN L[j].1 L[j].2 = true) ∧ okN L[i].1 L[i].2 = false := by
    intro n
    induction n with
    | zero => intro _; exact .inl (fun j _ h => by omega)
    | succ n ih =>
      intro hn
      rcases ih (by omega) with h | h
      · cases e : okN (L[n]'(by omega)).1 (L[n]'(by omega)).2 with
        | true => exact .inl (fun j hj hjn => by rcases Nat.lt_or_ge j n with h1 | h1; exact h j hj h1; obtain rfl : j = n := by omega
                                                 exact e)
        | false => exact .inr ⟨n, by omega, h, e⟩
      · exact .inr h
  rcases key L.length (Nat.le_refl _) with h | ⟨i, hi, h1, h2⟩
  · exact pback_yes b off cap L w hL hv hl (fun j hj => h j hj hj) a ha
  · exact pback_bad b off cap i L w hL hv hl hi h1 (fun _ => h2) a ha
end Go.Proofs.Ytcpjibebloaohaa
