/- The document's Put. -/
import Derived.Test.YtfniomfcfodojaaGreatDoorQPk
import Derived.Test.YtfniomfcfodojaaGreatDoorQTw
import Derived.Deep.LoopGhost
namespace Go.Proofs.YtfniomfcfodojaaGreatDoor
open Go.RowKit

theorem refPut_bad (a : Option Addr) (cap i0 : Nat) (L : List (Int × Nat)) (w : World) (hr : RdL w a L) (hv : ∀ j (h : j < L.length), L[j].2 < top) (hl : L.length ≤ 1000000) (hi0 : i0 < L.length) (hok : ∀ j (h : j < L.length), j < i0 → okN L[j].1 L[j].2 = true) (hbad : ∀ h : i0 < L.length, okN L[i0].1 L[i0].2 = false) :
    Calls Tryz.prog 6 #[.slice a L.length cap] w fun e w' => e = .returned (.tuple #[.slice none 0 0, .int .i64 1]) ∧ Below w.heap.size w w' := by
  have HC : Hid (∀ W k (h : k < L.length) b, okN L[k].1 L[k].2 = b → Calls Tryz.prog 15 #[.agg #[.int .i64 L[k].1, .int .u64 (wHi L[k].2), .int .u64 (wLo L[k].2)]] W fun e W' => e = .returned (.bool b) ∧ Below W.heap.size W W') := fun W k h b hb => refCheckV L[k].1 L[k].2 W (hv k h) b hb
  have HL := hide hr; have HK := hide hok; have HB := hide hbad
  clear hr hok hbad hv
  go_enter Tryz.func6, Tryz.ntmps6
  go_wp2
  go_loopw [4, 5] (fun s i wr => ∃ k : Nat, k ≤ i0 ∧ i = .int .i64 k ∧ s = .int .i64 (sumTo L k : Nat) ∧ Below w.heap.size w wr) (fun s i _ => L.length + 1 - (intOf i).toNat)
  case atStart => exact ⟨0, Nat.zero_le _, rfl, rfl, Below.refl _ _⟩
  case round =>
    obtain ⟨k, hk, rfl, rfl, hnx⟩ := hrel
    have HN := hide hnx
    have hlt : k < L.length := by omega
    obtain ⟨b, off, rfl, hR⟩ := rdL_some (HL.out.below hnx) (by omega)
    have hkI : (k : Int) < (L.length : Int) := by omega
    have c0 := hR.c0 k hlt
    have c1 := hR.c1 k hlt
    have c2 := hR.c2 k hlt
    have HR := hide hR
    have HS := hide (sumTo_succ L k hlt)
    clear hR hnx
    by_cases hki : k < i0
    · have e := HK.out k hlt hki
      have HCk := hide (fun W => HC.out W k hlt true e)
      have hn := ok_parts e
      have hsum := sumTo_le L k (by omega) (fun j hj hjk => HK.out j hj (by omega))
      clear e HC
      have C0 := hide c0
      go_wp2_with fail
      refine (HCk.out _).mono ?_
      rintro e w1 ⟨rfl, hb⟩
      have c0' := (HR.out.keep hb).c0 k hlt
      have B1 := hide (below_step HN.out hb)
      clear hb c0 c1 c2
      generalize L[k].1 = n at *
      go_wp2
      go_roundw
      case rel => exact ⟨k + 1, by omega, by go_num, by rw [HS.out]; congr 1; omega, B1.out⟩
      case measure => simp [intOf]; omega
    · obtain rfl : k = i0 := by omega
      have HCk := hide (fun W => HC.out W k hlt false (HB.out hlt))
      clear HC
      go_wp2_with fail
      refine (HCk.out _).mono ?_
      rintro e w1 ⟨rfl, hb⟩
      have B1 := hide (below_step HN.out hb)
      clear hb
      go_wp2
      go_ret2
      exact ⟨rfl, B1.out⟩
theorem refPut_big (a : Option Addr) (cap : Nat) (L : List (Int × Nat)) (w : World) (hr : RdL w a L) (hv : ∀ j (h : j < L.length), L[j].2 < top) (hl : L.length ≤ 1000000) (hS : 524288 < sumTo L L.length) (hok : ∀ j (h : j < L.length), okN L[j].1 L[j].2 = true) :
    Calls Tryz.prog 6 #[.slice a L.length cap] w fun e w' => e = .returned (.tuple #[.slice none 0 0, .int .i64 3]) ∧ Below w.heap.size w w' := by
  have HC : Hid (∀ W k (h : k < L.length), Calls Tryz.prog 15 #[.agg #[.int .i64 L[k].1, .int .u64 (wHi L[k].2), .int .u64 (wLo L[k].2)]] W fun e W' => e = .returned (.bool true) ∧ Below W.heap.size W W') := fun W k h => refCheckV L[k].1 L[k].2 W (hv k h) true (hok k h)
  have HL := hide hr; have HK := hide hok; have HV := hide hv; have HSS := hide hS
  clear hr hok hv hS
  go_enter Tryz.func6, Tryz.ntmps6
  go_wp2
  go_loopw [4, 5] (fun s i wr => ∃ k : Nat, k ≤ L.length ∧ i = .int .i64 k ∧ s = .int .i64 (sumTo L k : Nat) ∧ Below w.heap.size w wr) (fun s i _ => L.length + 1 - (intOf i).toNat)
  case atStart => exact ⟨0, Nat.zero_le _, rfl, rfl, Below.refl _ _⟩
  case round =>
    obtain ⟨k, hk, rfl, rfl, hnx⟩ := hrel
    have HN := hide hnx
    by_cases hlt : k < L.length
    · obtain ⟨b, off, rfl, hR⟩ := rdL_some (HL.out.below hnx) (by omega)
      have hkI : (k : Int) < (L.length : Int) := by omega
      have c0 := hR.c0 k hlt
      have c1 := hR.c1 k hlt
      have c2 := hR.c2 k hlt
      have HR := hide hR
      have HS := hide (sumTo_succ L k hlt)
      have hn := ok_parts (HK.out k hlt)
      have hsum := sumTo_le L k (by omega) (fun j hj hjk => HK.out j hj)
      have HCk := hide (fun W => HC.out W k hlt)
      clear hR hnx HC
      go_wp2_with fail
      refine (HCk.out _).mono ?_
      rintro e w1 ⟨rfl, hb⟩
      have c0' := (HR.out.keep hb).c0 k hlt
      have B1 := hide (below_step HN.out hb)
      clear hb c0 c1 c2 HCk
      generalize L[k].1 = n at *
      go_wp2
      go_roundw
      case rel => exact ⟨k + 1, by omega, by go_num, by rw [HS.out]; congr 1; omega, B1.out⟩
      case measure => simp [intOf]; omega
    · obtain rfl : k = L.length := by omega
      have hS : ¬ ((sumTo L L.length : Nat) : Int) ≤ 524288 := by have := HSS.out; omega
      have hS2 : 524288 < ((sumTo L L.length : Nat) : Int) := by omega
      generalize ((sumTo L L.length : Nat) : Int) = T at *
      clear hnx
      go_wp2
      go_ret2
      exact ⟨rfl, HN.out⟩
theorem made_zeroR (N : Nat) : (madeCells (Value.int .u8 0).cells (N * 1)).toList = u8s (List.replicate N 0) := made_zero N
/- What the document's Put has put so far. -/
structure RO (w W : World) (g N : Nat) (ys : List Nat) (pre : List Bit01) : Prop where
  bl : Below w.heap.size w W
  row : RowC W g ys
  pk : Packed ys pre N
  gB : w.heap.size ≤ g
theorem RO.lt {w W : World} {g N : Nat} {ys : List Nat} {pre : List Bit01} (h : RO w W g N ys pre) : g < W.heap.size := by
  obtain ⟨o, h1, _⟩ := h.row.cells
  exact (Array.getElem?_eq_some_iff.1 h1).1
theorem RO.below {w W W' : World} {g N : Nat} {ys : List Nat} {pre : List Bit01} (h : RO w W g N ys pre) (hb : Below W.heap.size W W') : RO w W' g N ys pre := ⟨below_step h.bl hb, h.row.below hb h.lt, h.pk, h.gB⟩
theorem RO.one {w W : World} {g N : Nat} {ys : List Nat} {pre : List Bit01} (h : RO w W g N ys pre) (x : Bit01) (hx : x.1 = 1) {t Q : Nat} (et : pre.length = t) (ht : t < 8 * N) (hQ : t / 8 = Q) (hq : Q < ys.length) : RO w (W.drew.setCell ⟨g, Q, none⟩ (.int .u8 ((orBit ys[Q] 1 (7 - t % 8) : Nat) : Int))) g N (ys.set Q (orBit ys[Q] 1 (7 - t % 8))) (pre ++ [x]) :=
  ⟨h.bl.drew.setCell h.gB _, RowC.set (W := W.drew) h.row Q _, h.pk.one x hx et ht hQ hq, h.gB⟩
theorem RO.zero {w W : World} {g N : Nat} {ys : List Nat} {pre : List Bit01} (h : RO w W g N ys pre) (x : Bit01) (hx : x.1 = 0) (ht : pre.length < 8 * N) : RO w W g N ys (pre ++ [x]) := ⟨h.bl, h.row, h.pk.none x hx ht, h.gB⟩
/- The bits of a number, as a list of bools. -/
def BC (W : World) (b n u : Nat) : Prop := ∀ k, k < n → W.cell? ⟨b, k, none⟩ = some (.bool (u.testBit k))
set_option maxRecDepth 100000 in
set_option maxHeartbeats 8000000 in
theorem refPut_yes (a : Option Addr) (cap : Nat) (L : List (Int × Nat)) (w : World) (hr : RdL w a L) (hv : ∀ j (h : j < L.length), L[j].2 < top) (hl : L.length ≤ 1000000) (hS : sumTo L L.length ≤ 524288) (hok : ∀ j (h : j < L.length), okN L[j].1 L[j].2 = true) (N : Nat) (hN : N = (sumTo L L.length + 7) / 8) :
    Calls Tryz.prog 6 #[.slice a L.length cap] w fun e w' => ∃ g ys, e = .returned (.tuple #[.slice (some ⟨g, 0, none⟩) N N, .int .i64 0]) ∧ RowC w' g ys ∧ Packed ys (stream L L.length) N ∧ w.heap.size ≤ g ∧ Below w.heap.size w w' := by
  obtain ⟨i0, hi0, hz0, hz1, hz2⟩ := info_parts Tryz.info8
  have HNN := hide hN
  have hN2 : N ≤ 100000 := by omega
  clear hN
  have HC : Hid (∀ W k (h : k < L.length), Calls Tryz.prog 15 #[.agg #[.int .i64 L[k].1, .int .u64 (wHi L[k].2), .int .u64 (wLo L[k].2)]] W fun e W' => e = .returned (.bool true) ∧ Below W.heap.size W W') := fun W k h => refCheckV L[k].1 L[k].2 W (hv k h) true (hok k h)
  have HL := hide hr; have HK := hide hok; have HV := hide hv; have HSS := hide hS
  clear hr hok hv hS
  go_enter Tryz.func6, Tryz.ntmps6
  go_wp2
  go_loopw [4, 5] (fun s i wr => ∃ k : Nat, k ≤ L.length ∧ i = .int .i64 k ∧ s = .int .i64 (sumTo L k : Nat) ∧ Below w.heap.size w wr) (fun s i _ => L.length + 1 - (intOf i).toNat)
  case atStart => exact ⟨0, Nat.zero_le _, rfl, rfl, Below.refl _ _⟩
  case round =>
    obtain ⟨k, hk, rfl, rfl, hnx⟩ := hrel
    have HN := hide hnx
    by_cases hlt : k < L.length
    · obtain ⟨b, off, rfl, hR⟩ := rdL_some (HL.out.below hnx) (by omega)
      have hkI : (k : Int) < (L.length : Int) := by omega
      have c0 := hR.c0 k hlt
      have c1 := hR.c1 k hlt
      have c2 := hR.c2 k hlt
      have HR := hide hR
      have HS := hide (sumTo_succ L k hlt)
      have hn := ok_parts (HK.out k hlt)
      have hsum := sumTo_le L k (by omega) (fun j hj hjk => HK.out j hj)
      have HCk := hide (fun W => HC.out W k hlt)
      clear hR hnx HC
      go_wp2_with fail
      refine (HCk.out _).mono ?_
      rintro e w1 ⟨rfl, hb⟩
      have c0' := (HR.out.keep hb).c0 k hlt
      have B1 := hide (below_step HN.out hb)
      clear hb c0 c1 c2 HCk
      generalize L[k].1 = n at *
      go_wp2
      go_roundw
      case rel => exact ⟨k + 1, by omega, by go_num, by rw [HS.out]; congr 1; omega, B1.out⟩
      case measure => simp [intOf]; omega
    · obtain rfl : k = L.length := by omega
      have hS : ((sumTo L L.length : Nat) : Int) ≤ 524288 := by have := HSS.out; omega
      have hS2 : ¬ 524288 < ((sumTo L L.length : Nat) : Int) := by omega
      have hS0 : 0 ≤ ((sumTo L L.length : Nat) : Int) := by omega
      have hTN : (((sumTo L L.length : Nat) : Int) + 7) / 8 = (N : Int) := by have := HNN.out; omega
      clear hnx HC
      generalize ((sumTo L L.length : Nat) : Int) = T at hS hS2 hS0 hTN ⊢
      go_wp2_with (at_make; go_loud (refine wpList_make_full _ rfl _ _ 24 rfl w.heap.size 5 i0 (.int .u8 0) 1 Tryz.underlying24 hi0 hz0 hz1 .i64 .i64 _ _ N rfl rfl hTN hTN (by rw [hz2]; omega) (by unfold maxLen; omega) (by have := HN.out.size; omega) ?_; intro W0 hm0 hg0))
      rw [made_zero] at hm0
      have hsw := HN.out.size
      have RO0 : Hid (RO w W0 wr.heap.size N (List.replicate N 0) (stream L 0)) := hide ⟨HN.out.grown hg0 (by omega) (fun k e => by cases e), rowC_of_own hm0, Packed.zero N, hsw⟩
      clear hm0 hg0 hsw hS hS2 hS0 hTN
      generalize wr.heap.size = g at *
      clear HN
      go_loopg [7, 8] L.length (fun gk s i wr => ∃ (k : Nat) (ys : List Nat), k + gk = L.length ∧ i = .int .i64 k ∧ s = .int .i64 (sumTo L k : Nat) ∧ RO w wr g N ys (stream L k))
      case atStart => exact ⟨0, _, by omega, rfl, rfl, RO0.out⟩
      case round =>
        obtain ⟨k, ys, hk, rfl, rfl, hR⟩ := hrel
        have HKG := hide hk
        have R0 := hide hR
        clear hR hk RO0
        by_cases hlt : k < L.length
        · obtain ⟨b, off, rfl, hRd⟩ := rdL_some (HL.out.below R0.out.bl) (by omega)
          have hkI : (k : Int) < (L.length : Int) := by omega
          have c0 := hRd.c0 k hlt
          have c1 := hRd.c1 k hlt
          have c2 := hRd.c2 k hlt
          have hn := ok_parts (HK.out k hlt)
          have HBI := hide (refBitsV L[k].1 L[k].2 wr (HV.out k hlt) hn.2.1)
          have HSu := hide (sumTo_succ L k hlt)
          have HSt := hide (stream_succ L k hlt)
          have HSm := hide (sumTo_mono L (i := k + 1) (j := L.length) (by omega))
          have HSl := hide (stream_length L k)
          have HLG := hide (fun t (ht : t < L[k].1.toNat) => lst_get (n := L[k].1) (u := L[k].2) hn.2.1 ht)
          have HLL := hide (lst_length L[k].1 L[k].2)
          clear hRd
          generalize L[k].1 = nI at *
          generalize L[k].2 = u at *
          obtain ⟨n, rfl⟩ : ∃ n : Nat, nI = (n : Int) := ⟨nI.toNat, by omega⟩
          rw [Int.toNat_natCast] at HSu HSt
          generalize hTk : sumTo L k = tk at *
          obtain ⟨go, hgo⟩ : ∃ go, go = gk := ⟨_, rfl⟩
          subst hgo
          go_wp2_with fail
          refine HBI.out.mono ?_
          rintro e w5 ⟨r, rfl, hown, hb5⟩
          rcases hown.2 with ⟨_, h0⟩ | ⟨gr, gc, cur, rfl, hgb, _, hgc, hgm, _⟩
          · omega
          have HBC : Hid (BC w5 gr n u) := hide (fun t ht => by
            have e := World.ownsRow.cells hown (g := gr) rfl t (.bool (u.testBit t)) (by rw [List.getElem?_map, List.getElem?_eq_getElem (by rw [HLL.out]; exact ht), ← HLG.out t ht]; rfl)
            rw [add8, Nat.zero_add] at e
            exact e)
          have R5 := hide (R0.out.below hb5)
          have hgg : g ≠ gr := by have := R0.out.lt; omega
          have HGG := hide hgg
          have HTN : Hid (tk + n ≤ 8 * N) := hide (by have := HSm.out; have := HSu.out; have := HNN.out; omega)
          have hn1 : 1 ≤ n := by omega
          have hn2 : n ≤ 128 := by omega
          have htk : tk ≤ 524288 := by have := HSm.out; have := HSu.out; have := HSS.out; omega
          clear hown hb5 HBI c0 c1 c2 hn hgb hgg HLG HLL
          rw [Int.toNat_natCast] at *
          rename_i hx1 hx2
          clear hx1 hx2
          have HTk := hide hTk
          clear hTk R0
          go_wp2
          go_loopg [7, 10] n (fun gk s i wi => ∃ (j : Nat) (ki : Int) (zs : List Nat), j + gk = n ∧ i = .int .i64 ki ∧ Hid (ki = (n : Int) - 1 - j) ∧ s = .int .i64 ((tk + j : Nat) : Int) ∧ RO w wi g N zs (stream L k ++ nbits n u j) ∧ BC wi gr n u)
          case atStart => exact ⟨0, _, ys, by omega, rfl, by exact hide (by omega), by simp, by simpa [nbits] using R5.out, HBC.out⟩
          case round =>
            obtain ⟨j, ki, zs, hj, rfl, HI, rfl, hR, hB⟩ := hrel
            have HJG := hide hj
            have R6 := hide hR
            have B6 := hide hB
            clear hR hj hB R5 HBC
            by_cases hjn : j < n
            · obtain ⟨p, hp⟩ : ∃ p, n - 1 - j = p := ⟨_, rfl⟩
              obtain rfl : ki = (p : Int) := by have := HI.out; omega
              have hpn : p < n := by omega
              have hcb := B6.out p hpn
              have hpI : (p : Int) < (n : Int) := by omega
              have hp0 : (0 : Int) ≤ (p : Int) := by omega
              obtain ⟨t, ht⟩ : ∃ t, tk + j = t := ⟨_, rfl⟩
              have htl : t < 8 * N := by have := HTN.out; omega
              have hlen : (stream L k ++ nbits n u j).length = t := by rw [List.length_append, HSl.out, nbits_length]; exact ht
              have ht9 : t < 1000000 := by omega
              rw [ht]
              cases hbit : u.testBit p with
              | false =>
                rw [hbit] at hcb
                have R7 := hide (R6.out.zero (nbit n u j) (nbit_zero (by rw [hp]; exact hbit)) (by rw [hlen]; exact htl))
                rw [List.append_assoc, ← nbits_succ] at R7
                have HP := hide hp; have HT := hide ht
                clear hbit hlen hp ht
                go_wp2
                go_roundg (gk - 1)
                case measure => have := HJG.out; omega
                case rel => exact ⟨j + 1, _, zs, by have := HJG.out; omega, rfl, by exact hide (by have := HP.out; omega), by have := HT.out; rw [← Nat.add_assoc, this]; go_num, R7.out, B6.out⟩
              | true =>
                rw [hbit] at hcb
                obtain ⟨Q, hQ⟩ : ∃ Q, t / 8 = Q := ⟨_, rfl⟩
                have hQl : Q < zs.length := by rw [R6.out.pk.len]; omega
                have R7 := hide (R6.out.one (nbit n u j) (nbit_one (by rw [hp]; exact hbit)) hlen htl hQ hQl)
                rw [List.append_assoc, ← nbits_succ] at R7
                have hy := R6.out.pk.small zs[Q] (List.getElem_mem hQl)
                have EO := hide (u8_orBit zs[Q] (7 - t % 8) 1 hy (.inr rfl) (by omega))
                obtain ⟨c3, f3⟩ := R6.out.row.get Q hQl
                have hQN : Q < N := by rw [← R6.out.pk.len]; exact hQl
                have B7 : Hid (∀ v, BC (wr.drew.setCell ⟨g, Q, none⟩ v) gr n u) := hide (fun v q hq => (World.cell?_setCell_far _ _ _ _ (by show g ≠ gr; exact HGG.out)).trans (B6.out q hq))
                obtain ⟨s, hs⟩ : ∃ s, 7 - t % 8 = s := ⟨_, rfl⟩
                have hs8 : s < 8 := by omega
                rw [hs] at R7 EO
                have hq : (t : Int) / 8 = (Q : Int) := by omega
                have hm : (7 : Int) - (t : Int) % 8 = (s : Int) := by omega
                have hbI : (Q : Int) < (N : Int) := by omega
                have HP := hide hp; have HT := hide ht
                clear hbit hlen hp ht hs hQ htl hy
                generalize zs[Q] = y at *
                go_wp2
                go_region
                all_goals
                  go_wp2
                  go_roundg (gk - 1)
                  case measure => have := HJG.out; omega
                  case rel => exact ⟨j + 1, _, zs.set Q (orBit y 1 s), by have := HJG.out; omega, rfl, by exact hide (by have := HP.out; omega), by have := HT.out; rw [← Nat.add_assoc, this]; go_num, by have h := R7.out; rw [← EO.out, Int.one_mul, IntKind.wrap_u8] at h; exact h, B7.out _⟩
            · obtain rfl : j = n := by have := HJG.out; omega
              obtain rfl : ki = -1 := by have := HI.out; omega
              have R9 := R6.out
              rw [← HSt.out] at R9
              have R10 := hide R9
              clear R9 R6 B6
              go_wp2
              go_roundg (go - 1)
              case measure => have := HKG.out; omega
              case rel => exact ⟨k + 1, zs, by have := HKG.out; omega, by go_num, by rw [HSu.out], R10.out⟩
        · obtain rfl : k = L.length := by have := HKG.out; omega
          go_wp2
          go_ret2
          exact ⟨g, ys, rfl, R0.out.row, R0.out.pk, R0.out.gB, R0.out.bl⟩
end Go.Proofs.YtfniomfcfodojaaGreatDoor
