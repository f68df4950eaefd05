/- pointsmanlaw02.PacketPieces, walked. -/
import Derived.Test.YtcpjibebloaohaaPPie
namespace Go.Proofs.Ytcpjibebloaohaa
open Go.RowKit

theorem cells2 (W : World) (x y : Value) (t : TypeId) : (W.alloc (.cells #[x, y] t)).cell? ⟨W.heap.size, 0, none⟩ = some x ∧ (W.alloc (.cells #[x, y] t)).cell? ⟨W.heap.size, 1, none⟩ = some y := by
  have hh : (W.alloc (.cells #[x, y] t)).heap[W.heap.size]? = some (.cells #[x, y] t (0, 0)) := heap_alloc_new W _
  refine ⟨?_, ?_⟩ <;> (unfold World.cell?; simp only [hh]; rfl)
theorem Two.all {w W : World} {g1 g2 B : Nat} {a1 a2 : Option Addr} {c1 c2 : Nat} {xs : List Nat} {t1 t2 : Nat} {w0 w1 : Int} (h : Two w W g1 g2 B a1 a2 c1 c2 xs t1 t2 w0 w1) : Two w W g1 g2 B a1 a2 c1 c2 xs t1 t2 w0 w1 ∧ W.cell? ⟨B, 0, none⟩ = some (.int .i64 w0) ∧ W.cell? ⟨B, 1, none⟩ = some (.int .i64 w1) := ⟨h, h.x0, h.x1⟩
theorem Two.nextS {w W W' : World} {g1 g2 B : Nat} {a1 a2 : Option Addr} {c1 c2 : Nat} {xs : List Nat} {t1 t2 : Nat} {w0 w1 : Int} (hb : Below W.heap.size W W') (h : Two w W g1 g2 B a1 a2 c1 c2 xs t1 t2 w0 w1) : Two w W' g1 g2 B a1 a2 c1 c2 xs t1 t2 w0 w1 ∧ W'.cell? ⟨B, 0, none⟩ = some (.int .i64 w0) ∧ W'.cell? ⟨B, 1, none⟩ = some (.int .i64 w1) := (h.next hb).all
theorem ok_bval {xs : List Nat} {t n : Nat} (h1 : 1 ≤ n) (h2 : n ≤ 128) : okN n (bval xs t n) = true := by
  have := bval_lt xs t n
  simp only [okN, mayBe, Int.toNat_natCast, Bool.and_eq_true, decide_eq_true_eq]
  exact ⟨⟨by omega, by omega⟩, this⟩
set_option maxRecDepth 100000 in
set_option maxHeartbeats 4000000 in
theorem pieces_yes (a : Option Addr) (n cap : Nat) (xs : List Nat) (at' w0 w1 : Int) (w : World) (hv : BySl w (.slice a n cap) xs) (hx : ∀ y ∈ xs, y < 256) (hl : xs.length ≤ 65536) (a0 : 0 ≤ at') (a1 : at' < 65536) :
    Calls Try.prog 4 #[.slice a n cap, .int .u16 at', .agg #[.int .i64 w0, .int .i64 w1]] w fun e w' => e = .returned (.bool true) ∧ Below w.heap.size w w' := by
  have H := hide palive_any
  have HV := hide hv
  obtain ⟨K, hK⟩ : ∃ K : Nat, (K : Int) = at' % 4000 := ⟨(at' % 4000).toNat, by omega⟩
  have hK2 : K < 4000 := by omega
  have hKr2 : at' % 4000 = (K : Int) := hK.symm
  clear hv hK
  go_enter Try.func4, Try.ntmps4
  go_wp2_with fail
  have Z := hide (cells2 w (.int .i64 w0) (.int .i64 w1) 40)
  refine (new_any _ _ xs (HV.out.keep (al _)) hl).mono ?_
  rintro e w2 ⟨g1, b1, c1, rfl, hg1, hq1, k1, hb1⟩
  have K1 := hide k1; have B1 := hide hb1
  clear k1 hb1
  go_wp2_with fail
  refine (new_any _ _ xs ((HV.out.keep (al _)).keep B1.out) hl).mono ?_
  rintro e w3 ⟨g2, b2, c2, rfl, hg2, hq2, k2, hb2⟩
  have T3 : Hid (Two w w3 g1 g2 w.heap.size b1 b2 c1 c2 xs 0 0 w0 w1) := by
    have hs := B1.out.size
    have hlt := K1.out.lt
    simp only [World.size_alloc] at hs hg1 hq1
    have hr := K1.out.rd.lt
    refine ⟨((al _).trans (B1.out.mono (by simp))).trans (hb2.mono (by omega)), K1.out.keep hb2, k2, ?_, ?_, by omega, fun q e => ?_, fun q e => ?_, by omega, by omega, by omega, by omega⟩
    · exact (hb2.cell (p := ⟨w.heap.size, 0, none⟩) (by show w.heap.size < _; omega)).trans ((B1.out.cell (p := ⟨w.heap.size, 0, none⟩) (by simp)).trans Z.out.1)
    · exact (hb2.cell (p := ⟨w.heap.size, 1, none⟩) (by show w.heap.size < _; omega)).trans ((B1.out.cell (p := ⟨w.heap.size, 1, none⟩) (by simp)).trans Z.out.2)
    · have := hr q e; omega
    · have := hq2 q e; omega
  clear k2 hb2 K1 B1 hq1 hq2 Z
  go_wp2_with fail
  refine (H.out _).mono ?_
  rintro e w4 ⟨rfl, hb4⟩
  have T4 := hide (T3.out.next hb4)
  clear hb4 T3
  go_wp2
  go_loopw [11] (fun i wr => ∃ k t : Nat, k ≤ K ∧ t = min k (8 * xs.length) ∧ i = .int .i64 k ∧ Two w wr g1 g2 w.heap.size b1 b2 c1 c2 xs t t w0 w1) (fun i _ => K - (intOf i).toNat)
  case atStart => exact ⟨0, 0, Nat.zero_le _, by simp, rfl, T4.out⟩
  case round =>
    obtain ⟨k, t, hk, ht, rfl, htw⟩ := hrel
    have TW := hide htw
    clear htw T4
    by_cases hlt : k < K
    · have hkI : (k : Int) < (K : Int) := by omega
      by_cases hsh : t < 8 * xs.length
      · have HT := hide ht
        have hst : Hid (t + 1 = min (k + 1) (8 * xs.length)) := by unfold Hid; omega
        clear ht
        go_wp2_with fail
        refine (take_yes (n := 1) TW.out.cur1 hx (by omega) (by decide) (by decide) (by omega)).mono ?_
        rintro e w5 ⟨rfl, m5, k5⟩
        have M5 := hide (TW.out.move1 m5 k5)
        clear m5 k5
        go_wp2_with fail
        refine (take_yes (n := 1) (M5.out.next (al _)).cur2 hx (by omega) (by decide) (by decide) (by omega)).mono ?_
        rintro e w6 ⟨rfl, m6, k6⟩
        have M6 := hide ((M5.out.next (al _)).move2 m6 k6)
        clear m6 k6
        go_wp2
        go_roundw
        case rel => exact ⟨k + 1, t + 1, by omega, hst.out, by go_num, M6.out.next (al _)⟩
        case measure => simp [intOf]; omega
      · have hst : Hid (t = min (k + 1) (8 * xs.length)) := by unfold Hid; omega
        have hte : t = 8 * xs.length := by omega
        have HTE := hide hte
        clear ht
        have HL0 : Hid (∀ W, Cur W g1 b1 c1 xs t → Calls Try.prog 10 #[.pointer (some ⟨g1, 0, none⟩)] W fun e w' => e = .returned (.int .i64 0) ∧ Below W.heap.size W w') := fun W hW => by
          have h := left_any hW (by omega) (by omega)
          rw [show 8 * xs.length - t = 0 by omega] at h
          exact h
        have HS1 : Hid (∀ W, Cur W g1 b1 c1 xs t → _) := fun W hW => take_short (n := 1) hW (by omega) (by omega) (by decide) (by decide) (by omega)
        have HS2 : Hid (∀ W, Cur W g2 b2 c2 xs t → _) := fun W hW => take_short (n := 1) hW (by omega) (by omega) (by decide) (by decide) (by omega)
        clear hte hsh
        go_wp2_with fail
        refine (HS1.out _ TW.out.cur1).mono ?_
        rintro e w5 ⟨rfl, hb5⟩
        have M5 := hide (TW.out.next hb5)
        clear hb5
        go_wp2_with fail
        refine (HS2.out _ (M5.out.next (al _)).cur2).mono ?_
        rintro e w6 ⟨rfl, hb6⟩
        have M6 := hide ((M5.out.next (al _)).next hb6)
        clear hb6
        go_wp2_with fail
        refine (HL0.out _ (M6.out.next (al _)).cur1).mono ?_
        rintro e w7 ⟨rfl, hb7⟩
        have M7 := hide ((M6.out.next (al _)).next hb7)
        clear hb7
        go_wp2
        go_roundw
        case rel => exact ⟨k + 1, t, by omega, hst.out, by go_num, M7.out⟩
        case measure => simp [intOf]; omega
    · obtain rfl : k = K := by omega
      have htl : t ≤ 8 * xs.length := by omega
      have HTL := hide htl
      have x0 := TW.out.x0
      have x1 := TW.out.x1
      clear ht htl
      by_cases q1 : w0 < 1
      · go_wp2
        go_ret
        exact ⟨rfl, TW.out.below⟩
      by_cases q2 : w0 > 128
      · have q1' : decide (w0 < 1) = false := by simpa using q1
        go_wp2
        go_ret
        exact ⟨rfl, TW.out.below⟩
      by_cases q3 : w1 < 1
      · go_wp2
        go_ret
        exact ⟨rfl, TW.out.below⟩
      by_cases q4 : w1 > 128
      · go_wp2
        go_ret
        exact ⟨rfl, TW.out.below⟩
      by_cases q5 : w0 + w1 > 128
      · go_wp2
        go_ret
        exact ⟨rfl, TW.out.below⟩
      obtain ⟨n0, rfl⟩ : ∃ n0 : Nat, w0 = (n0 : Int) := ⟨w0.toNat, by omega⟩
      obtain ⟨n1, rfl⟩ : ∃ n1 : Nat, w1 = (n1 : Int) := ⟨w1.toNat, by omega⟩
      have r1 : (1 : Int) ≤ (n0 : Int) := by omega
      have r2 : (n0 : Int) ≤ 128 := by omega
      have r3 : (1 : Int) ≤ (n1 : Int) := by omega
      have r4 : (n1 : Int) ≤ 128 := by omega
      have r5 : (n0 : Int) + (n1 : Int) ≤ 128 := by omega
      have HNN : Hid (1 ≤ n0 ∧ n0 ≤ 128 ∧ 1 ≤ n1 ∧ n1 ≤ 128 ∧ n0 + n1 ≤ 128) := by unfold Hid; omega
      clear q1 q2 q3 q4 q5
      obtain ⟨nn, hnn⟩ : ∃ nn : Nat, nn = n0 + n1 := ⟨_, rfl⟩
      have hni : (n0 : Int) + (n1 : Int) = (nn : Int) := by omega
      have HNE := hide hnn
      clear hnn
      by_cases hfit : t + nn ≤ 8 * xs.length
      · have HDo : Hid (∀ W, Calls Try.prog 12 #[.int .u8 14, .agg #[.int .i64 n0, .int .u64 (wHi (bval xs t n0)), .int .u64 (wLo (bval xs t n0))], .agg #[.int .i64 n1, .int .u64 (wHi (bval xs (t + n0) n1)), .int .u64 (wLo (bval xs (t + n0) n1))], .int .i64 0, .int .i64 0] W fun e w' => e = .returned (.tuple #[.agg #[.int .i64 nn, .int .u64 (wHi (bval xs t nn)), .int .u64 (wLo (bval xs t nn))], .int .i64 0]) ∧ Below W.heap.size W w') := fun W => by
          have hh := HNN.out
          have h := do14_yes n0 n1 0 0 (bval xs t n0) (bval xs (t + n0) n1) W (ok_bval hh.1 hh.2.1) (ok_bval hh.2.2.1 hh.2.2.2.1) (by simp; omega)
          rw [Int.toNat_natCast, ← bval_add, ← HNE.out, hni] at h
          exact h
        have HT1 := hide (take_yes (n := nn) TW.out.cur1 hx (by omega) (by have := HNN.out; have := HNE.out; omega) (by have := HNN.out; have := HNE.out; omega) hfit)
        have HT2 : Hid (∀ W, Cur W g2 b2 c2 xs t → _) := fun W hW => take_yes (n := n0) hW hx (by omega) HNN.out.1 HNN.out.2.1 (by have := HNE.out; omega)
        have HT3 : Hid (∀ W, Cur W g2 b2 c2 xs (t + n0) → _) := fun W hW => take_yes (n := n1) hW hx (by omega) HNN.out.2.2.1 HNN.out.2.2.2.1 (by have := HNE.out; omega)
        have HEE : Hid (t + n0 + n1 = t + nn) := by have := HNE.out; unfold Hid; omega
        generalize wHi (bval xs t nn) = xh at *
        generalize wLo (bval xs t nn) = xl at *
        generalize wHi (bval xs t n0) = yh at *
        generalize wLo (bval xs t n0) = yl at *
        generalize wHi (bval xs (t + n0) n1) = zh at *
        generalize wLo (bval xs (t + n0) n1) = zl at *
        clear hfit
        go_wp2_with fail
        refine HT1.out.mono ?_
        rintro e w5 ⟨rfl, m5, k5⟩
        have M5 := hide ((TW.out.move1 m5 k5).next (al (.cells #[.int .i64 nn, .int .u64 xh, .int .u64 xl] 33)))
        have hz5 : g2 < w5.heap.size := (TW.out.move1 m5 k5).cur2.lt
        have X5 : Hid (x3 _ w5.heap.size _ _ _) := new3 w5 (.int .i64 nn) (.int .u64 xh) (.int .u64 xl) 33
        have y0 := M5.out.x0
        clear m5 k5 HT1
        go_wp2_with fail
        refine (HT2.out _ M5.out.cur2).mono ?_
        rintro e w6 ⟨rfl, m6, k6⟩
        have M6 := hide ((M5.out.move2 m6 k6).next (al (.cells #[.int .i64 n0, .int .u64 yh, .int .u64 yl] 33)))
        have hz6 : g2 < w6.heap.size ∧ w5.heap.size < w6.heap.size := ⟨k6.lt, by have := m6.size; simp at this; omega⟩
        have X6 := hide ((X5.out.moved m6 (by omega)).below (al (.cells #[.int .i64 n0, .int .u64 yh, .int .u64 yl] 33)))
        have Y6 : Hid (x3 _ w6.heap.size _ _ _) := new3 w6 (.int .i64 n0) (.int .u64 yh) (.int .u64 yl) 33
        have y1 := M6.out.x1
        clear m6 k6 HT2 y0
        go_wp2_with fail
        refine (HT3.out _ M6.out.cur2).mono ?_
        rintro e w7 ⟨rfl, m7, k7⟩
        rw [HEE.out] at k7
        have M7 := hide ((M6.out.move2 m7 k7).next (al (.cells #[.int .i64 n1, .int .u64 zh, .int .u64 zl] 33)))
        have hz7 : w6.heap.size < w7.heap.size := by have := m7.size; simp at this; omega
        have X7 := hide ((X6.out.moved m7 (by omega)).below (al (.cells #[.int .i64 n1, .int .u64 zh, .int .u64 zl] 33)))
        have Y7 := hide ((Y6.out.moved m7 (by omega)).below (al (.cells #[.int .i64 n1, .int .u64 zh, .int .u64 zl] 33)))
        obtain ⟨e0, e1, e2⟩ := Y7.out
        clear m7 k7 HT3 y1
        go_wp2_with fail
        refine (HDo.out _).mono ?_
        rintro e w8 ⟨rfl, hb8⟩
        have M8 := hide ((M7.out.next hb8).next (al (.cells #[.int .i64 nn, .int .u64 xh, .int .u64 xl] 33)))
        have X8 := hide ((X7.out.below hb8).below (al (.cells #[.int .i64 nn, .int .u64 xh, .int .u64 xl] 33)))
        obtain ⟨f0, f1, f2⟩ := X8.out
        clear hb8 e0 e1 e2
        go_wp2_with fail
        refine (at_any M8.out.cur1).mono ?_
        rintro e w9 ⟨rfl, hb9⟩
        have M9 := hide (M8.out.next hb9)
        clear hb9
        go_wp2_with fail
        refine (at_any M9.out.cur2).mono ?_
        rintro e w10 ⟨rfl, hb10⟩
        have M10 := hide (M9.out.next hb10)
        clear hb10
        go_wp2
        go_ret
        exact ⟨rfl, M10.out.below⟩
      · have HT1 := hide (take_short (n := nn) TW.out.cur1 (by omega) HTL.out (by have := HNN.out; have := HNE.out; omega) (by have := HNN.out; have := HNE.out; omega) (by omega))
        obtain ⟨lf, hlf⟩ : ∃ lf, lf = 8 * xs.length - t := ⟨_, rfl⟩
        have hlt2 : (lf : Int) < (nn : Int) := by omega
        have hnw : IntKind.i64.wrap (nn : Int) = (nn : Int) := wrap_small (by omega) (by omega)
        have HLf : Hid (∀ W, Cur W g2 b2 c2 xs t → Calls Try.prog 10 #[.pointer (some ⟨g2, 0, none⟩)] W fun e w' => e = .returned (.int .i64 (lf : Nat)) ∧ Below W.heap.size W w') := fun W hW => by
          have h := left_any hW (by omega) HTL.out
          rw [← hlf] at h; exact h
        clear hlf hfit
        go_wp2_with fail
        refine HT1.out.mono ?_
        rintro e w5 ⟨rfl, hb5⟩
        have M5 := hide ((TW.out.next hb5).next (al (.cells #[.int .i64 0, .int .u64 0, .int .u64 0] 33)))
        clear hb5
        go_wp2_with fail
        go_region_held3 (fun w' => Two w w' g1 g2 w.heap.size b1 b2 c1 c2 xs t t n0 n1 ∧ w'.cell? ⟨w.heap.size, 0, none⟩ = some (.int .i64 n0) ∧ w'.cell? ⟨w.heap.size, 1, none⟩ = some (.int .i64 n1)) (first | exact Two.all (M5.out.next (Below.refl _ _).drew) | exact Two.nextS (by assumption) (And.left (by assumption)))
          (first
            | (go_at_call 10; refine (HLf.out _ (Two.cur2 (And.left (by assumption)))).mono ?_; rintro e wn ⟨rfl, hb⟩))
        all_goals
          go_wp2
          go_ret
          exact ⟨rfl, Two.below (And.left (by assumption))⟩
end Go.Proofs.Ytcpjibebloaohaa
