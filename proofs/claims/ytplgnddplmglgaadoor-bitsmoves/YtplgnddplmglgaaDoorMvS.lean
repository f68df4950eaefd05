/- pointsmanlaw01.BitsMoves, where the count is below the width. -/
import Derived.Test.YtplgnddplmglgaaDoorMv
namespace Go.Proofs.YtplgnddplmglgaaDoor
open Go.RowKit

def MvR (w W : World) (A U D P : Nat) (n ah al uh ul dh dl ph pl : Int) : Prop := Below w.heap.size w W ∧ N3 W A n ah al ∧ N3 W U n uh ul ∧ N3 W D n dh dl ∧ N3 W P n ph pl
def MvL (w W : World) (A U D P L : Nat) (n ah al uh ul dh dl ph pl : Int) : Prop := MvR w W A U D P n ah al uh ul dh dl ph pl ∧ N3 W L n dh dl
theorem MvR.below {w W W' : World} {A U D P : Nat} {n ah al uh ul dh dl ph pl : Int} (h : MvR w W A U D P n ah al uh ul dh dl ph pl) (hb : Below W.heap.size W W') : MvR w W' A U D P n ah al uh ul dh dl ph pl :=
  ⟨h.1.trans (hb.mono h.1.size), h.2.1.below hb, h.2.2.1.below hb, h.2.2.2.1.below hb, h.2.2.2.2.below hb⟩
theorem mvL_next {w W W' : World} {A U D P L : Nat} {n ah al uh ul dh dl ph pl : Int} (hb : Below W.heap.size W W') (h : MvL w W A U D P L n ah al uh ul dh dl ph pl) : MvL w W' A U D P L n ah al uh ul dh dl ph pl ∧
    W'.cell? ⟨A, 0, none⟩ = some (.int .i64 n) ∧ W'.cell? ⟨A, 1, none⟩ = some (.int .u64 ah) ∧ W'.cell? ⟨A, 2, none⟩ = some (.int .u64 al) ∧
    W'.cell? ⟨U, 0, none⟩ = some (.int .i64 n) ∧ W'.cell? ⟨U, 1, none⟩ = some (.int .u64 uh) ∧ W'.cell? ⟨U, 2, none⟩ = some (.int .u64 ul) ∧
    W'.cell? ⟨D, 0, none⟩ = some (.int .i64 n) ∧ W'.cell? ⟨D, 1, none⟩ = some (.int .u64 dh) ∧ W'.cell? ⟨D, 2, none⟩ = some (.int .u64 dl) ∧
    W'.cell? ⟨P, 0, none⟩ = some (.int .i64 n) ∧ W'.cell? ⟨P, 1, none⟩ = some (.int .u64 ph) ∧ W'.cell? ⟨P, 2, none⟩ = some (.int .u64 pl) ∧
    W'.cell? ⟨L, 0, none⟩ = some (.int .i64 n) ∧ W'.cell? ⟨L, 1, none⟩ = some (.int .u64 dh) ∧ W'.cell? ⟨L, 2, none⟩ = some (.int .u64 dl) := by
  have k := h.1.below hb
  have kl := h.2.below hb
  obtain ⟨a0, a1, a2, _⟩ := mblk3 k.2.1
  obtain ⟨b0, b1, b2, _⟩ := mblk3 k.2.2.1
  obtain ⟨c0, c1, c2, _⟩ := mblk3 k.2.2.2.1
  obtain ⟨d0, d1, d2, _⟩ := mblk3 k.2.2.2.2
  obtain ⟨e0, e1, e2, _⟩ := mblk3 kl
  exact ⟨⟨k, kl⟩, a0, a1, a2, b0, b1, b2, c0, c1, c2, d0, d1, d2, e0, e1, e2⟩
set_option maxRecDepth 100000 in
set_option maxHeartbeats 4000000 in
theorem mv_small (n x0 x1 ah al uh ul dh dl cn ch cl : Int) (PH PL : Nat → Int) (k : Nat) (w : World) (hk : k < 256) (hn0 : 1 ≤ n) (hn1 : n ≤ 128) (hnk : (k : Int) < n)
    (HP0 : PH 0 = 0) (HP1 : PL 0 = 1)
    (HAl : ∀ W, Below w.heap.size w W → Calls Tryd.prog 8 #[] W fun e w' => e = .returned (.bool true) ∧ Below W.heap.size W w')
    (HOf : ∀ W, Calls Tryd.prog 11 #[.int .i64 n, .int .u64 x0, .int .u64 x1] W fun e w' => e = .returned (.tuple #[.agg #[.int .i64 n, .int .u64 ah, .int .u64 al], .int .i64 0]) ∧ Below W.heap.size W w')
    (HUp : ∀ W, Calls Tryd.prog 9 #[.int .u8 12, .agg #[.int .i64 n, .int .u64 ah, .int .u64 al], .agg #[.int .i64 8, .int .u64 0, .int .u64 k]] W fun e w' => e = .returned (.agg #[.int .i64 n, .int .u64 uh, .int .u64 ul]) ∧ Below W.heap.size W w')
    (HDn : ∀ W, Calls Tryd.prog 9 #[.int .u8 13, .agg #[.int .i64 n, .int .u64 ah, .int .u64 al], .agg #[.int .i64 8, .int .u64 0, .int .u64 k]] W fun e w' => e = .returned (.agg #[.int .i64 n, .int .u64 dh, .int .u64 dl]) ∧ Below W.heap.size W w')
    (HPw : ∀ i, i < k → ∀ W, Calls Tryd.prog 9 #[.int .u8 5, .agg #[.int .i64 n, .int .u64 (PH i), .int .u64 (PL i)], .agg #[.int .i64 n, .int .u64 (PH i), .int .u64 (PL i)]] W fun e w' => e = .returned (.agg #[.int .i64 n, .int .u64 (PH (i + 1)), .int .u64 (PL (i + 1))]) ∧ Below W.heap.size W w')
    (HCu : ∀ W, Calls Tryd.prog 12 #[.agg #[.int .i64 n, .int .u64 ah, .int .u64 al], .int .i64 (n - 1), .int .i64 k] W fun e w' => e = .returned (.agg #[.int .i64 cn, .int .u64 ch, .int .u64 cl]) ∧ Below W.heap.size W w')
    (HCa : ∀ W, Calls Tryd.prog 14 #[.int .u8 16, .agg #[.int .i64 cn, .int .u64 ch, .int .u64 cl], .agg #[.int .i64 0, .int .u64 0, .int .u64 0], .int .i64 n, .int .i64 0] W fun e w' => e = .returned (.tuple #[.agg #[.int .i64 n, .int .u64 dh, .int .u64 dl], .int .i64 0]) ∧ Below W.heap.size W w')
    (HMu : ∀ W, Calls Tryd.prog 9 #[.int .u8 7, .agg #[.int .i64 n, .int .u64 ah, .int .u64 al], .agg #[.int .i64 n, .int .u64 (PH k), .int .u64 (PL k)]] W fun e w' => e = .returned (.agg #[.int .i64 n, .int .u64 uh, .int .u64 ul]) ∧ Below W.heap.size W w') :
    Calls Tryd.prog 5 #[.int .i64 n, .agg #[.int .u64 x0, .int .u64 x1], .int .u8 k] w fun e w' => e = .returned (.bool true) ∧ Below w.heap.size w w' := by
  have HAl := hide HAl; have HOf := hide HOf; have HUp := hide HUp; have HDn := hide HDn; have HPw := hide HPw; have HCu := hide HCu; have HCa := hide HCa; have HMu := hide HMu
  have HP0 := hide HP0; have HP1 := hide HP1
  have hge : decide ((k : Int) ≥ n) = false := by simp; omega
  go_enter Tryd.func5, Tryd.ntmps5
  go_wp2_with fail
  refine (HOf.out _).mono ?_
  rintro e w1 ⟨rfl, hb1⟩
  have B1 := hide ((((Below.refl _ w).alloc (Nat.le_refl _) _).trans (hb1.mono (by simp))).alloc (by have := hb1.size; simp at this; omega) (.cells #[.int .i64 n, .int .u64 ah, .int .u64 al] 27))
  have A1 := hide (N3.new w1 n ah al)
  have hz1 : w.heap.size < w1.heap.size := by have := hb1.size; simp at this; omega
  clear hb1
  go_wp2_with fail
  refine (HAl.out _ B1.out).mono ?_
  rintro e w2 ⟨rfl, hb2⟩
  have B2 := hide (B1.out.trans (hb2.mono B1.out.size))
  have A2 := hide (A1.out.below hb2)
  have hz2 : w1.heap.size < w2.heap.size := by have := hb2.size; simp at this; omega
  clear hb2 A1 B1
  go_wp2_with fail
  refine (num_any 8 k _).mono ?_
  rintro e w3 ⟨rfl, hb3⟩
  have B3 := hide ((B2.out.trans (hb3.mono B2.out.size)).alloc (Nat.le_trans B2.out.size hb3.size) (.cells #[.int .i64 8, .int .u64 0, .int .u64 (k : Int)] 27))
  have A3 := hide ((A2.out.below hb3).below ((Below.refl _ w3).alloc (Nat.le_refl _) (.cells #[.int .i64 8, .int .u64 0, .int .u64 (k : Int)] 27)))
  have Y3 := hide (N3.new w3 8 0 k)
  have hz3 := hb3.size
  clear hb3 A2 B2
  obtain ⟨a0, a1, a2, _⟩ := mblk3 A3.out
  obtain ⟨y0, y1, y2, _⟩ := mblk3 Y3.out
  go_wp2_with fail
  refine (HUp.out _).mono ?_
  rintro e w4 ⟨rfl, hb4⟩
  have B4 := hide ((B3.out.trans (hb4.mono B3.out.size)).alloc (Nat.le_trans B3.out.size hb4.size) (.cells #[.int .i64 n, .int .u64 uh, .int .u64 ul] 27))
  have kk4 : Below w4.heap.size w4 (w4.alloc (.cells #[.int .i64 n, .int .u64 uh, .int .u64 ul] 27)) := (Below.refl _ w4).alloc (Nat.le_refl _) _
  have A4 := hide ((A3.out.below hb4).below kk4)
  have Y4 := hide ((Y3.out.below hb4).below kk4)
  have U4 := hide (N3.new w4 n uh ul)
  have hz4 : w3.heap.size < w4.heap.size := by have := hb4.size; simp at this; omega
  clear hb4 kk4 A3 Y3 B3 a0 a1 a2 y0 y1 y2
  obtain ⟨a0, a1, a2, _⟩ := mblk3 A4.out
  obtain ⟨y0, y1, y2, _⟩ := mblk3 Y4.out
  go_wp2_with fail
  refine (HDn.out _).mono ?_
  rintro e w5 ⟨rfl, hb5⟩
  have kk5 : Below w5.heap.size w5 (w5.alloc (.cells #[.int .i64 n, .int .u64 dh, .int .u64 dl] 27)) := (Below.refl _ w5).alloc (Nat.le_refl _) _
  have B5 := hide ((B4.out.trans (hb5.mono B4.out.size)).alloc (Nat.le_trans B4.out.size hb5.size) (.cells #[.int .i64 n, .int .u64 dh, .int .u64 dl] 27))
  have A5 := hide ((A4.out.below hb5).below kk5)
  have U5 := hide ((U4.out.below hb5).below kk5)
  have D5 := hide (N3.new w5 n dh dl)
  have hz5 : w4.heap.size < w5.heap.size := by have := hb5.size; simp at this; omega
  clear hb5 kk5 A4 Y4 B4 U4 a0 a1 a2 y0 y1 y2
  go_wp2_with fail
  refine (num_any n 1 _).mono ?_
  rintro e w6 ⟨rfl, hb6⟩
  have kk6 : Below w6.heap.size w6 (w6.alloc (.cells #[.int .i64 n, .int .u64 0, .int .u64 1] 27)) := (Below.refl _ w6).alloc (Nat.le_refl _) _
  have hz6 : w5.heap.size < w6.heap.size := by have := hb6.size; simp at this; omega
  have R6 : Hid (MvR w (w6.alloc (.cells #[.int .i64 n, .int .u64 0, .int .u64 1] 27)) w1.heap.size w4.heap.size w5.heap.size w6.heap.size n ah al uh ul dh dl (PH 0) (PL 0)) := by
    refine ⟨(B5.out.trans (hb6.mono B5.out.size)).alloc (Nat.le_trans B5.out.size hb6.size) _, (A5.out.below hb6).below kk6, (U5.out.below hb6).below kk6, (D5.out.below hb6).below kk6, ?_⟩
    rw [HP0.out, HP1.out]
    exact N3.new w6 n 0 1
  clear hb6 kk6 A5 B5 U5 D5
  go_wp2
  go_loopw [14] (fun i wr => ∃ j : Nat, j ≤ k ∧ i = .int .i64 j ∧ MvR w wr w1.heap.size w4.heap.size w5.heap.size w6.heap.size n ah al uh ul dh dl (PH j) (PL j)) (fun i _ => k - (intOf i).toNat)
  case atStart => exact ⟨0, by omega, rfl, R6.out⟩
  case round =>
    obtain ⟨j, hj, rfl, hR⟩ := hrel
    have RR := hide hR
    clear hR R6
    by_cases hlt : j < k
    · have hltI : (j : Int) < (k : Int) := by omega
      obtain ⟨p0, p1, p2, _⟩ := mblk3 RR.out.2.2.2.2
      go_wp2_with fail
      refine (HPw.out j hlt _).mono ?_
      rintro e w7 ⟨rfl, hb7⟩
      have R7 := hide (RR.out.below hb7)
      clear hb7 p0 p1 p2 RR
      obtain ⟨p0, p1, p2, pf⟩ := mblk3 R7.out.2.2.2.2
      go_wp2
      go_roundw
      case rel =>
        have r := R7.out
        refine ⟨j + 1, by omega, by go_num, ((r.1.setCell (by simp; omega) _).setCell (by simp; omega) _).setCell (by simp; omega) _, r.2.1.far (by omega) _ _ _, r.2.2.1.far (by omega) _ _ _, r.2.2.2.1.far (by omega) _ _ _, r.2.2.2.2.set _ _⟩
      case measure => simp [intOf]; omega
    · obtain rfl : j = k := by omega
      obtain ⟨a0, a1, a2, _⟩ := mblk3 RR.out.2.1
      go_wp2_with fail
      refine (HCu.out _).mono ?_
      rintro e w7 ⟨rfl, hb7⟩
      have R7 := hide (RR.out.below hb7)
      clear hb7 a0 a1 a2 RR
      go_wp2_with fail
      refine (HCa.out _).mono ?_
      rintro e w8 ⟨rfl, hb8⟩
      have kk8 : Below w8.heap.size w8 (w8.alloc (.cells #[.int .i64 n, .int .u64 dh, .int .u64 dl] 27)) := (Below.refl _ w8).alloc (Nat.le_refl _) _
      have L8 : Hid (MvL w (w8.alloc (.cells #[.int .i64 n, .int .u64 dh, .int .u64 dl] 27)) w1.heap.size w4.heap.size w5.heap.size w6.heap.size w8.heap.size n ah al uh ul dh dl (PH j) (PL j)) := ⟨(R7.out.below hb8).below kk8, N3.new w8 n dh dl⟩
      clear hb8 kk8 R7
      go_wp2_with fail
      go_region_held3 (fun w' => MvL w w' w1.heap.size w4.heap.size w5.heap.size w6.heap.size w8.heap.size n ah al uh ul dh dl (PH j) (PL j) ∧
          w'.cell? ⟨w1.heap.size, 0, none⟩ = some (.int .i64 n) ∧ w'.cell? ⟨w1.heap.size, 1, none⟩ = some (.int .u64 ah) ∧ w'.cell? ⟨w1.heap.size, 2, none⟩ = some (.int .u64 al) ∧
          w'.cell? ⟨w4.heap.size, 0, none⟩ = some (.int .i64 n) ∧ w'.cell? ⟨w4.heap.size, 1, none⟩ = some (.int .u64 uh) ∧ w'.cell? ⟨w4.heap.size, 2, none⟩ = some (.int .u64 ul) ∧
          w'.cell? ⟨w5.heap.size, 0, none⟩ = some (.int .i64 n) ∧ w'.cell? ⟨w5.heap.size, 1, none⟩ = some (.int .u64 dh) ∧ w'.cell? ⟨w5.heap.size, 2, none⟩ = some (.int .u64 dl) ∧
          w'.cell? ⟨w6.heap.size, 0, none⟩ = some (.int .i64 n) ∧ w'.cell? ⟨w6.heap.size, 1, none⟩ = some (.int .u64 (PH j)) ∧ w'.cell? ⟨w6.heap.size, 2, none⟩ = some (.int .u64 (PL j)) ∧
          w'.cell? ⟨w8.heap.size, 0, none⟩ = some (.int .i64 n) ∧ w'.cell? ⟨w8.heap.size, 1, none⟩ = some (.int .u64 dh) ∧ w'.cell? ⟨w8.heap.size, 2, none⟩ = some (.int .u64 dl))
        (first | exact mvL_next (by assumption) (And.left (by assumption)) | exact mvL_next (Below.refl _ _).drew L8.out)
        ((go_at_call 9; refine (HMu.out _).mono ?_; rintro e wn ⟨rfl, hb⟩))
      all_goals
        go_wp2
        go_ret
        exact ⟨rfl, (And.left (And.left (And.left (by assumption))))⟩
end Go.Proofs.YtplgnddplmglgaaDoor
