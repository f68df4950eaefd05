/- LexAgain: a word told. -/
import Derived.Test.YtfanhdjebmdniaaGreatDoorLAa
namespace Go.Proofs.YtfanhdjebmdniaaGreatDoor
open Go.RowKit

theorem good_dc {x : Wd} (h : Good x) (hk : x.k = 2) : x.v ≤ 2147483647 := by
  rcases h with ⟨c, l, rfl, _⟩ | ⟨n, rfl, hn⟩ | ⟨n, v, rfl, _⟩ | ⟨j, _, rfl⟩
  · cases hk
  · exact hn
  · cases hk
  · cases hk
theorem good_tx {x : Wd} (h : Good x) (hk : x.k = 3) : okN (x.w : Int) x.v = true := by
  rcases h with ⟨c, l, rfl, _⟩ | ⟨n, rfl, hn⟩ | ⟨n, v, rfl, ho⟩ | ⟨j, _, rfl⟩
  · cases hk
  · cases hk
  · exact ho
  · cases hk
theorem good_len {x : Wd} (h : Good x) : (toldW x).length ≤ 255 := by
  rcases h with ⟨c, l, rfl, _, _, hl⟩ | ⟨n, rfl, hn⟩ | ⟨n, v, rfl, ho⟩ | ⟨j, hj, rfl⟩
  · exact hl
  · have := dcZ_len 9 n (by omega); show (Lib.decDigits n).length ≤ 255; omega
  · have hb := okN_bd ho
    have := tx_le n v (by omega) (by have := okN_ltop ho; unfold top at this; exact this)
    show (tx n v).length ≤ 255
    unfold tx
    simp; omega
  · have := sg_small ⟨j, hj⟩
    show (sgs.getD j []).length ≤ 255
    simp only at this
    omega
set_option maxRecDepth 100000 in
theorem told_any (x : Wd) (ln : Nat) (w : World) (hL : Ls w) (hG : Good x) :
    Calls Tryz.prog 13 #[.agg #[.int .u8 (x.k : Int), .string (txt x.s), .int .i64 (x.w : Int), .int .u64 (wHi x.v), .int .u64 (wLo x.v), .int .i64 (ln : Int)]] w fun e w' => e = .returned (.string (txt (toldW x))) ∧ Below w.heap.size w w' := by
  have HL := hide hL
  have HB0 : Hid (∀ o, Below w.heap.size w (w.alloc o)) := fun o => (Below.refl w.heap.size w).alloc (Nat.le_refl _) o
  by_cases h2 : x.k = 2
  · have hv := good_dc hG h2
    have hlo : wLo x.v = (x.v : Int) := by unfold wLo; omega
    have HD : Hid (∀ W, _) := fun W => digits7 x.v (by omega) W
    have HR : Hid (toldW x = Lib.decDigits x.v) := by unfold Hid toldW; rw [if_pos h2]
    rw [hlo, h2]
    clear hL hlo h2 hG hv
    generalize txt x.s = S at *
    generalize wHi x.v = u1 at *
    generalize (x.w : Int) = u2 at *
    generalize (ln : Int) = u3 at *
    go_enter Tryz.func13, Tryz.ntmps13
    go_wp2_with fail
    refine (HD.out _).mono ?_
    rintro e w1 ⟨rfl, rfl⟩
    go_wp2
    go_ret
    exact ⟨by rw [HR.out]; rfl, HB0.out _⟩
  · by_cases h3 : x.k = 3
    · have ho := good_tx hG h3
      have HT : Hid (∀ W, Ls W → _) := fun W h => text_yes (x.w : Int) x.v W h.ld (okN_ltop ho) ho
      rw [Int.toNat_natCast] at HT
      have HR : Hid (toldW x = tx x.w x.v) := by unfold Hid toldW; rw [if_neg h2, if_pos h3]
      rw [h3]
      clear hL h2 h3 hG ho
      generalize txt x.s = S at *
      generalize wHi x.v = u1 at *
      generalize wLo x.v = u4 at *
      generalize (x.w : Int) = u2 at *
      generalize (ln : Int) = u3 at *
      go_enter Tryz.func13, Tryz.ntmps13
      go_wp2_with fail
      refine (HT.out _ (HL.out.below (HB0.out _))).mono ?_
      rintro e w1 ⟨rfl, hb⟩
      have B1 := hide ((HB0.out _).trans (hb.mono (by simp)))
      clear hb
      go_wp2
      go_ret
      exact ⟨by rw [HR.out]; rfl, B1.out⟩
    · have HR : Hid (toldW x = x.s) := by unfold Hid toldW; rw [if_neg h2, if_neg h3]
      have g2 : ¬ ((x.k : Int) = 2) := by omega
      have g3 : ¬ ((x.k : Int) = 3) := by omega
      clear hL h2 h3 hG
      rw [HR.out]
      generalize txt x.s = S at *
      generalize wHi x.v = u1 at *
      generalize wLo x.v = u4 at *
      generalize (x.w : Int) = u2 at *
      generalize (x.k : Int) = u5 at *
      generalize (ln : Int) = u3 at *
      go_enter Tryz.func13, Tryz.ntmps13
      go_wp2
      go_ret
      exact ⟨rfl, HB0.out _⟩
end Go.Proofs.YtfanhdjebmdniaaGreatDoor
