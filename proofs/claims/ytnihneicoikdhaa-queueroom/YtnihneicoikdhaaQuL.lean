/- pointsmanlaw17.QueueRoom, walked: lengths alone. -/
import Derived.Test.YtnihneicoikdhaaQuJ
namespace Go.Proofs.Ytnihneicoikdhaa
open Go.RowKit

def Qn (W : World) (g r m : Nat) : Prop := ∃ f L, Qs W g r f L ∧ L.length = m
theorem Qn.fr {E : Nat → Prop} {W W' : World} {g r m : Nat} (h : Qn W g r m) (hf : Fr E W W') (hn : ¬ E g) : Qn W' g r m := by
  obtain ⟨f, L, h1, h2⟩ := h
  exact ⟨f, L, h1.fr hf hn, h2⟩
theorem Qn.below {W W' : World} {g r m : Nat} (h : Qn W g r m) (hb : Below W.heap.size W W') : Qn W' g r m := by
  obtain ⟨f, L, h1, h2⟩ := h
  exact ⟨f, L, h1.below hb, h2⟩
theorem Qn.le {W : World} {g r m : Nat} (h : Qn W g r m) : m ≤ r ∧ r ≤ 64 ∧ g < W.heap.size := by
  obtain ⟨f, L, h1, rfl⟩ := h
  have := h1.at
  exact ⟨by omega, by omega, h1.lt⟩
theorem put_n {W : World} {g r m : Nat} (h : Qn W g r m) (port : Int) : Calls Try.prog 7 #[.pointer (some ⟨g, 0, none⟩), .agg #[.int .i64 port, .slice none 0 0]] W fun e W' => e = .returned (.int .i64 (if m = r then 10 else 0)) ∧ Qn W' g r (if m = r then m else m + 1) ∧ Fr (· = g) W W' := by
  have hle := h.le
  obtain ⟨f, L, h1, h2⟩ := h
  by_cases e : m = r
  · rw [if_pos e, if_pos e]
    refine (put_full h1 (by omega) port none 0 0).mono ?_
    rintro e W' ⟨rfl, hb⟩
    exact ⟨rfl, ⟨f, L, h1.below hb, h2⟩, Fr.ofBelow hb⟩
  · rw [if_neg e, if_neg e]
    refine (put_yes h1 (by omega) port none 0 [] (by simp) (.inl rfl) (fun _ => rfl)).mono ?_
    rintro e W' ⟨rfl, a', c', hq, _, hf⟩
    exact ⟨rfl, ⟨f, _, hq, by simp [h2]⟩, hf⟩
theorem len_n {W : World} {g r m : Nat} (h : Qn W g r m) : Calls Try.prog 10 #[.pointer (some ⟨g, 0, none⟩)] W fun e w' => e = .returned (.int .i64 m) ∧ w' = W := by
  obtain ⟨f, L, h1, rfl⟩ := h
  exact len_any h1
theorem send_n {W : World} {g r m : Nat} (h : Qn W g r m) (n j : Nat) (hj : j = min n m) : Calls Try.prog 8 #[.pointer (some ⟨g, 0, none⟩), .int .i64 n] W fun e W' => ∃ b, e = .returned (.tuple #[.slice (some ⟨b, 0, none⟩) j j, .int .i64 0]) ∧ Qn W' g r (m - j) ∧ Fr (· = g) W W' := by
  obtain ⟨f, L, h1, rfl⟩ := h
  refine (send_yes h1 n j hj).mono ?_
  rintro e W' ⟨b, rfl, _, ⟨f', hq⟩, hf⟩
  exact ⟨b, rfl, ⟨f', _, hq, by simp⟩, hf⟩
set_option maxRecDepth 100000 in
set_option maxHeartbeats 4000000 in
theorem queueRoom_walk (x : Nat) (hx : x < 256) (a0 : Option Addr) (cap0 : Nat) (xs : List Nat) (hxs : ∀ y ∈ xs, y < 256) (w : World) (hr : RdA w a0 xs) : Calls Try.prog 4 #[.int .u8 x, .slice a0 xs.length cap0] w fun e w' => e = .returned (.bool true) ∧ Below w.heap.size w w' := by
  have hw0 : IntKind.i64.wrap (x : Int) = (x : Int) := by rw [IntKind.wrap_i64]; omega
  obtain ⟨n, hn⟩ : ∃ n, n = x % 65 := ⟨_, rfl⟩
  have hn64 : n ≤ 64 := by omega
  have hm : (x : Int).tmod 65 = (n : Int) := by rw [hn]; exact (Int.ofNat_tmod _ _).symm
  have hwn : IntKind.i64.wrap (n : Int) = (n : Int) := by rw [IntKind.wrap_i64]; omega
  clear hn
  have HN := hide (new_yes n w hn64)
  have HV : Hid (∀ W, _) := fun W => lives_any W
  have HR := hide hr
  have HXS := hide hxs
  have HP : Hid (∀ W m (p : Int), Qn W w.heap.size n m → _) := fun W m p h => put_n h p
  have HLN : Hid (∀ W m, Qn W w.heap.size n m → _) := fun W m h => len_n h
  have HS : Hid (∀ W m k j, Qn W w.heap.size n m → j = min k m → _) := fun W m k j h e => send_n h k j e
  clear hr hxs
  by_cases hl : xs.length > 100
  · have e1 : decide ((xs.length : Int) > 100) = true := by simp; omega
    generalize xs.length = N at *
    go_enter Try.func4, Try.ntmps4
    go_wp2_with fail
    refine HN.out.mono ?_
    rintro e w1 ⟨rfl, hq, hb⟩
    have B1 := hide hb
    clear hq hb
    go_wp2_with fail
    refine (HV.out _).mono ?_
    rintro e w2 ⟨rfl, hb⟩
    go_wp2
    go_ret
    exact ⟨rfl, bstep B1.out hb⟩
  · have e1 : decide ((xs.length : Int) > 100) = false := by simp; omega
    have hl100 : xs.length ≤ 100 := by omega
    clear hl
    go_enter Try.func4, Try.ntmps4
    go_wp2_with fail
    refine HN.out.mono ?_
    rintro e w1 ⟨rfl, hq, hb⟩
    have Q1 : Hid (Qn w1 w.heap.size n 0) := ⟨_, _, hq, rfl⟩
    have B1 := hide hb
    clear hq hb
    go_wp2
    go_loopw [8] (fun i wr => ∃ k m : Nat, k ≤ xs.length ∧ i = .int .i64 k ∧ Qn wr w.heap.size n m ∧ Below w.heap.size w wr) (fun i _ => xs.length - (intOf i).toNat)
    case atStart => exact ⟨0, 0, Nat.zero_le _, rfl, Q1.out, B1.out⟩
    case round =>
      obtain ⟨k, m, hk, rfl, hq, hb⟩ := hrel
      have QK := hide hq
      have BK := hide hb
      clear hq hb
      by_cases hlt : k < xs.length
      · have hkI : (k : Int) < (xs.length : Int) := by omega
        have HLK := hide (HLN.out _ _ QK.out)
        have hc256 := HXS.out xs[k] (List.getElem_mem hlt)
        have HCE : Hid (∀ W, Below w.heap.size w W → ∃ p off, a0 = some ⟨p, off, none⟩ ∧ W.cell? ⟨p, off + k, none⟩ = some (.int .u8 (xs[k] : Nat))) := fun W hb => by
          obtain ⟨p, off, e, _, hc⟩ := (HR.out.below hb).some (by omega)
          exact ⟨p, off, e, hc k hlt⟩
        obtain ⟨p, off, rfl, -⟩ := HCE.out _ BK.out
        have HCF : Hid (∀ W, Below w.heap.size w W → W.cell? ⟨p, off + k, none⟩ = some (.int .u8 (xs[k] : Nat))) := fun W hb => by
          obtain ⟨p', off', e, hc⟩ := HCE.out W hb
          cases e
          exact hc
        clear HCE
        generalize xs[k] = c at *
        have hmn := QK.out.le
        obtain ⟨D, hD⟩ : ∃ D, D = n - m := ⟨_, rfl⟩
        obtain ⟨j, hj⟩ : ∃ j, j = min c D := ⟨_, rfl⟩
        obtain ⟨H, hH⟩ : ∃ H, H = c / 2 := ⟨_, rfl⟩
        obtain ⟨j2, hj2⟩ : ∃ j2, j2 = min H (m + j) := ⟨_, rfl⟩
        have f1 : IntKind.i64.wrap ((n : Int) - (m : Int)) = (D : Int) := by rw [IntKind.wrap_i64]; omega
        have f2 : (if D < c then (D : Int) else (c : Int)) = (j : Int) := by split <;> omega
        have f3 : IntKind.i64.wrap ((m : Int) + (j : Int)) = ((m + j : Nat) : Int) := by rw [IntKind.wrap_i64]; omega
        have f4 : (c : Int).tdiv 2 = (H : Int) := by rw [hH]; exact (Int.ofNat_tdiv _ _).symm
        have f5 : IntKind.i64.wrap (H : Int) = (H : Int) := by rw [IntKind.wrap_i64]; omega
        have f6 : (if m + j < H then ((m + j : Nat) : Int) else (H : Int)) = (j2 : Int) := by split <;> omega
        have f7 : IntKind.i64.wrap (c : Int) = (c : Int) := by rw [IntKind.wrap_i64]; omega
        have HJ2 := hide hj2
        have HJ := hide hj
        have HD := hide hD
        clear hj2 hH hj hD
        go_wp2_with fail
        refine HLK.out.mono ?_
        rintro e w2 ⟨rfl, rfl⟩
        go_wp2
        go_loopw [10, 11] (fun d i wr => ∃ k2 : Nat, k2 ≤ c ∧ i = .int .i64 k2 ∧ d = .int .i64 (min k2 D : Nat) ∧ Qn wr w.heap.size n (m + min k2 D) ∧ Below w.heap.size w wr) (fun _ i _ => c - (intOf i).toNat)
        case atStart => exact ⟨0, Nat.zero_le _, rfl, by simp, by simpa using QK.out, BK.out⟩
        case round =>
          obtain ⟨k2, hk2, rfl, rfl, hq2, hb2⟩ := hrel
          have Q2 := hide hq2
          have B2 := hide hb2
          have cc := HCF.out _ hb2
          clear hq2 hb2
          by_cases hlt2 : k2 < c
          · have hkI2 : (k2 : Int) < (c : Int) := by omega
            have hPP := HP.out _ _ (k2 : Int) Q2.out
            by_cases hfull : D ≤ k2
            · have e3 : min k2 D = D := by omega
              have e4 : m + min k2 D = n := by have := HD.out; omega
              have e5 : min (k2 + 1) D = D := by omega
              rw [if_pos e4, if_pos e4] at hPP
              have HPP := hide hPP
              have E3 := hide e3
              have E5 := hide e5
              clear hPP e4 e5 e3
              rw [E3.out] at HPP
              rw [E3.out]
              go_wp2_with fail
              refine HPP.out.mono ?_
              rintro e w3 ⟨rfl, hq3, hf3⟩
              have Q3 := hide hq3
              have B3 := hide (B2.out.trans (hf3.below (fun b e => by omega) B2.out.size))
              clear hq3 hf3
              go_wp2
              go_roundw
              case rel => exact ⟨k2 + 1, by omega, by go_num, by rw [E5.out], by rw [E5.out]; exact Q3.out, B3.out⟩
              case measure => simp [intOf]; omega
            · have e3 : min k2 D = k2 := by omega
              have e4 : ¬ (m + min k2 D = n) := by have := HD.out; omega
              have e5 : min (k2 + 1) D = k2 + 1 := by omega
              have hw2 : IntKind.i64.wrap ((k2 : Int) + 1) = ((k2 + 1 : Nat) : Int) := by rw [IntKind.wrap_i64]; omega
              rw [if_neg e4, if_neg e4] at hPP
              have HPP := hide hPP
              have E3 := hide e3
              have E5 := hide e5
              clear hPP e4 e5 e3
              rw [E3.out] at HPP
              rw [E3.out]
              go_wp2_with fail
              refine HPP.out.mono ?_
              rintro e w3 ⟨rfl, hq3, hf3⟩
              have Q3 := hide hq3
              have B3 := hide (B2.out.trans (hf3.below (fun b e => by omega) B2.out.size))
              clear hq3 hf3
              go_wp2
              go_roundw
              case rel => exact ⟨k2 + 1, by omega, by first | go_num | simp, by rw [E5.out]; first | rfl | simp, by rw [E5.out]; exact Q3.out, B3.out⟩
              case measure => simp [intOf]; omega
          · obtain rfl : k2 = c := by omega
            rw [← HJ.out] at Q2 ⊢
            have HL2 := hide (HLN.out _ _ Q2.out)
            have HS2 := hide (HS.out _ _ H j2 Q2.out HJ2.out)
            go_wp2_with fail
            refine HL2.out.mono ?_
            rintro e w3 ⟨rfl, rfl⟩
            go_wp2_with fail
            refine HS2.out.mono ?_
            rintro e w4 ⟨b, rfl, hq4, hf4⟩
            have B4 := hide (B2.out.trans (hf4.below (fun b e => by omega) B2.out.size))
            have Q4 := hide hq4
            have cc4 := HCF.out _ B4.out
            clear hq4 hf4
            go_wp2
            go_roundw
            case rel => exact ⟨k + 1, _, by omega, by go_num, Q4.out, B4.out⟩
            case measure => simp [intOf]; omega
      · obtain rfl : k = xs.length := by omega
        go_wp2_with fail
        refine (HV.out _).mono ?_
        rintro e w3 ⟨rfl, hb⟩
        go_wp2
        go_ret
        exact ⟨rfl, bstep BK.out hb⟩
end Go.Proofs.Ytnihneicoikdhaa
