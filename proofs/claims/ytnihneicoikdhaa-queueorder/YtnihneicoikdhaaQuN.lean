/- pointsmanlaw17.QueueOrder, walked. -/
import Derived.Test.YtnihneicoikdhaaQuM
import Derived.Test.YtnihneicoikdhaaClass
namespace Go.Proofs.Ytnihneicoikdhaa
open Go.RowKit

set_option maxRecDepth 100000 in
set_option maxHeartbeats 8000000 in
theorem queueOrder_short (a0 : Option Addr) (len0 cap0 n : Nat) (ls : List It) (hl : len0 = n) (hnl : n ≤ ls.length) (hn64 : n ≤ 64) (a1 : Option Addr) (cap1 : Nat) (xs : List Nat) (hxs : ∀ y ∈ xs, y < 256) (w : World) (hr0 : RdL w a0 ls) (hr1 : RdA w a1 xs) : Calls Try.prog 3 #[.slice a0 len0 cap0, .slice a1 xs.length cap1] w fun e w' => e = .returned (.bool true) ∧ Below w.heap.size w w' := by
  have HN := hide (new_yes n w hn64)
  have HV : Hid (∀ W, _) := fun W => lives_any W
  have HR := hide hr0
  have HR1 := hide hr1
  have HXS := hide hxs
  have HNN := hide hn64
  have HP : Hid (∀ W k, QO w W n ls 0 k → k < n → ∀ hk2 : k < ls.length, ItOk W ls[k] → _) := fun W k h h1 h2 h3 => put_o h h1 h2 h3
  have HPF : Hid (∀ W, QO w W n ls 0 n → _) := fun W h => put_of h 0 none 0 0
  have HS : Hid (∀ W t k j, QO w W n ls t n → j = min k (n - t) → _) := fun W t k j h e => send_o h k j e
  have HLN : Hid (∀ W, QO w W n ls n n → _) := fun W h => len_o h
  subst hl
  have e0 : decide ((len0 : Int) > 64) = false := by simp; omega
  obtain ⟨n, hnn⟩ : ∃ n, n = len0 := ⟨_, rfl⟩
  subst hnn
  clear hr0 hr1 hxs
  obtain ⟨M, hM⟩ : ∃ M, M = min xs.length 299 := ⟨_, rfl⟩
  have HM := hide hM
  clear hM
  go_enter Try.func3, Try.ntmps3
  go_wp2_with fail
  refine HN.out.mono ?_
  rintro e w1 ⟨rfl, hq, hb⟩
  have Q1 : Hid (QO w w1 n ls 0 0) := ⟨0, [], hq, rfl, fun i hi => absurd hi (by simp)⟩
  have B1 := hide hb
  clear hq hb
  go_wp2
  go_loopw [7] (fun i wr => ∃ k : Nat, k ≤ n ∧ i = .int .i64 k ∧ QO w wr n ls 0 k ∧ Below w.heap.size w wr) (fun i _ => n - (intOf i).toNat)
  case atStart => exact ⟨0, Nat.zero_le _, rfl, Q1.out, B1.out⟩
  case round =>
    obtain ⟨k, hk, rfl, hq, hb⟩ := hrel
    have QK := hide hq
    have BK := hide hb
    clear hq hb
    by_cases hlt : k < n
    · have hkl : k < ls.length := by omega
      have hkI : (k : Int) < (n : Int) := by omega
      have hrk := HR.out.below BK.out
      have HPK := hide (HP.out _ _ QK.out hlt hkl (hrk.ok _ (List.getElem_mem hkl)))
      obtain ⟨p, off, hpe, _, hcl⟩ := hrk.get (by omega)
      have c0 := hcl k hkl
      rw [hpe]
      clear hcl hrk hpe
      generalize ls[k].a = xa at *
      generalize ls[k].cap = xc at *
      generalize ls[k].xs.length = xn at *
      go_wp2_with fail
      refine HPK.out.mono ?_
      rintro e w2 ⟨rfl, hq2, hf2⟩
      have Q2 := hide hq2
      have B2 := hide (BK.out.trans (hf2.below (fun b e => by omega) BK.out.size))
      clear hq2 hf2
      go_wp2
      go_roundw
      case rel => exact ⟨k + 1, by omega, by go_num, Q2.out, B2.out⟩
      case measure => simp [intOf]; omega
    · obtain rfl : n = k := by omega
      have HPN := hide (HPF.out _ QK.out)
      go_wp2_with fail
      refine HPN.out.mono ?_
      rintro e w2 ⟨rfl, hb2⟩
      have Q2 := hide (QK.out.below hb2)
      have B2 := hide (bstep BK.out hb2)
      clear hb2 QK BK
      go_wp2
      go_loopw [8, 9] (fun d i wr => ∃ i' t : Nat, i' ≤ M + 1 ∧ t ≤ n ∧ i = .int .i64 i' ∧ d = .int .i64 t ∧ (i' = M + 1 → t = n) ∧ QO w wr n ls t n ∧ Below w.heap.size w wr) (fun _ i _ => M + 1 - (intOf i).toNat)
      case atStart => exact ⟨0, 0, Nat.zero_le _, Nat.zero_le _, rfl, rfl, fun h => by omega, Q2.out, B2.out⟩
      case round =>
        obtain ⟨i, t, hi, ht, rfl, rfl, hend, hq, hb⟩ := hrel
        have QT := hide hq
        have BT := hide hb
        have HE := hide hend
        clear hq hb hend
        by_cases hiM : i ≤ M
        · have hM := HM.out
          have l1 : decide ((i : Int) ≤ (xs.length : Int)) = true := by simp; omega
          have l2 : decide ((i : Int) < 300) = true := by simp; omega
          have l1n : (i ≤ xs.length) = True := by simp; omega
          have hMx : M ≤ xs.length ∧ M ≤ 299 := by omega
          have hi300 : i ≤ 299 := by omega
          clear hM
          by_cases hil : i < M
          · have l3 : decide ((i : Int) < (xs.length : Int)) = true := by simp; omega
            have l4 : decide ((i : Int) < 299) = true := by simp; omega
            have l3n : (i < xs.length) = True := by simp; omega
            have hix : i < xs.length := by omega
            have hiI : (i : Int) < (xs.length : Int) := by omega
            clear hMx
            obtain ⟨p1, o1, hp1, _, hc1⟩ := (HR1.out.below BT.out).some (by omega)
            have c1 := hc1 i hix
            have hx256 := HXS.out _ (List.getElem_mem hix)
            clear hc1
            rw [hp1]
            generalize xs[i] = x at *
            obtain ⟨m, hm⟩ : ∃ m, m = x % 5 := ⟨_, rfl⟩
            have m1 : (x : Int).tmod 5 = (m : Int) := by rw [hm]; exact (Int.ofNat_tmod _ _).symm
            have m2 : IntKind.u8.wrap (m : Int) = (m : Int) := by rw [IntKind.wrap_u8]; omega
            have m3 : IntKind.i64.wrap (m : Int) = (m : Int) := by rw [IntKind.wrap_i64]; omega
            obtain ⟨j, hj⟩ : ∃ j, j = min m (n - t) := ⟨_, rfl⟩
            clear hm hp1
            have HS1 := hide (HS.out wr t m j QT.out hj)
            have HJ := hide hj
            clear hj
            go_wp2_with fail
            refine HS1.out.mono ?_
            rintro e w2 ⟨b, rfl, han, hq2, hf2⟩
            have A2 := hide han
            have Q2 := hide hq2
            have B2 := hide (BT.out.trans (hf2.below (fun b e => by omega) BT.out.size))
            clear han hq2 hf2
            have hjn : decide ((j : Int) > (m : Int)) = false := by have := HJ.out; simp; omega
            have hjn' : decide ((m : Int) < (j : Int)) = false := hjn
            have hjn2 : decide ((m : Nat) < j) = false := by have := HJ.out; simp; omega
            have hjn3 : ((m : Nat) < j) = False := by have := HJ.out; simp; omega
            have hj64 : j ≤ 64 := by have := HJ.out; omega
            go_wp2
            go_loopw [8, 13] (fun d i wr => ∃ k : Nat, k ≤ j ∧ i = .int .i64 k ∧ d = .int .i64 (t + k : Nat) ∧ An wr b j t ls ∧ QO w wr n ls (t + j) n ∧ Below w.heap.size w wr) (fun _ i _ => j - (intOf i).toNat)
            case atStart => exact ⟨0, Nat.zero_le _, rfl, by simp, A2.out, Q2.out, B2.out⟩
            case round =>
              obtain ⟨k, hk, rfl, rfl, han, hq, hb⟩ := hrel
              have AK := hide han
              have QK := hide hq
              have BK := hide hb
              clear han hq hb
              by_cases hlt : k < j
              · obtain ⟨sa, sc, hts, -, -, -⟩ := AK.out.2 k hlt
                have htn : t + k < n := by have := HJ.out; omega
                have hkI : (k : Int) < (j : Int) := by omega
                obtain ⟨X, f, hX, hS, hcov⟩ := class_of (fun w' => Below wr.heap.size wr w') wr.drew (Below.refl _ _).drew
                have HC0 : Hid (∃ x, wr.drew = f x) := hcov _ (Below.refl _ _).drew
                have HNX : Hid (∀ x w', Below (f x).heap.size (f x) w' → ∃ y, w' = f y) := fun x w' hb => hcov w' ((hS x).trans (hb.mono (hS x).size))
                have HBX : Hid (∀ x, Below wr.heap.size wr (f x)) := hS
                obtain ⟨sa, sc, _hts, g0, g1, g2⟩ := AK.out.2 k hlt
                have hbl := AK.out.1
                obtain ⟨p, off, hpe, _, hcl⟩ := (HR.out.below BK.out).get (by omega)
                have hlp : p < wr.heap.size := World.block_lt_of_cell? wr ⟨p, off + (t + k), none⟩ (hcl (t + k) hts)
                have d0 : ∀ x, (f x).cell? ⟨b, k * 2, none⟩ = some (.int .i64 ((t + k : Nat) : Int)) := fun x => ((hS x).cell (p := ⟨b, _, none⟩) hbl).trans g0
                have d1 : ∀ x, (f x).cell? ⟨b, k * 2 + 1, none⟩ = some (.slice sa ls[t + k].xs.length sc) := fun x => ((hS x).cell (p := ⟨b, _, none⟩) hbl).trans g1
                have d2 : ∀ x, (f x).cell? ⟨p, off + (t + k), none⟩ = some (.slice ls[t + k].a ls[t + k].xs.length ls[t + k].cap) := fun x => ((hS x).cell (p := ⟨p, _, none⟩) hlp).trans (hcl (t + k) hts)
                have hik := (HR.out.below BK.out).ok _ (List.getElem_mem hts)
                have HSB : Hid (∀ x, _) := fun x => same_rd ls[t + k].xs hik.ln sa ls[t + k].a sc ls[t + k].cap (f x) (g2.below (hS x)) (hik.rd.below (hS x))
                have HQX : Hid (∀ x, QO w (f x) n ls (t + j) n) := fun x => QK.out.below (hS x)
                have HAX : Hid (∀ x, An (f x) b j t ls) := fun x => AK.out.below (hS x)
                have HBW : Hid (∀ x, Below w.heap.size w (f x)) := fun x => bstep BK.out (hS x)
                clear hcov hS g0 g1 g2 hcl hik hlp hbl
                rw [hpe]
                generalize ls[t + k].a = xa at *
                generalize ls[t + k].cap = xc at *
                generalize ls[t + k].xs.length = xn at *
                obtain ⟨T, hT⟩ : ∃ T, T = t + k := ⟨_, rfl⟩
                rw [← hT] at d0 d2 htn
                have hTnI : (T : Int) < (n : Int) := by omega
                have hge : decide ((T : Int) ≥ (n : Int)) = false := by simp; omega
                have hge' : decide ((n : Int) ≤ (T : Int)) = false := hge
                have hge2 : decide (n ≤ T) = false := by rw [decide_eq_false_iff_not]; omega
                have hge3 : (n ≤ T) = False := eq_false (by omega)
                have hTw : IntKind.i64.wrap ((T : Int) + 1) = ((t + (k + 1) : Nat) : Int) := by have := HNN.out; rw [IntKind.wrap_i64]; omega
                have hTe : ((t + k : Nat) : Int) = (T : Int) := by rw [hT]
                rw [hTe]
                have HT := hide hT
                clear hT hTe hpe hts
                go_wp2
                refine wp_region_class f (by kernel_rfl) (by kernel_rfl) HC0.out ?_
                repeat (first
                  | go_big_quiet_skip
                  | (go_big_quiet_want; go_big_quiet_op; first
                      | go_big_quiet_on
                      | (apply Exists.intro
                         refine ⟨fun _ => ?_, ?_⟩
                         · (go_at_call 9; refine (HSB.out _).mono ?_; rintro e' wn ⟨rfl, hb⟩; exact ⟨rfl, HNX.out _ _ hb⟩)
                         go_big_quiet_on)))
                refine wpQuiet_nil ?_
                rintro _ ⟨x, rfl⟩
                have QX := hide (HQX.out x)
                have AX := hide (HAX.out x)
                have BX := hide (HBW.out x)
                clear d0 d1 d2 HNX HC0 HBX HQX HAX HBW HSB
                go_wp2
                go_roundw
                case rel => exact ⟨k + 1, by omega, by go_num, rfl, AX.out, QX.out, BX.out⟩
                case measure => simp [intOf]; omega
              · obtain rfl : k = j := by omega
                clear AK
                go_wp2
                go_roundw
                case rel => exact ⟨i + 1, t + k, by omega, by have := HJ.out; omega, by go_num, rfl, fun h => by omega, QK.out, BK.out⟩
                case measure => first | (simp [intOf]; done) | (simp [intOf]; omega)
          · obtain rfl : i = M := by omega
            have HL34 : Hid (((i < xs.length) = False) ∨ ((i < xs.length) = True ∧ decide ((i : Int) < 299) = false)) := by
              show _ ∨ _
              have hM := HM.out
              by_cases h : xs.length ≤ 299
              · exact .inl (by simp; omega)
              · exact .inr ⟨by simp; omega, by simp; omega⟩
            clear hMx
            obtain ⟨j, hj⟩ : ∃ j, j = min 64 (n - t) := ⟨_, rfl⟩
            have HQL := hide QT.out.le
            rcases HL34.out with l3 | ⟨l3, l4⟩
            · skip
              have HS1 := hide (HS.out wr t 64 j QT.out hj)
              have HJ := hide hj
              clear hj
              go_wp2_with fail
              refine HS1.out.mono ?_
              rintro e w2 ⟨b, rfl, han, hq2, hf2⟩
              have A2 := hide han
              have Q2 := hide hq2
              have B2 := hide (BT.out.trans (hf2.below (fun b e => by omega) BT.out.size))
              clear han hq2 hf2
              have hjn : decide ((j : Int) > (64 : Int)) = false := by have := HJ.out; simp; omega
              have hjn' : decide ((64 : Int) < (j : Int)) = false := hjn
              have hjn2 : decide ((64 : Nat) < j) = false := by have := HJ.out; simp; omega
              have hjn3 : ((64 : Nat) < j) = False := by have := HJ.out; simp; omega
              have hj64 : j ≤ 64 := by have := HJ.out; omega
              go_wp2
              go_loopw [8, 13] (fun d i wr => ∃ k : Nat, k ≤ j ∧ i = .int .i64 k ∧ d = .int .i64 (t + k : Nat) ∧ An wr b j t ls ∧ QO w wr n ls (t + j) n ∧ Below w.heap.size w wr) (fun _ i _ => j - (intOf i).toNat)
              case atStart => exact ⟨0, Nat.zero_le _, rfl, by simp, A2.out, Q2.out, B2.out⟩
              case round =>
                obtain ⟨k, hk, rfl, rfl, han, hq, hb⟩ := hrel
                have AK := hide han
                have QK := hide hq
                have BK := hide hb
                clear han hq hb
                by_cases hlt : k < j
                · obtain ⟨sa, sc, hts, -, -, -⟩ := AK.out.2 k hlt
                  have htn : t + k < n := by have := HJ.out; omega
                  have hkI : (k : Int) < (j : Int) := by omega
                  obtain ⟨X, f, hX, hS, hcov⟩ := class_of (fun w' => Below wr.heap.size wr w') wr.drew (Below.refl _ _).drew
                  have HC0 : Hid (∃ x, wr.drew = f x) := hcov _ (Below.refl _ _).drew
                  have HNX : Hid (∀ x w', Below (f x).heap.size (f x) w' → ∃ y, w' = f y) := fun x w' hb => hcov w' ((hS x).trans (hb.mono (hS x).size))
                  have HBX : Hid (∀ x, Below wr.heap.size wr (f x)) := hS
                  obtain ⟨sa, sc, _hts, g0, g1, g2⟩ := AK.out.2 k hlt
                  have hbl := AK.out.1
                  obtain ⟨p, off, hpe, _, hcl⟩ := (HR.out.below BK.out).get (by omega)
                  have hlp : p < wr.heap.size := World.block_lt_of_cell? wr ⟨p, off + (t + k), none⟩ (hcl (t + k) hts)
                  have d0 : ∀ x, (f x).cell? ⟨b, k * 2, none⟩ = some (.int .i64 ((t + k : Nat) : Int)) := fun x => ((hS x).cell (p := ⟨b, _, none⟩) hbl).trans g0
                  have d1 : ∀ x, (f x).cell? ⟨b, k * 2 + 1, none⟩ = some (.slice sa ls[t + k].xs.length sc) := fun x => ((hS x).cell (p := ⟨b, _, none⟩) hbl).trans g1
                  have d2 : ∀ x, (f x).cell? ⟨p, off + (t + k), none⟩ = some (.slice ls[t + k].a ls[t + k].xs.length ls[t + k].cap) := fun x => ((hS x).cell (p := ⟨p, _, none⟩) hlp).trans (hcl (t + k) hts)
                  have hik := (HR.out.below BK.out).ok _ (List.getElem_mem hts)
                  have HSB : Hid (∀ x, _) := fun x => same_rd ls[t + k].xs hik.ln sa ls[t + k].a sc ls[t + k].cap (f x) (g2.below (hS x)) (hik.rd.below (hS x))
                  have HQX : Hid (∀ x, QO w (f x) n ls (t + j) n) := fun x => QK.out.below (hS x)
                  have HAX : Hid (∀ x, An (f x) b j t ls) := fun x => AK.out.below (hS x)
                  have HBW : Hid (∀ x, Below w.heap.size w (f x)) := fun x => bstep BK.out (hS x)
                  clear hcov hS g0 g1 g2 hcl hik hlp hbl
                  rw [hpe]
                  generalize ls[t + k].a = xa at *
                  generalize ls[t + k].cap = xc at *
                  generalize ls[t + k].xs.length = xn at *
                  obtain ⟨T, hT⟩ : ∃ T, T = t + k := ⟨_, rfl⟩
                  rw [← hT] at d0 d2 htn
                  have hTnI : (T : Int) < (n : Int) := by omega
                  have hge : decide ((T : Int) ≥ (n : Int)) = false := by simp; omega
                  have hge' : decide ((n : Int) ≤ (T : Int)) = false := hge
                  have hge2 : decide (n ≤ T) = false := by rw [decide_eq_false_iff_not]; omega
                  have hge3 : (n ≤ T) = False := eq_false (by omega)
                  have hTw : IntKind.i64.wrap ((T : Int) + 1) = ((t + (k + 1) : Nat) : Int) := by have := HNN.out; rw [IntKind.wrap_i64]; omega
                  have hTe : ((t + k : Nat) : Int) = (T : Int) := by rw [hT]
                  rw [hTe]
                  have HT := hide hT
                  clear hT hTe hpe hts
                  go_wp2
                  refine wp_region_class f (by kernel_rfl) (by kernel_rfl) HC0.out ?_
                  repeat (first
                    | go_big_quiet_skip
                    | (go_big_quiet_want; go_big_quiet_op; first
                        | go_big_quiet_on
                        | (apply Exists.intro
                           refine ⟨fun _ => ?_, ?_⟩
                           · (go_at_call 9; refine (HSB.out _).mono ?_; rintro e' wn ⟨rfl, hb⟩; exact ⟨rfl, HNX.out _ _ hb⟩)
                           go_big_quiet_on)))
                  refine wpQuiet_nil ?_
                  rintro _ ⟨x, rfl⟩
                  have QX := hide (HQX.out x)
                  have AX := hide (HAX.out x)
                  have BX := hide (HBW.out x)
                  clear d0 d1 d2 HNX HC0 HBX HQX HAX HBW HSB
                  go_wp2
                  go_roundw
                  case rel => exact ⟨k + 1, by omega, by go_num, rfl, AX.out, QX.out, BX.out⟩
                  case measure => simp [intOf]; omega
                · obtain rfl : k = j := by omega
                  clear AK
                  go_wp2
                  go_roundw
                  case rel => exact ⟨i + 1, t + k, by omega, by first | omega | (have := HJ.out; omega), by go_num, rfl, fun h => by have := HJ.out; have := HQL.out; omega, QK.out, BK.out⟩
                  case measure => first | (simp [intOf]; done) | (simp [intOf]; omega)
            · skip
              have HS1 := hide (HS.out wr t 64 j QT.out hj)
              have HJ := hide hj
              clear hj
              go_wp2_with fail
              refine HS1.out.mono ?_
              rintro e w2 ⟨b, rfl, han, hq2, hf2⟩
              have A2 := hide han
              have Q2 := hide hq2
              have B2 := hide (BT.out.trans (hf2.below (fun b e => by omega) BT.out.size))
              clear han hq2 hf2
              have hjn : decide ((j : Int) > (64 : Int)) = false := by have := HJ.out; simp; omega
              have hjn' : decide ((64 : Int) < (j : Int)) = false := hjn
              have hjn2 : decide ((64 : Nat) < j) = false := by have := HJ.out; simp; omega
              have hjn3 : ((64 : Nat) < j) = False := by have := HJ.out; simp; omega
              have hj64 : j ≤ 64 := by have := HJ.out; omega
              go_wp2
              go_loopw [8, 13] (fun d i wr => ∃ k : Nat, k ≤ j ∧ i = .int .i64 k ∧ d = .int .i64 (t + k : Nat) ∧ An wr b j t ls ∧ QO w wr n ls (t + j) n ∧ Below w.heap.size w wr) (fun _ i _ => j - (intOf i).toNat)
              case atStart => exact ⟨0, Nat.zero_le _, rfl, by simp, A2.out, Q2.out, B2.out⟩
              case round =>
                obtain ⟨k, hk, rfl, rfl, han, hq, hb⟩ := hrel
                have AK := hide han
                have QK := hide hq
                have BK := hide hb
                clear han hq hb
                by_cases hlt : k < j
                · obtain ⟨sa, sc, hts, -, -, -⟩ := AK.out.2 k hlt
                  have htn : t + k < n := by have := HJ.out; omega
                  have hkI : (k : Int) < (j : Int) := by omega
                  obtain ⟨X, f, hX, hS, hcov⟩ := class_of (fun w' => Below wr.heap.size wr w') wr.drew (Below.refl _ _).drew
                  have HC0 : Hid (∃ x, wr.drew = f x) := hcov _ (Below.refl _ _).drew
                  have HNX : Hid (∀ x w', Below (f x).heap.size (f x) w' → ∃ y, w' = f y) := fun x w' hb => hcov w' ((hS x).trans (hb.mono (hS x).size))
                  have HBX : Hid (∀ x, Below wr.heap.size wr (f x)) := hS
                  obtain ⟨sa, sc, _hts, g0, g1, g2⟩ := AK.out.2 k hlt
                  have hbl := AK.out.1
                  obtain ⟨p, off, hpe, _, hcl⟩ := (HR.out.below BK.out).get (by omega)
                  have hlp : p < wr.heap.size := World.block_lt_of_cell? wr ⟨p, off + (t + k), none⟩ (hcl (t + k) hts)
                  have d0 : ∀ x, (f x).cell? ⟨b, k * 2, none⟩ = some (.int .i64 ((t + k : Nat) : Int)) := fun x => ((hS x).cell (p := ⟨b, _, none⟩) hbl).trans g0
                  have d1 : ∀ x, (f x).cell? ⟨b, k * 2 + 1, none⟩ = some (.slice sa ls[t + k].xs.length sc) := fun x => ((hS x).cell (p := ⟨b, _, none⟩) hbl).trans g1
                  have d2 : ∀ x, (f x).cell? ⟨p, off + (t + k), none⟩ = some (.slice ls[t + k].a ls[t + k].xs.length ls[t + k].cap) := fun x => ((hS x).cell (p := ⟨p, _, none⟩) hlp).trans (hcl (t + k) hts)
                  have hik := (HR.out.below BK.out).ok _ (List.getElem_mem hts)
                  have HSB : Hid (∀ x, _) := fun x => same_rd ls[t + k].xs hik.ln sa ls[t + k].a sc ls[t + k].cap (f x) (g2.below (hS x)) (hik.rd.below (hS x))
                  have HQX : Hid (∀ x, QO w (f x) n ls (t + j) n) := fun x => QK.out.below (hS x)
                  have HAX : Hid (∀ x, An (f x) b j t ls) := fun x => AK.out.below (hS x)
                  have HBW : Hid (∀ x, Below w.heap.size w (f x)) := fun x => bstep BK.out (hS x)
                  clear hcov hS g0 g1 g2 hcl hik hlp hbl
                  rw [hpe]
                  generalize ls[t + k].a = xa at *
                  generalize ls[t + k].cap = xc at *
                  generalize ls[t + k].xs.length = xn at *
                  obtain ⟨T, hT⟩ : ∃ T, T = t + k := ⟨_, rfl⟩
                  rw [← hT] at d0 d2 htn
                  have hTnI : (T : Int) < (n : Int) := by omega
                  have hge : decide ((T : Int) ≥ (n : Int)) = false := by simp; omega
                  have hge' : decide ((n : Int) ≤ (T : Int)) = false := hge
                  have hge2 : decide (n ≤ T) = false := by rw [decide_eq_false_iff_not]; omega
                  have hge3 : (n ≤ T) = False := eq_false (by omega)
                  have hTw : IntKind.i64.wrap ((T : Int) + 1) = ((t + (k + 1) : Nat) : Int) := by have := HNN.out; rw [IntKind.wrap_i64]; omega
                  have hTe : ((t + k : Nat) : Int) = (T : Int) := by rw [hT]
                  rw [hTe]
                  have HT := hide hT
                  clear hT hTe hpe hts
                  go_wp2
                  refine wp_region_class f (by kernel_rfl) (by kernel_rfl) HC0.out ?_
                  repeat (first
                    | go_big_quiet_skip
                    | (go_big_quiet_want; go_big_quiet_op; first
                        | go_big_quiet_on
                        | (apply Exists.intro
                           refine ⟨fun _ => ?_, ?_⟩
                           · (go_at_call 9; refine (HSB.out _).mono ?_; rintro e' wn ⟨rfl, hb⟩; exact ⟨rfl, HNX.out _ _ hb⟩)
                           go_big_quiet_on)))
                  refine wpQuiet_nil ?_
                  rintro _ ⟨x, rfl⟩
                  have QX := hide (HQX.out x)
                  have AX := hide (HAX.out x)
                  have BX := hide (HBW.out x)
                  clear d0 d1 d2 HNX HC0 HBX HQX HAX HBW HSB
                  go_wp2
                  go_roundw
                  case rel => exact ⟨k + 1, by omega, by go_num, rfl, AX.out, QX.out, BX.out⟩
                  case measure => simp [intOf]; omega
                · obtain rfl : k = j := by omega
                  clear AK
                  go_wp2
                  go_roundw
                  case rel => exact ⟨i + 1, t + k, by omega, by first | omega | (have := HJ.out; omega), by go_num, rfl, fun h => by have := HJ.out; have := HQL.out; omega, QK.out, BK.out⟩
                  case measure => first | (simp [intOf]; done) | (simp [intOf]; omega)
        · obtain rfl : i = M + 1 := by omega
          obtain rfl := HE.out rfl
          have HLX : Hid (((M + 1 ≤ xs.length) = False) ∨ ((M + 1 ≤ xs.length) = True ∧ decide (((M + 1 : Nat) : Int) < 300) = false)) := by
            show _ ∨ _
            have hM := HM.out
            by_cases h : xs.length ≤ 299
            · exact .inl (by simp; omega)
            · exact .inr ⟨by simp; omega, by simp; omega⟩
          have HL1 := HLN.out _ QT.out
          rw [Nat.sub_self] at HL1
          have HLL := hide HL1
          clear HL1
          generalize M + 1 = I at *
          rcases HLX.out with l3 | ⟨l3, l4⟩
          · go_wp2_with fail
            refine HLL.out.mono ?_
            rintro e w3 ⟨rfl, rfl⟩
            go_wp2_with fail
            refine (HV.out _).mono ?_
            rintro e w4 ⟨rfl, hb⟩
            go_wp2
            go_ret
            exact ⟨rfl, bstep BT.out hb⟩
          · go_wp2_with fail
            refine HLL.out.mono ?_
            rintro e w3 ⟨rfl, rfl⟩
            go_wp2_with fail
            refine (HV.out _).mono ?_
            rintro e w4 ⟨rfl, hb⟩
            go_wp2
            go_ret
            exact ⟨rfl, bstep BT.out hb⟩
set_option maxRecDepth 100000 in
set_option maxHeartbeats 8000000 in
theorem queueOrder_long (a0 : Option Addr) (len0 cap0 n : Nat) (ls : List It) (hl : 64 < len0 ∧ n = 64 ∧ 64 ≤ cap0) (hnl : n ≤ ls.length) (hn64 : n ≤ 64) (a1 : Option Addr) (cap1 : Nat) (xs : List Nat) (hxs : ∀ y ∈ xs, y < 256) (w : World) (hr0 : RdL w a0 ls) (hr1 : RdA w a1 xs) : Calls Try.prog 3 #[.slice a0 len0 cap0, .slice a1 xs.length cap1] w fun e w' => e = .returned (.bool true) ∧ Below w.heap.size w w' := by
  have HN := hide (new_yes n w hn64)
  have HV : Hid (∀ W, _) := fun W => lives_any W
  have HR := hide hr0
  have HR1 := hide hr1
  have HXS := hide hxs
  have HNN := hide hn64
  have HP : Hid (∀ W k, QO w W n ls 0 k → k < n → ∀ hk2 : k < ls.length, ItOk W ls[k] → _) := fun W k h h1 h2 h3 => put_o h h1 h2 h3
  have HPF : Hid (∀ W, QO w W n ls 0 n → _) := fun W h => put_of h 0 none 0 0
  have HS : Hid (∀ W t k j, QO w W n ls t n → j = min k (n - t) → _) := fun W t k j h e => send_o h k j e
  have HLN : Hid (∀ W, QO w W n ls n n → _) := fun W h => len_o h
  obtain ⟨hl1, hn, hl3⟩ := hl
  have e0 : decide ((len0 : Int) > 64) = true := by simp; omega
  have hl3I : (64 : Int) ≤ (cap0 : Int) := by omega
  obtain ⟨q0, rfl⟩ : ∃ q, a0 = some q := by
    rcases hr0.rd with h | ⟨p, off, h, _⟩
    · rw [h] at hnl; simp at hnl; omega
    · exact ⟨_, h⟩
  have HNE := hide hn
  have HSL : Hid (Value.slice (some q0) 64 cap0 = Value.slice (some q0) n cap0) := by show _ = _; rw [hn]
  clear hn HN
  have HN : Hid (Calls Try.prog 6 #[.int .i64 64] w _) := new_yes 64 w (by decide)
  clear hr0 hr1 hxs
  obtain ⟨M, hM⟩ : ∃ M, M = min xs.length 299 := ⟨_, rfl⟩
  have HM := hide hM
  clear hM
  go_enter Try.func3, Try.ntmps3
  go_wp2_with fail
  rw [HSL.out]
  refine HN.out.mono ?_
  rintro e w1 ⟨rfl, hq, hb⟩
  rw [← HNE.out] at hq
  have Q1 : Hid (QO w w1 n ls 0 0) := ⟨0, [], hq, rfl, fun i hi => absurd hi (by simp)⟩
  have B1 := hide hb
  clear hq hb
  go_wp2
  go_loopw [7] (fun i wr => ∃ k : Nat, k ≤ n ∧ i = .int .i64 k ∧ QO w wr n ls 0 k ∧ Below w.heap.size w wr) (fun i _ => n - (intOf i).toNat)
  case atStart => exact ⟨0, Nat.zero_le _, rfl, Q1.out, B1.out⟩
  case round =>
    obtain ⟨k, hk, rfl, hq, hb⟩ := hrel
    have QK := hide hq
    have BK := hide hb
    clear hq hb
    by_cases hlt : k < n
    · have hkl : k < ls.length := by omega
      have hkI : (k : Int) < (n : Int) := by omega
      have hrk := HR.out.below BK.out
      have HPK := hide (HP.out _ _ QK.out hlt hkl (hrk.ok _ (List.getElem_mem hkl)))
      obtain ⟨p, off, hpe, _, hcl⟩ := hrk.get (by omega)
      have c0 := hcl k hkl
      rw [hpe]
      clear hcl hrk hpe
      generalize ls[k].a = xa at *
      generalize ls[k].cap = xc at *
      generalize ls[k].xs.length = xn at *
      go_wp2_with fail
      refine HPK.out.mono ?_
      rintro e w2 ⟨rfl, hq2, hf2⟩
      have Q2 := hide hq2
      have B2 := hide (BK.out.trans (hf2.below (fun b e => by omega) BK.out.size))
      clear hq2 hf2
      go_wp2
      go_roundw
      case rel => exact ⟨k + 1, by omega, by go_num, Q2.out, B2.out⟩
      case measure => simp [intOf]; omega
    · obtain rfl : n = k := by omega
      have HPN := hide (HPF.out _ QK.out)
      go_wp2_with fail
      refine HPN.out.mono ?_
      rintro e w2 ⟨rfl, hb2⟩
      have Q2 := hide (QK.out.below hb2)
      have B2 := hide (bstep BK.out hb2)
      clear hb2 QK BK
      go_wp2
      go_loopw [8, 9] (fun d i wr => ∃ i' t : Nat, i' ≤ M + 1 ∧ t ≤ n ∧ i = .int .i64 i' ∧ d = .int .i64 t ∧ (i' = M + 1 → t = n) ∧ QO w wr n ls t n ∧ Below w.heap.size w wr) (fun _ i _ => M + 1 - (intOf i).toNat)
      case atStart => exact ⟨0, 0, Nat.zero_le _, Nat.zero_le _, rfl, rfl, fun h => by omega, Q2.out, B2.out⟩
      case round =>
        obtain ⟨i, t, hi, ht, rfl, rfl, hend, hq, hb⟩ := hrel
        have QT := hide hq
        have BT := hide hb
        have HE := hide hend
        clear hq hb hend
        by_cases hiM : i ≤ M
        · have hM := HM.out
          have l1 : decide ((i : Int) ≤ (xs.length : Int)) = true := by simp; omega
          have l2 : decide ((i : Int) < 300) = true := by simp; omega
          have l1n : (i ≤ xs.length) = True := by simp; omega
          have hMx : M ≤ xs.length ∧ M ≤ 299 := by omega
          have hi300 : i ≤ 299 := by omega
          clear hM
          by_cases hil : i < M
          · have l3 : decide ((i : Int) < (xs.length : Int)) = true := by simp; omega
            have l4 : decide ((i : Int) < 299) = true := by simp; omega
            have l3n : (i < xs.length) = True := by simp; omega
            have hix : i < xs.length := by omega
            have hiI : (i : Int) < (xs.length : Int) := by omega
            clear hMx
            obtain ⟨p1, o1, hp1, _, hc1⟩ := (HR1.out.below BT.out).some (by omega)
            have c1 := hc1 i hix
            have hx256 := HXS.out _ (List.getElem_mem hix)
            clear hc1
            rw [hp1]
            generalize xs[i] = x at *
            obtain ⟨m, hm⟩ : ∃ m, m = x % 5 := ⟨_, rfl⟩
            have m1 : (x : Int).tmod 5 = (m : Int) := by rw [hm]; exact (Int.ofNat_tmod _ _).symm
            have m2 : IntKind.u8.wrap (m : Int) = (m : Int) := by rw [IntKind.wrap_u8]; omega
            have m3 : IntKind.i64.wrap (m : Int) = (m : Int) := by rw [IntKind.wrap_i64]; omega
            obtain ⟨j, hj⟩ : ∃ j, j = min m (n - t) := ⟨_, rfl⟩
            clear hm hp1
            have HS1 := hide (HS.out wr t m j QT.out hj)
            have HJ := hide hj
            clear hj
            go_wp2_with fail
            refine HS1.out.mono ?_
            rintro e w2 ⟨b, rfl, han, hq2, hf2⟩
            have A2 := hide han
            have Q2 := hide hq2
            have B2 := hide (BT.out.trans (hf2.below (fun b e => by omega) BT.out.size))
            clear han hq2 hf2
            have hjn : decide ((j : Int) > (m : Int)) = false := by have := HJ.out; simp; omega
            have hjn' : decide ((m : Int) < (j : Int)) = false := hjn
            have hjn2 : decide ((m : Nat) < j) = false := by have := HJ.out; simp; omega
            have hjn3 : ((m : Nat) < j) = False := by have := HJ.out; simp; omega
            have hj64 : j ≤ 64 := by have := HJ.out; omega
            go_wp2
            go_loopw [8, 13] (fun d i wr => ∃ k : Nat, k ≤ j ∧ i = .int .i64 k ∧ d = .int .i64 (t + k : Nat) ∧ An wr b j t ls ∧ QO w wr n ls (t + j) n ∧ Below w.heap.size w wr) (fun _ i _ => j - (intOf i).toNat)
            case atStart => exact ⟨0, Nat.zero_le _, rfl, by simp, A2.out, Q2.out, B2.out⟩
            case round =>
              obtain ⟨k, hk, rfl, rfl, han, hq, hb⟩ := hrel
              have AK := hide han
              have QK := hide hq
              have BK := hide hb
              clear han hq hb
              by_cases hlt : k < j
              · obtain ⟨sa, sc, hts, -, -, -⟩ := AK.out.2 k hlt
                have htn : t + k < n := by have := HJ.out; omega
                have hkI : (k : Int) < (j : Int) := by omega
                obtain ⟨X, f, hX, hS, hcov⟩ := class_of (fun w' => Below wr.heap.size wr w') wr.drew (Below.refl _ _).drew
                have HC0 : Hid (∃ x, wr.drew = f x) := hcov _ (Below.refl _ _).drew
                have HNX : Hid (∀ x w', Below (f x).heap.size (f x) w' → ∃ y, w' = f y) := fun x w' hb => hcov w' ((hS x).trans (hb.mono (hS x).size))
                have HBX : Hid (∀ x, Below wr.heap.size wr (f x)) := hS
                obtain ⟨sa, sc, _hts, g0, g1, g2⟩ := AK.out.2 k hlt
                have hbl := AK.out.1
                obtain ⟨p, off, hpe, _, hcl⟩ := (HR.out.below BK.out).get (by omega)
                have hlp : p < wr.heap.size := World.block_lt_of_cell? wr ⟨p, off + (t + k), none⟩ (hcl (t + k) hts)
                have d0 : ∀ x, (f x).cell? ⟨b, k * 2, none⟩ = some (.int .i64 ((t + k : Nat) : Int)) := fun x => ((hS x).cell (p := ⟨b, _, none⟩) hbl).trans g0
                have d1 : ∀ x, (f x).cell? ⟨b, k * 2 + 1, none⟩ = some (.slice sa ls[t + k].xs.length sc) := fun x => ((hS x).cell (p := ⟨b, _, none⟩) hbl).trans g1
                have d2 : ∀ x, (f x).cell? ⟨p, off + (t + k), none⟩ = some (.slice ls[t + k].a ls[t + k].xs.length ls[t + k].cap) := fun x => ((hS x).cell (p := ⟨p, _, none⟩) hlp).trans (hcl (t + k) hts)
                have hik := (HR.out.below BK.out).ok _ (List.getElem_mem hts)
                have HSB : Hid (∀ x, _) := fun x => same_rd ls[t + k].xs hik.ln sa ls[t + k].a sc ls[t + k].cap (f x) (g2.below (hS x)) (hik.rd.below (hS x))
                have HQX : Hid (∀ x, QO w (f x) n ls (t + j) n) := fun x => QK.out.below (hS x)
                have HAX : Hid (∀ x, An (f x) b j t ls) := fun x => AK.out.below (hS x)
                have HBW : Hid (∀ x, Below w.heap.size w (f x)) := fun x => bstep BK.out (hS x)
                clear hcov hS g0 g1 g2 hcl hik hlp hbl
                rw [hpe]
                generalize ls[t + k].a = xa at *
                generalize ls[t + k].cap = xc at *
                generalize ls[t + k].xs.length = xn at *
                obtain ⟨T, hT⟩ : ∃ T, T = t + k := ⟨_, rfl⟩
                rw [← hT] at d0 d2 htn
                have hTnI : (T : Int) < (n : Int) := by omega
                have hge : decide ((T : Int) ≥ (n : Int)) = false := by simp; omega
                have hge' : decide ((n : Int) ≤ (T : Int)) = false := hge
                have hge2 : decide (n ≤ T) = false := by rw [decide_eq_false_iff_not]; omega
                have hge3 : (n ≤ T) = False := eq_false (by omega)
                have hTw : IntKind.i64.wrap ((T : Int) + 1) = ((t + (k + 1) : Nat) : Int) := by have := HNN.out; rw [IntKind.wrap_i64]; omega
                have hTe : ((t + k : Nat) : Int) = (T : Int) := by rw [hT]
                rw [hTe]
                have HT := hide hT
                clear hT hTe hpe hts
                go_wp2
                refine wp_region_class f (by kernel_rfl) (by kernel_rfl) HC0.out ?_
                repeat (first
                  | go_big_quiet_skip
                  | (go_big_quiet_want; go_big_quiet_op; first
                      | go_big_quiet_on
                      | (apply Exists.intro
                         refine ⟨fun _ => ?_, ?_⟩
                         · (go_at_call 9; refine (HSB.out _).mono ?_; rintro e' wn ⟨rfl, hb⟩; exact ⟨rfl, HNX.out _ _ hb⟩)
                         go_big_quiet_on)))
                refine wpQuiet_nil ?_
                rintro _ ⟨x, rfl⟩
                have QX := hide (HQX.out x)
                have AX := hide (HAX.out x)
                have BX := hide (HBW.out x)
                clear d0 d1 d2 HNX HC0 HBX HQX HAX HBW HSB
                go_wp2
                go_roundw
                case rel => exact ⟨k + 1, by omega, by go_num, rfl, AX.out, QX.out, BX.out⟩
                case measure => simp [intOf]; omega
              · obtain rfl : k = j := by omega
                clear AK
                go_wp2
                go_roundw
                case rel => exact ⟨i + 1, t + k, by omega, by have := HJ.out; omega, by go_num, rfl, fun h => by omega, QK.out, BK.out⟩
                case measure => first | (simp [intOf]; done) | (simp [intOf]; omega)
          · obtain rfl : i = M := by omega
            have HL34 : Hid (((i < xs.length) = False) ∨ ((i < xs.length) = True ∧ decide ((i : Int) < 299) = false)) := by
              show _ ∨ _
              have hM := HM.out
              by_cases h : xs.length ≤ 299
              · exact .inl (by simp; omega)
              · exact .inr ⟨by simp; omega, by simp; omega⟩
            clear hMx
            obtain ⟨j, hj⟩ : ∃ j, j = min 64 (n - t) := ⟨_, rfl⟩
            have HQL := hide QT.out.le
            rcases HL34.out with l3 | ⟨l3, l4⟩
            · skip
              have HS1 := hide (HS.out wr t 64 j QT.out hj)
              have HJ := hide hj
              clear hj
              go_wp2_with fail
              refine HS1.out.mono ?_
              rintro e w2 ⟨b, rfl, han, hq2, hf2⟩
              have A2 := hide han
              have Q2 := hide hq2
              have B2 := hide (BT.out.trans (hf2.below (fun b e => by omega) BT.out.size))
              clear han hq2 hf2
              have hjn : decide ((j : Int) > (64 : Int)) = false := by have := HJ.out; simp; omega
              have hjn' : decide ((64 : Int) < (j : Int)) = false := hjn
              have hjn2 : decide ((64 : Nat) < j) = false := by have := HJ.out; simp; omega
              have hjn3 : ((64 : Nat) < j) = False := by have := HJ.out; simp; omega
              have hj64 : j ≤ 64 := by have := HJ.out; omega
              go_wp2
              go_loopw [8, 13] (fun d i wr => ∃ k : Nat, k ≤ j ∧ i = .int .i64 k ∧ d = .int .i64 (t + k : Nat) ∧ An wr b j t ls ∧ QO w wr n ls (t + j) n ∧ Below w.heap.size w wr) (fun _ i _ => j - (intOf i).toNat)
              case atStart => exact ⟨0, Nat.zero_le _, rfl, by simp, A2.out, Q2.out, B2.out⟩
              case round =>
                obtain ⟨k, hk, rfl, rfl, han, hq, hb⟩ := hrel
                have AK := hide han
                have QK := hide hq
                have BK := hide hb
                clear han hq hb
                by_cases hlt : k < j
                · obtain ⟨sa, sc, hts, -, -, -⟩ := AK.out.2 k hlt
                  have htn : t + k < n := by have := HJ.out; omega
                  have hkI : (k : Int) < (j : Int) := by omega
                  obtain ⟨X, f, hX, hS, hcov⟩ := class_of (fun w' => Below wr.heap.size wr w') wr.drew (Below.refl _ _).drew
                  have HC0 : Hid (∃ x, wr.drew = f x) := hcov _ (Below.refl _ _).drew
                  have HNX : Hid (∀ x w', Below (f x).heap.size (f x) w' → ∃ y, w' = f y) := fun x w' hb => hcov w' ((hS x).trans (hb.mono (hS x).size))
                  have HBX : Hid (∀ x, Below wr.heap.size wr (f x)) := hS
                  obtain ⟨sa, sc, _hts, g0, g1, g2⟩ := AK.out.2 k hlt
                  have hbl := AK.out.1
                  obtain ⟨p, off, hpe, _, hcl⟩ := (HR.out.below BK.out).get (by omega)
                  have hlp : p < wr.heap.size := World.block_lt_of_cell? wr ⟨p, off + (t + k), none⟩ (hcl (t + k) hts)
                  have d0 : ∀ x, (f x).cell? ⟨b, k * 2, none⟩ = some (.int .i64 ((t + k : Nat) : Int)) := fun x => ((hS x).cell (p := ⟨b, _, none⟩) hbl).trans g0
                  have d1 : ∀ x, (f x).cell? ⟨b, k * 2 + 1, none⟩ = some (.slice sa ls[t + k].xs.length sc) := fun x => ((hS x).cell (p := ⟨b, _, none⟩) hbl).trans g1
                  have d2 : ∀ x, (f x).cell? ⟨p, off + (t + k), none⟩ = some (.slice ls[t + k].a ls[t + k].xs.length ls[t + k].cap) := fun x => ((hS x).cell (p := ⟨p, _, none⟩) hlp).trans (hcl (t + k) hts)
                  have hik := (HR.out.below BK.out).ok _ (List.getElem_mem hts)
                  have HSB : Hid (∀ x, _) := fun x => same_rd ls[t + k].xs hik.ln sa ls[t + k].a sc ls[t + k].cap (f x) (g2.below (hS x)) (hik.rd.below (hS x))
                  have HQX : Hid (∀ x, QO w (f x) n ls (t + j) n) := fun x => QK.out.below (hS x)
                  have HAX : Hid (∀ x, An (f x) b j t ls) := fun x => AK.out.below (hS x)
                  have HBW : Hid (∀ x, Below w.heap.size w (f x)) := fun x => bstep BK.out (hS x)
                  clear hcov hS g0 g1 g2 hcl hik hlp hbl
                  rw [hpe]
                  generalize ls[t + k].a = xa at *
                  generalize ls[t + k].cap = xc at *
                  generalize ls[t + k].xs.length = xn at *
                  obtain ⟨T, hT⟩ : ∃ T, T = t + k := ⟨_, rfl⟩
                  rw [← hT] at d0 d2 htn
                  have hTnI : (T : Int) < (n : Int) := by omega
                  have hge : decide ((T : Int) ≥ (n : Int)) = false := by simp; omega
                  have hge' : decide ((n : Int) ≤ (T : Int)) = false := hge
                  have hge2 : decide (n ≤ T) = false := by rw [decide_eq_false_iff_not]; omega
                  have hge3 : (n ≤ T) = False := eq_false (by omega)
                  have hTw : IntKind.i64.wrap ((T : Int) + 1) = ((t + (k + 1) : Nat) : Int) := by have := HNN.out; rw [IntKind.wrap_i64]; omega
                  have hTe : ((t + k : Nat) : Int) = (T : Int) := by rw [hT]
                  rw [hTe]
                  have HT := hide hT
                  clear hT hTe hpe hts
                  go_wp2
                  refine wp_region_class f (by kernel_rfl) (by kernel_rfl) HC0.out ?_
                  repeat (first
                    | go_big_quiet_skip
                    | (go_big_quiet_want; go_big_quiet_op; first
                        | go_big_quiet_on
                        | (apply Exists.intro
                           refine ⟨fun _ => ?_, ?_⟩
                           · (go_at_call 9; refine (HSB.out _).mono ?_; rintro e' wn ⟨rfl, hb⟩; exact ⟨rfl, HNX.out _ _ hb⟩)
                           go_big_quiet_on)))
                  refine wpQuiet_nil ?_
                  rintro _ ⟨x, rfl⟩
                  have QX := hide (HQX.out x)
                  have AX := hide (HAX.out x)
                  have BX := hide (HBW.out x)
                  clear d0 d1 d2 HNX HC0 HBX HQX HAX HBW HSB
                  go_wp2
                  go_roundw
                  case rel => exact ⟨k + 1, by omega, by go_num, rfl, AX.out, QX.out, BX.out⟩
                  case measure => simp [intOf]; omega
                · obtain rfl : k = j := by omega
                  clear AK
                  go_wp2
                  go_roundw
                  case rel => exact ⟨i + 1, t + k, by omega, by first | omega | (have := HJ.out; omega), by go_num, rfl, fun h => by have := HJ.out; have := HQL.out; omega, QK.out, BK.out⟩
                  case measure => first | (simp [intOf]; done) | (simp [intOf]; omega)
            · skip
              have HS1 := hide (HS.out wr t 64 j QT.out hj)
              have HJ := hide hj
              clear hj
              go_wp2_with fail
              refine HS1.out.mono ?_
              rintro e w2 ⟨b, rfl, han, hq2, hf2⟩
              have A2 := hide han
              have Q2 := hide hq2
              have B2 := hide (BT.out.trans (hf2.below (fun b e => by omega) BT.out.size))
              clear han hq2 hf2
              have hjn : decide ((j : Int) > (64 : Int)) = false := by have := HJ.out; simp; omega
              have hjn' : decide ((64 : Int) < (j : Int)) = false := hjn
              have hjn2 : decide ((64 : Nat) < j) = false := by have := HJ.out; simp; omega
              have hjn3 : ((64 : Nat) < j) = False := by have := HJ.out; simp; omega
              have hj64 : j ≤ 64 := by have := HJ.out; omega
              go_wp2
              go_loopw [8, 13] (fun d i wr => ∃ k : Nat, k ≤ j ∧ i = .int .i64 k ∧ d = .int .i64 (t + k : Nat) ∧ An wr b j t ls ∧ QO w wr n ls (t + j) n ∧ Below w.heap.size w wr) (fun _ i _ => j - (intOf i).toNat)
              case atStart => exact ⟨0, Nat.zero_le _, rfl, by simp, A2.out, Q2.out, B2.out⟩
              case round =>
                obtain ⟨k, hk, rfl, rfl, han, hq, hb⟩ := hrel
                have AK := hide han
                have QK := hide hq
                have BK := hide hb
                clear han hq hb
                by_cases hlt : k < j
                · obtain ⟨sa, sc, hts, -, -, -⟩ := AK.out.2 k hlt
                  have htn : t + k < n := by have := HJ.out; omega
                  have hkI : (k : Int) < (j : Int) := by omega
                  obtain ⟨X, f, hX, hS, hcov⟩ := class_of (fun w' => Below wr.heap.size wr w') wr.drew (Below.refl _ _).drew
                  have HC0 : Hid (∃ x, wr.drew = f x) := hcov _ (Below.refl _ _).drew
                  have HNX : Hid (∀ x w', Below (f x).heap.size (f x) w' → ∃ y, w' = f y) := fun x w' hb => hcov w' ((hS x).trans (hb.mono (hS x).size))
                  have HBX : Hid (∀ x, Below wr.heap.size wr (f x)) := hS
                  obtain ⟨sa, sc, _hts, g0, g1, g2⟩ := AK.out.2 k hlt
                  have hbl := AK.out.1
                  obtain ⟨p, off, hpe, _, hcl⟩ := (HR.out.below BK.out).get (by omega)
                  have hlp : p < wr.heap.size := World.block_lt_of_cell? wr ⟨p, off + (t + k), none⟩ (hcl (t + k) hts)
                  have d0 : ∀ x, (f x).cell? ⟨b, k * 2, none⟩ = some (.int .i64 ((t + k : Nat) : Int)) := fun x => ((hS x).cell (p := ⟨b, _, none⟩) hbl).trans g0
                  have d1 : ∀ x, (f x).cell? ⟨b, k * 2 + 1, none⟩ = some (.slice sa ls[t + k].xs.length sc) := fun x => ((hS x).cell (p := ⟨b, _, none⟩) hbl).trans g1
                  have d2 : ∀ x, (f x).cell? ⟨p, off + (t + k), none⟩ = some (.slice ls[t + k].a ls[t + k].xs.length ls[t + k].cap) := fun x => ((hS x).cell (p := ⟨p, _, none⟩) hlp).trans (hcl (t + k) hts)
                  have hik := (HR.out.below BK.out).ok _ (List.getElem_mem hts)
                  have HSB : Hid (∀ x, _) := fun x => same_rd ls[t + k].xs hik.ln sa ls[t + k].a sc ls[t + k].cap (f x) (g2.below (hS x)) (hik.rd.below (hS x))
                  have HQX : Hid (∀ x, QO w (f x) n ls (t + j) n) := fun x => QK.out.below (hS x)
                  have HAX : Hid (∀ x, An (f x) b j t ls) := fun x => AK.out.below (hS x)
                  have HBW : Hid (∀ x, Below w.heap.size w (f x)) := fun x => bstep BK.out (hS x)
                  clear hcov hS g0 g1 g2 hcl hik hlp hbl
                  rw [hpe]
                  generalize ls[t + k].a = xa at *
                  generalize ls[t + k].cap = xc at *
                  generalize ls[t + k].xs.length = xn at *
                  obtain ⟨T, hT⟩ : ∃ T, T = t + k := ⟨_, rfl⟩
                  rw [← hT] at d0 d2 htn
                  have hTnI : (T : Int) < (n : Int) := by omega
                  have hge : decide ((T : Int) ≥ (n : Int)) = false := by simp; omega
                  have hge' : decide ((n : Int) ≤ (T : Int)) = false := hge
                  have hge2 : decide (n ≤ T) = false := by rw [decide_eq_false_iff_not]; omega
                  have hge3 : (n ≤ T) = False := eq_false (by omega)
                  have hTw : IntKind.i64.wrap ((T : Int) + 1) = ((t + (k + 1) : Nat) : Int) := by have := HNN.out; rw [IntKind.wrap_i64]; omega
                  have hTe : ((t + k : Nat) : Int) = (T : Int) := by rw [hT]
                  rw [hTe]
                  have HT := hide hT
                  clear hT hTe hpe hts
                  go_wp2
                  refine wp_region_class f (by kernel_rfl) (by kernel_rfl) HC0.out ?_
                  repeat (first
                    | go_big_quiet_skip
                    | (go_big_quiet_want; go_big_quiet_op; first
                        | go_big_quiet_on
                        | (apply Exists.intro
                           refine ⟨fun _ => ?_, ?_⟩
                           · (go_at_call 9; refine (HSB.out _).mono ?_; rintro e' wn ⟨rfl, hb⟩; exact ⟨rfl, HNX.out _ _ hb⟩)
                           go_big_quiet_on)))
                  refine wpQuiet_nil ?_
                  rintro _ ⟨x, rfl⟩
                  have QX := hide (HQX.out x)
                  have AX := hide (HAX.out x)
                  have BX := hide (HBW.out x)
                  clear d0 d1 d2 HNX HC0 HBX HQX HAX HBW HSB
                  go_wp2
                  go_roundw
                  case rel => exact ⟨k + 1, by omega, by go_num, rfl, AX.out, QX.out, BX.out⟩
                  case measure => simp [intOf]; omega
                · obtain rfl : k = j := by omega
                  clear AK
                  go_wp2
                  go_roundw
                  case rel => exact ⟨i + 1, t + k, by omega, by first | omega | (have := HJ.out; omega), by go_num, rfl, fun h => by have := HJ.out; have := HQL.out; omega, QK.out, BK.out⟩
                  case measure => first | (simp [intOf]; done) | (simp [intOf]; omega)
        · obtain rfl : i = M + 1 := by omega
          obtain rfl := HE.out rfl
          have HLX : Hid (((M + 1 ≤ xs.length) = False) ∨ ((M + 1 ≤ xs.length) = True ∧ decide (((M + 1 : Nat) : Int) < 300) = false)) := by
            show _ ∨ _
            have hM := HM.out
            by_cases h : xs.length ≤ 299
            · exact .inl (by simp; omega)
            · exact .inr ⟨by simp; omega, by simp; omega⟩
          have HL1 := HLN.out _ QT.out
          rw [Nat.sub_self] at HL1
          have HLL := hide HL1
          clear HL1
          generalize M + 1 = I at *
          rcases HLX.out with l3 | ⟨l3, l4⟩
          · go_wp2_with fail
            refine HLL.out.mono ?_
            rintro e w3 ⟨rfl, rfl⟩
            go_wp2_with fail
            refine (HV.out _).mono ?_
            rintro e w4 ⟨rfl, hb⟩
            go_wp2
            go_ret
            exact ⟨rfl, bstep BT.out hb⟩
          · go_wp2_with fail
            refine HLL.out.mono ?_
            rintro e w3 ⟨rfl, rfl⟩
            go_wp2_with fail
            refine (HV.out _).mono ?_
            rintro e w4 ⟨rfl, hb⟩
            go_wp2
            go_ret
            exact ⟨rfl, bstep BT.out hb⟩
end Go.Proofs.Ytnihneicoikdhaa
