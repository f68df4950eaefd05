/- Pieces of the proof: RWg, LN. -/
import Derived.Test.YtfanhdjebmdniaaGreatDoorM11
import Derived.Test.YtfanhdjebmdniaaGreatDoorM7
/- The document's lex: Words. -/
namespace Go.Proofs.YtfanhdjebmdniaaGreatDoor
open Go.RowKit

def tkS (R : List UInt8) (n : Nat) : LR := tk (skip R) (n + c10 R - c10 (skip R))
theorem toks_tkS (s : List UInt8) : toks s = tkS s 0 := by unfold toks tkS; rw [Nat.zero_add]
theorem tkS_nil (n : Nat) : tkS [] n = .ok [] := by
  unfold tkS
  rw [show skip [] = [] from rfl, tk_nil]
theorem tkS_bl {c : UInt8} {R : List UInt8} {n : Nat} (h : isBl c = true) : tkS (c :: R) n = tkS R (n + if c = 10 then 1 else 0) := by
  unfold tkS
  have e : skip (c :: R) = skip R := by unfold skip; rw [List.dropWhile_cons, if_pos h]
  have e2 : c10 (c :: R) = c10 R + if c = 10 then 1 else 0 := by unfold c10; rw [List.count_cons]; simp
  rw [e, e2]
  congr 1
  omega
theorem isBl_47 : isBl 47 = false := by decide +kernel
theorem n10_take (l : List UInt8) : c10 (l.takeWhile n10) = 0 := by
  unfold c10
  rw [List.count_eq_zero]
  intro h
  have h2 := List.all_takeWhile (p := n10) (l := l)
  rw [List.all_eq_true] at h2
  have h3 := h2 10 h
  have h4 : n10 10 = false := by decide +kernel
  rw [h4] at h3
  cases h3
theorem tkS_rem {R : List UInt8} {n : Nat} (h : isRem R = true) : tkS R n = tkS (R.dropWhile n10) n := by
  have e : skip R = skip (R.dropWhile n10) := by
    obtain ⟨R', rfl⟩ := isRem_cons h
    unfold skip
    rw [List.dropWhile_cons, if_neg (by rw [isBl_47]; decide), skR_yes h]
  have e2 := dropW_c10 n10 R
  rw [n10_take, Nat.zero_add] at e2
  unfold tkS
  rw [e, e2]
theorem tkS_word {c : UInt8} {R : List UInt8} {n : Nat} (h1 : isBl c = false) (h2 : isRem (c :: R) = false) : tkS (c :: R) n = tk (c :: R) n := by
  unfold tkS
  have e : skip (c :: R) = c :: R := by unfold skip; rw [List.dropWhile_cons, if_neg (by rw [h1]; decide), skR_no h2]
  rw [e, Nat.add_sub_cancel]
theorem bl_num (c : UInt8) : isBl c = (decide (c = 10) || decide (c = 32) || decide (c = 9)) := by
  have := u8_all (P := fun c => isBl c == (decide (c = 10) || decide (c = 32) || decide (c = 9))) (by decide +kernel) c
  exact eq_of_beq this
theorem n10_num (c : UInt8) : n10 c = !decide (c = 10) := by
  have := u8_all (P := fun c => n10 c == !decide (c = 10)) (by decide +kernel) c
  exact eq_of_beq this
theorem beq47 (a : UInt8) : ((47 : UInt8) == a) = decide (a = 47) := by
  by_cases h : a = 47
  · subst h; rfl
  · rw [decide_eq_false h]; exact beq_eq_false_iff_ne.2 (fun e => h e.symm)
theorem isRem_two (a b : UInt8) (r : List UInt8) : isRem (a :: b :: r) = (decide (a = 47) && decide (b = 47)) := by
  unfold isRem Lib.hasPrefix
  simp only [List.isPrefixOf, Bool.and_true]
  rw [beq47, beq47]
theorem isRem_one (a : UInt8) : isRem [a] = false := by
  unfold isRem Lib.hasPrefix
  simp [List.isPrefixOf]
theorem c_ne {c n : UInt8} (h : ¬ c = n) : (((c.toNat : Nat) : Int) == ((n.toNat : Nat) : Int)) = false := by
  cases hh : (((c.toNat : Nat) : Int) == ((n.toNat : Nat) : Int)) with
  | false => rfl
  | true => exact absurd (UInt8.toNat_inj.1 (Int.ofNat.inj (eq_of_beq hh))) h
/- What holds ahead of each round. -/
structure RW (s : List UInt8) (w wr : World) (k n : Nat) (v : Value) (acc : List (Wd × Nat)) : Prop where
  kl : k ≤ s.length
  nk : n ≤ k
  al : acc.length ≤ k
  tk : toks s = LR.app acc (tkS (s.drop k) n)
  ow : OwnW wr w.heap.size v acc
  bl : Below w.heap.size w wr
theorem RW.blank {s : List UInt8} {w wr : World} {k n : Nat} {v : Value} {acc : List (Wd × Nat)} {c : UInt8} {R : List UInt8} (h : RW s w wr k n v acc) (hcr : s.drop k = c :: R) (hb : isBl c = true) : RW s w wr (k + 1) (n + if c = 10 then 1 else 0) v acc := by
  have hl : (s.drop k).length = s.length - k := List.length_drop
  rw [hcr] at hl; simp at hl
  have hd : s.drop (k + 1) = R := by rw [← List.drop_drop, hcr]; rfl
  have hkn := h.nk
  have hal := h.al
  refine ⟨by omega, by split <;> omega, by omega, ?_, h.ow, h.bl⟩
  rw [h.tk, hcr, tkS_bl hb, hd]
theorem RW.remark {s : List UInt8} {w wr : World} {k k2 n : Nat} {v : Value} {acc : List (Wd × Nat)} (h : RW s w wr k n v acc) (hr : isRem (s.drop k) = true) (hk : k ≤ k2) (hk2 : k2 ≤ s.length) (hd : s.drop k2 = (s.drop k).dropWhile n10) : RW s w wr k2 n v acc :=
  ⟨hk2, Nat.le_trans h.nk hk, Nat.le_trans h.al hk, by rw [h.tk, tkS_rem hr, hd], h.ow, h.bl⟩
theorem RW.word {s : List UInt8} {w wr w' : World} {k n en : Nat} {v v' : Value} {acc : List (Wd × Nat)} {c : UInt8} {R : List UInt8} {x : Wd} (h : RW s w wr k n v acc) (hcr : s.drop k = c :: R) (hb : isBl c = false) (hr : isRem (c :: R) = false) (hx : (wdA (c :: R)).1 = some x) (hd : s.drop en = (wdA (c :: R)).2) (hen : en ≤ s.length) (ho : OwnW w' w.heap.size v' (acc ++ [(x, n)])) (hbl : Below w.heap.size w w') : RW s w w' en n v' (acc ++ [(x, n)]) ∧ k < en := by
  have hl : (s.drop k).length = s.length - k := List.length_drop
  have hl2 : (s.drop en).length = s.length - en := List.length_drop
  have hwd : wdA (c :: R) = (some x, (wdA (c :: R)).2) := by rw [← hx]
  have hless := wdA_less hwd
  rw [hcr] at hl
  rw [hd] at hl2
  have hke : k < en := by
    have : 0 < (c :: R).length := by simp
    omega
  have hkn := h.nk
  have hal := h.al
  refine ⟨⟨hen, by omega, by rw [List.length_append, List.length_singleton]; omega, ?_, ho, hbl⟩, hke⟩
  rw [h.tk, hcr, tkS_word hb hr, tk_some (by simp) hwd, LR.app_app, hd]
  rfl
theorem RW.none {s : List UInt8} {w wr : World} {k n : Nat} {v : Value} {acc : List (Wd × Nat)} {c : UInt8} {R : List UInt8} (h : RW s w wr k n v acc) (hcr : s.drop k = c :: R) (hb : isBl c = false) (hr : isRem (c :: R) = false) (hx : (wdA (c :: R)).1 = Option.none) : toks s = .error n := by
  have hwd : wdA (c :: R) = (Option.none, (wdA (c :: R)).2) := by rw [← hx]
  rw [h.tk, hcr, tkS_word hb hr, tk_none (by simp) hwd]
  rfl
theorem RW.done {s : List UInt8} {w wr : World} {k n : Nat} {v : Value} {acc : List (Wd × Nat)} (h : RW s w wr k n v acc) (hk : s.length ≤ k) : toks s = .ok acc := by
  rw [h.tk, List.drop_eq_nil_of_le hk, tkS_nil]
  simp [LR.app]
theorem below_of_grown {W W' : World} {B e c n : Nat} {v v' : Value} {xs : List Value} (ho : W.ownsRow B e c v n xs) (hB : B ≤ W.heap.size) (hd : (v'.ownBlock = v.ownBlock ∧ W.grownBy W' v.ownBlock) ∨ (W.grownBy W' none ∧ ∀ b, v'.ownBlock = some b → W.heap.size ≤ b)) : Below B W W' := by
  rcases hd with ⟨_, hg⟩ | ⟨hg, _⟩
  · exact (Fr.grown (E := fun b => B ≤ b) hg (fun r er => (World.ownsRow.lt ho r er).1)).below (fun b e => e) hB
  · exact (Fr.grown (E := fun _ => False) hg (fun r e => by cases e)).below (fun b e => e.elim) hB
theorem get_at {s : List UInt8} {k : Nat} (hk : k < s.length) : ∃ c R, s.drop k = c :: R ∧ ∀ h : k < (txt s).size, (txt s)[k] = c := by
  cases hcr : s.drop k with
  | nil => have hl : (s.drop k).length = s.length - k := List.length_drop
           rw [hcr] at hl; simp at hl; omega
  | cons c R => exact ⟨c, R, rfl, fun h => get_txt hcr h⟩
set_option maxHeartbeats 8000000 in
set_option maxRecDepth 100000 in
theorem wordsR (s : List UInt8) (w : World) (hmx : s.length ≤ 9223372036854775807) :
    Calls Tryz.prog 8 #[.string (txt s)] w fun e w' => WordsPost s w e w' := by
  unfold WordsPost
  have hsz := txt_size s
  by_cases hbig : 65536 < s.length
  · have hbI : (65536 : Int) < ((txt s).size : Int) := by omega
    generalize txt s = T at *
    have HS := hide hbig
    clear hbig hsz
    go_enter Tryz.func8, Tryz.ntmps8
    go_wp2
    refine bodyPost_ret (v := .tuple #[.slice none 0 0, .int .i64 0, .int .i64 3]) (by simp [results, Tryz.results8, go_sem]) rfl ⟨Below.refl _ _, .inl ⟨HS.out, rfl⟩⟩
  · have hbI : ¬ ((65536 : Int) < ((txt s).size : Int)) := by omega
    have hle : s.length ≤ 65536 := by omega
    have HLE := hide hle
    have HWd : Hid (∀ (k : Nat) W, k < s.length → _) := fun k W hk => wordR s k W (by omega) hk
    have HGet : Hid (∀ k, k < s.length → ∃ c R, s.drop k = c :: R ∧ ∀ h : k < (txt s).size, (txt s)[k] = c) := fun k hk => get_at hk
    have HSz := hide hsz
    obtain ⟨i0, hi0, hz0, hz1, hz2⟩ := info_parts infoW
    generalize hTT : txt s = T at *
    clear hTT hbig hsz hle hmx
    go_enter Tryz.func8, Tryz.ntmps8
    go_wp2
    go_loopg [5, 6, 7] (s.length + 1) (fun g v ln at_ wr => ∃ (k n : Nat) (acc : List (Wd × Nat)), s.length < g + k ∧ ln = .int .i64 (n : Int) ∧ at_ = .int .i64 (k : Int) ∧ Hid (RW s w wr k n v acc))
    case atStart => exact ⟨0, 0, [], by omega, rfl, rfl, ⟨Nat.zero_le _, Nat.le_refl _, Nat.le_refl _, by rw [LR.app_nil, List.drop_zero, toks_tkS], OwnW.nil _ _, Below.refl _ _⟩⟩
    case round =>
      obtain ⟨k, n, acc, hg, rfl, rfl, HR⟩ := hrel
      have HG := hide hg
      clear hg
      have hkl := HR.out.kl
      have hnk := HR.out.nk
      have hL := HLE.out
      by_cases hk : k < s.length
      · obtain ⟨c, R, hcr, hgt⟩ := HGet.out k hk
        have hkT : k < T.size := by have := HSz.out; omega
        have hg := hgt hkT
        have hkI : (k : Int) < (T.size : Int) := by omega
        have hadd : IntKind.i64.wrap ((k : Int) + 1) = ((k + 1 : Nat) : Int) := by rw [IntKind.wrap_i64]; omega
        have hadn : IntKind.i64.wrap ((n : Int) + 1) = ((n + 1 : Nat) : Int) := by rw [IntKind.wrap_i64]; omega
        have HK := hide hk
        have HCR := hide hcr
        clear hgt hkl hnk hL hk hcr
        by_cases h10 : c = 10
        · subst h10
          have R7 := hide (HR.out.blank HCR.out (by decide +kernel))
          clear HCR
          go_wp2
          go_roundg (s.length - k)
          case measure => have := HG.out; have := HK.out; omega
          case rel => exact ⟨k + 1, n + 1, acc, by have := HK.out; omega, by go_num, by go_num, R7.out⟩
        · by_cases h32 : c = 32
          · subst h32
            have R7 := hide (HR.out.blank HCR.out (by decide +kernel))
            clear HCR h10
            go_wp2
            go_roundg (s.length - k)
            case measure => have := HG.out; have := HK.out; omega
            case rel => exact ⟨k + 1, n, acc, by have := HK.out; omega, by go_num, by go_num, R7.out⟩
          · by_cases h9 : c = 9
            · subst h9
              have R7 := hide (HR.out.blank HCR.out (by decide +kernel))
              clear HCR h10 h32
              go_wp2
              go_roundg (s.length - k)
              case measure => have := HG.out; have := HK.out; omega
              case rel => exact ⟨k + 1, n, acc, by have := HK.out; omega, by go_num, by go_num, R7.out⟩
            · have e10 : (((c.toNat : Nat) : Int) == 10) = false := c_ne (n := 10) h10
              have e32 : (((c.toNat : Nat) : Int) == 32) = false := c_ne (n := 32) h32
              have e9 : (((c.toNat : Nat) : Int) == 9) = false := c_ne (n := 9) h9
              have HBl : Hid (isBl c = false) := by show _ = _; rw [bl_num, decide_eq_false h10, decide_eq_false h32, decide_eq_false h9]; rfl
              clear h10 h32 h9
              obtain ⟨K1, hK1⟩ : ∃ K1, K1 = k + 1 := ⟨_, rfl⟩
              have HK1 := hide hK1
              rw [← hK1] at hadd
              clear hadn
              by_cases hrm : isRem (c :: R) = true
              · obtain ⟨R', hR'⟩ := isRem_cons hrm
                injection hR' with hc1 hR1
                subst hc1 hR1
                have hd1 : s.drop K1 = 47 :: R' := by rw [hK1, ← List.drop_drop, HCR.out]; rfl
                have hk1 : K1 < s.length := by
                  have hl : (s.drop K1).length = s.length - K1 := List.length_drop
                  rw [hd1] at hl; simp at hl; omega
                obtain ⟨c1, R1, hcr1, hgt1⟩ := HGet.out K1 hk1
                rw [hd1] at hcr1
                injection hcr1 with hc1 hR1
                subst hc1
                have hk1T : K1 < T.size := by have := HSz.out; omega
                have hg1 := hgt1 hk1T
                have hk1I : (K1 : Int) < (T.size : Int) := by omega
                have HRM := hide hrm
                clear hgt1 hd1 hk1 hK1 HBl hrm
                obtain ⟨go, hgo⟩ : ∃ go, go = gk := ⟨_, rfl⟩
                subst hgo
                go_wp2
                go_loopg [7] (s.length + 1) (fun g2 at2 wi => ∃ k3 : Nat, s.length < g2 + k3 ∧ at2 = .int .i64 (k3 : Int) ∧ Hid (RW s w wi k n u5 acc ∧ k ≤ k3 ∧ k3 ≤ s.length ∧ (s.drop k3).dropWhile n10 = (s.drop k).dropWhile n10))
                case atStart => exact ⟨k, by omega, rfl, HR.out, Nat.le_refl _, Nat.le_of_lt HK.out, rfl⟩
                case round =>
                  obtain ⟨k3, hg3, rfl, HR3⟩ := hrel
                  have HG3 := hide hg3
                  clear hg3 hg hg1 hkI hk1I
                  have hL := HLE.out
                  by_cases h3 : k3 < s.length
                  · obtain ⟨d, R3, hd3, hgt3⟩ := HGet.out k3 h3
                    have h3T : k3 < T.size := by have := HSz.out; omega
                    have hg3 := hgt3 h3T
                    have h3I : (k3 : Int) < (T.size : Int) := by omega
                    have had3 : IntKind.i64.wrap ((k3 : Int) + 1) = ((k3 + 1 : Nat) : Int) := by rw [IntKind.wrap_i64]; omega
                    have HD3 := hide hd3
                    have H3 := hide h3
                    clear hgt3 hL hd3 h3
                    by_cases hd10 : d = 10
                    · subst hd10
                      have hnk : k < k3 := by
                        rcases Nat.lt_or_eq_of_le HR3.out.2.1 with h | h
                        · exact h
                        · subst h; have := HCR.out; rw [HD3.out] at this; injection this with h _; exact absurd h (by decide)
                      have HX : Hid (RW s w wr k3 n u5 acc) := HR3.out.1.remark (by rw [HCR.out]; exact HRM.out) HR3.out.2.1 HR3.out.2.2.1 (by rw [← HR3.out.2.2.2, HD3.out, List.dropWhile_cons, if_neg (by rw [n10_num]; decide)])
                      clear HR3 HD3
                      go_wp2
                      go_roundg (s.length - k)
                      case measure => have := HG.out; have := HK.out; omega
                      case rel => exact ⟨k3, n, acc, by have := HK.out; omega, rfl, rfl, HX.out⟩
                    · have e10' : (((d.toNat : Nat) : Int) == 10) = false := c_ne (n := 10) hd10
                      have HX : Hid (RW s w wr k n u5 acc ∧ k ≤ k3 + 1 ∧ k3 + 1 ≤ s.length ∧ (s.drop (k3 + 1)).dropWhile n10 = (s.drop k).dropWhile n10) := by
                        obtain ⟨a1, a2, a3, a4⟩ := HR3.out
                        refine ⟨a1, by omega, H3.out, ?_⟩
                        rw [← a4, HD3.out, List.dropWhile_cons, if_pos (by rw [n10_num, decide_eq_false hd10]; rfl), ← List.drop_drop, HD3.out]
                        rfl
                      clear HR3 HD3 hd10
                      go_wp2
                      go_roundg (s.length - k3)
                      case measure => have := HG3.out; have := H3.out; omega
                      case rel => exact ⟨k3 + 1, by have := H3.out; omega, by go_num, HX.out⟩
                  · have h3I : ¬ ((k3 : Int) < (T.size : Int)) := by have := HSz.out; omega
                    have HX : Hid (RW s w wr k3 n u5 acc) := HR3.out.1.remark (by rw [HCR.out]; exact HRM.out) HR3.out.2.1 HR3.out.2.2.1 (by rw [← HR3.out.2.2.2, List.drop_eq_nil_of_le (by omega)]; rfl)
                    have hnk : k < k3 := by have := HK.out; omega
                    clear HR3 hL
                    go_wp2
                    go_roundg (s.length - k)
                    case measure => have := HG.out; have := HK.out; omega
                    case rel => exact ⟨k3, n, acc, by have := HK.out; omega, rfl, rfl, HX.out⟩
              · have HRm : Hid (isRem (c :: R) = false) := by unfold Hid; simpa using hrm
                have HW1 : Hid (∀ W, _) := fun W => HWd.out k W HK.out
                rw [HCR.out] at HW1
                have hsub : (¬ c = 47) ∨ (c = 47 ∧ ¬ ((K1 : Int) < (T.size : Int))) ∨ (c = 47 ∧ (K1 : Int) < (T.size : Int) ∧ ∃ (h : K1 < T.size), (((T[K1].toNat : Nat) : Int) == 47) = false) := by
                  by_cases h47 : c = 47
                  · by_cases hk1 : K1 < s.length
                    · have hk1T : K1 < T.size := by have := HSz.out; omega
                      obtain ⟨c1, R1, hcr1, hgt1⟩ := HGet.out K1 hk1
                      have hR1 : R = c1 :: R1 := by rw [← hcr1, hK1, ← List.drop_drop, HCR.out]; rfl
                      have hne : ¬ c1 = 47 := fun e => hrm (by rw [hR1, isRem_two, h47, e]; rfl)
                      refine .inr (.inr ⟨h47, by omega, hk1T, ?_⟩)
                      rw [hgt1 hk1T]; exact c_ne (n := 47) hne
                    · exact .inr (.inl ⟨h47, by have := HSz.out; omega⟩)
                  · exact .inl h47
                clear hrm hK1
                generalize hwa : wdA (c :: R) = wa at *
                have HWA := hide hwa
                clear hwa
                have HNX : Hid (∀ w' v' x en, wa.1 = some x → s.drop en = wa.2 → en ≤ s.length → OwnW w' w.heap.size v' (acc ++ [(x, n)]) → Below w.heap.size w w' → RW s w w' en n v' (acc ++ [(x, n)]) ∧ k < en) := fun w' v' x en h1 h2 h3 h4 h5 => by
                  rw [← HWA.out] at h1 h2
                  exact HR.out.word HCR.out HBl.out HRm.out h1 h2 h3 h4 h5
                have HNN : Hid (wa.1 = none → toks s = .error n) := fun h1 => by
                  rw [← HWA.out] at h1
                  exact HR.out.none HCR.out HBl.out HRm.out h1
                have HOW := hide HR.out.ow
                have HBW := hide HR.out.bl
                have HAL : Hid (acc.length ≤ 65536) := by have := HR.out.al; have := HK.out; have := HLE.out; unfold Hid; omega
                clear HR HCR HBl HRm HWA
                rcases hsub with h47 | ⟨rfl, hend⟩ | ⟨rfl, hend, hk1T, hd47⟩
                · have e47 : (((c.toNat : Nat) : Int) == 47) = false := c_ne (n := 47) h47
                  clear h47
                  go_wp2_with fail
                  refine (HW1.out _).mono ?_
                  rintro e w2 ⟨⟨ok, a, b, c', d', S, en, hwr, hdr, hen, rfl⟩, hb2⟩
                  have HB2 : Hid (Below w.heap.size w w2) := HBW.out.trans (hb2.mono HBW.out.size)
                  have HO2 : Hid (OwnW w2 w.heap.size u5 acc) := ownR_below HOW.out hb2
                  rcases hwr with ⟨rfl, x, ho, rfl, rfl, rfl, rfl, rfl⟩ | ⟨rfl, ho⟩
                  · have HNY := hide (fun w' v' => HNX.out w' v' x en ho hdr hen)
                    clear HNX HNN hb2 HW1 ho hdr hen HOW HBW
                    unfold wAgg
                    go_wp2_with (at_builtin; refine wpList_appC rfl _ _ 22 rfl 68 i0 (.agg z6) 6 56 Tryz.underlying22 hi0 hz0 hz1 hz2 rfl (by decide) (by decide) w.heap.size _ acc.length (wcs acc) rfl ((HO2.out.alloc _).alloc _) (w2.heap.size + 1) (wcl (x, n)) rfl rfl (by intro j u hj; have := cells_new6 (w2.alloc (.cells #[.int .u8 (x.k : Int), .string (txt x.s), .int .i64 (x.w : Int), .int .u64 (wHi x.v), .int .u64 (wLo x.v), .int .i64 (n : Int)] 68)) (wcl (x, n)) 68 j u hj; rw [World.size_alloc] at this; exact this) (wcl_one _) (by have := HAL.out; omega) (by have := HB2.out.size; simp; omega) ?_; intro v7 w7 O7 D7; have O8 : Hid (OwnW w7 w.heap.size v7 (acc ++ [(x, n)])) := (by unfold Hid OwnW; rw [List.length_append, List.length_singleton, wcs_snoc]; exact O7); have B8 : Hid (Below w.heap.size w w7) := (((HB2.out.alloc HB2.out.size _).alloc (by have := HB2.out.size; simp; omega) _).trans (below_of_grown ((HO2.out.alloc _).alloc _) (by have := HB2.out.size; simp; omega) D7)); clear O7 D7)
                    go_roundg (s.length - k)
                    case measure => have := HG.out; have := HK.out; omega
                    case rel =>
                      obtain ⟨h1, h2⟩ := HNY.out w7 v7 O8.out B8.out
                      exact ⟨en, n, acc ++ [(x, n)], by have := HK.out; omega, rfl, rfl, h1⟩
                  · have HE := hide (HNN.out ho)
                    clear HNX HNN hb2 HW1 ho hdr hen HOW HBW
                    unfold wAgg
                    go_wp2
                    exact bodyPost_ret (v := .tuple #[.slice none 0 0, .int .i64 (n : Int), .int .i64 4]) (by simp [results, Tryz.results8, go_sem]) rfl ⟨HB2.out.alloc HB2.out.size _, .inr ⟨HLE.out, .inl ⟨n, HE.out, rfl⟩⟩⟩
                · go_wp2_with fail
                  refine (HW1.out _).mono ?_
                  rintro e w2 ⟨⟨ok, a, b, c', d', S, en, hwr, hdr, hen, rfl⟩, hb2⟩
                  have HB2 : Hid (Below w.heap.size w w2) := HBW.out.trans (hb2.mono HBW.out.size)
                  have HO2 : Hid (OwnW w2 w.heap.size u5 acc) := ownR_below HOW.out hb2
                  rcases hwr with ⟨rfl, x, ho, rfl, rfl, rfl, rfl, rfl⟩ | ⟨rfl, ho⟩
                  · have HNY := hide (fun w' v' => HNX.out w' v' x en ho hdr hen)
                    clear HNX HNN hb2 HW1 ho hdr hen HOW HBW
                    unfold wAgg
                    go_wp2_with (at_builtin; refine wpList_appC rfl _ _ 22 rfl 68 i0 (.agg z6) 6 56 Tryz.underlying22 hi0 hz0 hz1 hz2 rfl (by decide) (by decide) w.heap.size _ acc.length (wcs acc) rfl ((HO2.out.alloc _).alloc _) (w2.heap.size + 1) (wcl (x, n)) rfl rfl (by intro j u hj; have := cells_new6 (w2.alloc (.cells #[.int .u8 (x.k : Int), .string (txt x.s), .int .i64 (x.w : Int), .int .u64 (wHi x.v), .int .u64 (wLo x.v), .int .i64 (n : Int)] 68)) (wcl (x, n)) 68 j u hj; rw [World.size_alloc] at this; exact this) (wcl_one _) (by have := HAL.out; omega) (by have := HB2.out.size; simp; omega) ?_; intro v7 w7 O7 D7; have O8 : Hid (OwnW w7 w.heap.size v7 (acc ++ [(x, n)])) := (by unfold Hid OwnW; rw [List.length_append, List.length_singleton, wcs_snoc]; exact O7); have B8 : Hid (Below w.heap.size w w7) := (((HB2.out.alloc HB2.out.size _).alloc (by have := HB2.out.size; simp; omega) _).trans (below_of_grown ((HO2.out.alloc _).alloc _) (by have := HB2.out.size; simp; omega) D7)); clear O7 D7)
                    go_roundg (s.length - k)
                    case measure => have := HG.out; have := HK.out; omega
                    case rel =>
                      obtain ⟨h1, h2⟩ := HNY.out w7 v7 O8.out B8.out
                      exact ⟨en, n, acc ++ [(x, n)], by have := HK.out; omega, rfl, rfl, h1⟩
                  · have HE := hide (HNN.out ho)
                    clear HNX HNN hb2 HW1 ho hdr hen HOW HBW
                    unfold wAgg
                    go_wp2
                    exact bodyPost_ret (v := .tuple #[.slice none 0 0, .int .i64 (n : Int), .int .i64 4]) (by simp [results, Tryz.results8, go_sem]) rfl ⟨HB2.out.alloc HB2.out.size _, .inr ⟨HLE.out, .inl ⟨n, HE.out, rfl⟩⟩⟩
                · go_wp2_with fail
                  refine (HW1.out _).mono ?_
                  rintro e w2 ⟨⟨ok, a, b, c', d', S, en, hwr, hdr, hen, rfl⟩, hb2⟩
                  have HB2 : Hid (Below w.heap.size w w2) := HBW.out.trans (hb2.mono HBW.out.size)
                  have HO2 : Hid (OwnW w2 w.heap.size u5 acc) := ownR_below HOW.out hb2
                  rcases hwr with ⟨rfl, x, ho, rfl, rfl, rfl, rfl, rfl⟩ | ⟨rfl, ho⟩
                  · have HNY := hide (fun w' v' => HNX.out w' v' x en ho hdr hen)
                    clear HNX HNN hb2 HW1 ho hdr hen HOW HBW
                    unfold wAgg
                    go_wp2_with (at_builtin; refine wpList_appC rfl _ _ 22 rfl 68 i0 (.agg z6) 6 56 Tryz.underlying22 hi0 hz0 hz1 hz2 rfl (by decide) (by decide) w.heap.size _ acc.length (wcs acc) rfl ((HO2.out.alloc _).alloc _) (w2.heap.size + 1) (wcl (x, n)) rfl rfl (by intro j u hj; have := cells_new6 (w2.alloc (.cells #[.int .u8 (x.k : Int), .string (txt x.s), .int .i64 (x.w : Int), .int .u64 (wHi x.v), .int .u64 (wLo x.v), .int .i64 (n : Int)] 68)) (wcl (x, n)) 68 j u hj; rw [World.size_alloc] at this; exact this) (wcl_one _) (by have := HAL.out; omega) (by have := HB2.out.size; simp; omega) ?_; intro v7 w7 O7 D7; have O8 : Hid (OwnW w7 w.heap.size v7 (acc ++ [(x, n)])) := (by unfold Hid OwnW; rw [List.length_append, List.length_singleton, wcs_snoc]; exact O7); have B8 : Hid (Below w.heap.size w w7) := (((HB2.out.alloc HB2.out.size _).alloc (by have := HB2.out.size; simp; omega) _).trans (below_of_grown ((HO2.out.alloc _).alloc _) (by have := HB2.out.size; simp; omega) D7)); clear O7 D7)
                    go_roundg (s.length - k)
                    case measure => have := HG.out; have := HK.out; omega
                    case rel =>
                      obtain ⟨h1, h2⟩ := HNY.out w7 v7 O8.out B8.out
                      exact ⟨en, n, acc ++ [(x, n)], by have := HK.out; omega, rfl, rfl, h1⟩
                  · have HE := hide (HNN.out ho)
                    clear HNX HNN hb2 HW1 ho hdr hen HOW HBW
                    unfold wAgg
                    go_wp2
                    exact bodyPost_ret (v := .tuple #[.slice none 0 0, .int .i64 (n : Int), .int .i64 4]) (by simp [results, Tryz.results8, go_sem]) rfl ⟨HB2.out.alloc HB2.out.size _, .inr ⟨HLE.out, .inl ⟨n, HE.out, rfl⟩⟩⟩
      · have hkI : ¬ ((k : Int) < (T.size : Int)) := by have := HSz.out; omega
        have HT := hide (HR.out.done (by omega))
        have HA : Hid (acc.length ≤ 65536) := by have := HR.out.al; unfold Hid; omega
        have HO := hide HR.out.ow
        have HB := hide HR.out.bl
        clear HR hkl hnk hL
        go_wp2
        refine bodyPost_ret (v := .tuple #[u5, .int .i64 0, .int .i64 0]) (by simp [results, Tryz.results8, go_sem]) rfl ⟨HB.out, .inr ⟨HLE.out, .inr ⟨acc, HT.out, HA.out, u5, HO.out, rfl⟩⟩⟩
end Go.Proofs.YtfanhdjebmdniaaGreatDoor
/- Words held against words. -/
namespace Go.Proofs.YtfanhdjebmdniaaGreatDoor
open Go.RowKit

theorem wcl_len (x : Wd × Nat) : (wcl x).length = 6 := rfl
theorem wcs_get : ∀ (L : List (Wd × Nat)) (i j : Nat) (hi : i < L.length) (_ : j < 6), (wcs L)[i * 6 + j]? = (wcl L[i])[j]?
  | [], i, j, hi, _ => by simp at hi
  | x :: L, 0, j, _, hj => by
    rw [wcs, List.map_cons, List.flatten_cons, List.getElem?_append_left (by rw [wcl_len]; omega)]
    simp
  | x :: L, i + 1, j, hi, hj => by
    rw [wcs, List.map_cons, List.flatten_cons, List.getElem?_append_right (by rw [wcl_len]; omega)]
    have := wcs_get L i j (by simpa using hi) hj
    rw [wcs] at this
    have e : (i + 1) * 6 + j - (wcl x).length = i * 6 + j := by rw [wcl_len]; omega
    rw [e, this]
    simp
def RdG (W : World) (g : Nat) (L : List (Wd × Nat)) : Prop := g < W.heap.size ∧ ∀ k (hk : k < L.length) j u, (wcl L[k])[j]? = some u → W.cell? ⟨g, k * 6 + j, none⟩ = some u
def SlW (W : World) (v : Value) (L : List (Wd × Nat)) : Prop := (v = .slice none 0 0 ∧ L = []) ∨ ∃ g cap, v = .slice (some ⟨g, 0, none⟩) L.length cap ∧ RdG W g L
theorem lt6 {α : Type} {l : List α} {j : Nat} {u : α} (hl : l.length = 6) (h : l[j]? = some u) : j < 6 := by
  have := (List.getElem?_eq_some_iff.1 h).1; omega
theorem OwnW.sl {W : World} {B : Nat} {v : Value} {L : List (Wd × Nat)} (h : OwnW W B v L) : SlW W v L := by
  obtain ⟨hl, ⟨rfl, h0⟩ | ⟨g, cap, cur, rfl, hb, hh, h1, h2, h3, h4⟩⟩ := h
  · exact .inl ⟨rfl, List.length_eq_zero_iff.1 h0⟩
  · refine .inr ⟨g, cap, rfl, (Array.getElem?_eq_some_iff.1 hh).1, fun k hk j u hu => ?_⟩
    have hj := lt6 (wcl_len _) hu
    have h5 := wcs_get L k j hk hj
    rw [hu, ← h4, List.getElem?_take, if_pos (by omega)] at h5
    simp [World.cell?, hh]
    rw [← Array.getElem?_toList]; exact h5
theorem RdG.keep {W W' : World} {g : Nat} {L : List (Wd × Nat)} (h : RdG W g L) (hb : Below W.heap.size W W') : RdG W' g L :=
  ⟨Nat.lt_of_lt_of_le h.1 hb.size, fun k hk j u hu => (hb.cell (p := ⟨g, k * 6 + j, none⟩) h.1).trans (h.2 k hk j u hu)⟩
theorem SlW.keep {W W' : World} {v : Value} {L : List (Wd × Nat)} (h : SlW W v L) (hb : Below W.heap.size W W') : SlW W' v L := by
  rcases h with h | ⟨g, cap, e, h⟩
  · exact .inl h
  · exact .inr ⟨g, cap, e, h.keep hb⟩
theorem slW_lit (W : World) (L : List (Wd × Nat)) (t : TypeId) (cap : Nat) : SlW (W.alloc (.cells (wcs L).toArray t)) (.slice (some ⟨W.heap.size, 0, none⟩) L.length cap) L := by
  refine .inr ⟨W.heap.size, cap, rfl, by simp, fun k hk j u hu => ?_⟩
  have hj := lt6 (wcl_len _) hu
  rw [World.cell?_alloc_new, List.getElem?_toArray, wcs_get L k j hk hj]
  exact hu
set_option maxRecDepth 100000 in
theorem sameW_yes (L : List (Wd × Nat)) (va vb : Value) (w : World) (hl : L.length ≤ 1000000) (ha : SlW w va L) (hb : SlW w vb L) :
    Calls Tryz.prog 9 #[va, vb] w fun e w' => e = .returned (.bool true) ∧ Below w.heap.size w w' := by
  rcases ha with ⟨rfl, rfl⟩ | ⟨g, c1, rfl, ha⟩
  · have hb' : ∃ ad cap, vb = .slice ad 0 cap := by
      rcases hb with ⟨rfl, _⟩ | ⟨g, cap, e, _⟩
      · exact ⟨_, _, rfl⟩
      · exact ⟨_, _, e⟩
    obtain ⟨ad, cap, rfl⟩ := hb'
    clear hb
    go_enter Tryz.func9, Tryz.ntmps9
    go_wp2
    go_loopg [5] 1 (fun g vi wr => wr = w ∧ vi = .int .i64 0)
    case atStart => exact ⟨rfl, rfl⟩
    case round =>
      obtain ⟨rfl, rfl⟩ := hrel
      go_wp2
      go_ret
      exact ⟨rfl, Below.refl _ _⟩
  · have hb' : ∃ ad cap, vb = .slice ad L.length cap ∧ (L = [] ∨ ∃ q, ad = some ⟨q, 0, none⟩ ∧ RdG w q L) := by
      rcases hb with ⟨rfl, rfl⟩ | ⟨q, cap, rfl, h⟩
      · exact ⟨_, _, rfl, .inl rfl⟩
      · exact ⟨_, _, rfl, .inr ⟨q, rfl, h⟩⟩
    obtain ⟨ad, cap, rfl, hq⟩ := hb'
    have HA := hide ha
    have HQ := hide hq
    clear ha hb hq
    go_enter Tryz.func9, Tryz.ntmps9
    go_wp2
    go_loopg [5] (L.length + 1) (fun gg vi wr => ∃ k : Nat, k ≤ L.length ∧ gg = L.length + 1 - k ∧ vi = .int .i64 (k : Int) ∧ Below w.heap.size w wr)
    case atStart => exact ⟨0, by omega, by omega, rfl, Below.refl _ _⟩
    case round =>
      obtain ⟨k, hk, rfl, rfl, hnx⟩ := hrel
      have HN := hide hnx
      by_cases hlt : k < L.length
      · obtain ⟨q, rfl, hq⟩ : ∃ q, ad = some ⟨q, 0, none⟩ ∧ RdG w q L := by
          rcases HQ.out with h | h
          · rw [h] at hlt; simp at hlt
          · exact h
        have h1 := HA.out.keep hnx
        have h2 := hq.keep hnx
        have a0 := h1.2 k hlt 0 _ rfl; have a1 := h1.2 k hlt 1 _ rfl; have a2 := h1.2 k hlt 2 _ rfl; have a3 := h1.2 k hlt 3 _ rfl; have a4 := h1.2 k hlt 4 _ rfl; have a5 := h1.2 k hlt 5 _ rfl
        have b0 := h2.2 k hlt 0 _ rfl; have b1 := h2.2 k hlt 1 _ rfl; have b2 := h2.2 k hlt 2 _ rfl; have b3 := h2.2 k hlt 3 _ rfl; have b4 := h2.2 k hlt 4 _ rfl; have b5 := h2.2 k hlt 5 _ rfl
        rw [Nat.add_zero] at a0 b0
        have hkI : (k : Int) < (L.length : Int) := by omega
        clear h1 h2 hq HA HQ hnx
        generalize L[k] = x at *
        obtain ⟨⟨xk, xs, xw, xv⟩, ln⟩ := x
        dsimp only at a0 a1 a2 a3 a4 a5 b0 b1 b2 b3 b4 b5
        generalize (xk : Int) = y0 at *
        generalize txt xs = y1 at *
        generalize (xw : Int) = y2 at *
        generalize wHi xv = y3 at *
        generalize wLo xv = y4 at *
        generalize (ln : Int) = y5 at *
        go_wp2
        go_region
        all_goals
          go_wp2
          go_roundg (L.length + 1 - (k + 1))
          case measure => omega
          case rel => exact ⟨k + 1, by omega, rfl, by congr 1, HN.out.drew⟩
      · have hkI : ¬ ((k : Int) < (L.length : Int)) := by omega
        clear HA HQ hnx
        go_wp2
        go_ret
        exact ⟨rfl, HN.out⟩
end Go.Proofs.YtfanhdjebmdniaaGreatDoor
