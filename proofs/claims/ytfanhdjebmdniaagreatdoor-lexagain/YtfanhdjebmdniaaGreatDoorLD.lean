/- What is idle is passed over. -/
import Derived.Test.YtfanhdjebmdniaaGreatDoorLC
import Derived.Deep.LoopGhost
namespace Go.Proofs.YtfanhdjebmdniaaGreatDoor
open Go.RowKit

theorem dropW_le (P : UInt8 → Bool) (l : List UInt8) : (l.dropWhile P).length ≤ l.length := by
  have h := congrArg List.length (List.takeWhile_append_dropWhile (p := P) (l := l))
  rw [List.length_append] at h; omega
theorem dropW_c10 (P : UInt8 → Bool) (l : List UInt8) : c10 (l.takeWhile P) + c10 (l.dropWhile P) = c10 l := by
  rw [← c10_app, List.takeWhile_append_dropWhile]
def isRem (r : List UInt8) : Bool := Lib.hasPrefix r [47, 47]
theorem isRem_cons {r : List UInt8} (h : isRem r = true) : ∃ r', r = 47 :: 47 :: r' := by
  unfold isRem Lib.hasPrefix at h
  match r, h with
  | a :: b :: r', h => simp [List.isPrefixOf] at h; obtain ⟨rfl, rfl⟩ := h; exact ⟨r', rfl⟩
  | [a], h => simp [List.isPrefixOf] at h
  | [], h => simp [List.isPrefixOf] at h
theorem rem_less {r : List UInt8} (h : isRem r = true) : ((r.dropWhile n10).dropWhile isBl).length < r.length := by
  obtain ⟨r', rfl⟩ := isRem_cons h
  have e : (47 :: 47 :: r' : List UInt8).dropWhile n10 = (47 :: r' : List UInt8).dropWhile n10 := by rw [List.dropWhile_cons, if_pos (by decide)]
  rw [e]
  have h1 := dropW_le isBl ((47 :: r' : List UInt8).dropWhile n10)
  have h2 := dropW_le n10 (47 :: r')
  simp only [List.length_cons] at h2 ⊢
  omega
def skF : Nat → List UInt8 → List UInt8
  | 0, r => r
  | f + 1, r => if isRem r = true then skF f ((r.dropWhile n10).dropWhile isBl) else r
theorem skF_any : ∀ (f g : Nat) (r : List UInt8), r.length < f → r.length < g → skF f r = skF g r
  | 0, _, _, h, _ => by omega
  | _, 0, _, _, h => by omega
  | f + 1, g + 1, r, h1, h2 => by
    rw [skF, skF]
    split
    · rename_i h
      have hl := rem_less h
      exact skF_any f g _ (by omega) (by omega)
    · rfl
def skR (r : List UInt8) : List UInt8 := skF (r.length + 1) r
theorem skR_yes {r : List UInt8} (h : isRem r = true) : skR r = skR ((r.dropWhile n10).dropWhile isBl) := by
  have hl := rem_less h
  rw [skR, skF, if_pos h, skR, skF_any r.length _ _ hl (Nat.lt_succ_self _)]
theorem skR_no {r : List UInt8} (h : isRem r = false) : skR r = r := by rw [skR, skF, if_neg (by rw [h]; decide)]
def skip (r : List UInt8) : List UInt8 := skR (r.dropWhile isBl)
theorem skR_le (r : List UInt8) : (skR r).length ≤ r.length := by
  induction hn : r.length using Nat.strongRecOn generalizing r with
  | _ n ih =>
    cases h : isRem r with
    | false => rw [skR_no h]; omega
    | true =>
      have hl := rem_less h
      have := ih _ (by rw [← hn]; exact hl) _ rfl
      rw [skR_yes h]; omega
theorem skip_le (r : List UInt8) : (skip r).length ≤ r.length := Nat.le_trans (skR_le _) (dropW_le _ _)
def blS : ByteArray := ⟨#[32, 9, 10]⟩
def nlS : ByteArray := ⟨#[10]⟩
theorem eatB (p n : Nat) (r : List UInt8) (W : World) (hT : Tx W p r n) (hr : r.length ≤ 1000000) (hn : n ≤ 1000000) :
    Calls Tryz.prog 113 #[.pointer (some ⟨p, 0, none⟩), .func (Fn.func 189) #[] #[.pointer (some ⟨W.heap.size, 0, none⟩)]] (W.alloc (.cells #[.string ⟨#[32, 9, 10]⟩] 9)) fun e w' => (∃ v, e = .returned v) ∧ Tx w' p (r.dropWhile isBl) (n + c10 (r.takeWhile isBl)) ∧ FrP p W w' :=
  (eat_among ⟨#[32, 9, 10]⟩ p n r W hT hr hn).mono fun _ _ ⟨h1, h2, h3⟩ => ⟨⟨_, h1⟩, h2, h3⟩
theorem eatN (p n : Nat) (r : List UInt8) (W : World) (hT : Tx W p r n) (hr : r.length ≤ 1000000) (hn : n ≤ 1000000) :
    Calls Tryz.prog 113 #[.pointer (some ⟨p, 0, none⟩), .func (Fn.func 192) #[] #[.pointer (some ⟨W.heap.size, 0, none⟩)]] (W.alloc (.cells #[.string ⟨#[10]⟩] 9)) fun e w' => (∃ v, e = .returned v) ∧ Tx w' p (r.dropWhile n10) (n + c10 (r.takeWhile n10)) ∧ FrP p W w' :=
  (eat_none ⟨#[10]⟩ p n r W hT hr hn).mono fun _ _ ⟨h1, h2, h3⟩ => ⟨⟨_, h1⟩, h2, h3⟩
set_option maxRecDepth 100000 in
theorem passIdle_any (p n : Nat) (r : List UInt8) (w : World) (hT : Tx w p r n) (hr : r.length ≤ 500000) (hn : n + c10 r ≤ 500000) :
    Calls Tryz.prog 16 #[.pointer (some ⟨p, 0, none⟩)] w fun e w' => e = .returned (.tuple #[]) ∧ (∃ n', Tx w' p (skip r) n' ∧ n' + c10 (skip r) = n + c10 r) ∧ FrP p w w' := by
  have HM := hide among_mk
  have HN := hide none_mk
  have HEB := hide eatB
  have HEN := hide eatN
  have HT := hide hT
  have HNN := hide hn
  have HRR := hide hr
  clear hT hn hr
  go_enter Tryz.func16, Tryz.ntmps16
  go_wp2_with fail
  refine (HM.out _ _).mono ?_
  rintro e w1 ⟨rfl, rfl⟩
  go_wp2_with fail
  refine (HEB.out p n r w HT.out (by have := HRR.out; omega) (by have := HNN.out; omega)).mono ?_
  rintro e w2 ⟨⟨v, rfl⟩, h1, h2⟩
  have HS : Hid (∃ r1 n1, Tx w2 p r1 n1 ∧ skR r1 = skip r ∧ n1 + c10 r1 = n + c10 r ∧ r1.length ≤ 500000 ∧ FrP p w w2) := ⟨_, _, h1, rfl, by have := dropW_c10 isBl r; omega, Nat.le_trans (dropW_le _ _) HRR.out, h2⟩
  clear h1 h2 HT HRR
  go_wp2
  go_loopg [5] 500001 (fun g _ wr => ∃ r1 n1, r1.length < g ∧ Tx wr p r1 n1 ∧ Hid (skR r1 = skip r ∧ n1 + c10 r1 = n + c10 r ∧ r1.length ≤ 500000 ∧ FrP p w wr))
  case atStart =>
    obtain ⟨r1, n1, a, b, c, d, e⟩ := HS.out
    exact ⟨r1, n1, by omega, a, b, c, d, e⟩
  case round =>
    obtain ⟨r1, n1, hg, hT1, HR⟩ := hrel
    obtain ⟨c0, c1, f0, f1⟩ := hT1.cells
    have HT1 := hide hT1
    have HP := hide (fun W => Tryz.strings_HasPrefix (txt r1) ⟨#[47, 47]⟩ W)
    rw [txt_data] at HP
    clear hT1
    cases hre : isRem r1 with
    | false =>
      rw [show Lib.hasPrefix r1 (⟨#[47, 47]⟩ : ByteArray).data.toList = false from hre] at HP
      have HE : Hid (Tx wr p (skip r) n1 ∧ n1 + c10 (skip r) = n + c10 r ∧ FrP p w wr) := by
        have h := HR.out
        have e := skR_no hre
        rw [e] at h
        exact ⟨by rw [← h.1]; exact HT1.out, by rw [← h.1]; exact h.2.1, h.2.2.2⟩
      clear hre HR HT1
      generalize txt r1 = T at *
      go_wp2_with fail
      refine (HP.out _).mono ?_
      rintro e w3 ⟨rfl, rfl⟩
      go_wp2
      go_end0
      exact ⟨rfl, ⟨n1, HE.out.1, HE.out.2.1⟩, HE.out.2.2⟩
    | true =>
      rw [show Lib.hasPrefix r1 (⟨#[47, 47]⟩ : ByteArray).data.toList = true from hre] at HP
      have hless := rem_less hre
      have hsk := skR_yes hre
      have HE2 : Hid (skR ((r1.dropWhile n10).dropWhile isBl) = skip r) := by unfold Hid; rw [← hsk]; exact HR.out.1
      have ha := dropW_c10 n10 r1
      have hb := dropW_c10 isBl (r1.dropWhile n10)
      have hl1 := dropW_le n10 r1
      have hlen := HR.out.2.2.1
      have htot := HR.out.2.1
      have hnn := HNN.out
      have HA := hide (fun W h => HEN.out p n1 r1 W h (by omega) (by omega))
      have HB := hide (fun W h => HEB.out p (n1 + c10 (r1.takeWhile n10)) (r1.dropWhile n10) W h (by omega) (by omega))
      have HTot : Hid (n1 + c10 (r1.takeWhile n10) + c10 ((r1.dropWhile n10).takeWhile isBl) + c10 ((r1.dropWhile n10).dropWhile isBl) = n + c10 r) := by unfold Hid; omega
      have HLen : Hid (((r1.dropWhile n10).dropWhile isBl).length < r1.length ∧ ((r1.dropWhile n10).dropWhile isBl).length ≤ 500000) := ⟨hless, by omega⟩
      have HFw := hide HR.out.2.2.2
      clear hre hless hsk ha hb hl1 hlen htot hnn HR
      generalize hr1T : txt r1 = T at *
      clear hr1T
      go_wp2_with fail
      refine (HP.out _).mono ?_
      rintro e w3 ⟨rfl, rfl⟩
      go_wp2_with fail
      refine (HN.out _ _).mono ?_
      rintro e w4 ⟨rfl, rfl⟩
      go_wp2_with fail
      refine (HA.out _ HT1.out).mono ?_
      rintro e w5 ⟨⟨v5, rfl⟩, h5, f5⟩
      have H5 := hide h5
      have F5 : Hid (FrP p w w5) := HFw.out.trans f5 (fun _ _ e => e)
      clear h5 f5
      go_wp2_with fail
      refine (HM.out _ _).mono ?_
      rintro e w6 ⟨rfl, rfl⟩
      go_wp2_with fail
      refine (HB.out _ H5.out).mono ?_
      rintro e w7 ⟨⟨v7, rfl⟩, h7, f7⟩
      have H7 := hide h7
      have F7 : Hid (FrP p w w7) := F5.out.trans f7 (fun _ _ e => e)
      clear h7 f7
      go_wp2
      go_roundg (r1.length)
      case measure => omega
      case rel => exact ⟨_, _, HLen.out.1, H7.out, HE2.out, HTot.out, HLen.out.2, F7.out⟩
end Go.Proofs.YtfanhdjebmdniaaGreatDoor
