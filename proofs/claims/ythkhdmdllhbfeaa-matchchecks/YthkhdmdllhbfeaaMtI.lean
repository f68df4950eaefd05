/- package match: each of the matches. -/
import Derived.Test.YthkhdmdllhbfeaaMtH
namespace Go.Proofs.Ythkhdmdllhbfeaa
open Go.RowKit

def allI {α : Type} (p : Nat → α → Bool) : Nat → List α → Bool
  | _, [] => true
  | i, x :: xs => p i x && allI p (i + 1) xs
theorem allI_no {α : Type} {p : Nat → α → Bool} : ∀ (l : List α) (s k : Nat) (h : k < l.length), p (s + k) l[k] = false → allI p s l = false
  | [], _, k, h, _ => by simp at h
  | x :: xs, s, 0, _, hp => by simp only [Nat.add_zero, List.getElem_cons_zero] at hp; simp [allI, hp]
  | x :: xs, s, k + 1, h, hp => by
    have := allI_no xs (s + 1) k (by simpa using h) (by simp only [List.getElem_cons_succ] at hp; rw [← hp]; congr 1; omega)
    simp [allI, this]
theorem allI_yes {α : Type} {p : Nat → α → Bool} : ∀ (l : List α) (s : Nat), (∀ k (h : k < l.length), p (s + k) l[k] = true) → allI p s l = true
  | [], _, _ => rfl
  | x :: xs, s, h => by
    have h0 := h 0 (by simp)
    simp only [Nat.add_zero, List.getElem_cons_zero] at h0
    rw [allI, h0, Bool.true_and]
    exact allI_yes xs (s + 1) (fun k hk => by have := h (k + 1) (by simpa using hk); simp only [List.getElem_cons_succ] at this; rw [← this]; congr 1; omega)
theorem allI_get {α : Type} {p : Nat → α → Bool} : ∀ (l : List α) (s : Nat), allI p s l = true → ∀ k (h : k < l.length), p (s + k) l[k] = true
  | [], _, _, k, h => by simp at h
  | x :: xs, s, ha, 0, _ => by simp only [allI, Bool.and_eq_true] at ha; simpa using ha.1
  | x :: xs, s, ha, k + 1, h => by
    simp only [allI, Bool.and_eq_true] at ha
    have := allI_get xs (s + 1) ha.2 k (by simpa using h)
    simp only [List.getElem_cons_succ]; rw [← this]; congr 1; omega
set_option maxRecDepth 100000 in
set_option maxHeartbeats 4000000 in
theorem each_may (p : Nat → Mx → Bool) (c0 c1 : Nat) (a : Option Addr) (cap : Nat) (l : List Mx) (w : World) (hr : RdX w a l) (hl : l.length ≤ 140737488355328) (hp : ∀ i (h : i < l.length) W, Below w.heap.size w W → Calls Try.prog 65 #[.int .i64 i, l[i].val, .pointer (some ⟨c0, 0, none⟩), .pointer (some ⟨c1, 0, none⟩)] W fun e w' => e = .returned (.bool (p i l[i])) ∧ Below W.heap.size W w') :
    Calls Try.prog 64 #[.slice a l.length cap, .func (.func 65) #[] #[.pointer (some ⟨c0, 0, none⟩), .pointer (some ⟨c1, 0, none⟩)]] w fun e w' => e = .returned (.bool (allI p 0 l)) ∧ Below w.heap.size w w' := by
  have HR := hide hr
  have HP := hide hp
  clear hr hp
  go_enter Try.func64, Try.ntmps64
  go_wp2
  go_loopw [9] (fun i wr => ∃ k : Nat, k ≤ l.length ∧ i = .int .i64 k ∧ (∀ j (hj : j < k) (hj' : j < l.length), p j l[j] = true) ∧ Below w.heap.size w wr) (fun i _ => l.length - (intOf i).toNat)
  case atStart => exact ⟨0, by omega, rfl, fun j hj => absurd hj (by omega), Below.refl _ _⟩
  case round =>
    obtain ⟨k, hk, rfl, hn, hb⟩ := hrel
    have HN := hide hn
    have HW := hide hb
    clear hn hb
    by_cases hlt : k < l.length
    · obtain ⟨b, off, rfl, hb, hcl⟩ := (HR.out.below HW.out).some (by omega)
      obtain ⟨q0, q1, q2, q3, q4, q5, q6⟩ := hcl k hlt
      have hlI : (k : Int) < (l.length : Int) := by omega
      have HC : Hid (∀ W, Below w.heap.size w W → _) := fun W hW => HP.out k hlt W hW
      have HX : Hid (p k l[k] = true → ∀ j (hj : j < k + 1) (hj' : j < l.length), p j l[j] = true) := fun ho j hj hj' => by
        by_cases e : j = k
        · subst e; exact ho
        · exact HN.out j (by omega) hj'
      have HO : Hid (p k l[k] = false → allI p 0 l = false) := fun ho => allI_no l 0 k hlt (by rw [Nat.zero_add]; exact ho)
      have HB9 : Hid (∀ o, Below w.heap.size w (wr.alloc o)) := fun o => bstep HW.out (below1 _ _)
      clear hcl hb
      generalize l[k] = x at *
      generalize p k x = t at *
      obtain ⟨⟨vw, vh, vl⟩, ⟨mw, mh, ml⟩, len⟩ := x
      simp only [Mx.val] at *
      cases t
      · go_wp2_with fail
        refine (HC.out _ (HB9.out _)).mono ?_
        rintro e w1 ⟨rfl, hb⟩
        go_wp2
        go_ret
        exact ⟨by rw [HO.out (by first | rfl | trivial)]; rfl, bstep (HB9.out _) hb⟩
      · go_wp2_with fail
        refine (HC.out _ (HB9.out _)).mono ?_
        rintro e w1 ⟨rfl, hb⟩
        go_wp2
        go_roundw
        case rel => exact ⟨k + 1, by omega, by go_num, HX.out (by first | rfl | trivial), bstep (HB9.out _) hb⟩
        case measure => simp [intOf]; omega
    · obtain rfl : k = l.length := by omega
      have HH := hide (allI_yes (p := p) l 0 (fun j hj => by rw [Nat.zero_add]; exact HN.out j hj hj))
      go_wp2
      go_ret
      exact ⟨by rw [HH.out]; rfl, HW.out⟩
set_option maxRecDepth 100000 in
set_option maxHeartbeats 4000000 in
theorem each_mat (p : Nat → Mx → Bool) (c0 c1 c2 : Nat) (a : Option Addr) (cap : Nat) (l : List Mx) (w : World) (hr : RdX w a l) (hl : l.length ≤ 140737488355328) (hp : ∀ i (h : i < l.length) W, Below w.heap.size w W → Calls Try.prog 62 #[.int .i64 i, l[i].val, .pointer (some ⟨c0, 0, none⟩), .pointer (some ⟨c1, 0, none⟩), .pointer (some ⟨c2, 0, none⟩)] W fun e w' => e = .returned (.bool (p i l[i])) ∧ Below W.heap.size W w') :
    Calls Try.prog 64 #[.slice a l.length cap, .func (.func 62) #[] #[.pointer (some ⟨c0, 0, none⟩), .pointer (some ⟨c1, 0, none⟩), .pointer (some ⟨c2, 0, none⟩)]] w fun e w' => e = .returned (.bool (allI p 0 l)) ∧ Below w.heap.size w w' := by
  have HR := hide hr
  have HP := hide hp
  clear hr hp
  go_enter Try.func64, Try.ntmps64
  go_wp2
  go_loopw [9] (fun i wr => ∃ k : Nat, k ≤ l.length ∧ i = .int .i64 k ∧ (∀ j (hj : j < k) (hj' : j < l.length), p j l[j] = true) ∧ Below w.heap.size w wr) (fun i _ => l.length - (intOf i).toNat)
  case atStart => exact ⟨0, by omega, rfl, fun j hj => absurd hj (by omega), Below.refl _ _⟩
  case round =>
    obtain ⟨k, hk, rfl, hn, hb⟩ := hrel
    have HN := hide hn
    have HW := hide hb
    clear hn hb
    by_cases hlt : k < l.length
    · obtain ⟨b, off, rfl, hb, hcl⟩ := (HR.out.below HW.out).some (by omega)
      obtain ⟨q0, q1, q2, q3, q4, q5, q6⟩ := hcl k hlt
      have hlI : (k : Int) < (l.length : Int) := by omega
      have HC : Hid (∀ W, Below w.heap.size w W → _) := fun W hW => HP.out k hlt W hW
      have HX : Hid (p k l[k] = true → ∀ j (hj : j < k + 1) (hj' : j < l.length), p j l[j] = true) := fun ho j hj hj' => by
        by_cases e : j = k
        · subst e; exact ho
        · exact HN.out j (by omega) hj'
      have HO : Hid (p k l[k] = false → allI p 0 l = false) := fun ho => allI_no l 0 k hlt (by rw [Nat.zero_add]; exact ho)
      have HB9 : Hid (∀ o, Below w.heap.size w (wr.alloc o)) := fun o => bstep HW.out (below1 _ _)
      clear hcl hb
      generalize l[k] = x at *
      generalize p k x = t at *
      obtain ⟨⟨vw, vh, vl⟩, ⟨mw, mh, ml⟩, len⟩ := x
      simp only [Mx.val] at *
      cases t
      · go_wp2_with fail
        refine (HC.out _ (HB9.out _)).mono ?_
        rintro e w1 ⟨rfl, hb⟩
        go_wp2
        go_ret
        exact ⟨by rw [HO.out (by first | rfl | trivial)]; rfl, bstep (HB9.out _) hb⟩
      · go_wp2_with fail
        refine (HC.out _ (HB9.out _)).mono ?_
        rintro e w1 ⟨rfl, hb⟩
        go_wp2
        go_roundw
        case rel => exact ⟨k + 1, by omega, by go_num, HX.out (by first | rfl | trivial), bstep (HB9.out _) hb⟩
        case measure => simp [intOf]; omega
    · obtain rfl : k = l.length := by omega
      have HH := hide (allI_yes (p := p) l 0 (fun j hj => by rw [Nat.zero_add]; exact HN.out j hj hj))
      go_wp2
      go_ret
      exact ⟨by rw [HH.out]; rfl, HW.out⟩
end Go.Proofs.Ythkhdmdllhbfeaa
