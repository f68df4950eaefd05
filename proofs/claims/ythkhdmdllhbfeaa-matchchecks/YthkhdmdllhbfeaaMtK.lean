/- package match: two lists of matches, one against the other. -/
import Derived.Test.YthkhdmdllhbfeaaMtJ
namespace Go.Proofs.Ythkhdmdllhbfeaa
open Go.RowKit

theorem Nb.eq_iff (a b : Nb) : a.eq b = true ↔ a = b := by
  obtain ⟨a1, a2, a3⟩ := a
  obtain ⟨b1, b2, b3⟩ := b
  simp [Nb.eq]
theorem Mx.eq_iff (a b : Mx) : a.eq b = true ↔ a = b := by
  obtain ⟨a1, a2, a3⟩ := a
  obtain ⟨b1, b2, b3⟩ := b
  simp only [Mx.eq, Bool.and_eq_true, Nb.eq_iff, beq_iff_eq, Mx.mk.injEq]
def eqMs : List Mx → List Mx → Bool
  | [], [] => true
  | a :: l, b :: m => a.eq b && eqMs l m
  | _, _ => false
theorem eqMs_iff : ∀ (l m : List Mx), eqMs l m = true ↔ l = m
  | [], [] => by simp [eqMs]
  | [], b :: m => by simp [eqMs]
  | a :: l, [] => by simp [eqMs]
  | a :: l, b :: m => by simp only [eqMs, Bool.and_eq_true, Mx.eq_iff, eqMs_iff l m, List.cons.injEq]
theorem eqMs_len {l m : List Mx} (h : l.length ≠ m.length) : eqMs l m = false := by
  cases e : eqMs l m
  · rfl
  · rw [(eqMs_iff l m).1 e] at h; exact absurd rfl h
theorem eqMs_at {l m : List Mx} {k : Nat} (h : k < l.length) (h' : k < m.length) (hn : l[k] ≠ m[k]) : eqMs l m = false := by
  cases e : eqMs l m
  · rfl
  · have := (eqMs_iff l m).1 e; subst this; exact absurd rfl hn
theorem eqMs_all {l m : List Mx} (hl : l.length = m.length) (h : ∀ k (h : k < l.length) (h' : k < m.length), l[k] = m[k]) : eqMs l m = true := (eqMs_iff l m).2 (List.ext_getElem hl h)
set_option maxRecDepth 100000 in
set_option maxHeartbeats 8000000 in
theorem equal_any (a b : Option Addr) (ca cb : Nat) (l m : List Mx) (w : World) (hr : RdX w a l) (hr2 : RdX w b m) (hl : l.length ≤ 140737488355328) :
    Calls Try.prog 53 #[.slice a l.length ca, .slice b m.length cb] w fun e w' => e = .returned (.bool (eqMs l m)) ∧ Below w.heap.size w w' := by
  by_cases hlen : l.length = m.length
  · have hl2 : ((l.length : Int) == (m.length : Int)) = true := by simp [hlen]
    have HR := hide hr
    have HS := hide hr2
    have HL := hide hlen
    clear hr hr2
    rw [← hlen]
    clear hlen hl2
    go_enter Try.func53, Try.ntmps53
    go_wp2
    go_loopw [13] (fun i wr => ∃ k : Nat, k ≤ l.length ∧ i = .int .i64 k ∧ (∀ j (hj : j < k) (h1 : j < l.length) (h2 : j < m.length), l[j] = m[j]) ∧ Below w.heap.size w wr) (fun i _ => l.length - (intOf i).toNat)
    case atStart => exact ⟨0, by omega, rfl, fun j hj => absurd hj (by omega), Below.refl _ _⟩
    case round =>
      obtain ⟨k, hk, rfl, hn, hb⟩ := hrel
      have HN := hide hn
      have HW := hide hb
      clear hn hb
      by_cases hlt : k < l.length
      · have hlt2 : k < m.length := by have := HL.out; omega
        obtain ⟨p, off, rfl, hp, hcl⟩ := (HR.out.below HW.out).some (by omega)
        obtain ⟨p', off', rfl, hp', hcl'⟩ := (HS.out.below HW.out).some (by omega)
        obtain ⟨q0, q1, q2, q3, q4, q5, q6⟩ := hcl k hlt
        obtain ⟨r0, r1, r2, r3, r4, r5, r6⟩ := hcl' k hlt2
        have hlI : (k : Int) < (l.length : Int) := by omega
        have HX : Hid (l[k] = m[k] → ∀ j (hj : j < k + 1) (h1 : j < l.length) (h2 : j < m.length), l[j] = m[j]) := fun ho j hj h1 h2 => by
          by_cases e : j = k
          · subst e; exact ho
          · exact HN.out j (by omega) h1 h2
        have HO : Hid (l[k] ≠ m[k] → eqMs l m = false) := fun ho => eqMs_at hlt hlt2 ho
        clear hcl hcl' hp hp'
        generalize l[k] = x at *
        generalize m[k] = y at *
        obtain ⟨⟨vw, vh, vl⟩, ⟨mw, mh, ml⟩, len⟩ := x
        obtain ⟨⟨yvw, yvh, yvl⟩, ⟨ymw, ymh, yml⟩, ylen⟩ := y
        simp only at q0 q1 q2 q3 q4 q5 q6 r0 r1 r2 r3 r4 r5 r6
        by_cases evw : vw = yvw
        rotate_left
        · have f1 : (vw == yvw) = false := by simp [evw]
          have f2 : (vw = yvw) = False := by simp [evw]
          have HF := hide (HO.out (by simp [evw]))
          clear HO HX evw
          go_wp2
          go_quiet (fail)
          go_wp2
          go_ret
          exact ⟨by rw [HF.out]; rfl, below_drewN HW.out _⟩
        subst evw
        by_cases evh : vh = yvh
        rotate_left
        · have f1 : (vh == yvh) = false := by simp [evh]
          have f2 : (vh = yvh) = False := by simp [evh]
          have HF := hide (HO.out (by simp [evh]))
          clear HO HX evh
          go_wp2
          go_quiet (fail)
          go_wp2
          go_ret
          exact ⟨by rw [HF.out]; rfl, below_drewN HW.out _⟩
        subst evh
        by_cases evl : vl = yvl
        rotate_left
        · have f1 : (vl == yvl) = false := by simp [evl]
          have f2 : (vl = yvl) = False := by simp [evl]
          have HF := hide (HO.out (by simp [evl]))
          clear HO HX evl
          go_wp2
          go_quiet (fail)
          go_wp2
          go_ret
          exact ⟨by rw [HF.out]; rfl, below_drewN HW.out _⟩
        subst evl
        by_cases emw : mw = ymw
        rotate_left
        · have f1 : (mw == ymw) = false := by simp [emw]
          have f2 : (mw = ymw) = False := by simp [emw]
          have HF := hide (HO.out (by simp [emw]))
          clear HO HX emw
          go_wp2
          go_quiet (fail)
          go_wp2
          go_ret
          exact ⟨by rw [HF.out]; rfl, below_drewN HW.out _⟩
        subst emw
        by_cases emh : mh = ymh
        rotate_left
        · have f1 : (mh == ymh) = false := by simp [emh]
          have f2 : (mh = ymh) = False := by simp [emh]
          have HF := hide (HO.out (by simp [emh]))
          clear HO HX emh
          go_wp2
          go_quiet (fail)
          go_wp2
          go_ret
          exact ⟨by rw [HF.out]; rfl, below_drewN HW.out _⟩
        subst emh
        by_cases eml : ml = yml
        rotate_left
        · have f1 : (ml == yml) = false := by simp [eml]
          have f2 : (ml = yml) = False := by simp [eml]
          have HF := hide (HO.out (by simp [eml]))
          clear HO HX eml
          go_wp2
          go_quiet (fail)
          go_wp2
          go_ret
          exact ⟨by rw [HF.out]; rfl, below_drewN HW.out _⟩
        subst eml
        by_cases elen : len = ylen
        rotate_left
        · have f1 : (len == ylen) = false := by simp [elen]
          have f2 : (len = ylen) = False := by simp [elen]
          have HF := hide (HO.out (by simp [elen]))
          clear HO HX elen
          go_wp2
          go_quiet (fail)
          go_wp2
          go_ret
          exact ⟨by rw [HF.out]; rfl, below_drewN HW.out _⟩
        subst elen
        have HF := hide (HX.out rfl)
        clear HO HX
        go_wp2
        go_quiet (fail)
        go_wp2
        go_roundw
        case rel => exact ⟨k + 1, by omega, by go_num, HF.out, below_drewN HW.out _⟩
        case measure => simp [intOf]; omega
      · obtain rfl : k = l.length := by omega
        have HH := hide (eqMs_all HL.out (fun j h1 h2 => HN.out j h1 h1 h2))
        go_wp2
        go_ret
        exact ⟨by rw [HH.out]; rfl, HW.out⟩
  · have hl2 : ((l.length : Int) == (m.length : Int)) = false := by simp; omega
    have hl3 : ((l.length : Int) = (m.length : Int)) = False := by simp; omega
    have hl4 : (l.length = m.length) = False := by simp; omega
    have HE := hide (eqMs_len hlen)
    clear hlen hr hr2 hl
    go_enter Try.func53, Try.ntmps53
    go_wp2
    go_ret
    exact ⟨by rw [HE.out]; rfl, Below.refl _ _⟩
end Go.Proofs.Ythkhdmdllhbfeaa
