/- Pieces of the proof: CfA. -/
import Derived.Test.YtbemfjdloeipmaaGreatDoorM11
import Derived.Test.YtbemfjdloeipmaaGreatDoorM12
/- The document's own May of an array (chapter 14). -/
namespace Go.Proofs.YtbemfjdloeipmaaGreatDoor
open Go.RowKit

theorem refOkC_any (b : Nb) (hb : NbR b) : Pure 32 #[b.val] (.bool b.ok) := fun w =>
  refCheck_any b.w b.hi b.lo w hb.hi.1 hb.hi.2 hb.lo.1 hb.lo.2
theorem mayF {a : Ar} (h : mayA a = true) : frameB a = true ∧ fromB 1 a.cs.length 4096 = true ∧ ∀ b ∈ a.cs, holdsB a b = true := by
  unfold mayA at h
  simp only [Bool.and_eq_true] at h
  refine ⟨h.1, h.2.1, fun b hb => ?_⟩
  cases e : holdsB a b
  · have : a.cs.any (fun b => !holdsB a b) = true := List.any_eq_true.2 ⟨b, hb, by rw [e]; rfl⟩
    rw [this] at h
    simp at h
  · rfl
theorem mayT {a : Ar} (h1 : frameB a = true) (h2 : fromB 1 a.cs.length 4096 = true) (h3 : ∀ j (hj : j < a.cs.length), holdsB a a.cs[j] = true) : mayA a = true := by
  have e : a.cs.any (fun b => !holdsB a b) = false := by
    rw [List.any_eq_false]
    intro b hb
    obtain ⟨j, hj, rfl⟩ := List.mem_iff_getElem.1 hb
    rw [h3 j hj]; simp
  unfold mayA
  rw [h1, h2, e]; rfl
theorem ticks_of {a : Ar} (h1 : a.ls.length = a.cs.length) (h2 : ∀ j (hj : j < a.ls.length), 0 ≤ a.ls[j]) : ticksB a = true := by
  have e : a.ls.any (fun n => decide (n < 0)) = false := by
    rw [List.any_eq_false]
    intro b hb
    obtain ⟨j, hj, rfl⟩ := List.mem_iff_getElem.1 hb
    have := h2 j hj
    simp; omega
  unfold ticksB
  rw [e]; simp [h1]
theorem ticks_get {a : Ar} (h : ticksB a = true) : a.ls.length = a.cs.length ∧ ∀ j (hj : j < a.ls.length), 0 ≤ a.ls[j] := by
  unfold ticksB at h
  simp only [Bool.and_eq_true, beq_iff_eq, Bool.not_eq_true', List.any_eq_false, decide_eq_true_eq] at h
  exact ⟨h.1, fun j hj => by have := h.2 _ (List.getElem_mem hj); omega⟩
set_option maxRecDepth 100000 in
set_option maxHeartbeats 8000000 in
theorem refMay14_any (x : ArL) (w : World) (hx : ArR w x) : Calls Tryz.prog 136 #[x.val] w fun e w' => e = .returned (.bool (mayA x.a)) ∧ Below w.heap.size w w' := by
  obtain ⟨⟨name, kind, wd, rate, burst, cs, ls⟩, ca, cc, la, lc⟩ := x
  have HM := hide (mayF (a := ⟨name, kind, wd, rate, burst, cs, ls⟩))
  have HY := hide (mayT (a := ⟨name, kind, wd, rate, burst, cs, ls⟩))
  generalize mayA ⟨name, kind, wd, rate, burst, cs, ls⟩ = r at *
  simp only [ArL.val] at *
  have HF : Hid (frameB ⟨name, kind, wd, rate, burst, cs, ls⟩ = false → r = false) := fun h => by
    cases r
    · rfl
    · rw [(HM.out rfl).1] at h; cases h
  by_cases n1 : cs.length < 1
  · have n1' : ((cs.length : Int) < 1) = True := by simp; omega
    obtain rfl : r = false := by
      cases r
      · rfl
      · have := (HM.out rfl).2.1; simp [fromB] at this; omega
    clear HM HY HF hx n1
    go_enter Tryz.func136, Tryz.ntmps136
    go_wp2
    go_ret
    exact ⟨rfl, below1 _ _⟩
  have n1' : ((cs.length : Int) < 1) = False := by simp; omega
  by_cases n2 : 4096 < cs.length
  · have n2' : ((cs.length : Int) > 4096) = True := by simp; omega
    have n2'' : ((4096 : Int) < (cs.length : Int)) = True := by simp; omega
    obtain rfl : r = false := by
      cases r
      · rfl
      · have := (HM.out rfl).2.1; simp [fromB] at this; omega
    clear HM HY HF hx n1 n2
    go_enter Tryz.func136, Tryz.ntmps136
    go_wp2
    go_ret
    exact ⟨rfl, below1 _ _⟩
  have n2' : ((cs.length : Int) > 4096) = False := by simp; omega
  have n2'' : ((4096 : Int) < (cs.length : Int)) = False := by simp; omega
  have HL : Hid (1 ≤ cs.length ∧ cs.length ≤ 4096) := ⟨by omega, by omega⟩
  clear n1 n2
  by_cases k3 : kind = 3
  · subst k3
    by_cases q : wd < 1
    · obtain rfl := HF.out (by cases h : frameB _ with | false => rfl | true => (exfalso; simp [frameB, plainB, fromB] at h; first | omega | (apply q; simp [h])))
      have t1 : decide (wd < 1) = true := by simpa using q
      clear HM HY HF hx
      go_enter Tryz.func136, Tryz.ntmps136
      go_wp2
      go_ret
      exact ⟨rfl, below1 _ _⟩
    have p1 : decide (wd < 1) = false := by simpa using q
    clear q
    by_cases q : 128 < wd
    · obtain rfl := HF.out (by cases h : frameB _ with | false => rfl | true => (exfalso; simp [frameB, plainB, fromB] at h; first | omega | (apply q; simp [h])))
      have t1 : decide (128 < wd) = true := by simpa using q
      clear HM HY HF hx
      go_enter Tryz.func136, Tryz.ntmps136
      go_wp2
      go_ret
      exact ⟨rfl, below1 _ _⟩
    have p2 : decide (128 < wd) = false := by simpa using q
    clear q
    by_cases q : rate ≠ 0
    · obtain rfl := HF.out (by cases h : frameB _ with | false => rfl | true => (exfalso; simp [frameB, plainB, fromB] at h; first | omega | (apply q; simp [h])))
      have t1 : (rate = 0) = False := by simpa using q
      have t2 : (rate == 0) = false := by simpa using q
      clear HM HY HF hx
      go_enter Tryz.func136, Tryz.ntmps136
      go_wp2
      go_ret
      exact ⟨rfl, below1 _ _⟩
    obtain rfl := Decidable.not_not.1 q
    by_cases q : burst ≠ 0
    · obtain rfl := HF.out (by cases h : frameB _ with | false => rfl | true => (exfalso; simp [frameB, plainB, fromB] at h; first | omega | (apply q; simp [h])))
      have t1 : (burst = 0) = False := by simpa using q
      have t2 : (burst == 0) = false := by simpa using q
      clear HM HY HF hx
      go_enter Tryz.func136, Tryz.ntmps136
      go_wp2
      go_ret
      exact ⟨rfl, below1 _ _⟩
    obtain rfl := Decidable.not_not.1 q
    by_cases q : ls.length ≠ 0
    · obtain rfl := HF.out (by cases h : frameB _ with | false => rfl | true => (exfalso; simp [frameB, plainB, fromB] at h; first | omega | (apply q; simp [h])))
      have t1 : ((ls.length : Int) = 0) = False := eq_false (by omega)
      have t2 : ((ls.length : Int) == 0) = false := beq_eq_false_iff_ne.2 (by omega)
      have t3 : (ls.length = 0) = False := by simpa using q
      have t4 : (ls = []) = False := by simp; intro h; subst h; simp at q
      clear HM HY HF hx
      go_enter Tryz.func136, Tryz.ntmps136
      go_wp2
      go_ret
      exact ⟨rfl, below1 _ _⟩
    obtain rfl : ls = [] := List.eq_nil_of_length_eq_zero (Decidable.not_not.1 q)
    have HWD : Hid (1 ≤ wd ∧ wd ≤ 128) := ⟨by simp at p1; omega, by simp at p2; omega⟩
    have HCS := hide hx.cs
    have HCK : Hid (∀ k (h : k < cs.length), Pure 32 #[cs[k].val] (.bool cs[k].ok)) := fun k h => refOkC_any _ (hx.cr _ (List.getElem_mem h))
    clear hx HF
    go_enter Tryz.func136, Tryz.ntmps136
    go_wp2
    go_loopw [3] (fun i wr => ∃ k : Nat, k ≤ cs.length ∧ i = .int .i64 k ∧ (∀ j (hj : j < cs.length), j < k → cs[j].ok = true ∧ cs[j].w = wd) ∧ wr.heap[w.heap.size]? = some (.cells #[.string name, .int .u8 3, .int .i64 wd, .int .i64 0, .int .i64 0, .slice ca cs.length cc, .slice la 0 lc] 26 (0, 0)) ∧ Below w.heap.size w wr) (fun i _ => cs.length - (intOf i).toNat)
    case atStart => exact ⟨0, by omega, rfl, fun j _ h => absurd h (by omega), heap_alloc_new _ _, below1 _ _⟩
    case round =>
      obtain ⟨k, hk, rfl, hr, hK, hB⟩ := hrel
      have HR := hide hr
      have HK := hide hK
      have HB := hide hB
      clear hr hK hB
      obtain ⟨b0, b1, b2, b3, b4, b5, b6⟩ := at7 HK.out
      by_cases hlt : k < cs.length
      · have hlI : (k : Int) < (cs.length : Int) := by omega
        have hk4 : k < 4096 := by have := HL.out.2; omega
        obtain ⟨p, off, rfl, hp, hcl⟩ := (HCS.out.below HB.out).some (by omega)
        obtain ⟨c0, c1, c2⟩ := hcl k hlt
        have HG := hide (HCK.out k hlt)
        have HS : Hid (cs[k].ok = true ∧ cs[k].w = wd → ∀ j (hj : j < cs.length), j < k + 1 → cs[j].ok = true ∧ cs[j].w = wd) := fun h j hj hjk => by
          by_cases h3 : j < k
          · exact HR.out j hj h3
          · obtain rfl : j = k := by omega
            exact h
        have HN : Hid (¬ (cs[k].ok = true ∧ cs[k].w = wd) → r = false) := fun h => by
          cases r
          · rfl
          · refine absurd ?_ h
            have hh := (HM.out rfl).2.2 _ (List.getElem_mem hlt)
            simp only [holdsB, Bool.and_eq_true, beq_iff_eq] at hh
            exact ⟨hh.2.1, hh.1⟩
        clear hcl HR HM HY HCK
        generalize hm : cs[k] = m at *
        clear hm
        obtain ⟨mw, mh, ml⟩ := m
        simp only [Nb.val] at *
        generalize Nb.ok ⟨mw, mh, ml⟩ = t at *
        go_wp2_with fail
        refine (HG.out _).mono ?_
        rintro e w2 ⟨rfl, hb⟩
        have BB := hide (bstep (bstep HB.out (below1 _ _)) hb)
        have KK := hide (heap_below hb (heap_past _ HK.out))
        have KC := hide (heap_below hb (heap_alloc_new wr _))
        clear hb b0 b1 b2 b3 b4 b5 b6 c0 c1 c2
        obtain ⟨b0, b1, b2, b3, b4, b5, b6⟩ := at7 KK.out
        obtain ⟨z0, z1, z2, -⟩ := at3 KC.out
        cases t
        · obtain rfl := HN.out (by simp)
          clear HN HS
          go_wp2
          go_ret
          exact ⟨rfl, BB.out⟩
        · by_cases hw : mw = wd
          · subst hw
            have HS2 := hide (HS.out (by simp))
            clear HN HS
            go_wp2
            go_roundw
            case rel => exact ⟨k + 1, by omega, by go_num, HS2.out, KK.out, BB.out⟩
            case measure => simp [intOf]; omega
          · obtain rfl := HN.out (by simp [hw])
            have hw1 : (mw = wd) = False := by simpa using hw
            have hw2 : (mw == wd) = false := by simpa using hw
            clear HN HS hw
            go_wp2
            go_ret
            exact ⟨rfl, BB.out⟩
      · obtain rfl : k = cs.length := by omega
        obtain rfl : r = true := HY.out (by have := HWD.out; simp [frameB, plainB, fromB]; omega) (by have := HL.out; simp [fromB]; omega) (fun j hj => by have := HR.out j hj hj; simp [holdsB, this])
        go_wp2
        go_ret
        exact ⟨rfl, HB.out⟩
  by_cases k4 : kind = 4
  · subst k4
    by_cases q : wd ≠ 64
    · obtain rfl := HF.out (by cases h : frameB _ with | false => rfl | true => (exfalso; simp [frameB, plainB] at h; first | omega | (apply q; simp [h])))
      have t1 : (wd = 64) = False := by simpa using q
      have t2 : (wd == 64) = false := by simpa using q
      clear HM HY HF hx
      go_enter Tryz.func136, Tryz.ntmps136
      go_wp2
      go_ret
      exact ⟨rfl, below1 _ _⟩
    obtain rfl := Decidable.not_not.1 q
    by_cases q : rate ≠ 0
    · obtain rfl := HF.out (by cases h : frameB _ with | false => rfl | true => (exfalso; simp [frameB, plainB] at h; first | omega | (apply q; simp [h])))
      have t1 : (rate = 0) = False := by simpa using q
      have t2 : (rate == 0) = false := by simpa using q
      clear HM HY HF hx
      go_enter Tryz.func136, Tryz.ntmps136
      go_wp2
      go_ret
      exact ⟨rfl, below1 _ _⟩
    obtain rfl := Decidable.not_not.1 q
    by_cases q : burst ≠ 0
    · obtain rfl := HF.out (by cases h : frameB _ with | false => rfl | true => (exfalso; simp [frameB, plainB] at h; first | omega | (apply q; simp [h])))
      have t1 : (burst = 0) = False := by simpa using q
      have t2 : (burst == 0) = false := by simpa using q
      clear HM HY HF hx
      go_enter Tryz.func136, Tryz.ntmps136
      go_wp2
      go_ret
      exact ⟨rfl, below1 _ _⟩
    obtain rfl := Decidable.not_not.1 q
    by_cases q : ls.length ≠ 0
    · obtain rfl := HF.out (by cases h : frameB _ with | false => rfl | true => (exfalso; simp [frameB, plainB] at h; first | omega | (apply q; simp [h])))
      have t1 : ((ls.length : Int) = 0) = False := eq_false (by omega)
      have t2 : ((ls.length : Int) == 0) = false := beq_eq_false_iff_ne.2 (by omega)
      have t3 : (ls.length = 0) = False := by simpa using q
      have t4 : (ls = []) = False := by simp; intro h; subst h; simp at q
      clear HM HY HF hx
      go_enter Tryz.func136, Tryz.ntmps136
      go_wp2
      go_ret
      exact ⟨rfl, below1 _ _⟩
    obtain rfl : ls = [] := List.eq_nil_of_length_eq_zero (Decidable.not_not.1 q)
    have HCS := hide hx.cs
    have HCK : Hid (∀ k (h : k < cs.length), Pure 32 #[cs[k].val] (.bool cs[k].ok)) := fun k h => refOkC_any _ (hx.cr _ (List.getElem_mem h))
    clear hx HF
    go_enter Tryz.func136, Tryz.ntmps136
    go_wp2
    go_loopw [3] (fun i wr => ∃ k : Nat, k ≤ cs.length ∧ i = .int .i64 k ∧ (∀ j (hj : j < cs.length), j < k → cs[j].ok = true ∧ cs[j].w = 64) ∧ wr.heap[w.heap.size]? = some (.cells #[.string name, .int .u8 4, .int .i64 64, .int .i64 0, .int .i64 0, .slice ca cs.length cc, .slice la 0 lc] 26 (0, 0)) ∧ Below w.heap.size w wr) (fun i _ => cs.length - (intOf i).toNat)
    case atStart => exact ⟨0, by omega, rfl, fun j _ h => absurd h (by omega), heap_alloc_new _ _, below1 _ _⟩
    case round =>
      obtain ⟨k, hk, rfl, hr, hK, hB⟩ := hrel
      have HR := hide hr
      have HK := hide hK
      have HB := hide hB
      clear hr hK hB
      obtain ⟨b0, b1, b2, b3, b4, b5, b6⟩ := at7 HK.out
      by_cases hlt : k < cs.length
      · have hlI : (k : Int) < (cs.length : Int) := by omega
        have hk4 : k < 4096 := by have := HL.out.2; omega
        obtain ⟨p, off, rfl, hp, hcl⟩ := (HCS.out.below HB.out).some (by omega)
        obtain ⟨c0, c1, c2⟩ := hcl k hlt
        have HG := hide (HCK.out k hlt)
        have HS : Hid (cs[k].ok = true ∧ cs[k].w = 64 → ∀ j (hj : j < cs.length), j < k + 1 → cs[j].ok = true ∧ cs[j].w = 64) := fun h j hj hjk => by
          by_cases h3 : j < k
          · exact HR.out j hj h3
          · obtain rfl : j = k := by omega
            exact h
        have HN : Hid (¬ (cs[k].ok = true ∧ cs[k].w = 64) → r = false) := fun h => by
          cases r
          · rfl
          · refine absurd ?_ h
            have hh := (HM.out rfl).2.2 _ (List.getElem_mem hlt)
            simp only [holdsB, Bool.and_eq_true, beq_iff_eq] at hh
            exact ⟨hh.2.1, hh.1⟩
        clear hcl HR HM HY HCK
        generalize hm : cs[k] = m at *
        clear hm
        obtain ⟨mw, mh, ml⟩ := m
        simp only [Nb.val] at *
        generalize Nb.ok ⟨mw, mh, ml⟩ = t at *
        go_wp2_with fail
        refine (HG.out _).mono ?_
        rintro e w2 ⟨rfl, hb⟩
        have BB := hide (bstep (bstep HB.out (below1 _ _)) hb)
        have KK := hide (heap_below hb (heap_past _ HK.out))
        have KC := hide (heap_below hb (heap_alloc_new wr _))
        clear hb b0 b1 b2 b3 b4 b5 b6 c0 c1 c2
        obtain ⟨b0, b1, b2, b3, b4, b5, b6⟩ := at7 KK.out
        obtain ⟨z0, z1, z2, -⟩ := at3 KC.out
        cases t
        · obtain rfl := HN.out (by simp)
          clear HN HS
          go_wp2
          go_ret
          exact ⟨rfl, BB.out⟩
        · by_cases hw : mw = 64
          · subst hw
            have HS2 := hide (HS.out (by simp))
            clear HN HS
            go_wp2
            go_roundw
            case rel => exact ⟨k + 1, by omega, by go_num, HS2.out, KK.out, BB.out⟩
            case measure => simp [intOf]; omega
          · obtain rfl := HN.out (by simp [hw])
            have hw1 : (mw = 64) = False := by simpa using hw
            have hw2 : (mw == 64) = false := by simpa using hw
            clear HN HS hw
            go_wp2
            go_ret
            exact ⟨rfl, BB.out⟩
      · obtain rfl : k = cs.length := by omega
        obtain rfl : r = true := HY.out (by simp [frameB, plainB]) (by have := HL.out; simp [fromB]; omega) (fun j hj => by have := HR.out j hj hj; simp [holdsB, this])
        go_wp2
        go_ret
        exact ⟨rfl, HB.out⟩
  by_cases k5 : kind = 5
  · subst k5
    by_cases q : wd ≠ 64
    · obtain rfl := HF.out (by cases h : frameB _ with | false => rfl | true => (exfalso; simp [frameB, ticksB, fromB] at h; first | omega | (apply q; simp [h])))
      have t1 : (wd = 64) = False := by simpa using q
      have t2 : (wd == 64) = false := by simpa using q
      clear HM HY HF hx
      go_enter Tryz.func136, Tryz.ntmps136
      go_wp2
      go_ret
      exact ⟨rfl, below1 _ _⟩
    obtain rfl := Decidable.not_not.1 q
    by_cases q : rate < 0
    · obtain rfl := HF.out (by cases h : frameB _ with | false => rfl | true => (exfalso; simp [frameB, ticksB, fromB] at h; first | omega | (apply q; simp [h])))
      have t1 : decide (rate < 0) = true := by simpa using q
      clear HM HY HF hx
      go_enter Tryz.func136, Tryz.ntmps136
      go_wp2
      go_ret
      exact ⟨rfl, below1 _ _⟩
    have p1 : decide (rate < 0) = false := by simpa using q
    clear q
    by_cases q : 65535 < rate
    · obtain rfl := HF.out (by cases h : frameB _ with | false => rfl | true => (exfalso; simp [frameB, ticksB, fromB] at h; first | omega | (apply q; simp [h])))
      have t1 : decide (65535 < rate) = true := by simpa using q
      clear HM HY HF hx
      go_enter Tryz.func136, Tryz.ntmps136
      go_wp2
      go_ret
      exact ⟨rfl, below1 _ _⟩
    have p2 : decide (65535 < rate) = false := by simpa using q
    clear q
    by_cases q : burst < 1
    · obtain rfl := HF.out (by cases h : frameB _ with | false => rfl | true => (exfalso; simp [frameB, ticksB, fromB] at h; first | omega | (apply q; simp [h])))
      have t1 : decide (burst < 1) = true := by simpa using q
      clear HM HY HF hx
      go_enter Tryz.func136, Tryz.ntmps136
      go_wp2
      go_ret
      exact ⟨rfl, below1 _ _⟩
    have p3 : decide (burst < 1) = false := by simpa using q
    clear q
    by_cases q : 65535 < burst
    · obtain rfl := HF.out (by cases h : frameB _ with | false => rfl | true => (exfalso; simp [frameB, ticksB, fromB] at h; first | omega | (apply q; simp [h])))
      have t1 : decide (65535 < burst) = true := by simpa using q
      clear HM HY HF hx
      go_enter Tryz.func136, Tryz.ntmps136
      go_wp2
      go_ret
      exact ⟨rfl, below1 _ _⟩
    have p4 : decide (65535 < burst) = false := by simpa using q
    clear q
    by_cases q : ls.length ≠ cs.length
    · obtain rfl := HF.out (by cases h : frameB _ with | false => rfl | true => (exfalso; simp [frameB, ticksB, fromB] at h; first | omega | (apply q; simp [h])))
      have t1 : ((ls.length : Int) = (cs.length : Int)) = False := eq_false (by omega)
      have t2 : ((ls.length : Int) == (cs.length : Int)) = false := beq_eq_false_iff_ne.2 (by omega)
      have t3 : (ls.length = cs.length) = False := by simpa using q
      clear HM HY HF hx
      go_enter Tryz.func136, Tryz.ntmps136
      go_wp2
      go_ret
      exact ⟨rfl, below1 _ _⟩
    have hlen := Decidable.not_not.1 q
    clear q
    have HWD : Hid (0 ≤ rate ∧ rate ≤ 65535 ∧ 1 ≤ burst ∧ burst ≤ 65535 ∧ ls.length = cs.length) := ⟨by simp at p1; omega, by simp at p2; omega, by simp at p3; omega, by simp at p4; omega, hlen⟩
    have wb : IntKind.u64.wrap burst = burst := by rw [IntKind.wrap_u64]; have := HWD.out; omega
    have HP : Hid (∀ k, k < cs.length → k < ls.length) := fun k h => by omega
    have HLS := hide hx.ls
    rw [hlen]
    have HCS := hide hx.cs
    have HCK : Hid (∀ k (h : k < cs.length), Pure 32 #[cs[k].val] (.bool cs[k].ok)) := fun k h => refOkC_any _ (hx.cr _ (List.getElem_mem h))
    clear hx HF
    go_enter Tryz.func136, Tryz.ntmps136
    go_wp2
    go_loopw [3] (fun i wr => ∃ k : Nat, k ≤ cs.length ∧ i = .int .i64 k ∧ (∀ j (hj : j < cs.length), j < k → cs[j].ok = true ∧ cs[j].w = 64 ∧ cs[j].lo ≤ burst ∧ ∀ h : j < ls.length, 0 ≤ ls[j]) ∧ wr.heap[w.heap.size]? = some (.cells #[.string name, .int .u8 5, .int .i64 64, .int .i64 rate, .int .i64 burst, .slice ca cs.length cc, .slice la cs.length lc] 26 (0, 0)) ∧ Below w.heap.size w wr) (fun i _ => cs.length - (intOf i).toNat)
    case atStart => exact ⟨0, by omega, rfl, fun j _ h => absurd h (by omega), heap_alloc_new _ _, below1 _ _⟩
    case round =>
      obtain ⟨k, hk, rfl, hr, hK, hB⟩ := hrel
      have HR := hide hr
      have HK := hide hK
      have HB := hide hB
      clear hr hK hB
      obtain ⟨b0, b1, b2, b3, b4, b5, b6⟩ := at7 HK.out
      by_cases hlt : k < cs.length
      · have hlI : (k : Int) < (cs.length : Int) := by omega
        have hk4 : k < 4096 := by have := HL.out.2; omega
        obtain ⟨p, off, rfl, hp, hcl⟩ := (HCS.out.below HB.out).some (by omega)
        obtain ⟨c0, c1, c2⟩ := hcl k hlt
        have HG := hide (HCK.out k hlt)
        obtain ⟨p', off', rfl, hp', hcl'⟩ := (HLS.out.below HB.out).some (by have := HP.out k hlt; omega)
        have hkl := HP.out k hlt
        have d0 := hcl' k hkl
        have HS : Hid (cs[k].ok = true ∧ cs[k].w = 64 ∧ cs[k].lo ≤ burst ∧ 0 ≤ ls[k] → ∀ j (hj : j < cs.length), j < k + 1 → cs[j].ok = true ∧ cs[j].w = 64 ∧ cs[j].lo ≤ burst ∧ ∀ h : j < ls.length, 0 ≤ ls[j]) := fun h j hj hjk => by
          by_cases h3 : j < k
          · exact HR.out j hj h3
          · obtain rfl : j = k := by omega
            exact ⟨h.1, h.2.1, h.2.2.1, fun _ => h.2.2.2⟩
        have HN : Hid (¬ (cs[k].ok = true ∧ cs[k].w = 64 ∧ cs[k].lo ≤ burst ∧ 0 ≤ ls[k]) → r = false) := fun h => by
          cases r
          · rfl
          · refine absurd ?_ h
            have hh := (HM.out rfl).2.2 _ (List.getElem_mem hlt)
            simp only [holdsB, Bool.and_eq_true, beq_iff_eq] at hh
            have hf := (HM.out rfl).1
            simp [frameB] at hf
            have ht := ticks_get hf.2.2
            refine ⟨hh.2.1, hh.1, ?_, ht.2 k hkl⟩
            have := hh.2.2
            simp at this
            omega
        clear hcl HR HM HY HCK
        clear hcl'
        generalize ls[k] = tk at *
        generalize hm : cs[k] = m at *
        clear hm
        obtain ⟨mw, mh, ml⟩ := m
        simp only [Nb.val] at *
        generalize Nb.ok ⟨mw, mh, ml⟩ = t at *
        go_wp2_with fail
        refine (HG.out _).mono ?_
        rintro e w2 ⟨rfl, hb⟩
        have d1 := ((bstep (below1 wr _) hb).cell (p := ⟨p', off' + k, none⟩) hp').trans d0
        clear d0
        have BB := hide (bstep (bstep HB.out (below1 _ _)) hb)
        have KK := hide (heap_below hb (heap_past _ HK.out))
        have KC := hide (heap_below hb (heap_alloc_new wr _))
        clear hb b0 b1 b2 b3 b4 b5 b6 c0 c1 c2
        obtain ⟨b0, b1, b2, b3, b4, b5, b6⟩ := at7 KK.out
        obtain ⟨z0, z1, z2, -⟩ := at3 KC.out
        cases t
        · obtain rfl := HN.out (by simp)
          clear HN HS
          go_wp2
          go_ret
          exact ⟨rfl, BB.out⟩
        · by_cases hw : mw = 64
          · subst hw
            by_cases hq : burst < ml
            · obtain rfl := HN.out (by simp; omega)
              have hq1 : decide (burst < ml) = true := by simpa using hq
              clear HN HS
              go_wp2
              go_ret
              exact ⟨rfl, BB.out⟩
            · have hq1 : decide (burst < ml) = false := by simpa using hq
              by_cases hn : tk < 0
              · obtain rfl := HN.out (by simp; omega)
                have hn1 : decide (tk < 0) = true := by simpa using hn
                clear HN HS
                go_wp2
                go_ret
                exact ⟨rfl, BB.out⟩
              · have hn1 : decide (tk < 0) = false := by simpa using hn
                have HS2 := hide (HS.out ⟨rfl, rfl, by omega, by omega⟩)
                clear HN HS
                go_wp2
                go_roundw
                case rel => exact ⟨k + 1, by omega, by go_num, HS2.out, KK.out, BB.out⟩
                case measure => simp [intOf]; omega
          · obtain rfl := HN.out (by simp [hw])
            have hw1 : (mw = 64) = False := by simpa using hw
            have hw2 : (mw == 64) = false := by simpa using hw
            clear HN HS hw
            go_wp2
            go_ret
            exact ⟨rfl, BB.out⟩
      · obtain rfl : k = cs.length := by omega
        obtain rfl : r = true := HY.out (by have hwd := HWD.out; have := ticks_of (a := ⟨name, 5, 64, rate, burst, cs, ls⟩) (by simp only; omega) (fun j hj => (HR.out j (by simp only at hj; omega) (by simp only at hj; omega)).2.2.2 hj); simp [frameB, this, fromB]; omega) (by have := HL.out; simp [fromB]; omega) (fun j hj => by have := HR.out j hj hj; simp [holdsB, this]; rw [wb]; exact this.2.2.1)
        go_wp2
        go_ret
        exact ⟨rfl, HB.out⟩
  · obtain rfl := HF.out (by simp [frameB, k3, k4, k5])
    have k3' : (kind = 3) = False := by simpa using k3
    have k4' : (kind = 4) = False := by simpa using k4
    have k5' : (kind = 5) = False := by simpa using k5
    have k3'' : (kind == 3) = false := by simpa using k3
    have k4'' : (kind == 4) = false := by simpa using k4
    have k5'' : (kind == 5) = false := by simpa using k5
    clear HM HY HF hx k3 k4 k5
    go_enter Tryz.func136, Tryz.ntmps136
    go_wp2
    go_ret
    exact ⟨rfl, below1 _ _⟩
end Go.Proofs.YtbemfjdloeipmaaGreatDoor
