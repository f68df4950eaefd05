/- Pieces of the proof: PaJl, PaNd, PaTb. -/
import Derived.Test.YtcfopkaomknmjaaGreatDoorM19
import Derived.Test.YtcfopkaomknmjaaGreatDoorM17
import Derived.Deep.LoopGhost
import Derived.Laws.AppendOwnNone
import Derived.Deep.RegionLaw
/- package parse: readers, walked. Written by bin/mkpw.py. -/
namespace Go.Proofs.YtcfopkaomknmjaaGreatDoor
open Go.RowKit

def caseP : Pf Ck := litP.bind fun v => ifP [38] (litP.bind fun m => (passP [[58]]).bind fun _ => nameP.bind fun t => Pf.ret ⟨v.1, v.2, m.1, m.2, t⟩) ((passP [[58]]).bind fun _ => nameP.bind fun t => Pf.ret ⟨v.1, v.2, v.1, 2 ^ v.1 - 1, t⟩)
theorem lit_wd {L : List (Wd × Nat)} (hL : OkL L) {k k1 : Nat} {x : Nat × Nat} (h : litP L k = .ok (x, k1)) : x.1 ≤ 128 := by
  unfold litP at h
  split at h
  · rename_i y hy
    split at h
    · cases h
      obtain ⟨hk, e⟩ := List.getElem?_eq_some_iff.1 hy
      have := hL.wd k hk
      rw [e] at this
      exact this
    · cases h
  · cases h
set_option maxRecDepth 100000 in
set_option maxHeartbeats 4000000 in
theorem caseOf_ok {p q : Nat} {L : List (Wd × Nat)} {dm sm : Value} {I : World → Prop} (hL : OkL L) (hI : Stb I p q L dm sm) :
    PfI I 157 #[.pointer (some ⟨p, 0, none⟩)] p q L dm sm 0 caseP (CaseV) := by
  intro w k hk h hi
  have HI : Hid (∀ W k', Rp w W p q L k' dm sm → I W) := fun W k' r => hI w W k' r hi
  have HL := hide hL
  have HKK := hide hk
  have HLt := hide (lit_i (I := I) (p := p) (q := q) (dm := dm) (sm := sm) (k0 := 0) hL)
  have HNm := hide (name_i (I := I) (p := p) (q := q) (dm := dm) (sm := sm) (k0 := 0) hL)
  have S0 := hide (Sp.start h)
  obtain ⟨RR, hRR⟩ : ∃ RR, RR = caseP L k := ⟨_, rfl⟩
  rw [← hRR]
  have Q0 := hide hRR
  clear hRR h hi hk hL hI
  go_enter Tryz.func157, Tryz.ntmps157
  have C1 : Hid (Sp w _ p q L k dm sm [(w.heap.size, .cells #[.int .i64 0, .int .u64 0, .int .u64 0, .int .i64 0, .int .u64 0, .int .u64 0, .string ⟨#[]⟩] 194 (0, 0))] _) := (S0.out.alloc #[.int .i64 0, .int .u64 0, .int .u64 0, .int .i64 0, .int .u64 0, .int .u64 0, .string ⟨#[]⟩] 194 (w.heap.size) rfl)
  go_wp2_with fail
  refine (HLt.out _ _ (Nat.zero_le _) C1.out.rr.here (HI.out _ _ C1.out.rr)).mono ?_
  rintro e w1 (⟨x1, k1, v, h1, rfl, hv, hr⟩ | ⟨k1, h1, rfl, hr⟩)
  · obtain ⟨a1, b1, c1, rfl⟩ := LitV.form hv
    have S1 := hide (C1.out.call litV_ok hr hv)
    have Q1 := hide (Q0.out.trans (bind_ok h1))
    have HWB := hide (lit_wd HL.out h1)
    have HWA := hide (LitV.eq hv).1
    have HLH := hide (wHi_low _ HWB.out).1
    have HLL := hide (wHi_low _ HWB.out).2
    clear hr h1 hv C1
    have C2 : Hid (Sp w _ p q L k1 dm sm [(w1.heap.size, .cells #[.int .i64 a1, .int .u64 b1, .int .u64 c1, .int .i64 0, .int .u64 0, .int .u64 0, .string ⟨#[]⟩] 194 (0, 0)), (w.heap.size, .cells #[.int .i64 0, .int .u64 0, .int .u64 0, .int .i64 0, .int .u64 0, .int .u64 0, .string ⟨#[]⟩] 194 (0, 0))] _) := (S1.out.alloc #[.int .i64 a1, .int .u64 b1, .int .u64 c1, .int .i64 0, .int .u64 0, .int .u64 0, .string ⟨#[]⟩] 194 (w1.heap.size) rfl)
    go_wp2_with fail
    refine (allSet_any _ _ HWB.out _ HWA.out).mono ?_
    rintro e w2 ⟨rfl, hb⟩
    have S2 := hide (C2.out.go (C2.out.rr.here.next hb))
    clear hb C2
    generalize (lowN (x1.1 - 64) : Int) = lh at *
    generalize (lowN x1.1 : Int) = ll at *
    have C3 : Hid (Sp w _ p q L k1 dm sm [(w1.heap.size, .cells #[.int .i64 a1, .int .u64 b1, .int .u64 c1, .int .i64 a1, .int .u64 lh, .int .u64 ll, .string ⟨#[]⟩] 194 (0, 0)), (w.heap.size, .cells #[.int .i64 0, .int .u64 0, .int .u64 0, .int .i64 0, .int .u64 0, .int .u64 0, .string ⟨#[]⟩] 194 (0, 0))] _) := (((S2.out.set0 3 (.int .i64 a1)).set0 4 (.int .u64 lh)).set0 5 (.int .u64 ll))
    have gc1 := cellA S2.out.b0 3; have gs1 := softA S2.out.b0 3
    have P2 : Hid (Sp w _ p q L k1 dm sm [(w1.heap.size, .cells #[.int .i64 a1, .int .u64 b1, .int .u64 c1, .int .i64 a1, .int .u64 0, .int .u64 0, .string ⟨#[]⟩] 194 (0, 0)), (w.heap.size, .cells #[.int .i64 0, .int .u64 0, .int .u64 0, .int .i64 0, .int .u64 0, .int .u64 0, .string ⟨#[]⟩] 194 (0, 0))] _) := (S2.out.set0 3 (.int .i64 a1))
    have gc3 := cellA P2.out.b0 4; have gs3 := softA P2.out.b0 4
    have P4 : Hid (Sp w _ p q L k1 dm sm [(w1.heap.size, .cells #[.int .i64 a1, .int .u64 b1, .int .u64 c1, .int .i64 a1, .int .u64 lh, .int .u64 0, .string ⟨#[]⟩] 194 (0, 0)), (w.heap.size, .cells #[.int .i64 0, .int .u64 0, .int .u64 0, .int .i64 0, .int .u64 0, .int .u64 0, .string ⟨#[]⟩] 194 (0, 0))] _) := ((S2.out.set0 3 (.int .i64 a1)).set0 4 (.int .u64 lh))
    have gc5 := cellA P4.out.b0 5; have gs5 := softA P4.out.b0 5
    go_wp2_with fail
    refine (passed_two C3.out.rr HL.out [38] (by decide) ⟨#[38]⟩ rfl).mono ?_
    rintro e w3 (⟨h3, rfl, hr⟩ | ⟨h3, rfl, hr⟩)
    · have S3 := hide (C3.out.go hr)
      have Q3 := hide (Q1.out.trans (ifP_yes h3))
      clear hr h3 Q1 S2 C3
      go_wp2_with fail
      refine (HLt.out _ _ (Nat.zero_le _) S3.out.rr.here (HI.out _ _ S3.out.rr)).mono ?_
      rintro e w4 (⟨x4, k4, v, h4, rfl, hv, hr⟩ | ⟨k4, h4, rfl, hr⟩)
      · obtain ⟨a4, b4, c4, rfl⟩ := LitV.form hv
        have S4 := hide (S3.out.call litV_ok hr hv)
        have Q4 := hide (Q3.out.trans (bind_ok h4))
        clear hr h4 hv
        have C5 : Hid (Sp w _ p q L k4 dm sm [(w1.heap.size, .cells #[.int .i64 a1, .int .u64 b1, .int .u64 c1, .int .i64 a4, .int .u64 b4, .int .u64 c4, .string ⟨#[]⟩] 194 (0, 0)), (w.heap.size, .cells #[.int .i64 0, .int .u64 0, .int .u64 0, .int .i64 0, .int .u64 0, .int .u64 0, .string ⟨#[]⟩] 194 (0, 0))] _) := (((S4.out.set0 3 (.int .i64 a4)).set0 4 (.int .u64 b4)).set0 5 (.int .u64 c4))
        have gc6 := cellA S4.out.b0 3; have gs6 := softA S4.out.b0 3
        have P7 : Hid (Sp w _ p q L k4 dm sm [(w1.heap.size, .cells #[.int .i64 a1, .int .u64 b1, .int .u64 c1, .int .i64 a4, .int .u64 lh, .int .u64 ll, .string ⟨#[]⟩] 194 (0, 0)), (w.heap.size, .cells #[.int .i64 0, .int .u64 0, .int .u64 0, .int .i64 0, .int .u64 0, .int .u64 0, .string ⟨#[]⟩] 194 (0, 0))] _) := (S4.out.set0 3 (.int .i64 a4))
        have gc8 := cellA P7.out.b0 4; have gs8 := softA P7.out.b0 4
        have P9 : Hid (Sp w _ p q L k4 dm sm [(w1.heap.size, .cells #[.int .i64 a1, .int .u64 b1, .int .u64 c1, .int .i64 a4, .int .u64 b4, .int .u64 ll, .string ⟨#[]⟩] 194 (0, 0)), (w.heap.size, .cells #[.int .i64 0, .int .u64 0, .int .u64 0, .int .i64 0, .int .u64 0, .int .u64 0, .string ⟨#[]⟩] 194 (0, 0))] _) := ((S4.out.set0 3 (.int .i64 a4)).set0 4 (.int .u64 b4))
        have gc10 := cellA P9.out.b0 5; have gs10 := softA P9.out.b0 5
        go_wp2_with fail
        refine (pass_lay C5.out.rr HL.out [[58]] (by decide) (by decide) #[.string ⟨#[58]⟩] rfl 9 _ 1 (by first | rfl | simp | simp [World.size_alloc] | simp [World.setCell] | simp [World.setCell, World.size_alloc]) rfl).mono ?_
        rintro e w5 (⟨x5, k5, v, h5, rfl, hv, hr⟩ | ⟨k5, h5, rfl, hr⟩)
        · obtain rfl : v = .tuple #[] := hv
          have S5 := hide (C5.out.go hr)
          have Q5 := hide (Q4.out.trans (bind_ok h5))
          clear hr h5 C5
          go_wp2_with fail
          refine (HNm.out _ _ (Nat.zero_le _) S5.out.rr.here (HI.out _ _ S5.out.rr)).mono ?_
          rintro e w6 (⟨x6, k6, v, h6, rfl, hv, hr⟩ | ⟨k6, h6, rfl, hr⟩)
          · obtain ⟨t6, rfl⟩ := StrV.form hv
            have S6 := hide (S5.out.call strV_ok hr hv)
            have Q6 := hide (Q5.out.trans (bind_ok h6))
            clear hr h6 hv
            have Q7 : Hid (RR = .ok ((⟨x1.1, x1.2, x4.1, x4.2, x6⟩ : Ck), k6)) := Q6.out.trans rfl
            have XL : Hid (∀ W, ((StrV) W (Bn w W) (.string t6) x6 ∧ (LitV) W (Bn w W) (.agg #[.int .i64 a4, .int .u64 b4, .int .u64 c4]) x4 ∧ (LitV) W (Bn w W) (.agg #[.int .i64 a1, .int .u64 b1, .int .u64 c1]) x1 ∧ True) → (CaseV) W (Bn w W) (.agg #[.int .i64 a1, .int .u64 b1, .int .u64 c1, .int .i64 a4, .int .u64 b4, .int .u64 c4, .string t6]) (⟨x1.1, x1.2, x4.1, x4.2, x6⟩ : Ck)) := by
              rintro W ⟨X6, X4, X1, _⟩
              obtain rfl := StrV.eq X6
              obtain ⟨rfl, rfl, rfl⟩ := LitV.eq X4
              obtain ⟨rfl, rfl, rfl⟩ := LitV.eq X1
              exact rfl
            have CF : Hid (Sp w _ p q L k6 dm sm [(w1.heap.size, .cells #[.int .i64 a1, .int .u64 b1, .int .u64 c1, .int .i64 a4, .int .u64 b4, .int .u64 c4, .string t6] 194 (0, 0)), (w.heap.size, .cells #[.int .i64 0, .int .u64 0, .int .u64 0, .int .i64 0, .int .u64 0, .int .u64 0, .string ⟨#[]⟩] 194 (0, 0))] _) := (S6.out.set0 6 (.string t6))
            have gc11 := cellA S6.out.b0 6; have gs11 := softA S6.out.b0 6
            go_wp2_with (first | (refine wpList_loadA rfl 194 _ rfl _ [.int .i64 a1, .int .u64 b1, .int .u64 c1, .int .i64 a4, .int .u64 b4, .int .u64 c4, .string t6] 194 rfl ag_case sz_case CF.out.b0 ?_) | (refine wpList_storeA rfl 194 _ _ rfl _ [.int .i64 a1, .int .u64 b1, .int .u64 c1, .int .i64 a4, .int .u64 b4, .int .u64 c4, .string t6] #[.int .i64 0, .int .u64 0, .int .u64 0, .int .i64 0, .int .u64 0, .int .u64 0, .string ⟨#[]⟩] 194 rfl rfl sz_case CF.out.b1 rfl (by intro u hu; simp at hu; rcases hu with rfl | rfl | rfl | rfl | rfl | rfl | rfl <;> rfl) ?_; intro w9 hw9; have HW9 := hide hw9; clear hw9))
            have SF := CF.out.fill1 [.int .i64 a1, .int .u64 b1, .int .u64 c1, .int .i64 a4, .int .u64 b4, .int .u64 c4, .string t6] rfl
            rw [← HW9.out] at SF
            have HXE := hide (XL.out _ SF.fin)
            have HRR := hide SF.rr
            have HBB := SF.b1
            clear SF
            refine bodyPost_ret (v := .agg #[.int .i64 a1, .int .u64 b1, .int .u64 c1, .int .i64 a4, .int .u64 b4, .int .u64 c4, .string t6]) (res_cell (cs := [.int .i64 a1, .int .u64 b1, .int .u64 c1, .int .i64 a4, .int .u64 b4, .int .u64 c4, .string t6]) (e := 194) Tryz.results157 rfl ag_case sz_case HBB) rfl ?_
            exact .inl ⟨(⟨x1.1, x1.2, x4.1, x4.2, x6⟩ : Ck), k6, _, Q7.out, rfl, HXE.out, HRR.out⟩
          · have R6 := hide (S5.out.rr.from hr)
            have Q6 := hide (Q5.out.trans (bind_err h6))
            clear hr h6
            go_wp2
            exact ⟨rfl, .inr ⟨_, Q6.out, rfl, R6.out⟩⟩
        · have R5 := hide (C5.out.rr.from hr)
          have Q5 := hide (Q4.out.trans (bind_err h5))
          clear hr h5
          go_wp2
          exact ⟨rfl, .inr ⟨_, Q5.out, rfl, R5.out⟩⟩
      · have R4 := hide (S3.out.rr.from hr)
        have Q4 := hide (Q3.out.trans (bind_err h4))
        clear hr h4
        go_wp2
        exact ⟨rfl, .inr ⟨_, Q4.out, rfl, R4.out⟩⟩
    · have S3 := hide (C3.out.go hr)
      have Q3 := hide (Q1.out.trans (ifP_no h3))
      clear hr h3 Q1 S2 C3
      go_wp2_with fail
      refine (pass_lay S3.out.rr HL.out [[58]] (by decide) (by decide) #[.string ⟨#[58]⟩] rfl 9 _ 1 (by first | rfl | simp | simp [World.size_alloc] | simp [World.setCell] | simp [World.setCell, World.size_alloc]) rfl).mono ?_
      rintro e w4 (⟨x4, k4, v, h4, rfl, hv, hr⟩ | ⟨k4, h4, rfl, hr⟩)
      · obtain rfl : v = .tuple #[] := hv
        have S4 := hide (S3.out.go hr)
        have Q4 := hide (Q3.out.trans (bind_ok h4))
        clear hr h4
        go_wp2_with fail
        refine (HNm.out _ _ (Nat.zero_le _) S4.out.rr.here (HI.out _ _ S4.out.rr)).mono ?_
        rintro e w5 (⟨x5, k5, v, h5, rfl, hv, hr⟩ | ⟨k5, h5, rfl, hr⟩)
        · obtain ⟨t5, rfl⟩ := StrV.form hv
          have S5 := hide (S4.out.call strV_ok hr hv)
          have Q5 := hide (Q4.out.trans (bind_ok h5))
          clear hr h5 hv
          have Q6 : Hid (RR = .ok ((⟨x1.1, x1.2, x1.1, 2 ^ x1.1 - 1, x5⟩ : Ck), k5)) := Q5.out.trans rfl
          have XL : Hid (∀ W, ((StrV) W (Bn w W) (.string t5) x5 ∧ (LitV) W (Bn w W) (.agg #[.int .i64 a1, .int .u64 b1, .int .u64 c1]) x1 ∧ True) → (CaseV) W (Bn w W) (.agg #[.int .i64 a1, .int .u64 b1, .int .u64 c1, .int .i64 a1, .int .u64 lh, .int .u64 ll, .string t5]) (⟨x1.1, x1.2, x1.1, 2 ^ x1.1 - 1, x5⟩ : Ck)) := by
            rintro W ⟨X5, X1, _⟩
            obtain rfl := StrV.eq X5
            obtain ⟨rfl, rfl, rfl⟩ := LitV.eq X1
            exact (by rw [← HLH.out, ← HLL.out]; rfl)
          have CF : Hid (Sp w _ p q L k5 dm sm [(w1.heap.size, .cells #[.int .i64 a1, .int .u64 b1, .int .u64 c1, .int .i64 a1, .int .u64 lh, .int .u64 ll, .string t5] 194 (0, 0)), (w.heap.size, .cells #[.int .i64 0, .int .u64 0, .int .u64 0, .int .i64 0, .int .u64 0, .int .u64 0, .string ⟨#[]⟩] 194 (0, 0))] _) := (S5.out.set0 6 (.string t5))
          have gc12 := cellA S5.out.b0 6; have gs12 := softA S5.out.b0 6
          go_wp2_with (first | (refine wpList_loadA rfl 194 _ rfl _ [.int .i64 a1, .int .u64 b1, .int .u64 c1, .int .i64 a1, .int .u64 lh, .int .u64 ll, .string t5] 194 rfl ag_case sz_case CF.out.b0 ?_) | (refine wpList_storeA rfl 194 _ _ rfl _ [.int .i64 a1, .int .u64 b1, .int .u64 c1, .int .i64 a1, .int .u64 lh, .int .u64 ll, .string t5] #[.int .i64 0, .int .u64 0, .int .u64 0, .int .i64 0, .int .u64 0, .int .u64 0, .string ⟨#[]⟩] 194 rfl rfl sz_case CF.out.b1 rfl (by intro u hu; simp at hu; rcases hu with rfl | rfl | rfl | rfl | rfl | rfl | rfl <;> rfl) ?_; intro w9 hw9; have HW9 := hide hw9; clear hw9))
          have SF := CF.out.fill1 [.int .i64 a1, .int .u64 b1, .int .u64 c1, .int .i64 a1, .int .u64 lh, .int .u64 ll, .string t5] rfl
          rw [← HW9.out] at SF
          have HXE := hide (XL.out _ SF.fin)
          have HRR := hide SF.rr
          have HBB := SF.b1
          clear SF
          refine bodyPost_ret (v := .agg #[.int .i64 a1, .int .u64 b1, .int .u64 c1, .int .i64 a1, .int .u64 lh, .int .u64 ll, .string t5]) (res_cell (cs := [.int .i64 a1, .int .u64 b1, .int .u64 c1, .int .i64 a1, .int .u64 lh, .int .u64 ll, .string t5]) (e := 194) Tryz.results157 rfl ag_case sz_case HBB) rfl ?_
          exact .inl ⟨(⟨x1.1, x1.2, x1.1, 2 ^ x1.1 - 1, x5⟩ : Ck), k5, _, Q6.out, rfl, HXE.out, HRR.out⟩
        · have R5 := hide (S4.out.rr.from hr)
          have Q5 := hide (Q4.out.trans (bind_err h5))
          clear hr h5
          go_wp2
          exact ⟨rfl, .inr ⟨_, Q5.out, rfl, R5.out⟩⟩
      · have R4 := hide (S3.out.rr.from hr)
        have Q4 := hide (Q3.out.trans (bind_err h4))
        clear hr h4
        go_wp2
        exact ⟨rfl, .inr ⟨_, Q4.out, rfl, R4.out⟩⟩
  · have R1 := hide (C1.out.rr.from hr)
    have Q1 := hide (Q0.out.trans (bind_err h1))
    clear hr h1
    go_wp2
    exact ⟨rfl, .inr ⟨_, Q1.out, rfl, R1.out⟩⟩
end Go.Proofs.YtcfopkaomknmjaaGreatDoor
/- package parse: lists that are read. Written by bin/mkun.py. -/
namespace Go.Proofs.YtcfopkaomknmjaaGreatDoor
open Go.RowKit

theorem Tryz.infostringN : (Tryz.prog.info? 9).map (fun i => (i.zero, i.size, i.bytes)) = some (some (.string ⟨#[]⟩), 1, 16) := by kernel_rfl
set_option maxRecDepth 100000 in
set_option maxHeartbeats 4000000 in
theorem until_str {p q : Nat} {L : List (Wd × Nat)} {dm sm : Value} {I : World → Prop} {k0 : Nat} {f : Pf (List UInt8)} {b3 b5 : Nat} (hL : OkL L) (hI : Stb I p q L dm sm) (hgo : Goes f) (en : List UInt8) (hen : en ≠ []) (T : ByteArray) (hT : T = txt en) (HTh : PfI I 166 #[.pointer (some ⟨b3, 0, none⟩), .pointer (some ⟨b5, 0, none⟩)] p q L dm sm k0 f StrV) :
    PfI I 108 #[.pointer (some ⟨p, 0, none⟩), .string T, .func (Fn.func 166) #[] #[.pointer (some ⟨b3, 0, none⟩), .pointer (some ⟨b5, 0, none⟩)]] p q L dm sm k0 (untilP en f) (ListR StrV mkOne 1) := by
  intro w k hk h hi
  obtain ⟨i0', hi0, hz0, hz1, hz2⟩ := info_parts Tryz.infostringN
  have hsm := h.sml
  have hkl := h.kl
  have HLS : Hid (Lp StrV mkOne 1 9 w w p q L dm sm k 0 (.slice none 0 0) [] []) := Lp.start h
  have HP := hide (fun W k' (r : Rp w W p q L k' dm sm) => passed_two r hL en hen T hT)
  have HN := hide (fun W k' (hkk : k ≤ k') (r : Rp w W p q L k' dm sm) => HTh W k' (Nat.le_trans hk hkk) r.here (hI w W k' r hi))
  have HSM := hide hsm
  have HGO := hide (fun k' x k1 he => hgo L k' x k1 he)
  have HU : Hid (untilP en f L k = untilF en f (L.length + 1 - k) L k) := rfl
  obtain ⟨RR, hRR⟩ : ∃ RR, RR = untilP en f L k := ⟨_, rfl⟩
  rw [← hRR]
  rw [← hRR] at HU
  clear h hL hen hsm hRR hT hi hk hI hgo HTh
  go_enter Tryz.func108, Tryz.ntmps108
  go_wp2
  go_loopg [7] (L.length + 1 - k) (fun g v wr => ∃ (v1 : Value) (k' n : Nat) (l : List (List UInt8)) (css : List (List Value)), v1 = v ∧ L.length + 1 ≤ g + k' ∧ k ≤ k' ∧ n ≤ k' ∧ Hid (RR = preL l (untilF en f g L k')) ∧ Hid (Lp StrV mkOne 1 9 w wr p q L dm sm k' n v1 l css))
  case atStart => exact ⟨_, k, 0, [], [], rfl, by omega, Nat.le_refl _, Nat.zero_le _, by unfold Hid; rw [preL_nil]; exact HU.out, HLS.out⟩
  case round =>
    obtain ⟨v, k', n, l, css, rfl, hg, hkk, hn, HQ, HL⟩ := hrel
    have HG := hide hg
    have HNK := hide hn
    have HKK := hide hkk
    have hkl' := HL.out.rr.kl
    have hg0 : 0 < gk := by omega
    have HG0 := hide hg0
    clear hg hn hg0 hkl HLS HU hkk
    go_wp2_with fail
    refine (HP.out _ _ HL.out.rr).mono ?_
    rintro e w1 (⟨hp, rfl, hr⟩ | ⟨hp, rfl, hr⟩)
    · have HE : Hid (RR = .ok (l, k' + 1)) := by unfold Hid; rw [HQ.out, untilF_end HG0.out hp]; simp [preL]
      have L1 := hide (HL.out.go strV_ok hr)
      clear hr hp HQ
      go_wp2
      go_ret
      exact .inl ⟨l, k' + 1, _, HE.out, rfl, L1.out.done strV_ok, L1.out.rr⟩
    · have HE1 : Hid (∀ e, f L k' = .error e → RR = .error e) := fun e he => by rw [HQ.out, untilF_err HG0.out hp he]; rfl
      have HE2 : Hid (∀ x k1, f L k' = .ok (x, k1) → RR = preL (l ++ [x]) (untilF en f (gk - 1) L k1) ∧ k' < k1) := fun x k1 he => ⟨by rw [HQ.out, untilF_go HG0.out hp he], HGO.out k' x k1 he⟩
      have L1 := hide (HL.out.go strV_ok hr)
      clear hr HL hp HQ
      go_wp2_with fail
      refine (HN.out _ _ HKK.out L1.out.rr).mono ?_
      rintro e w2 (⟨x, k2, v2, h2, rfl, hv, hr⟩ | ⟨k2, h2, rfl, hr⟩)
      · obtain ⟨t2, rfl⟩ := StrV.form hv
        have H2 := hide (HE2.out _ _ h2)
        have R2 := hide hr
        have O2 := hide (L1.out.go strV_ok hr).own
        have Z2 : Hid (w.heap.size ≤ w2.heap.size) := Nat.le_trans L1.out.rr.fr.size hr.fr.size
        have HSx : Hid (StrV w2 (Bn w1 w2) (mkOne [.string t2]) x) := hv
        clear hr h2 hv
        go_wp2_with (at_builtin; refine wpList_appC rfl _ _ 44 rfl 9 i0' (.string ⟨#[]⟩) 1 16 Tryz.underlying44 hi0 hz0 hz1 hz2 rfl (by decide) (by decide) w.heap.size _ n css.flatten rfl (ownR_below O2.out ((Below.refl _ _).alloc (Nat.le_refl _) _)) w2.heap.size [.string t2] rfl rfl (cells_newC _ [.string t2] _) (by intro u hu; simp at hu; subst hu; rfl) (by have := HNK.out; have := HSM.out; omega) (by have := Z2.out; simp; omega) ?_; intro v8 w8 O8 D8; have L8 := hide (L1.out.step strV_ok R2.out HSx.out rfl O8 D8); clear O8 D8)
        go_roundg (gk - 1)
        case measure => have := HG0.out; omega
        case rel => exact ⟨_, k2, n + 1, l ++ [x], _, rfl, by have := HG.out; have := H2.out.2; omega, by have := HKK.out; have := H2.out.2; omega, by have := HNK.out; have := H2.out.2; omega, H2.out.1, L8.out⟩
      · have R2 := hide (L1.out.rr.from hr)
        have H2 := hide (HE1.out _ h2)
        clear hr h2
        go_wp2
        exact ⟨rfl, .inr ⟨k2, H2.out, rfl, R2.out⟩⟩
end Go.Proofs.YtcfopkaomknmjaaGreatDoor
/- package parse: rows of texts of one's own; one is put behind another. -/
namespace Go.Proofs.YtcfopkaomknmjaaGreatDoor
open Go.RowKit

def sv (l : List UInt8) : Value := .string (txt l)
theorem sv_one (ls : List (List UInt8)) : ∀ u ∈ ls.map sv, u.oneCell' = true := fun u hu => by
  obtain ⟨l, _, rfl⟩ := List.mem_map.1 hu
  rfl
/- A row of texts of one's own. -/
def RowS (B0 : Nat) : Rep (List (List UInt8)) := fun W X v l => W.ownsRow B0 9 1 v l.length (l.map sv) ∧ ∀ b, v.ownBlock = some b → X b
theorem rowS_ok (B0 : Nat) : RepOk (RowS B0) := ⟨fun h hm => ⟨h.1, fun b hb => hm b (h.2 b hb)⟩, fun {W W' X v l} h hs hf => by
  refine ⟨⟨h.1.1, ?_⟩, h.2⟩
  rcases h.1.2 with h0 | ⟨gr, cap, cur, rfl, hg, hcur, rest⟩
  · exact .inl h0
  · exact .inr ⟨gr, cap, cur, rfl, hg, (hf gr (h.2 gr rfl) (Array.getElem?_eq_some_iff.1 hcur).1).trans hcur, rest⟩⟩
theorem RowS.nil (B0 : Nat) (W : World) (X : Nat → Prop) : RowS B0 W X (.slice none 0 0) [] := ⟨World.ownsRow_nil _ _ _ _, fun b hb => by cases hb⟩
theorem RowS.form {B0 : Nat} {W : World} {X : Nat → Prop} {v : Value} {l : List (List UInt8)} (h : RowS B0 W X v l) : ∃ s n c, v = .slice s n c := by
  rcases h.1.2 with ⟨rfl, _⟩ | ⟨gr, cap, cur, rfl, _⟩
  · exact ⟨_, _, _, rfl⟩
  · exact ⟨_, _, _, rfl⟩
theorem flat_sv : ∀ l : List (List UInt8), (l.map fun s => [sv s]).flatten = l.map sv
  | [] => rfl
  | s :: l => by simp [flat_sv l]
theorem RowS.list {B0 : Nat} {W : World} {X : Nat → Prop} {v : Value} {l : List (List UInt8)} (h : RowS B0 W X v l) : ListR StrV mkOne 1 W X v l := by
  refine ⟨l.map fun s => [sv s], ?_, by simp, fun i hi hi' => ?_⟩
  · rw [flat_sv]
    exact Sl.own h.1 X (fun b hb _ _ => h.2 b hb)
  · simp only [List.getElem_map]
    exact ⟨rfl, rfl⟩
/- The cells of a list of texts. -/
theorem strs_cells {W : World} {X : Nat → Prop} {v : Value} {l : List (List UInt8)} (h : ListR StrV mkOne 1 W X v l) : Sl W X v l.length 1 (l.map sv) := by
  obtain ⟨css, h1, h2, h3⟩ := h
  have e : css = l.map fun s => [sv s] := by
    apply List.ext_getElem (by simp [h2])
    intro i a b
    obtain ⟨c1, c2⟩ := h3 i a (by rw [← h2]; exact a)
    simp only [List.getElem_map]
    match hc : css[i], c1 with
    | [u], _ =>
      rw [hc] at c2
      have : u = .string (txt l[i]) := c2
      rw [this]; rfl
  rw [e, flat_sv] at h1
  exact h1
theorem step_appS {ops : Array Oper} {o : Oper} {a : Act} {w : World} {K : Act → World → Prop} {Q : Exit → Act → World → Prop} {E : Prop} (hg : o.guard = none) (s x : Operand) (hop : o.op = Op.call { callee := Callee.builtin Builtin.append, args := #[s, x], argTypes := #[44, 44] })
    (B : Nat) (v : Value) (n : Nat) (xs : List Value) (hs : a.eval s = v) (hown : w.ownsRow B 9 1 v n xs) (X : Nat → Prop) (v2 : Value) (m : Nat) (ys : List Value) (hx : a.eval x = v2) (hy : Sl w X v2 m 1 ys) (hone : ∀ u ∈ ys, u.oneCell' = true)
    (hl : n + m ≤ 1000000000) (hB : B ≤ w.heap.size)
    (hK : ∀ v' w', w'.ownsRow B 9 1 v' (n + m) (xs ++ ys) → w.grownBy w' v.ownBlock → (v'.ownBlock = v.ownBlock ∨ v'.ownBlock = some w.heap.size) → K (a.put o.dst v') w') :
    if Region.wanted o (yielded ops a.tmps) = true then Oper.wp Tryz.prog o a w K Q else E := by
  have hw : Region.wanted o (yielded ops a.tmps) = true := by simp [Region.wanted, hg]
  rw [if_pos hw]
  obtain ⟨i0, hi0, hz0, hz1, hz2⟩ := info_parts Tryz.infostringN
  obtain ⟨sa, cap, rfl, hyl, hcap, hnone, hcase⟩ := hy
  have hc : (∃ q, sa = some q ∧ ∀ j u, ys[j]? = some u → w.cell? (q.add j) = some u) ∨ (sa = none ∧ m = 0) := by
    rcases hcase with rfl | ⟨b, rfl, _, _, hc⟩
    · have : ys = [] := List.length_eq_zero_iff.1 (by omega)
      subst this
      cases sa with
      | none => exact .inr ⟨rfl, rfl⟩
      | some q => exact .inl ⟨q, rfl, fun j u h => by simp at h⟩
    · refine .inl ⟨_, rfl, fun j u h => ?_⟩
      obtain ⟨hj, rfl⟩ := List.getElem?_eq_some_iff.1 h
      rw [add0]; exact hc j hj
  rcases hc with ⟨q, rfl, hc⟩ | ⟨rfl, rfl⟩
  rotate_left
  · have hx2 : a.eval x = .slice none 0 0 := by rw [hx, hnone rfl]
    have hys : ys = [] := List.length_eq_zero_iff.1 (by omega)
    subst hys
    have hrun := run_append_owned_none (P := Tryz.prog) (w := w) B 44 o.type 9 i0 1 Tryz.underlying44 hi0 v n xs hown
    unfold Oper.wp
    simp [execOp, hop, resolve, invoke, builtin, hs, hx2, hrun, Result.andThen]
    exact hK v w (by rw [List.append_nil]; exact hown) ⟨rfl, rfl, rfl, Nat.le_refl _, fun _ _ _ => rfl⟩ (.inl rfl)
  · obtain ⟨v', w', hrun, r1, r2, _, r4⟩ := run_append_own_at (P := Tryz.prog) w B 44 o.type 9 i0 (.string ⟨#[]⟩) 1 16 Tryz.underlying44 hi0 hz0 hz1 hz2 rfl (by decide) v n xs hown q m cap ys hyl hc hone (by unfold maxLen; omega) (by omega) hB
    unfold Oper.wp
    simp [execOp, hop, resolve, invoke, builtin, hs, hx, hrun, Result.andThen]
    exact hK v' w' r1 r2 r4
/- A block that holds one text is a row of one's own. -/
theorem row_block {W : World} {B0 b : Nat} {t : ByteArray} (hb : W.heap[b]? = some (.cells #[.string t] 9 (0, 0))) (hB : B0 ≤ b) : W.ownsRow B0 9 1 (.slice (some ⟨b, 0, none⟩) 1 1) 1 [.string t] :=
  ⟨rfl, .inr ⟨b, 1, _, rfl, hB, hb, Nat.le_refl _, by unfold maxLen; omega, rfl, rfl⟩⟩
/- All but one block stand as they stood. -/
theorem Sp.grown {w W W' : World} {p q : Nat} {L : List (Wd × Nat)} {k : Nat} {dm sm : Value} {b : Nat} {o : Obj} {B : List (Nat × Obj)} {K : Kp} (s : Sp w W p q L k dm sm ((b, o) :: B) K) (hg : W.grownBy W' (some b)) : Sp w W' p q L k dm sm B K ∧ (∀ y ∈ B, y.1 ≠ b) := by
  have hm : (b, o) ∈ (b, o) :: B := List.mem_cons_self ..
  have hbw := (s.bl _ hm).1
  have hnb : ∀ y ∈ B, y.1 ≠ b := fun y hy e => (List.nodup_cons.1 s.nd).1 (List.mem_map.2 ⟨y, hy, e⟩)
  refine ⟨⟨s.rr.grown hg (fun r e => by injection e with e; omega), fun y hy => ?_, (List.nodup_cons.1 s.nd).2, s.ok, ?_⟩, hnb⟩
  · have hy' := List.mem_cons_of_mem (b, o) hy
    exact ⟨(s.bl y hy').1, (hg.block y.1 (s.lt y hy') (fun e => hnb y hy (Option.some.inj e))).trans (s.bl y hy').2⟩
  · refine s.ok.mono (s.ok.frame s.kp hg.size (fun c hc hl => hg.block c hl (fun e => hc.2 _ hm (Option.some.inj e).symm))) (fun c hc => ⟨⟨hc.1.1, Nat.lt_of_lt_of_le hc.1.2 hg.size⟩, fun y hy => hc.2 y (List.mem_cons_of_mem _ hy)⟩)
theorem step_appT {ops : Array Oper} {o : Oper} {a : Act} {w W : World} {K0 : Act → World → Prop} {Q : Exit → Act → World → Prop} {E : Prop} (hg : o.guard = none) (sx x : Operand) (hop : o.op = Op.call { callee := Callee.builtin Builtin.append, args := #[sx, x], argTypes := #[44, 44] })
    {p q : Nat} {L : List (Wd × Nat)} {k : Nat} {dm sm : Value} {b : Nat} {t : ByteArray} {B : List (Nat × Obj)} {K : Kp} {v2 : Value} {x1 : List UInt8} {l2 : List (List UInt8)} (hs : a.eval sx = .slice (some ⟨b, 0, none⟩) 1 1) (hx : a.eval x = v2)
    (s : Sp w W p q L k dm sm ((b, .cells #[.string t] 9 (0, 0)) :: B) (fun W X => ListR StrV mkOne 1 W X v2 l2 ∧ K W X)) (ht : t = txt x1) (hl : l2.length ≤ 100000)
    (hK : ∀ v' W', Sp w W' p q L k dm sm B (fun W X => ListR StrV mkOne 1 W X v' (x1 :: l2) ∧ ListR StrV mkOne 1 W X v2 l2 ∧ K W X) → K0 (a.put o.dst v') W') :
    if Region.wanted o (yielded ops a.tmps) = true then Oper.wp Tryz.prog o a W K0 Q else E := by
  refine step_appS hg sx x hop w.heap.size _ 1 [.string t] hs (row_block s.b0 s.l0.1) _ v2 l2.length (l2.map sv) hx (strs_cells s.kp.1) (sv_one l2) (by omega) s.rr.fr.size (fun v' W' r1 r2 r4 => hK v' W' ?_)
  obtain ⟨g, hnb⟩ := s.grown r2
  refine ⟨g.rr, g.bl, g.nd, KpOk.and (ListR.ok strV_ok _ _) s.ok _ _, ⟨RowS.list (B0 := w.heap.size) ⟨?_, fun c hc => ?_⟩, g.kp⟩⟩
  · rw [ht] at r1
    have e : 1 + l2.length = (x1 :: l2).length := by simp [Nat.add_comm]
    rw [e] at r1
    exact r1
  · have hlt := World.ownsRow.lt r1 c hc
    refine ⟨hlt, fun y hy e => ?_⟩
    rcases r4 with r4 | r4
    · rw [r4] at hc
      have hc' : b = c := by injection hc
      exact hnb y hy (by rw [e, hc'])
    · rw [r4] at hc
      have hc' : W.heap.size = c := by injection hc
      have := s.lt y (List.mem_cons_of_mem _ hy)
      omega
/- One text more, behind a row that is held. -/
theorem step_appR {ops : Array Oper} {o : Oper} {a : Act} {w W : World} {K0 : Act → World → Prop} {Q : Exit → Act → World → Prop} {E : Prop} (hg : o.guard = none) (sx x : Operand) (hop : o.op = Op.call { callee := Callee.builtin Builtin.append, args := #[sx, x], argTypes := #[44, 44] })
    {p q : Nat} {L : List (Wd × Nat)} {k : Nat} {dm sm : Value} {b : Nat} {t : ByteArray} {B : List (Nat × Obj)} {K : Kp} {v : Value} {x1 : List UInt8} {l : List (List UInt8)} (hs : a.eval sx = v) (hx : a.eval x = .slice (some ⟨b, 0, none⟩) 1 1)
    (s : Sp w W p q L k dm sm ((b, .cells #[.string t] 9 (0, 0)) :: B) (fun W X => StrV W X (.string t) x1 ∧ RowS w.heap.size W X v l ∧ K W X)) (hKK : ∀ W W' X Y, K W X → K W' Y) (hl : l.length ≤ 100000)
    (hK : ∀ v' W', Sp w W' p q L k dm sm B (fun W X => RowS w.heap.size W X v' (l ++ [x1]) ∧ K W X) → K0 (a.put o.dst v') W') :
    if Region.wanted o (yielded ops a.tmps) = true then Oper.wp Tryz.prog o a W K0 Q else E := by
  have ht := StrV.eq s.kp.1
  have hrow := s.kp.2.1
  have hb := s.b0
  have hsl : Sl W (fun _ => True) (.slice (some ⟨b, 0, none⟩) 1 1) 1 1 [.string t] := ⟨some ⟨b, 0, none⟩, 1, rfl, rfl, ⟨Nat.le_refl _, by unfold maxLen; omega⟩, fun e => by (cases e), .inr ⟨b, rfl, trivial, (Array.getElem?_eq_some_iff.1 hb).1, fun i hi => by
    obtain rfl : i = 0 := by simp at hi; omega
    rw [cellA hb]; rfl⟩⟩
  refine step_appS hg sx x hop w.heap.size v l.length (l.map sv) hs hrow.1 _ _ 1 [.string t] hx hsl (by intro u hu; simp at hu; subst hu; rfl) (by omega) s.rr.fr.size (fun v' W' r1 r2 r4 => hK v' W' ?_)
  have hob : ∀ r, v.ownBlock = some r → w.heap.size ≤ r ∧ ∀ y ∈ B, y.1 ≠ r := fun r e => ⟨(hrow.2 r e).1.1, fun y hy => (hrow.2 r e).2 y (List.mem_cons_of_mem _ hy)⟩
  refine ⟨s.rr.grown r2 (fun r e => (hob r e).1), fun y hy => ?_, (List.nodup_cons.1 s.nd).2, ?_, ⟨⟨?_, fun c hc => ?_⟩, hKK _ _ _ _ s.kp.2.2⟩⟩
  · have hy' := List.mem_cons_of_mem (b, Obj.cells #[.string t] 9 (0, 0)) hy
    exact ⟨(s.bl y hy').1, (r2.block y.1 (s.lt y hy') (fun e => (hob y.1 e.symm).2 y hy rfl)).trans (s.bl y hy').2⟩
  · exact KpOk.and (rowS_ok _) ⟨fun h _ => hKK _ _ _ _ h, fun h _ _ => hKK _ _ _ _ h⟩ _ _
  · rw [ht] at r1
    rw [List.length_append, List.map_append]
    exact r1
  · have hlt := World.ownsRow.lt r1 c hc
    refine ⟨hlt, fun y hy e => ?_⟩
    rcases r4 with r4 | r4
    · rw [r4] at hc
      exact (hob c hc).2 y hy e
    · rw [r4] at hc
      have hc' : W.heap.size = c := by injection hc
      have := s.lt y (List.mem_cons_of_mem _ hy)
      omega
/- Things, each behind a word. -/
def whF {α : Type} (sep : List UInt8) (f : Pf α) : Nat → Pf (List α)
  | 0 => fun _ k => .error k
  | g + 1 => fun L k => if passedP sep L k then (match f L (k + 1) with
    | .error e => .error e
    | .ok (x, k1) => (match whF sep f g L k1 with
      | .error e => .error e
      | .ok (xs, k2) => .ok (x :: xs, k2))) else .ok ([], k)
def whR {α : Type} (sep : List UInt8) (f : Pf α) (g : Nat) (l : List α) : Pf (List α) := fun L k => preL l (whF sep f g L k)
def whP {α : Type} (sep : List UInt8) (f : Pf α) : Pf (List α) := fun L k => whF sep f (L.length + 1 - k) L k
theorem whR_start {α β : Type} {sep : List UInt8} {f : Pf α} {C : List α → Pf β} {L : List (Wd × Nat)} {k : Nat} : ((whP sep f).bind C) L k = ((whR sep f (L.length + 1 - k) []).bind C) L k := by
  unfold Pf.bind whP whR
  rw [preL_nil]
theorem whR_end {α β : Type} {sep : List UInt8} {f : Pf α} {C : List α → Pf β} {L : List (Wd × Nat)} {k g : Nat} {l : List α} (hg : 0 < g) (h : passedP sep L k = false) : ((whR sep f g l).bind C) L k = C l L k := by
  obtain ⟨g, rfl⟩ : ∃ g', g = g' + 1 := ⟨g - 1, by omega⟩
  unfold Pf.bind whR
  rw [whF]
  simp only [h, Bool.false_eq_true, if_false, preL, List.append_nil]
theorem whR_err {α β : Type} {sep : List UInt8} {f : Pf α} {C : List α → Pf β} {L : List (Wd × Nat)} {k g e : Nat} {l : List α} (hg : 0 < g) (h : passedP sep L k = true) (hf : f L (k + 1) = .error e) : ((whR sep f g l).bind C) L k = .error e := by
  obtain ⟨g, rfl⟩ : ∃ g', g = g' + 1 := ⟨g - 1, by omega⟩
  unfold Pf.bind whR
  rw [whF]
  simp only [h, if_true, hf, preL]
theorem whR_go {α β : Type} {sep : List UInt8} {f : Pf α} {C : List α → Pf β} {L : List (Wd × Nat)} {k g k1 : Nat} {l : List α} {x : α} (hg : 0 < g) (h : passedP sep L k = true) (hf : f L (k + 1) = .ok (x, k1)) : ((whR sep f g l).bind C) L k = ((whR sep f (g - 1) (l ++ [x])).bind C) L k1 := by
  obtain ⟨g, rfl⟩ : ∃ g', g = g' + 1 := ⟨g - 1, by omega⟩
  unfold Pf.bind whR
  rw [whF, Nat.add_sub_cancel]
  simp only [h, if_true, hf]
  rw [preL_cons]
  cases whF sep f g L k1 with
  | error e => rfl
  | ok y => rfl
/- How many were read. -/
theorem untilF_len {α : Type} {en : List UInt8} {f : Pf α} (hf : Goes f) : ∀ {g : Nat} {L : List (Wd × Nat)} {k k2 : Nat} {l : List α}, untilF en f g L k = .ok (l, k2) → l.length + k < k2
  | 0, L, k, k2, l, h => by rw [untilF] at h; cases h
  | g + 1, L, k, k2, l, h => by
    rw [untilF] at h
    split at h
    · cases h; simp
    · split at h
      · cases h
      · rename_i x k1 e1
        split at h
        · cases h
        · rename_i xs k3 e2
          have := untilF_len hf e2
          have := hf _ _ _ _ e1
          cases h
          simp
          omega
end Go.Proofs.YtcfopkaomknmjaaGreatDoor
