/- Pieces of the proof: VD, RWc, RWd, RWe. -/
import Derived.Test.YtfanhdjebmdniaaGreatDoorM9
import Derived.Deep.CutBlock
import Derived.Deep.DeepCutAuto
import Derived.Test.YtfanhdjebmdniaaGreatDoorM8
/- The document's Parse, whatever it is given. -/
namespace Go.Proofs.YtfanhdjebmdniaaGreatDoor
open Go.RowKit

theorem lead_step {k : Nat} {l : List UInt8} (hk : k < l.length) (h3 : k < 3) (h : lead 3 l = l.take k ++ lead (3 - k) (l.drop k)) :
    (isDc (l[k]) = true → lead 3 l = l.take (k + 1) ++ lead (3 - (k + 1)) (l.drop (k + 1))) ∧ (isDc (l[k]) = false → lead 3 l = l.take k) := by
  have e : l.drop k = l[k] :: l.drop (k + 1) := List.drop_eq_getElem_cons hk
  rw [e, show 3 - k = (3 - (k + 1)) + 1 by omega] at h
  constructor
  · intro hc
    simp only [lead, hc, if_true] at h
    rw [h, List.take_succ_eq_append_getElem hk, List.append_assoc]; rfl
  · intro hc
    simp only [lead, hc] at h
    rw [h]; simp
theorem hfold_app : ∀ (x y : List UInt8) (a : Nat), hfold a (x ++ y) = (hfold a x).bind fun n => hfold n y
  | [], y, a => rfl
  | c :: x, y, a => by
    have e1 : ∀ z : List UInt8, hfold a (c :: z) = match dgt c.toNat with | some d => hfold ((a * 16 + d) % top) z | none => none := fun z => by rw [hfold]; cases dgt c.toNat <;> rfl
    rw [List.cons_append, e1, e1]
    cases dgt c.toNat with
    | none => rfl
    | some d => exact hfold_app x y _
theorem rT_len (l : List UInt8) : (rT l).length = min 33 (l.length - ((lead 3 l).length + 1)) := by unfold rT; rw [List.length_take, List.length_drop]
theorem rT_take {l : List UInt8} {k j : Nat} (hk : k = (lead 3 l).length) (hj : j < 33) (h : k + 1 + j < l.length) : (rT l).take (j + 1) = (rT l).take j ++ [l[k + 1 + j]] := by
  subst hk
  have hl : j < (rT l).length := by rw [rT_len]; omega
  rw [List.take_succ_eq_append_getElem hl]
  congr 2
  simp [rT]
theorem shl4 (v d : Nat) (hv : v < top) (hd : d < 16) : bits .or .u64 (IntKind.u64.wrap (wHi v * 16)) (wLo v / 1152921504606846976) = wHi ((v * 16 + d) % top) ∧ bits .or .u64 (IntKind.u64.wrap (wLo v * 16)) (d : Int) = wLo ((v * 16 + d) % top) := by
  have hv' : v < 340282366920938463463374607431768211456 := by unfold top at hv; exact hv
  have e1 : IntKind.u64.wrap (wHi v * 16) = ((2 ^ 4 * (v / 18446744073709551616 % 1152921504606846976) : Nat) : Int) := by rw [IntKind.wrap_u64]; unfold wHi; omega
  have e2 : wLo v / 1152921504606846976 = ((v % 18446744073709551616 / 1152921504606846976 : Nat) : Int) := by unfold wLo; omega
  have e3 : IntKind.u64.wrap (wLo v * 16) = ((2 ^ 4 * (v % 18446744073709551616 % 1152921504606846976) : Nat) : Int) := by rw [IntKind.wrap_u64]; unfold wLo; omega
  rw [e1, e2, e3, bits_or_u64_nat _ _ (by omega) (by omega), bits_or_u64_nat _ _ (by omega) (by omega), ← Nat.two_pow_add_eq_or_of_lt (by omega), ← Nat.two_pow_add_eq_or_of_lt (by omega)]
  unfold wHi wLo top
  omega
theorem rT_none {l : List UInt8} {j : Nat} (h : hfold 0 ((rT l).take j) = none) : rprs l = none := by
  have : hfold 0 (rT l) = none := by
    rw [← List.take_append_drop j (rT l), hfold_app, h]; rfl
  unfold rprs
  rw [this]
set_option maxHeartbeats 2000000 in
set_option maxRecDepth 100000 in
theorem refParse_in (l : List UInt8) (hl : l.length ≤ 281474976710656) (w : World) :
    Calls Tryz.prog 202 #[.string (txt l)] w fun e w' => e = .returned (prsV (rprs l)) ∧ Below w.heap.size w w' := by
  obtain ⟨T, hT⟩ : ∃ T, T = txt l := ⟨_, rfl⟩
  have hsz : T.size = l.length := by rw [hT, txt_size]
  have HG : Hid (∀ (k : Nat) (h : k < T.size) (h' : k < l.length), T[k] = l[k]) := fun k h h' => by subst hT; simp [txt, ByteArray.getElem_eq_getElem_data]
  rw [← hT]
  have HT := hide hT
  have HZ := hide hsz
  have hTl : T.size ≤ 281474976710656 := by omega
  clear hl hsz hT
  go_enter Tryz.func202, Tryz.ntmps202
  go_upto_block 0 with fail
  go_cut [4, 5] (fun vw vi wx => wx = w.alloc (.cells #[.int .i64 0, .int .u64 0, .int .u64 0] 66) ∧ ∃ (k : Nat), vw = .int .i64 ((rW l : Nat) : Int) ∧ vi = .int .i64 (k : Int) ∧ k ≤ 3 ∧ k ≤ T.size ∧ k = (lead 3 l).length)
  case first =>
    go_wp2_with fail
    go_loop [4, 5] (fun vw vi => ∃ (k W : Nat), vw = .int .i64 (W : Int) ∧ vi = .int .i64 (k : Int) ∧ k ≤ 3 ∧ k ≤ T.size ∧ W < 1000 ∧ Hid (W = dcv 0 (l.take k) ∧ W < 10 ^ k ∧ lead 3 l = l.take k ++ lead (3 - k) (l.drop k))) (fun _ vi => (3 - intOf vi).toNat)
    case atStart => exact ⟨0, 0, rfl, rfl, by omega, by omega, by omega, rfl, by simp, by simp⟩
    case round =>
      obtain ⟨k, W, rfl, rfl, hk, hkT, hW, HK⟩ := hrel
      have HEnd : Hid (lead 3 l = l.take k → ((W : Nat) : Int) = ((rW l : Nat) : Int) ∧ k = (lead 3 l).length) := fun h => by
        unfold rW
        rw [h, ← HK.out.1]
        refine ⟨rfl, ?_⟩
        rw [List.length_take, ← HZ.out]; omega
      by_cases hlt : k < T.size
      · have hltl : k < l.length := by rw [← HZ.out]; exact hlt
        have hcg := HG.out k hlt hltl
        by_cases h3 : k < 3
        · have hst := lead_step hltl h3 HK.out.2.2
          by_cases hd : isDc (l[k]) = true
          · have hdb : 48 ≤ (T[k]).toNat ∧ (T[k]).toNat ≤ 57 := by rw [hcg]; simpa [isDc] using hd
            obtain ⟨d0, d1⟩ := hdb
            have HN : Hid (10 * W + ((T[k]).toNat - 48) = dcv 0 (l.take (k + 1)) ∧ 10 * W + ((T[k]).toNat - 48) < 10 ^ (k + 1) ∧ lead 3 l = l.take (k + 1) ++ lead (3 - (k + 1)) (l.drop (k + 1))) := by
              refine ⟨?_, ?_, hst.1 hd⟩
              · rw [List.take_succ_eq_append_getElem hltl, dcv_snoc, ← HK.out.1, hcg]
              · have := HK.out.2.1; rw [Nat.pow_succ]; omega
            have hW' : 10 * W + ((T[k]).toNat - 48) < 1000 := by
              have h1 := HN.out.2.1
              have h2 : 10 ^ (k + 1) ≤ 10 ^ 3 := Nat.pow_le_pow_right (by decide) (by omega)
              omega
            have d0I : (48 : Int) ≤ (((T[k]).toNat : Nat) : Int) := by omega
            have d1I : (((T[k]).toNat : Nat) : Int) ≤ 57 := by omega
            clear hst hd hcg HK HEnd
            go_wp2
            exact ⟨⟨k + 1, 10 * W + ((T[k]).toNat - 48), by congr 1; omega, by congr 1, by omega, by omega, hW', HN⟩, by simp [intOf]; omega⟩
          · have HE := hide (HEnd.out (hst.2 (by simpa using hd)))
            have hdb : ¬ (48 ≤ (T[k]).toNat ∧ (T[k]).toNat ≤ 57) := by rw [hcg]; simpa [isDc] using hd
            clear hst hd hcg HK HEnd
            rcases Nat.lt_or_ge (T[k]).toNat 48 with hA | hA
            · have n0 : (((T[k]).toNat : Nat) : Int) < 48 := by omega
              go_wp2
              go_meet
              exact ⟨rfl, k, by rw [← HE.out.1], rfl, by omega, by omega, HE.out.2⟩
            · have n0 : (48 : Int) ≤ (((T[k]).toNat : Nat) : Int) := by omega
              have n1 : (57 : Int) < (((T[k]).toNat : Nat) : Int) := by omega
              go_wp2
              go_meet
              exact ⟨rfl, k, by rw [← HE.out.1], rfl, by omega, by omega, HE.out.2⟩
        · have hk3 : k = 3 := by omega
          have HE := hide (HEnd.out (by have := HK.out.2.2; rw [hk3] at this ⊢; simpa [lead] using this))
          clear HK HEnd hcg
          subst hk3
          go_wp2
          go_meet
          exact ⟨rfl, 3, by rw [← HE.out.1], rfl, by omega, by omega, HE.out.2⟩
      · have hkk : k = T.size := by omega
        have HE := hide (HEnd.out (by
          have := HK.out.2.2
          rw [List.drop_of_length_le (by rw [← HZ.out]; omega)] at this
          rw [this]
          cases 3 - k <;> simp [lead]))
        clear HK HEnd
        have hnl : ¬ ((k : Int) < (T.size : Int)) := by omega
        clear hkk
        go_wp2
        go_meet
        exact ⟨rfl, k, by rw [← HE.out.1], rfl, by omega, by omega, HE.out.2⟩
  case rest =>
    obtain ⟨rfl, k, rfl, rfl, hk3, hkT, hkl⟩ := hcut
    have HKL := hide hkl
    clear hkl
    go_upto_block 2 with fail
    go_cut [7] (fun vi wx => ∃ v : Nat, v < top ∧ hfold 0 (rT l) = some v ∧ wx = (w.alloc (.cells #[.int .i64 0, .int .u64 0, .int .u64 0] 66)).alloc (.cells #[.int .i64 ((rW l : Nat) : Int), .int .u64 (wHi v), .int .u64 (wLo v)] 66))
    case first =>
      go_wp2_with fail
      go_loopw [7] (fun vi wr => ∃ (j v : Nat) (h lo : Int), vi = .int .i64 ((k : Int) + 1 + (j : Int)) ∧ j ≤ 33 ∧ wr = (w.alloc (.cells #[.int .i64 0, .int .u64 0, .int .u64 0] 66)).alloc (.cells #[.int .i64 ((rW l : Nat) : Int), .int .u64 h, .int .u64 lo] 66) ∧ Hid (v < top ∧ h = wHi v ∧ lo = wLo v ∧ (j ≤ (rT l).length) ∧ hfold 0 ((rT l).take j) = some v)) (fun vi _ => (100 - intOf vi).toNat)
      case atStart => exact ⟨0, 0, 0, 0, by congr 1, by omega, rfl, by unfold top; omega, by decide, by decide, by omega, rfl⟩
      case round =>
        obtain ⟨j, v, h, lo, rfl, hj, rfl, HR⟩ := hrel
        by_cases hlt : k + 1 + j < T.size
        · by_cases h33 : j < 33
          · have hltl : k + 1 + j < l.length := by rw [← HZ.out]; exact hlt
            have HC : Hid (T[k + 1 + j] = l[k + 1 + j]) := HG.out _ hlt hltl
            have HD := hide (refDigit (T[k + 1 + j]).toNat (T[k + 1 + j]).toNat_lt)
            have HTk := hide (rT_take HKL.out h33 hltl)
            have HStep : Hid (hfold 0 ((rT l).take (j + 1)) = match dgt (T[k + 1 + j]).toNat with | some d => some ((v * 16 + d) % top) | none => none) := by
              unfold Hid
              rw [HTk.out, hfold_snoc, HR.out.2.2.2.2, HC.out]; rfl
            have e1 : (k : Int) + 1 + (j : Int) < (T.size : Int) := by omega
            have e2 : (k : Int) + 1 + (j : Int) < (k : Int) + 34 := by omega
            have e3 : (0 : Int) ≤ (k : Int) + 1 + (j : Int) := by omega
            cases hdg : dgt (T[k + 1 + j]).toNat with
            | none =>
              have hdi : dgtI (T[k + 1 + j]).toNat = -1 := by unfold dgtI; rw [hdg]
              rw [hdi] at HD
              rw [hdg] at HStep
              have HE := hide (rT_none HStep.out)
              clear HStep HTk HC hdg hdi
              go_wp2_with fail
              refine (HD.out _).mono ?_
              rintro e w1 ⟨rfl, rfl⟩
              go_wp2
              rw [HE.out]
              refine bodyPost_ret (v := .tuple #[.agg #[.int .i64 0, .int .u64 0, .int .u64 0], .int .i64 8]) (by simp [results, Tryz.results202, go_sem]) rfl ⟨rfl, ?_⟩
              exact ((Below.refl _ _).alloc (Nat.le_refl _) _).alloc (by simp) _
            | some d =>
              have hd16 : d < 16 := by
                unfold dgt at hdg
                split at hdg
                · cases hdg; omega
                · split at hdg
                  · cases hdg; omega
                  · cases hdg
              have hdi : dgtI (T[k + 1 + j]).toNat = (d : Int) := by unfold dgtI; rw [hdg]
              rw [hdi] at HD
              rw [hdg] at HStep
              clear HTk HC hdg hdi
              go_wp2_with fail
              refine (HD.out _).mono ?_
              rintro e w1 ⟨rfl, rfl⟩
              go_wp2
              refine ⟨⟨j + 1, (v * 16 + d) % top, _, _, by congr 1, by omega, rfl, ?_⟩, by simp [intOf]; omega⟩
              obtain ⟨r1, r2, r3, r4, r5⟩ := HR.out
              subst r2 r3
              refine ⟨Nat.mod_lt _ (by decide), (shl4 v d r1 hd16).1, (shl4 v d r1 hd16).2, ?_, HStep.out⟩
              rw [rT_len, ← HKL.out]; omega
          · have HX : Hid (∃ v : Nat, v < top ∧ hfold 0 (rT l) = some v ∧ h = wHi v ∧ lo = wLo v) := by
              obtain ⟨r1, r2, r3, r4, r5⟩ := HR.out
              rw [List.take_of_length_le (by rw [rT_len]; omega)] at r5
              exact ⟨v, r1, r5, r2, r3⟩
            have e1 : (k : Int) + 1 + (j : Int) < (T.size : Int) := by omega
            have e2 : ¬ ((k : Int) + 1 + (j : Int) < (k : Int) + 34) := by omega
            clear HR
            go_wp2
            go_meet
            obtain ⟨v', a1, a2, a3, a4⟩ := HX.out
            exact ⟨v', a1, a2, by rw [a3, a4]⟩
        · have HX : Hid (∃ v : Nat, v < top ∧ hfold 0 (rT l) = some v ∧ h = wHi v ∧ lo = wLo v) := by
            obtain ⟨r1, r2, r3, r4, r5⟩ := HR.out
            rw [List.take_of_length_le (by rw [rT_len, ← HKL.out, ← HZ.out]; omega)] at r5
            exact ⟨v, r1, r5, r2, r3⟩
          have e1 : ¬ ((k : Int) + 1 + (j : Int) < (T.size : Int)) := by omega
          clear HR
          go_wp2
          go_meet
          obtain ⟨v', a1, a2, a3, a4⟩ := HX.out
          exact ⟨v', a1, a2, by rw [a3, a4]⟩
    case rest =>
      obtain ⟨v, hv, hh, rfl⟩ := hcut
      have HP : Hid (rprs l = if okN (rW l) v = true ∧ tx (rW l) v = l then some (rW l, v) else none) := by unfold Hid rprs; rw [hh]
      clear hh
      clear HG HKL
      by_cases ho : okN (rW l) v = true
      · have HX : Hid (∀ W, _) := fun W => refText_yes (rW l) v W hv ho
        by_cases he : tx (rW l) v = l
        · rw [he, ← HT.out] at HX
          rw [if_pos ⟨ho, he⟩] at HP
          have HPV : Hid (prsV (rprs l) = .tuple #[.agg #[.int .i64 ((rW l : Nat) : Int), .int .u64 (wHi v), .int .u64 (wLo v)], .int .i64 0]) := by unfold Hid; rw [HP.out]; rfl
          clear HP ho he hv
          have HP := HPV
          clear HPV
          generalize ((rW l : Nat) : Int) = n at *
          generalize wHi v = h1 at *
          generalize wLo v = l1 at *
          go_wp2_with fail
          refine (HX.out _).mono ?_
          rintro e w2 ⟨rfl, hb⟩
          have hz1 : ((w.alloc (.cells #[.int .i64 0, .int .u64 0, .int .u64 0] 66)).alloc (.cells #[.int .i64 n, .int .u64 h1, .int .u64 l1] 66)).heap[w.heap.size]? = some (.cells #[.int .i64 0, .int .u64 0, .int .u64 0] 66 (0, 0)) := (hao _ _ _ (by simp)).trans (heap_alloc_new w _)
          have hz2 : ((w.alloc (.cells #[.int .i64 0, .int .u64 0, .int .u64 0] 66)).alloc (.cells #[.int .i64 n, .int .u64 h1, .int .u64 l1] 66)).heap[w.heap.size + 1]? = some (.cells #[.int .i64 n, .int .u64 h1, .int .u64 l1] 66 (0, 0)) := by have := heap_alloc_new (w.alloc (.cells #[.int .i64 0, .int .u64 0, .int .u64 0] 66)) (.cells #[.int .i64 n, .int .u64 h1, .int .u64 l1] 66); simpa using this
          have h2a := cells_of3 ((hb.block w.heap.size (by simp; omega)).trans hz1)
          have h2b := cells_of3 ((hb.block (w.heap.size + 1) (by simp)).trans hz2)
          have HSh : Hid (Sh3 w.heap.size w2) := ⟨_, (hb.block w.heap.size (by simp; omega)).trans hz1, rfl⟩
          have HW2 : Hid (Below w.heap.size w w2) := (((Below.refl _ _).alloc (Nat.le_refl _) _).alloc (by simp) _).trans (hb.mono (by simp; omega))
          obtain ⟨a0, a1, a2, f0, f1, f2⟩ := h2a
          obtain ⟨b0, b1, b2, g0, g1, g2⟩ := h2b
          clear hb hz1 hz2
          have hne : ¬ (w.heap.size + 1 = w.heap.size) := by omega
          have hne' : ¬ (w.heap.size = w.heap.size + 1) := by omega
          go_wp2
          have hg := cells_of3 (HSh.out.got (.int .i64 n) (.int .u64 h1) (.int .u64 l1))
          have HB := hide (((HW2.out.setCell (p := ⟨w.heap.size, 0, none⟩) (Nat.le_refl _) (.int .i64 n)).setCell (p := ⟨w.heap.size, 1, none⟩) (Nat.le_refl _) (.int .u64 h1)).setCell (p := ⟨w.heap.size, 2, none⟩) (Nat.le_refl _) (.int .u64 l1))
          obtain ⟨q0, q1, q2, _, _, _⟩ := hg
          refine bodyPost_ret (v := .tuple #[.agg #[.int .i64 n, .int .u64 h1, .int .u64 l1], .int .i64 0]) (by simp [results, Tryz.results202, go_sem, q0, q1, q2]) rfl ⟨by rw [HP.out], HB.out⟩
        · rw [if_neg (fun h => he h.2)] at HP
          have hne9 : ((txt (tx (rW l) v)).toList == T.toList) = false := by rw [HT.out]; exact txt_ne he
          have HPV : Hid (prsV (rprs l) = .tuple #[.agg #[.int .i64 0, .int .u64 0, .int .u64 0], .int .i64 8]) := by unfold Hid; rw [HP.out]; rfl
          generalize txt (tx (rW l) v) = R at *
          clear HP ho he hv
          have HP := HPV
          clear HPV
          generalize ((rW l : Nat) : Int) = n at *
          generalize wHi v = h1 at *
          generalize wLo v = l1 at *
          go_wp2_with fail
          refine (HX.out _).mono ?_
          rintro e w2 ⟨rfl, hb⟩
          have hz1 : ((w.alloc (.cells #[.int .i64 0, .int .u64 0, .int .u64 0] 66)).alloc (.cells #[.int .i64 n, .int .u64 h1, .int .u64 l1] 66)).heap[w.heap.size]? = some (.cells #[.int .i64 0, .int .u64 0, .int .u64 0] 66 (0, 0)) := (hao _ _ _ (by simp)).trans (heap_alloc_new w _)
          have hz2 : ((w.alloc (.cells #[.int .i64 0, .int .u64 0, .int .u64 0] 66)).alloc (.cells #[.int .i64 n, .int .u64 h1, .int .u64 l1] 66)).heap[w.heap.size + 1]? = some (.cells #[.int .i64 n, .int .u64 h1, .int .u64 l1] 66 (0, 0)) := by have := heap_alloc_new (w.alloc (.cells #[.int .i64 0, .int .u64 0, .int .u64 0] 66)) (.cells #[.int .i64 n, .int .u64 h1, .int .u64 l1] 66); simpa using this
          have h2a := cells_of3 ((hb.block w.heap.size (by simp; omega)).trans hz1)
          have h2b := cells_of3 ((hb.block (w.heap.size + 1) (by simp)).trans hz2)
          have HSh : Hid (Sh3 w.heap.size w2) := ⟨_, (hb.block w.heap.size (by simp; omega)).trans hz1, rfl⟩
          have HW2 : Hid (Below w.heap.size w w2) := (((Below.refl _ _).alloc (Nat.le_refl _) _).alloc (by simp) _).trans (hb.mono (by simp; omega))
          obtain ⟨a0, a1, a2, f0, f1, f2⟩ := h2a
          obtain ⟨b0, b1, b2, g0, g1, g2⟩ := h2b
          clear hb hz1 hz2
          have hne : ¬ (w.heap.size + 1 = w.heap.size) := by omega
          have hne' : ¬ (w.heap.size = w.heap.size + 1) := by omega
          go_wp2
          have hg := cells_of3 (HSh.out.got (.int .i64 0) (.int .u64 0) (.int .u64 0))
          have HB := hide (((HW2.out.setCell (p := ⟨w.heap.size, 0, none⟩) (Nat.le_refl _) (.int .i64 0)).setCell (p := ⟨w.heap.size, 1, none⟩) (Nat.le_refl _) (.int .u64 0)).setCell (p := ⟨w.heap.size, 2, none⟩) (Nat.le_refl _) (.int .u64 0))
          obtain ⟨q0, q1, q2, _, _, _⟩ := hg
          refine bodyPost_ret (v := .tuple #[.agg #[.int .i64 0, .int .u64 0, .int .u64 0], .int .i64 8]) (by simp [results, Tryz.results202, go_sem, q0, q1, q2]) rfl ⟨by rw [HP.out], HB.out⟩
      · have HX : Hid (∀ W, _) := fun W => refText_no (rW l) v W hv (by simpa using ho)
        rw [if_neg (fun h => ho h.1)] at HP
        have HPV : Hid (prsV (rprs l) = .tuple #[.agg #[.int .i64 0, .int .u64 0, .int .u64 0], .int .i64 8]) := by unfold Hid; rw [HP.out]; rfl
        clear HP ho hv
        have HP := HPV
        clear HPV
        generalize ((rW l : Nat) : Int) = n at *
        generalize wHi v = h1 at *
        generalize wLo v = l1 at *
        go_wp2_with fail
        refine (HX.out _).mono ?_
        rintro e w2 ⟨rfl, hb⟩
        have hz1 : ((w.alloc (.cells #[.int .i64 0, .int .u64 0, .int .u64 0] 66)).alloc (.cells #[.int .i64 n, .int .u64 h1, .int .u64 l1] 66)).heap[w.heap.size]? = some (.cells #[.int .i64 0, .int .u64 0, .int .u64 0] 66 (0, 0)) := (hao _ _ _ (by simp)).trans (heap_alloc_new w _)
        have hz2 : ((w.alloc (.cells #[.int .i64 0, .int .u64 0, .int .u64 0] 66)).alloc (.cells #[.int .i64 n, .int .u64 h1, .int .u64 l1] 66)).heap[w.heap.size + 1]? = some (.cells #[.int .i64 n, .int .u64 h1, .int .u64 l1] 66 (0, 0)) := by have := heap_alloc_new (w.alloc (.cells #[.int .i64 0, .int .u64 0, .int .u64 0] 66)) (.cells #[.int .i64 n, .int .u64 h1, .int .u64 l1] 66); simpa using this
        have h2a := cells_of3 ((hb.block w.heap.size (by simp; omega)).trans hz1)
        have h2b := cells_of3 ((hb.block (w.heap.size + 1) (by simp)).trans hz2)
        have HSh : Hid (Sh3 w.heap.size w2) := ⟨_, (hb.block w.heap.size (by simp; omega)).trans hz1, rfl⟩
        have HW2 : Hid (Below w.heap.size w w2) := (((Below.refl _ _).alloc (Nat.le_refl _) _).alloc (by simp) _).trans (hb.mono (by simp; omega))
        obtain ⟨a0, a1, a2, f0, f1, f2⟩ := h2a
        obtain ⟨b0, b1, b2, g0, g1, g2⟩ := h2b
        clear hb hz1 hz2
        have hne : ¬ (w.heap.size + 1 = w.heap.size) := by omega
        have hne' : ¬ (w.heap.size = w.heap.size + 1) := by omega
        go_wp2
        have hg := cells_of3 (HSh.out.got (.int .i64 0) (.int .u64 0) (.int .u64 0))
        have HB := hide (((HW2.out.setCell (p := ⟨w.heap.size, 0, none⟩) (Nat.le_refl _) (.int .i64 0)).setCell (p := ⟨w.heap.size, 1, none⟩) (Nat.le_refl _) (.int .u64 0)).setCell (p := ⟨w.heap.size, 2, none⟩) (Nat.le_refl _) (.int .u64 0))
        obtain ⟨q0, q1, q2, _, _, _⟩ := hg
        refine bodyPost_ret (v := .tuple #[.agg #[.int .i64 0, .int .u64 0, .int .u64 0], .int .i64 8]) (by simp [results, Tryz.results202, go_sem, q0, q1, q2]) rfl ⟨by rw [HP.out], HB.out⟩
theorem refParse_any (l : List UInt8) (hl : l.length ≤ 281474976710656) (w : World) :
    Calls Tryz.prog 202 #[.string (txt l)] w fun e w' => e = .returned (prsV (prs l)) ∧ Below w.heap.size w w' := by
  rw [← rprs_eq]
  exact refParse_in l hl w
end Go.Proofs.YtfanhdjebmdniaaGreatDoor
/- The document's lex: number. -/
namespace Go.Proofs.YtfanhdjebmdniaaGreatDoor
open Go.RowKit

set_option maxHeartbeats 1000000 in
set_option maxRecDepth 100000 in
theorem numberR (s : List UInt8) (w : World) (hs : s.length ≤ 1000000) : Calls Tryz.prog 120 #[.string (txt s)] w fun e w' => (∃ ok a b c d S, WR (if s.all isD then wholeW s else numW s) ok a b c d S ∧ e = .returned (.tuple #[wAgg a b c d 0 S, .bool ok])) ∧ Below w.heap.size w w' := by
  have HDs : Hid (∀ W, _) := fun W => digitsR s W hs
  cases hall : s.all isD with
  | true =>
    have hd : ∀ c ∈ s, isD c = true := List.all_eq_true.1 hall
    rw [hall] at HDs
    have HWh : Hid (∀ W, _) := fun W => wholeR s W hs hd
    have hlt := dvl_lt12 hd (j := 12) (by omega)
    have HR : Hid (WR (wholeW s) (wholeW s).isSome 2 64 0 (dvl (s.take 12) : Int) ⟨#[]⟩) := by
      cases hw : wholeW s with
      | none => exact .inr ⟨rfl, rfl⟩
      | some x =>
        have hx := (whole_iff s).2 x hw
        refine .inl ⟨rfl, x, rfl, ?_, ?_, ?_, ?_, ?_⟩ <;> rw [hx]
        · rfl
        · rfl
        · rfl
        · show (0 : Int) = wHi (dvl (s.take 12)); unfold wHi; omega
        · show (dvl (s.take 12) : Int) = wLo (dvl (s.take 12)); unfold wLo; omega
    rw [if_pos rfl]
    generalize (wholeW s).isSome = ok at *
    generalize wholeW s = o at *
    generalize dvl (s.take 12) = n at *
    clear hall hd
    generalize txt s = T at *
    go_enter Tryz.func120, Tryz.ntmps120
    go_wp2_with fail
    refine (HDs.out _).mono ?_
    rintro e' w1 ⟨rfl, hb⟩
    have B1 := hide hb
    clear hb
    go_wp2_with fail
    refine (HWh.out _).mono ?_
    rintro e' w2 ⟨rfl, hb⟩
    have B2 := hide (B1.out.trans (hb.mono B1.out.size))
    clear hb
    have hblk : w2.heap[w.heap.size]? = some (.cells z6 68 (0, 0)) := (B2.out.block _ (by simp)).trans (heap_alloc_new w _)
    have HW : Hid (Below w.heap.size w w2) := ((Below.refl _ _).alloc (Nat.le_refl _) _).trans (B2.out.mono (by simp))
    have hlt : w.heap.size < w2.heap.size := by have := B2.out.size; simp at this; omega
    obtain ⟨⟨k0, k1, k2, k3, k4, k5⟩, f0, f1, f2, f3, f4, f5⟩ := cells_of6 hblk
    have HBk := hide hblk
    clear hblk B1 B2
    have hne : ¬ (w.heap.size = w2.heap.size) := by omega
    go_wp2
    have hg := cells_of6 (set6_got HBk.out (.int .u8 2) (.string ⟨#[]⟩) (.int .i64 64) (.int .u64 0) (.int .u64 (n : Int)) (.int .i64 0))
    have HBB := hide (set6_below HW.out (Nat.le_refl _) (.int .u8 2) (.string ⟨#[]⟩) (.int .i64 64) (.int .u64 0) (.int .u64 (n : Int)) (.int .i64 0))
    unfold set6 at hg
    obtain ⟨⟨q0, q1, q2, q3, q4, q5⟩, _⟩ := hg
    refine bodyPost_ret (v := .tuple #[wAgg 2 64 0 (n : Int) 0 ⟨#[]⟩, .bool ok]) (by simp [results, Tryz.results120, go_sem, q0, q1, q2, q3, q4, q5, wAgg]) rfl ⟨⟨ok, _, _, _, _, _, HR.out, rfl⟩, HBB.out⟩
  | false =>
    rw [hall] at HDs
    obtain ⟨a, b, c, e, he, hcase⟩ := prsV_cases (prs s)
    have HP : Hid (∀ W, _) := fun W => refParse_any s (by omega) W
    rw [he] at HP
    have HR : Hid (WR (numW s) (e == 0) 3 a b c ⟨#[]⟩) := by
      unfold Hid numW
      rcases hcase with ⟨n, v, h1, h2, h3, h4, h5⟩ | ⟨h1, h2⟩
      · rw [h1, h5]; exact .inl ⟨rfl, ⟨3, [], n, v⟩, rfl, rfl, rfl, h2, h3, h4⟩
      · rw [h1, h2]; exact .inr ⟨rfl, rfl⟩
    rw [if_neg (by decide)]
    have h08 : e = 0 ∨ e = 8 := by
      rcases hcase with ⟨_, _, _, _, _, _, h⟩ | ⟨_, h⟩
      · exact .inl h
      · exact .inr h
    clear he hcase hall
    generalize numW s = o at *
    generalize txt s = T at *
    rcases h08 with rfl | rfl
    all_goals
      go_enter Tryz.func120, Tryz.ntmps120
      go_wp2_with fail
      refine (HDs.out _).mono ?_
      rintro e' w1 ⟨rfl, hb⟩
      have B1 := hide hb
      clear hb
      go_wp2_with fail
      refine (HP.out _).mono ?_
      rintro e' w2 ⟨rfl, hb⟩
      have B2 := hide (B1.out.trans (hb.mono B1.out.size))
      clear hb
      have hblk : w2.heap[w.heap.size]? = some (.cells z6 68 (0, 0)) := (B2.out.block _ (by simp)).trans (heap_alloc_new w _)
      have HW : Hid (Below w.heap.size w w2) := ((Below.refl _ _).alloc (Nat.le_refl _) _).trans (B2.out.mono (by simp))
      have hlt : w.heap.size < w2.heap.size := by have := B2.out.size; simp at this; omega
      obtain ⟨⟨k0, k1, k2, k3, k4, k5⟩, f0, f1, f2, f3, f4, f5⟩ := cells_of6 hblk
      have HBk := hide hblk
      clear hblk B1 B2
      have hne : ¬ (w.heap.size = w2.heap.size) := by omega
      go_wp2
      have hs6 : w.heap.size < (set6 w2 w.heap.size (.int .u8 3) (.string ⟨#[]⟩) (.int .i64 a) (.int .u64 b) (.int .u64 c) (.int .i64 0)).heap.size := Nat.lt_of_lt_of_le hlt (set6_below (Below.refl 0 w2) (Nat.zero_le _) _ _ _ _ _ _).size
      have hg := cells_of6 ((hao _ (.cells #[.int .i64 a, .int .u64 b, .int .u64 c] 66) _ hs6).trans (set6_got HBk.out (.int .u8 3) (.string ⟨#[]⟩) (.int .i64 a) (.int .u64 b) (.int .u64 c) (.int .i64 0)))
      have HBB := hide ((set6_below HW.out (Nat.le_refl _) (.int .u8 3) (.string ⟨#[]⟩) (.int .i64 a) (.int .u64 b) (.int .u64 c) (.int .i64 0)).alloc (by omega) (.cells #[.int .i64 a, .int .u64 b, .int .u64 c] 66))
      unfold set6 at hg
      obtain ⟨⟨q0, q1, q2, q3, q4, q5⟩, _⟩ := hg
      first
        | refine bodyPost_ret (v := .tuple #[wAgg 3 a b c 0 ⟨#[]⟩, .bool true]) (by simp [results, Tryz.results120, go_sem, q0, q1, q2, q3, q4, q5, wAgg]) rfl ⟨⟨true, _, _, _, _, _, HR.out, rfl⟩, HBB.out⟩
        | refine bodyPost_ret (v := .tuple #[wAgg 3 a b c 0 ⟨#[]⟩, .bool false]) (by simp [results, Tryz.results120, go_sem, q0, q1, q2, q3, q4, q5, wAgg]) rfl ⟨⟨false, _, _, _, _, _, HR.out, rfl⟩, HBB.out⟩
end Go.Proofs.YtfanhdjebmdniaaGreatDoor
/- The document's lex: sign. -/
namespace Go.Proofs.YtfanhdjebmdniaaGreatDoor
open Go.RowKit

def twos : List (List UInt8) := [[61, 61], [33, 61], [60, 61], [60, 60], [62, 62], [43, 43], [38, 38], [124, 124]]
def ones : List UInt8 := [123, 125, 40, 41, 91, 93, 59, 58, 44, 46, 61, 60, 43, 45, 42, 38, 124, 94, 126]
theorem sgs_parts : sgs = twos ++ ones.map fun c => [c] := by decide +kernel
theorem find_ones (c : UInt8) (r : List UInt8) : ∀ l : List UInt8, ((l.map fun c => [c]).find? fun s => s.isPrefixOf (c :: r)).getD [] = if c ∈ l then [c] else []
  | [] => by simp
  | d :: l => by
    rw [List.map_cons, List.find?_cons]
    by_cases h : d = c
    · subst h
      simp [List.isPrefixOf]
    · have : ([d].isPrefixOf (c :: r)) = false := by simp [List.isPrefixOf, h]
      rw [this]
      simp only
      rw [find_ones c r l]
      have hc : ¬ c = d := fun e => h e.symm
      simp [hc]
theorem find_twos (a b : UInt8) (r : List UInt8) : ∀ l : List (List UInt8), (∀ s ∈ l, s.length = 2) → (l.find? fun s => s.isPrefixOf (a :: b :: r)) = if [a, b] ∈ l then some [a, b] else none
  | [], _ => by simp
  | s :: l, h => by
    rw [List.find?_cons]
    have hs := h s (by simp)
    match s, hs with
    | [x, y], _ =>
      by_cases e : x = a ∧ y = b
      · obtain ⟨rfl, rfl⟩ := e
        simp [List.isPrefixOf]
      · have hp : ([x, y].isPrefixOf (a :: b :: r)) = false := by
          cases hh : [x, y].isPrefixOf (a :: b :: r) with
          | false => rfl
          | true => simp [List.isPrefixOf] at hh; exact absurd hh e
        rw [hp]
        simp only
        rw [find_twos a b r l (fun t ht => h t (by simp [ht]))]
        have hne : ¬ ([a, b] = [x, y]) := by simpa using fun h1 h2 => e ⟨h1.symm, h2.symm⟩
        simp [hne]
theorem sgn_two (a b : UInt8) (r : List UInt8) : sgn (a :: b :: r) = if [a, b] ∈ twos then [a, b] else if a ∈ ones then [a] else [] := by
  unfold sgn
  rw [sgs_parts, List.find?_append, find_twos a b r twos (by decide)]
  by_cases h : [a, b] ∈ twos
  · rw [if_pos h, if_pos h]; rfl
  · rw [if_neg h, if_neg h, Option.none_or]
    exact find_ones a (b :: r) ones
theorem sgn_one (a : UInt8) : sgn [a] = if a ∈ ones then [a] else [] := by
  unfold sgn
  have h0 : (twos.find? fun s => s.isPrefixOf [a]) = none := by
    simp [twos, List.find?, List.isPrefixOf]
  rw [sgs_parts, List.find?_append, h0, Option.none_or]
  exact find_ones a [] ones
end Go.Proofs.YtfanhdjebmdniaaGreatDoor
/- The document's lex: sign. -/
namespace Go.Proofs.YtfanhdjebmdniaaGreatDoor
open Go.RowKit

theorem txt_cut (s : List UInt8) (i n : Nat) : (txt s).extract i (i + n) = txt ((s.drop i).take n) := by
  refine ByteArray.ext (Array.ext' ?_)
  simp [txt, ByteArray.extract, ByteArray.copySlice, List.take_drop]
theorem txt_toList (l : List UInt8) : (txt l).toList = l := by
  rw [Lib.toList_data, txt_data]
set_option maxHeartbeats 4000000 in
set_option maxRecDepth 100000 in
theorem signTwo (A T : ByteArray) (k : Nat) (w : World) (hz1 : A.size ≤ 1000000) (hz2 : k + 2 ≤ A.size) (hT : A.extract k (k + 2) = T) (h2 : T.toList ∈ twos) :
    Calls Tryz.prog 122 #[.string A, .int .i64 (k : Int)] w fun e w' => e = .returned (.string T) ∧ Below w.heap.size w w' := by
  have hI : (k : Int) + 1 < (A.size : Int) := by omega
  have hI2 : ¬ (A.size : Int) ≤ (k : Int) + 1 := by omega
  generalize hL : T.toList = L at *
  simp only [twos, List.mem_cons, List.not_mem_nil, or_false] at h2
  rcases h2 with rfl | rfl | rfl | rfl | rfl | rfl | rfl | rfl
  · have f0 : (T.toList == [61, 61]) = true := by rw [hL]; rfl
    clear hL
    go_enter Tryz.func122, Tryz.ntmps122
    go_wp2
    go_ret
    exact ⟨by rw [← hT]; rfl, Below.refl _ _⟩
  · have f0 : (T.toList == [61, 61]) = false := by rw [hL]; rfl
    have f1 : (T.toList == [33, 61]) = true := by rw [hL]; rfl
    clear hL
    go_enter Tryz.func122, Tryz.ntmps122
    go_wp2
    go_ret
    exact ⟨by rw [← hT]; rfl, Below.refl _ _⟩
  · have f0 : (T.toList == [61, 61]) = false := by rw [hL]; rfl
    have f1 : (T.toList == [33, 61]) = false := by rw [hL]; rfl
    have f2 : (T.toList == [60, 61]) = true := by rw [hL]; rfl
    clear hL
    go_enter Tryz.func122, Tryz.ntmps122
    go_wp2
    go_ret
    exact ⟨by rw [← hT]; rfl, Below.refl _ _⟩
  · have f0 : (T.toList == [61, 61]) = false := by rw [hL]; rfl
    have f1 : (T.toList == [33, 61]) = false := by rw [hL]; rfl
    have f2 : (T.toList == [60, 61]) = false := by rw [hL]; rfl
    have f3 : (T.toList == [60, 60]) = true := by rw [hL]; rfl
    clear hL
    go_enter Tryz.func122, Tryz.ntmps122
    go_wp2
    go_ret
    exact ⟨by rw [← hT]; rfl, Below.refl _ _⟩
  · have f0 : (T.toList == [61, 61]) = false := by rw [hL]; rfl
    have f1 : (T.toList == [33, 61]) = false := by rw [hL]; rfl
    have f2 : (T.toList == [60, 61]) = false := by rw [hL]; rfl
    have f3 : (T.toList == [60, 60]) = false := by rw [hL]; rfl
    have f4 : (T.toList == [62, 62]) = true := by rw [hL]; rfl
    clear hL
    go_enter Tryz.func122, Tryz.ntmps122
    go_wp2
    go_ret
    exact ⟨by rw [← hT]; rfl, Below.refl _ _⟩
  · have f0 : (T.toList == [61, 61]) = false := by rw [hL]; rfl
    have f1 : (T.toList == [33, 61]) = false := by rw [hL]; rfl
    have f2 : (T.toList == [60, 61]) = false := by rw [hL]; rfl
    have f3 : (T.toList == [60, 60]) = false := by rw [hL]; rfl
    have f4 : (T.toList == [62, 62]) = false := by rw [hL]; rfl
    have f5 : (T.toList == [43, 43]) = true := by rw [hL]; rfl
    clear hL
    go_enter Tryz.func122, Tryz.ntmps122
    go_wp2
    go_ret
    exact ⟨by rw [← hT]; rfl, Below.refl _ _⟩
  · have f0 : (T.toList == [61, 61]) = false := by rw [hL]; rfl
    have f1 : (T.toList == [33, 61]) = false := by rw [hL]; rfl
    have f2 : (T.toList == [60, 61]) = false := by rw [hL]; rfl
    have f3 : (T.toList == [60, 60]) = false := by rw [hL]; rfl
    have f4 : (T.toList == [62, 62]) = false := by rw [hL]; rfl
    have f5 : (T.toList == [43, 43]) = false := by rw [hL]; rfl
    have f6 : (T.toList == [38, 38]) = true := by rw [hL]; rfl
    clear hL
    go_enter Tryz.func122, Tryz.ntmps122
    go_wp2
    go_ret
    exact ⟨by rw [← hT]; rfl, Below.refl _ _⟩
  · have f0 : (T.toList == [61, 61]) = false := by rw [hL]; rfl
    have f1 : (T.toList == [33, 61]) = false := by rw [hL]; rfl
    have f2 : (T.toList == [60, 61]) = false := by rw [hL]; rfl
    have f3 : (T.toList == [60, 60]) = false := by rw [hL]; rfl
    have f4 : (T.toList == [62, 62]) = false := by rw [hL]; rfl
    have f5 : (T.toList == [43, 43]) = false := by rw [hL]; rfl
    have f6 : (T.toList == [38, 38]) = false := by rw [hL]; rfl
    have f7 : (T.toList == [124, 124]) = true := by rw [hL]; rfl
    clear hL
    go_enter Tryz.func122, Tryz.ntmps122
    go_wp2
    go_ret
    exact ⟨by rw [← hT]; rfl, Below.refl _ _⟩
set_option maxHeartbeats 8000000 in
set_option maxRecDepth 100000 in
theorem signShort (A R : ByteArray) (k : Nat) (c : UInt8) (w : World) (hz1 : A.size ≤ 1000000) (hz2 : A.size ≤ k + 1) (hk : k < A.size) (hg : A[k] = c) (hR : R = if c ∈ ones then A.extract k (k + 1) else ⟨#[]⟩) :
    Calls Tryz.prog 122 #[.string A, .int .i64 (k : Int)] w fun e w' => e = .returned (.string R) ∧ Below w.heap.size w w' := by
  have hI : ¬ ((k : Int) + 1 < (A.size : Int)) := by omega
  by_cases hm : c ∈ ones
  · rw [if_pos hm] at hR
    have HR := hide hR
    clear hR
    simp only [ones, List.mem_cons, List.not_mem_nil, or_false] at hm
    rcases hm with rfl | rfl | rfl | rfl | rfl | rfl | rfl | rfl | rfl | rfl | rfl | rfl | rfl | rfl | rfl | rfl | rfl | rfl | rfl
    all_goals
      go_enter Tryz.func122, Tryz.ntmps122
      go_wp2
      go_ret
      exact ⟨by rw [HR.out]; rfl, Below.refl _ _⟩
  · rw [if_neg hm] at hR
    have HR := hide hR
    clear hR
    simp only [ones, List.mem_cons, List.not_mem_nil, or_false, not_or] at hm
    obtain ⟨g0, g1, g2, g3, g4, g5, g6, g7, g8, g9, g10, g11, g12, g13, g14, g15, g16, g17, g18⟩ := hm
    have hc : ∀ n : UInt8, ¬ c = n → (((c.toNat : Nat) : Int) == ((n.toNat : Nat) : Int)) = false := fun n h => by
      cases hh : (((c.toNat : Nat) : Int) == ((n.toNat : Nat) : Int)) with
      | false => rfl
      | true => exact absurd (UInt8.toNat_inj.1 (Int.ofNat.inj (eq_of_beq hh))) h
    have e0 : (((c.toNat : Nat) : Int) == 123) = false := hc 123 g0
    have e1 : (((c.toNat : Nat) : Int) == 125) = false := hc 125 g1
    have e2 : (((c.toNat : Nat) : Int) == 40) = false := hc 40 g2
    have e3 : (((c.toNat : Nat) : Int) == 41) = false := hc 41 g3
    have e4 : (((c.toNat : Nat) : Int) == 91) = false := hc 91 g4
    have e5 : (((c.toNat : Nat) : Int) == 93) = false := hc 93 g5
    have e6 : (((c.toNat : Nat) : Int) == 59) = false := hc 59 g6
    have e7 : (((c.toNat : Nat) : Int) == 58) = false := hc 58 g7
    have e8 : (((c.toNat : Nat) : Int) == 44) = false := hc 44 g8
    have e9 : (((c.toNat : Nat) : Int) == 46) = false := hc 46 g9
    have e10 : (((c.toNat : Nat) : Int) == 61) = false := hc 61 g10
    have e11 : (((c.toNat : Nat) : Int) == 60) = false := hc 60 g11
    have e12 : (((c.toNat : Nat) : Int) == 43) = false := hc 43 g12
    have e13 : (((c.toNat : Nat) : Int) == 45) = false := hc 45 g13
    have e14 : (((c.toNat : Nat) : Int) == 42) = false := hc 42 g14
    have e15 : (((c.toNat : Nat) : Int) == 38) = false := hc 38 g15
    have e16 : (((c.toNat : Nat) : Int) == 124) = false := hc 124 g16
    have e17 : (((c.toNat : Nat) : Int) == 94) = false := hc 94 g17
    have e18 : (((c.toNat : Nat) : Int) == 126) = false := hc 126 g18
    clear hc g0 g1 g2 g3 g4 g5 g6 g7 g8 g9 g10 g11 g12 g13 g14 g15 g16 g17 g18
    go_enter Tryz.func122, Tryz.ntmps122
    go_wp2
    go_ret
    exact ⟨by rw [HR.out]; rfl, Below.refl _ _⟩
set_option maxHeartbeats 8000000 in
set_option maxRecDepth 100000 in
theorem signLong (A T R : ByteArray) (k : Nat) (c : UInt8) (w : World) (hz1 : A.size ≤ 1000000) (hz2 : k + 2 ≤ A.size) (hT : A.extract k (k + 2) = T) (h2 : ¬ T.toList ∈ twos) (hk : k < A.size) (hg : A[k] = c) (hR : R = if c ∈ ones then A.extract k (k + 1) else ⟨#[]⟩) :
    Calls Tryz.prog 122 #[.string A, .int .i64 (k : Int)] w fun e w' => e = .returned (.string R) ∧ Below w.heap.size w w' := by
  have hI : (k : Int) + 1 < (A.size : Int) := by omega
  have f0 : (T.toList == [61, 61]) = false := by
    cases hh : (T.toList == [61, 61]) with
    | false => rfl
    | true => exact absurd (by rw [eq_of_beq hh]; decide) h2
  have f1 : (T.toList == [33, 61]) = false := by
    cases hh : (T.toList == [33, 61]) with
    | false => rfl
    | true => exact absurd (by rw [eq_of_beq hh]; decide) h2
  have f2 : (T.toList == [60, 61]) = false := by
    cases hh : (T.toList == [60, 61]) with
    | false => rfl
    | true => exact absurd (by rw [eq_of_beq hh]; decide) h2
  have f3 : (T.toList == [60, 60]) = false := by
    cases hh : (T.toList == [60, 60]) with
    | false => rfl
    | true => exact absurd (by rw [eq_of_beq hh]; decide) h2
  have f4 : (T.toList == [62, 62]) = false := by
    cases hh : (T.toList == [62, 62]) with
    | false => rfl
    | true => exact absurd (by rw [eq_of_beq hh]; decide) h2
  have f5 : (T.toList == [43, 43]) = false := by
    cases hh : (T.toList == [43, 43]) with
    | false => rfl
    | true => exact absurd (by rw [eq_of_beq hh]; decide) h2
  have f6 : (T.toList == [38, 38]) = false := by
    cases hh : (T.toList == [38, 38]) with
    | false => rfl
    | true => exact absurd (by rw [eq_of_beq hh]; decide) h2
  have f7 : (T.toList == [124, 124]) = false := by
    cases hh : (T.toList == [124, 124]) with
    | false => rfl
    | true => exact absurd (by rw [eq_of_beq hh]; decide) h2
  clear h2
  by_cases hm : c ∈ ones
  · rw [if_pos hm] at hR
    have HR := hide hR
    clear hR
    simp only [ones, List.mem_cons, List.not_mem_nil, or_false] at hm
    rcases hm with rfl | rfl | rfl | rfl | rfl | rfl | rfl | rfl | rfl | rfl | rfl | rfl | rfl | rfl | rfl | rfl | rfl | rfl | rfl
    all_goals
      go_enter Tryz.func122, Tryz.ntmps122
      go_wp2
      go_ret
      exact ⟨by rw [HR.out]; rfl, Below.refl _ _⟩
  · rw [if_neg hm] at hR
    have HR := hide hR
    clear hR
    simp only [ones, List.mem_cons, List.not_mem_nil, or_false, not_or] at hm
    obtain ⟨g0, g1, g2, g3, g4, g5, g6, g7, g8, g9, g10, g11, g12, g13, g14, g15, g16, g17, g18⟩ := hm
    have hc : ∀ n : UInt8, ¬ c = n → (((c.toNat : Nat) : Int) == ((n.toNat : Nat) : Int)) = false := fun n h => by
      cases hh : (((c.toNat : Nat) : Int) == ((n.toNat : Nat) : Int)) with
      | false => rfl
      | true => exact absurd (UInt8.toNat_inj.1 (Int.ofNat.inj (eq_of_beq hh))) h
    have e0 : (((c.toNat : Nat) : Int) == 123) = false := hc 123 g0
    have e1 : (((c.toNat : Nat) : Int) == 125) = false := hc 125 g1
    have e2 : (((c.toNat : Nat) : Int) == 40) = false := hc 40 g2
    have e3 : (((c.toNat : Nat) : Int) == 41) = false := hc 41 g3
    have e4 : (((c.toNat : Nat) : Int) == 91) = false := hc 91 g4
    have e5 : (((c.toNat : Nat) : Int) == 93) = false := hc 93 g5
    have e6 : (((c.toNat : Nat) : Int) == 59) = false := hc 59 g6
    have e7 : (((c.toNat : Nat) : Int) == 58) = false := hc 58 g7
    have e8 : (((c.toNat : Nat) : Int) == 44) = false := hc 44 g8
    have e9 : (((c.toNat : Nat) : Int) == 46) = false := hc 46 g9
    have e10 : (((c.toNat : Nat) : Int) == 61) = false := hc 61 g10
    have e11 : (((c.toNat : Nat) : Int) == 60) = false := hc 60 g11
    have e12 : (((c.toNat : Nat) : Int) == 43) = false := hc 43 g12
    have e13 : (((c.toNat : Nat) : Int) == 45) = false := hc 45 g13
    have e14 : (((c.toNat : Nat) : Int) == 42) = false := hc 42 g14
    have e15 : (((c.toNat : Nat) : Int) == 38) = false := hc 38 g15
    have e16 : (((c.toNat : Nat) : Int) == 124) = false := hc 124 g16
    have e17 : (((c.toNat : Nat) : Int) == 94) = false := hc 94 g17
    have e18 : (((c.toNat : Nat) : Int) == 126) = false := hc 126 g18
    clear hc g0 g1 g2 g3 g4 g5 g6 g7 g8 g9 g10 g11 g12 g13 g14 g15 g16 g17 g18
    go_enter Tryz.func122, Tryz.ntmps122
    go_wp2
    go_ret
    exact ⟨by rw [HR.out]; rfl, Below.refl _ _⟩
theorem get_txt {s : List UInt8} {k : Nat} {c : UInt8} {r : List UInt8} (h : s.drop k = c :: r) (hk : k < (txt s).size) : (txt s)[k] = c := by
  have h0 : (s.drop k)[0]? = some c := by rw [h]; rfl
  rw [List.getElem?_drop, Nat.add_zero] at h0
  have h1 : (txt s).data[k]? = some c := by simp [txt, h0]
  rw [ByteArray.getElem_eq_getElem_data]
  exact (Array.getElem?_eq_some_iff.1 h1).2
theorem signR (s : List UInt8) (k : Nat) (w : World) (hs : s.length ≤ 1000000) (hk : k < s.length) :
    Calls Tryz.prog 122 #[.string (txt s), .int .i64 (k : Int)] w fun e w' => e = .returned (.string (txt (sgn (s.drop k)))) ∧ Below w.heap.size w w' := by
  have hz := txt_size s
  have hkA : k < (txt s).size := by omega
  have hlen : (s.drop k).length = s.length - k := List.length_drop
  cases hcr : s.drop k with
  | nil => rw [hcr] at hlen; simp at hlen; omega
  | cons c r =>
    have hg := get_txt hcr hkA
    have h1c : (txt s).extract k (k + 1) = txt [c] := by rw [txt_cut s k 1, hcr]; rfl
    have hR : ∀ R : List UInt8, (R = if c ∈ ones then [c] else []) → txt R = if c ∈ ones then (txt s).extract k (k + 1) else ⟨#[]⟩ := fun R h => by
      rw [h]
      split
      · exact h1c.symm
      · rfl
    cases r with
    | nil =>
      rw [hcr] at hlen
      simp at hlen
      exact signShort _ _ k c w (by omega) (by omega) hkA hg (hR _ (sgn_one c))
    | cons d r =>
      rw [hcr] at hlen
      simp at hlen
      have hT : (txt s).extract k (k + 2) = txt [c, d] := by rw [txt_cut s k 2, hcr]; rfl
      have hsg := sgn_two c d r
      by_cases h2 : [c, d] ∈ twos
      · rw [if_pos h2] at hsg
        rw [hsg]
        exact signTwo _ _ k w (by omega) (by omega) hT (by rw [txt_toList]; exact h2)
      · rw [if_neg h2] at hsg
        exact signLong _ _ _ k c w (by omega) (by omega) hT (by rw [txt_toList]; exact h2) hkA hg (hR _ hsg)
end Go.Proofs.YtfanhdjebmdniaaGreatDoor
