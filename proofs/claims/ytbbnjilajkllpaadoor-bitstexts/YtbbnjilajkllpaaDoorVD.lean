/- The document's Parse, whatever it is given. -/
import Derived.Test.YtbbnjilajkllpaaDoorVC
import Derived.Deep.CutBlock
import Derived.Deep.DeepCutAuto
namespace Go.Proofs.YtbbnjilajkllpaaDoor
open Go.RowKit

theorem lead_step {k : Nat} {l : List UInt8} (hk : k < l.length) (h3 : k < 3) (h : lead 3 l = l.take k ++ lead (3 - k) (l.drop k)) :
    (isDc (l[k]) = true → lead 3 l = l.take (k + 1) ++ lead (3 - (k + 1)) (l.drop (k + 1))) ∧ (isDc (l[k]) = false → lead 3 l = l.take k) := by
  have e : l.drop k = l[k] :: l.drop (k + 1) := List.drop_eq_getElem_cons hk
  rw [e, show 3 - k = (3 - (k + 1)) + 1 by omega] at h
  constructor
  · intro hc
    simp only [lead, hc, if_true] at h
    rw [h, List.take_succ_eq_append_getElem hk, List.append_assoc]; rfl
  · intro hc
    simp only [lead, hc] at h
    rw [h]; simp
theorem hfold_app : ∀ (x y : List UInt8) (a : Nat), hfold a (x ++ y) = (hfold a x).bind fun n => hfold n y
  | [], y, a => rfl
  | c :: x, y, a => by
    have e1 : ∀ z : List UInt8, hfold a (c :: z) = match dgt c.toNat with | some d => hfold ((a * 16 + d) % top) z | none => none := fun z => by rw [hfold]; cases dgt c.toNat <;> rfl
    rw [List.cons_append, e1, e1]
    cases dgt c.toNat with
    | none => rfl
    | some d => exact hfold_app x y _
theorem rT_len (l : List UInt8) : (rT l).length = min 33 (l.length - ((lead 3 l).length + 1)) := by unfold rT; rw [List.length_take, List.length_drop]
theorem rT_take {l : List UInt8} {k j : Nat} (hk : k = (lead 3 l).length) (hj : j < 33) (h : k + 1 + j < l.length) : (rT l).take (j + 1) = (rT l).take j ++ [l[k + 1 + j]] := by
  subst hk
  have hl : j < (rT l).length := by rw [rT_len]; omega
  rw [List.take_succ_eq_append_getElem hl]
  congr 2
  simp [rT]
theorem shl4 (v d : Nat) (hv : v < top) (hd : d < 16) : bits .or .u64 (IntKind.u64.wrap (wHi v * 16)) (wLo v / 1152921504606846976) = wHi ((v * 16 + d) % top) ∧ bits .or .u64 (IntKind.u64.wrap (wLo v * 16)) (d : Int) = wLo ((v * 16 + d) % top) := by
  have hv' : v < 340282366920938463463374607431768211456 := by unfold top at hv; exact hv
  have e1 : IntKind.u64.wrap (wHi v * 16) = ((2 ^ 4 * (v / 18446744073709551616 % 1152921504606846976) : Nat) : Int) := by rw [IntKind.wrap_u64]; unfold wHi; omega
  have e2 : wLo v / 1152921504606846976 = ((v % 18446744073709551616 / 1152921504606846976 : Nat) : Int) := by unfold wLo; omega
  have e3 : IntKind.u64.wrap (wLo v * 16) = ((2 ^ 4 * (v % 18446744073709551616 % 1152921504606846976) : Nat) : Int) := by rw [IntKind.wrap_u64]; unfold wLo; omega
  rw [e1, e2, e3, bits_or_u64_nat _ _ (by omega) (by omega), bits_or_u64_nat _ _ (by omega) (by omega), ← Nat.two_pow_add_eq_or_of_lt (by omega), ← Nat.two_pow_add_eq_or_of_lt (by omega)]
  unfold wHi wLo top
  omega
theorem rT_none {l : List UInt8} {j : Nat} (h : hfold 0 ((rT l).take j) = none) : rprs l = none := by
  have : hfold 0 (rT l) = none := by
    rw [← List.take_append_drop j (rT l), hfold_app, h]; rfl
  unfold rprs
  rw [this]
set_option maxHeartbeats 2000000 in
set_option maxRecDepth 100000 in
theorem refParse_in (l : List UInt8) (hl : l.length ≤ 281474976710656) (w : World) :
    Calls Tryd.prog 7 #[.string (txt l)] w fun e w' => e = .returned (prsV (rprs l)) ∧ Below w.heap.size w w' := by
  obtain ⟨T, hT⟩ : ∃ T, T = txt l := ⟨_, rfl⟩
  have hsz : T.size = l.length := by rw [hT, txt_size]
  have HG : Hid (∀ (k : Nat) (h : k < T.size) (h' : k < l.length), T[k] = l[k]) := fun k h h' => by subst hT; simp [txt, ByteArray.getElem_eq_getElem_data]
  rw [← hT]
  have HT := hide hT
  have HZ := hide hsz
  have hTl : T.size ≤ 281474976710656 := by omega
  clear hl hsz hT
  go_enter Tryd.func7, Tryd.ntmps7
  go_upto_block 0 with fail
  go_cut [4, 5] (fun vw vi wx => wx = w.alloc (.cells #[.int .i64 0, .int .u64 0, .int .u64 0] 24) ∧ ∃ (k : Nat), vw = .int .i64 ((rW l : Nat) : Int) ∧ vi = .int .i64 (k : Int) ∧ k ≤ 3 ∧ k ≤ T.size ∧ k = (lead 3 l).length)
  case first =>
    go_wp2_with fail
    go_loop [4, 5] (fun vw vi => ∃ (k W : Nat), vw = .int .i64 (W : Int) ∧ vi = .int .i64 (k : Int) ∧ k ≤ 3 ∧ k ≤ T.size ∧ W < 1000 ∧ Hid (W = dcv 0 (l.take k) ∧ W < 10 ^ k ∧ lead 3 l = l.take k ++ lead (3 - k) (l.drop k))) (fun _ vi => (3 - intOf vi).toNat)
    case atStart => exact ⟨0, 0, rfl, rfl, by omega, by omega, by omega, rfl, by simp, by simp⟩
    case round =>
      obtain ⟨k, W, rfl, rfl, hk, hkT, hW, HK⟩ := hrel
      have HEnd : Hid (lead 3 l = l.take k → ((W : Nat) : Int) = ((rW l : Nat) : Int) ∧ k = (lead 3 l).length) := fun h => by
        unfold rW
        rw [h, ← HK.out.1]
        refine ⟨rfl, ?_⟩
        rw [List.length_take, ← HZ.out]; omega
      by_cases hlt : k < T.size
      · have hltl : k < l.length := by rw [← HZ.out]; exact hlt
        have hcg := HG.out k hlt hltl
        by_cases h3 : k < 3
        · have hst := lead_step hltl h3 HK.out.2.2
          by_cases hd : isDc (l[k]) = true
          · have hdb : 48 ≤ (T[k]).toNat ∧ (T[k]).toNat ≤ 57 := by rw [hcg]; simpa [isDc] using hd
            obtain ⟨d0, d1⟩ := hdb
            have HN : Hid (10 * W + ((T[k]).toNat - 48) = dcv 0 (l.take (k + 1)) ∧ 10 * W + ((T[k]).toNat - 48) < 10 ^ (k + 1) ∧ lead 3 l = l.take (k + 1) ++ lead (3 - (k + 1)) (l.drop (k + 1))) := by
              refine ⟨?_, ?_, hst.1 hd⟩
              · rw [List.take_succ_eq_append_getElem hltl, dcv_snoc, ← HK.out.1, hcg]
              · have := HK.out.2.1; rw [Nat.pow_succ]; omega
            have hW' : 10 * W + ((T[k]).toNat - 48) < 1000 := by
              have h1 := HN.out.2.1
              have h2 : 10 ^ (k + 1) ≤ 10 ^ 3 := Nat.pow_le_pow_right (by decide) (by omega)
              omega
            have d0I : (48 : Int) ≤ (((T[k]).toNat : Nat) : Int) := by omega
            have d1I : (((T[k]).toNat : Nat) : Int) ≤ 57 := by omega
            clear hst hd hcg HK HEnd
            go_wp2
            exact ⟨⟨k + 1, 10 * W + ((T[k]).toNat - 48), by congr 1; omega, by congr 1, by omega, by omega, hW', HN⟩, by simp [intOf]; omega⟩
          · have HE := hide (HEnd.out (hst.2 (by simpa using hd)))
            have hdb : ¬ (48 ≤ (T[k]).toNat ∧ (T[k]).toNat ≤ 57) := by rw [hcg]; simpa [isDc] using hd
            clear hst hd hcg HK HEnd
            rcases Nat.lt_or_ge (T[k]).toNat 48 with hA | hA
            · have n0 : (((T[k]).toNat : Nat) : Int) < 48 := by omega
              go_wp2
              go_meet
              exact ⟨rfl, k, by rw [← HE.out.1], rfl, by omega, by omega, HE.out.2⟩
            · have n0 : (48 : Int) ≤ (((T[k]).toNat : Nat) : Int) := by omega
              have n1 : (57 : Int) < (((T[k]).toNat : Nat) : Int) := by omega
              go_wp2
              go_meet
              exact ⟨rfl, k, by rw [← HE.out.1], rfl, by omega, by omega, HE.out.2⟩
        · have hk3 : k = 3 := by omega
          have HE := hide (HEnd.out (by have := HK.out.2.2; rw [hk3] at this ⊢; simpa [lead] using this))
          clear HK HEnd hcg
          subst hk3
          go_wp2
          go_meet
          exact ⟨rfl, 3, by rw [← HE.out.1], rfl, by omega, by omega, HE.out.2⟩
      · have hkk : k = T.size := by omega
        have HE := hide (HEnd.out (by
          have := HK.out.2.2
          rw [List.drop_of_length_le (by rw [← HZ.out]; omega)] at this
          rw [this]
          cases 3 - k <;> simp [lead]))
        clear HK HEnd
        have hnl : ¬ ((k : Int) < (T.size : Int)) := by omega
        clear hkk
        go_wp2
        go_meet
        exact ⟨rfl, k, by rw [← HE.out.1], rfl, by omega, by omega, HE.out.2⟩
  case rest =>
    obtain ⟨rfl, k, rfl, rfl, hk3, hkT, hkl⟩ := hcut
    have HKL := hide hkl
    clear hkl
    go_upto_block 2 with fail
    go_cut [7] (fun vi wx => ∃ v : Nat, v < top ∧ hfold 0 (rT l) = some v ∧ wx = (w.alloc (.cells #[.int .i64 0, .int .u64 0, .int .u64 0] 24)).alloc (.cells #[.int .i64 ((rW l : Nat) : Int), .int .u64 (wHi v), .int .u64 (wLo v)] 24))
    case first =>
      go_wp2_with fail
      go_loopw [7] (fun vi wr => ∃ (j v : Nat) (h lo : Int), vi = .int .i64 ((k : Int) + 1 + (j : Int)) ∧ j ≤ 33 ∧ wr = (w.alloc (.cells #[.int .i64 0, .int .u64 0, .int .u64 0] 24)).alloc (.cells #[.int .i64 ((rW l : Nat) : Int), .int .u64 h, .int .u64 lo] 24) ∧ Hid (v < top ∧ h = wHi v ∧ lo = wLo v ∧ (j ≤ (rT l).length) ∧ hfold 0 ((rT l).take j) = some v)) (fun vi _ => (100 - intOf vi).toNat)
      case atStart => exact ⟨0, 0, 0, 0, by congr 1, by omega, rfl, by unfold top; omega, by decide, by decide, by omega, rfl⟩
      case round =>
        obtain ⟨j, v, h, lo, rfl, hj, rfl, HR⟩ := hrel
        by_cases hlt : k + 1 + j < T.size
        · by_cases h33 : j < 33
          · have hltl : k + 1 + j < l.length := by rw [← HZ.out]; exact hlt
            have HC : Hid (T[k + 1 + j] = l[k + 1 + j]) := HG.out _ hlt hltl
            have HD := hide (refDigit (T[k + 1 + j]).toNat (T[k + 1 + j]).toNat_lt)
            have HTk := hide (rT_take HKL.out h33 hltl)
            have HStep : Hid (hfold 0 ((rT l).take (j + 1)) = match dgt (T[k + 1 + j]).toNat with | some d => some ((v * 16 + d) % top) | none => none) := by
              unfold Hid
              rw [HTk.out, hfold_snoc, HR.out.2.2.2.2, HC.out]; rfl
            have e1 : (k : Int) + 1 + (j : Int) < (T.size : Int) := by omega
            have e2 : (k : Int) + 1 + (j : Int) < (k : Int) + 34 := by omega
            have e3 : (0 : Int) ≤ (k : Int) + 1 + (j : Int) := by omega
            cases hdg : dgt (T[k + 1 + j]).toNat with
            | none =>
              have hdi : dgtI (T[k + 1 + j]).toNat = -1 := by unfold dgtI; rw [hdg]
              rw [hdi] at HD
              rw [hdg] at HStep
              have HE := hide (rT_none HStep.out)
              clear HStep HTk HC hdg hdi
              go_wp2_with fail
              refine (HD.out _).mono ?_
              rintro e w1 ⟨rfl, rfl⟩
              go_wp2
              rw [HE.out]
              refine bodyPost_ret (v := .tuple #[.agg #[.int .i64 0, .int .u64 0, .int .u64 0], .int .i64 8]) (by simp [results, Tryd.results7, go_sem]) rfl ⟨rfl, ?_⟩
              exact ((Below.refl _ _).alloc (Nat.le_refl _) _).alloc (by simp) _
            | some d =>
              have hd16 : d < 16 := by
                unfold dgt at hdg
                split at hdg
                · cases hdg; omega
                · split at hdg
                  · cases hdg; omega
                  · cases hdg
              have hdi : dgtI (T[k + 1 + j]).toNat = (d : Int) := by unfold dgtI; rw [hdg]
              rw [hdi] at HD
              rw [hdg] at HStep
              clear HTk HC hdg hdi
              go_wp2_with fail
              refine (HD.out _).mono ?_
              rintro e w1 ⟨rfl, rfl⟩
              go_wp2
              refine ⟨⟨j + 1, (v * 16 + d) % top, _, _, by congr 1, by omega, rfl, ?_⟩, by simp [intOf]; omega⟩
              obtain ⟨r1, r2, r3, r4, r5⟩ := HR.out
              subst r2 r3
              refine ⟨Nat.mod_lt _ (by decide), (shl4 v d r1 hd16).1, (shl4 v d r1 hd16).2, ?_, HStep.out⟩
              rw [rT_len, ← HKL.out]; omega
          · have HX : Hid (∃ v : Nat, v < top ∧ hfold 0 (rT l) = some v ∧ h = wHi v ∧ lo = wLo v) := by
              obtain ⟨r1, r2, r3, r4, r5⟩ := HR.out
              rw [List.take_of_length_le (by rw [rT_len]; omega)] at r5
              exact ⟨v, r1, r5, r2, r3⟩
            have e1 : (k : Int) + 1 + (j : Int) < (T.size : Int) := by omega
            have e2 : ¬ ((k : Int) + 1 + (j : Int) < (k : Int) + 34) := by omega
            clear HR
            go_wp2
            go_meet
            obtain ⟨v', a1, a2, a3, a4⟩ := HX.out
            exact ⟨v', a1, a2, by rw [a3, a4]⟩
        · have HX : Hid (∃ v : Nat, v < top ∧ hfold 0 (rT l) = some v ∧ h = wHi v ∧ lo = wLo v) := by
            obtain ⟨r1, r2, r3, r4, r5⟩ := HR.out
            rw [List.take_of_length_le (by rw [rT_len, ← HKL.out, ← HZ.out]; omega)] at r5
            exact ⟨v, r1, r5, r2, r3⟩
          have e1 : ¬ ((k : Int) + 1 + (j : Int) < (T.size : Int)) := by omega
          clear HR
          go_wp2
          go_meet
          obtain ⟨v', a1, a2, a3, a4⟩ := HX.out
          exact ⟨v', a1, a2, by rw [a3, a4]⟩
    case rest =>
      obtain ⟨v, hv, hh, rfl⟩ := hcut
      have HP : Hid (rprs l = if okN (rW l) v = true ∧ tx (rW l) v = l then some (rW l, v) else none) := by unfold Hid rprs; rw [hh]
      clear hh
      clear HG HKL
      by_cases ho : okN (rW l) v = true
      · have HX : Hid (∀ W, _) := fun W => refText_yes (rW l) v W hv ho
        by_cases he : tx (rW l) v = l
        · rw [he, ← HT.out] at HX
          rw [if_pos ⟨ho, he⟩] at HP
          have HPV : Hid (prsV (rprs l) = .tuple #[.agg #[.int .i64 ((rW l : Nat) : Int), .int .u64 (wHi v), .int .u64 (wLo v)], .int .i64 0]) := by unfold Hid; rw [HP.out]; rfl
          clear HP ho he hv
          have HP := HPV
          clear HPV
          generalize ((rW l : Nat) : Int) = n at *
          generalize wHi v = h1 at *
          generalize wLo v = l1 at *
          go_wp2_with fail
          refine (HX.out _).mono ?_
          rintro e w2 ⟨rfl, hb⟩
          have hz1 : ((w.alloc (.cells #[.int .i64 0, .int .u64 0, .int .u64 0] 24)).alloc (.cells #[.int .i64 n, .int .u64 h1, .int .u64 l1] 24)).heap[w.heap.size]? = some (.cells #[.int .i64 0, .int .u64 0, .int .u64 0] 24 (0, 0)) := (hao _ _ _ (by simp)).trans (heap_alloc_new w _)
          have hz2 : ((w.alloc (.cells #[.int .i64 0, .int .u64 0, .int .u64 0] 24)).alloc (.cells #[.int .i64 n, .int .u64 h1, .int .u64 l1] 24)).heap[w.heap.size + 1]? = some (.cells #[.int .i64 n, .int .u64 h1, .int .u64 l1] 24 (0, 0)) := by have := heap_alloc_new (w.alloc (.cells #[.int .i64 0, .int .u64 0, .int .u64 0] 24)) (.cells #[.int .i64 n, .int .u64 h1, .int .u64 l1] 24); simpa using this
          have h2a := cells_of3 ((hb.block w.heap.size (by simp; omega)).trans hz1)
          have h2b := cells_of3 ((hb.block (w.heap.size + 1) (by simp)).trans hz2)
          have HSh : Hid (Sh3 w.heap.size w2) := ⟨_, (hb.block w.heap.size (by simp; omega)).trans hz1, rfl⟩
          have HW2 : Hid (Below w.heap.size w w2) := (((Below.refl _ _).alloc (Nat.le_refl _) _).alloc (by simp) _).trans (hb.mono (by simp; omega))
          obtain ⟨a0, a1, a2, f0, f1, f2⟩ := h2a
          obtain ⟨b0, b1, b2, g0, g1, g2⟩ := h2b
          clear hb hz1 hz2
          have hne : ¬ (w.heap.size + 1 = w.heap.size) := by omega
          have hne' : ¬ (w.heap.size = w.heap.size + 1) := by omega
          go_wp2
          have hg := cells_of3 (HSh.out.got (.int .i64 n) (.int .u64 h1) (.int .u64 l1))
          have HB := hide (((HW2.out.setCell (p := ⟨w.heap.size, 0, none⟩) (Nat.le_refl _) (.int .i64 n)).setCell (p := ⟨w.heap.size, 1, none⟩) (Nat.le_refl _) (.int .u64 h1)).setCell (p := ⟨w.heap.size, 2, none⟩) (Nat.le_refl _) (.int .u64 l1))
          obtain ⟨q0, q1, q2, _, _, _⟩ := hg
          refine bodyPost_ret (v := .tuple #[.agg #[.int .i64 n, .int .u64 h1, .int .u64 l1], .int .i64 0]) (by simp [results, Tryd.results7, go_sem, q0, q1, q2]) rfl ⟨by rw [HP.out], HB.out⟩
        · rw [if_neg (fun h => he h.2)] at HP
          have hne9 : ((txt (tx (rW l) v)).toList == T.toList) = false := by rw [HT.out]; exact txt_ne he
          have HPV : Hid (prsV (rprs l) = .tuple #[.agg #[.int .i64 0, .int .u64 0, .int .u64 0], .int .i64 8]) := by unfold Hid; rw [HP.out]; rfl
          generalize txt (tx (rW l) v) = R at *
          clear HP ho he hv
          have HP := HPV
          clear HPV
          generalize ((rW l : Nat) : Int) = n at *
          generalize wHi v = h1 at *
          generalize wLo v = l1 at *
          go_wp2_with fail
          refine (HX.out _).mono ?_
          rintro e w2 ⟨rfl, hb⟩
          have hz1 : ((w.alloc (.cells #[.int .i64 0, .int .u64 0, .int .u64 0] 24)).alloc (.cells #[.int .i64 n, .int .u64 h1, .int .u64 l1] 24)).heap[w.heap.size]? = some (.cells #[.int .i64 0, .int .u64 0, .int .u64 0] 24 (0, 0)) := (hao _ _ _ (by simp)).trans (heap_alloc_new w _)
          have hz2 : ((w.alloc (.cells #[.int .i64 0, .int .u64 0, .int .u64 0] 24)).alloc (.cells #[.int .i64 n, .int .u64 h1, .int .u64 l1] 24)).heap[w.heap.size + 1]? = some (.cells #[.int .i64 n, .int .u64 h1, .int .u64 l1] 24 (0, 0)) := by have := heap_alloc_new (w.alloc (.cells #[.int .i64 0, .int .u64 0, .int .u64 0] 24)) (.cells #[.int .i64 n, .int .u64 h1, .int .u64 l1] 24); simpa using this
          have h2a := cells_of3 ((hb.block w.heap.size (by simp; omega)).trans hz1)
          have h2b := cells_of3 ((hb.block (w.heap.size + 1) (by simp)).trans hz2)
          have HSh : Hid (Sh3 w.heap.size w2) := ⟨_, (hb.block w.heap.size (by simp; omega)).trans hz1, rfl⟩
          have HW2 : Hid (Below w.heap.size w w2) := (((Below.refl _ _).alloc (Nat.le_refl _) _).alloc (by simp) _).trans (hb.mono (by simp; omega))
          obtain ⟨a0, a1, a2, f0, f1, f2⟩ := h2a
          obtain ⟨b0, b1, b2, g0, g1, g2⟩ := h2b
          clear hb hz1 hz2
          have hne : ¬ (w.heap.size + 1 = w.heap.size) := by omega
          have hne' : ¬ (w.heap.size = w.heap.size + 1) := by omega
          go_wp2
          have hg := cells_of3 (HSh.out.got (.int .i64 0) (.int .u64 0) (.int .u64 0))
          have HB := hide (((HW2.out.setCell (p := ⟨w.heap.size, 0, none⟩) (Nat.le_refl _) (.int .i64 0)).setCell (p := ⟨w.heap.size, 1, none⟩) (Nat.le_refl _) (.int .u64 0)).setCell (p := ⟨w.heap.size, 2, none⟩) (Nat.le_refl _) (.int .u64 0))
          obtain ⟨q0, q1, q2, _, _, _⟩ := hg
          refine bodyPost_ret (v := .tuple #[.agg #[.int .i64 0, .int .u64 0, .int .u64 0], .int .i64 8]) (by simp [results, Tryd.results7, go_sem, q0, q1, q2]) rfl ⟨by rw [HP.out], HB.out⟩
      · have HX : Hid (∀ W, _) := fun W => refText_no (rW l) v W hv (by simpa using ho)
        rw [if_neg (fun h => ho h.1)] at HP
        have HPV : Hid (prsV (rprs l) = .tuple #[.agg #[.int .i64 0, .int .u64 0, .int .u64 0], .int .i64 8]) := by unfold Hid; rw [HP.out]; rfl
        clear HP ho hv
        have HP := HPV
        clear HPV
        generalize ((rW l : Nat) : Int) = n at *
        generalize wHi v = h1 at *
        generalize wLo v = l1 at *
        go_wp2_with fail
        refine (HX.out _).mono ?_
        rintro e w2 ⟨rfl, hb⟩
        have hz1 : ((w.alloc (.cells #[.int .i64 0, .int .u64 0, .int .u64 0] 24)).alloc (.cells #[.int .i64 n, .int .u64 h1, .int .u64 l1] 24)).heap[w.heap.size]? = some (.cells #[.int .i64 0, .int .u64 0, .int .u64 0] 24 (0, 0)) := (hao _ _ _ (by simp)).trans (heap_alloc_new w _)
        have hz2 : ((w.alloc (.cells #[.int .i64 0, .int .u64 0, .int .u64 0] 24)).alloc (.cells #[.int .i64 n, .int .u64 h1, .int .u64 l1] 24)).heap[w.heap.size + 1]? = some (.cells #[.int .i64 n, .int .u64 h1, .int .u64 l1] 24 (0, 0)) := by have := heap_alloc_new (w.alloc (.cells #[.int .i64 0, .int .u64 0, .int .u64 0] 24)) (.cells #[.int .i64 n, .int .u64 h1, .int .u64 l1] 24); simpa using this
        have h2a := cells_of3 ((hb.block w.heap.size (by simp; omega)).trans hz1)
        have h2b := cells_of3 ((hb.block (w.heap.size + 1) (by simp)).trans hz2)
        have HSh : Hid (Sh3 w.heap.size w2) := ⟨_, (hb.block w.heap.size (by simp; omega)).trans hz1, rfl⟩
        have HW2 : Hid (Below w.heap.size w w2) := (((Below.refl _ _).alloc (Nat.le_refl _) _).alloc (by simp) _).trans (hb.mono (by simp; omega))
        obtain ⟨a0, a1, a2, f0, f1, f2⟩ := h2a
        obtain ⟨b0, b1, b2, g0, g1, g2⟩ := h2b
        clear hb hz1 hz2
        have hne : ¬ (w.heap.size + 1 = w.heap.size) := by omega
        have hne' : ¬ (w.heap.size = w.heap.size + 1) := by omega
        go_wp2
        have hg := cells_of3 (HSh.out.got (.int .i64 0) (.int .u64 0) (.int .u64 0))
        have HB := hide (((HW2.out.setCell (p := ⟨w.heap.size, 0, none⟩) (Nat.le_refl _) (.int .i64 0)).setCell (p := ⟨w.heap.size, 1, none⟩) (Nat.le_refl _) (.int .u64 0)).setCell (p := ⟨w.heap.size, 2, none⟩) (Nat.le_refl _) (.int .u64 0))
        obtain ⟨q0, q1, q2, _, _, _⟩ := hg
        refine bodyPost_ret (v := .tuple #[.agg #[.int .i64 0, .int .u64 0, .int .u64 0], .int .i64 8]) (by simp [results, Tryd.results7, go_sem, q0, q1, q2]) rfl ⟨by rw [HP.out], HB.out⟩
theorem refParse_any (l : List UInt8) (hl : l.length ≤ 281474976710656) (w : World) :
    Calls Tryd.prog 7 #[.string (txt l)] w fun e w' => e = .returned (prsV (prs l)) ∧ Below w.heap.size w w' := by
  rw [← rprs_eq]
  exact refParse_in l hl w
end Go.Proofs.YtbbnjilajkllpaaDoor
