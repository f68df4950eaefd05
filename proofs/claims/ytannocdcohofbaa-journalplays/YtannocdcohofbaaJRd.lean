/- The document's journal: number, Read. -/
import Derived.Test.YtannocdcohofbaaJR
import Derived.Test.YtannocdcohofbaaJHo
namespace Go.Proofs.Ytannocdcohofbaa
open Go.RowKit

set_option maxRecDepth 100000 in
set_option maxHeartbeats 1000000 in
theorem rnumber_any (p off cap c0 c1 c2 c3 : Nat) (w : World) (h0 : c0 < 256) (h1 : c1 < 256) (h2 : c2 < 256) (h3 : c3 < 256) (q0 : w.cell? ⟨p, off, none⟩ = some (.int .u8 (c0 : Int))) (q1 : w.cell? ⟨p, off + 1, none⟩ = some (.int .u8 (c1 : Int))) (q2 : w.cell? ⟨p, off + 2, none⟩ = some (.int .u8 (c2 : Int))) (q3 : w.cell? ⟨p, off + 3, none⟩ = some (.int .u8 (c3 : Int))) :
    Calls Try.prog 45 #[.slice (some ⟨p, off, none⟩) 4 cap] w fun e w' => e = .returned (.int .u64 ((c0 + 256 * c1 + 65536 * c2 + 16777216 * c3 : Nat) : Int)) ∧ Below w.heap.size w w' := by
  have E1 := or_up c0 c1 8 h0 h1 (by omega)
  obtain ⟨t1, ht1⟩ : ∃ t, t = c0 + c1 * 2 ^ 8 := ⟨_, rfl⟩
  have E2 := or_up t1 c2 16 (by omega) h2 (by omega)
  obtain ⟨t2, ht2⟩ : ∃ t, t = t1 + c2 * 2 ^ 16 := ⟨_, rfl⟩
  have E3 := or_up t2 c3 24 (by omega) h3 (by omega)
  obtain ⟨t3, ht3⟩ : ∃ t, t = t2 + c3 * 2 ^ 24 := ⟨_, rfl⟩
  rw [← ht1] at E1
  rw [← ht2] at E2
  rw [← ht3] at E3
  have e1 : ((2 : Int) ^ 8) = 256 := by decide
  have e2 : ((2 : Int) ^ 16) = 65536 := by decide
  have e3 : ((2 : Int) ^ 24) = 16777216 := by decide
  rw [e1] at E1
  rw [e2] at E2
  rw [e3] at E3
  have HV : Hid (c0 + 256 * c1 + 65536 * c2 + 16777216 * c3 = t3) := by show _ = _; omega
  have w1 : IntKind.u64.wrap ((c1 : Int) * 256) = (c1 : Int) * 256 := by rw [IntKind.wrap_u64]; omega
  have w2 : IntKind.u64.wrap ((c2 : Int) * 65536) = (c2 : Int) * 65536 := by rw [IntKind.wrap_u64]; omega
  have w3 : IntKind.u64.wrap ((c3 : Int) * 16777216) = (c3 : Int) * 16777216 := by rw [IntKind.wrap_u64]; omega
  clear ht1 ht2 ht3 e1 e2 e3
  rw [HV.out]
  go_enter Try.func45, Try.ntmps45
  go_wp2
  go_quiet (fail)
  go_wp2
  go_ret
  exact ⟨rfl, below_drewN (Below.refl _ _) nq⟩
theorem le4_four (a b c d : Nat) (h0 : a < 256) (h1 : b < 256) (h2 : c < 256) (h3 : d < 256) (S : Nat) (hS : S < 4294967296) : le4 S = [a, b, c, d] ↔ S = a + 256 * b + 65536 * c + 16777216 * d := by
  constructor
  · intro h
    have := num4_le4 S [] hS
    rw [h] at this
    simp [num4] at this
    omega
  · rintro rfl
    unfold le4
    congr 1
    · omega
    · congr 1
      · omega
      · congr 1
        · omega
        · congr 1
          omega
set_option maxRecDepth 100000 in
set_option maxHeartbeats 4000000 in
theorem rread_yes (a : Option Addr) (cap : Nat) (xs : List Nat) (w : World) (hx : ∀ y ∈ xs, y < 256) (hl : xs.length ≤ 100000000) (hcap : xs.length ≤ cap) (hr : RdA w a xs) :
    Calls Try.prog 31 #[.slice a xs.length cap] w fun e w' => ∃ v vs, e = .returned (.tuple #[v, .int .i64 ((used (rd xs) : Nat) : Int)]) ∧ Recs w' w.heap.size v vs (rd xs) ∧ Below w.heap.size w w' := by
  have HR := hide hr
  have HX := hide hx
  clear hr hx
  go_enter Try.func31, Try.ntmps31
  go_wp2
  go_loopw [4, 5] (fun u i wr => ∃ (pos : Nat) (rs : List (List Nat)) (v : Value) (vs : List Value), i = .int .i64 pos ∧ v = u ∧ pos ≤ xs.length ∧ pos = used rs ∧ rs ++ rd (xs.drop pos) = rd xs ∧ rs.length ≤ pos ∧ Recs wr w.heap.size v vs rs ∧ Below w.heap.size w wr) (fun _ i _ => xs.length - (intOf i).toNat)
  case atStart => exact ⟨0, [], _, [], rfl, rfl, by omega, rfl, by simp, by simp, Recs.nil _ _, Below.refl _ _⟩
  case round =>
    obtain ⟨pos, rs, v, vs, rfl, rfl, hle, hpu, heq, hrl, hrc, hb⟩ := hrel
    have RC := hide hrc
    have BL := hide hb
    have HPU := hide hpu
    have HEQ := hide heq
    have HRL := hide hrl
    obtain ⟨av, cv, hv⟩ := hrc.own.sl
    clear hrc hb hpu heq hrl
    have HEND : Hid (fstR (xs.drop pos) = [] → rs = rd xs ∧ pos = used (rd xs)) := fun h => by
      have h1 := HEQ.out
      rw [rd_stop _ h, List.append_nil] at h1
      exact ⟨h1, by rw [← h1]; exact HPU.out⟩
    have HOUT : Hid (∀ W, Below wr.heap.size wr W → fstR (xs.drop pos) = [] → ∃ v' vs', Ending.returned (.tuple #[v, .int .i64 (pos : Int)]) = Ending.returned (.tuple #[v', .int .i64 ((used (rd xs) : Nat) : Int)]) ∧ Recs W w.heap.size v' vs' (rd xs) ∧ Below w.heap.size w W) := fun W hb h => by
      obtain ⟨e1, e2⟩ := HEND.out h
      exact ⟨v, vs, by rw [← e2], by rw [← e1]; exact RC.out.below hb, BL.out.trans (hb.mono BL.out.size)⟩
    subst hv
    by_cases h8 : xs.length - pos < 8
    · have hw1 : IntKind.i64.wrap ((xs.length : Int) - (pos : Int)) = (xs.length : Int) - (pos : Int) := by rw [IntKind.wrap_i64]; omega
      have d1 : ((xs.length : Int) - (pos : Int) ≥ 8) = False := eq_false (by omega)
      have d2 : (8 ≤ (xs.length : Int) - (pos : Int)) = False := eq_false (by omega)
      have HO := hide (HOUT.out wr (Below.refl _ _) (fstR_no (fun k => by have := k.1; rw [List.length_drop] at this; omega)))
      go_wp2
      go_ret2
      exact HO.out
    · obtain ⟨p, off, rfl, hp, hcl⟩ := (HR.out.below BL.out).some (by omega)
      obtain ⟨x0, x1, x2, x3, x4, x5, x6, x7, ys, hd⟩ := eight (xs.drop pos) (by rw [List.length_drop]; omega)
      have hyl : ys.length + 8 = xs.length - pos := by have := congrArg List.length hd; rw [List.length_drop] at this; simp at this; omega
      have hg : ∀ j y, (xs.drop pos)[j]? = some y → wr.cell? ⟨p, off + pos + j, none⟩ = some (.int .u8 (y : Nat)) := fun j y hj => by
        rw [List.getElem?_drop] at hj
        obtain ⟨hjl, rfl⟩ := List.getElem?_eq_some_iff.1 hj
        rw [Nat.add_assoc]; exact hcl (pos + j) hjl
      have hby : ∀ y ∈ xs.drop pos, y < 256 := fun y hy => HX.out y (List.mem_of_mem_drop hy)
      have q0 := hg 0 x0 (by rw [hd]; rfl); have q1 := hg 1 x1 (by rw [hd]; rfl); have q2 := hg 2 x2 (by rw [hd]; rfl); have q3 := hg 3 x3 (by rw [hd]; rfl)
      have q4 := hg 4 x4 (by rw [hd]; rfl); have q5 := hg 5 x5 (by rw [hd]; rfl); have q6 := hg 6 x6 (by rw [hd]; rfl); have q7 := hg 7 x7 (by rw [hd]; rfl)
      rw [hd] at hby
      have b0 := hby x0 (by simp); have b1 := hby x1 (by simp); have b2 := hby x2 (by simp); have b3 := hby x3 (by simp)
      have b4 := hby x4 (by simp); have b5 := hby x5 (by simp); have b6 := hby x6 (by simp); have b7 := hby x7 (by simp)
      have HN1 := hide (rnumber_any p (off + pos) (cap - pos) x0 x1 x2 x3 wr b0 b1 b2 b3 q0 q1 q2 q3)
      have HN2 := hide (fun W (hb : Below wr.heap.size wr W) => rnumber_any p (off + (pos + 4)) (cap - (pos + 4)) x4 x5 x6 x7 W b4 b5 b6 b7 ((hb.cell (p := ⟨p, off + (pos + 4), none⟩) hp).trans (by rw [← Nat.add_assoc]; exact q4)) ((hb.cell (p := ⟨p, off + (pos + 4) + 1, none⟩) hp).trans (by rw [show off + (pos + 4) + 1 = off + pos + 5 by omega]; exact q5)) ((hb.cell (p := ⟨p, off + (pos + 4) + 2, none⟩) hp).trans (by rw [show off + (pos + 4) + 2 = off + pos + 6 by omega]; exact q6)) ((hb.cell (p := ⟨p, off + (pos + 4) + 3, none⟩) hp).trans (by rw [show off + (pos + 4) + 3 = off + pos + 7 by omega]; exact q7)))
      have HI := hide (isR_eight x0 x1 x2 x3 x4 x5 x6 x7 ys)
      rw [← hd] at HI
      have HM4 : Hid (num4 (xs.drop pos) = x0 + 256 * x1 + 65536 * x2 + 16777216 * x3) := by show _ = _; rw [hd]; rfl
      have HL4 := hide (fun S hS => le4_four x4 x5 x6 x7 b4 b5 b6 b7 S hS)
      have hnl : x0 + 256 * x1 + 65536 * x2 + 16777216 * x3 < 4294967296 := by omega
      have hdy : (xs.drop pos).drop 8 = ys := by rw [hd]; rfl
      have hyb : ∀ y ∈ ys, y < 256 := fun y hy => hby y (by simp [hy])
      have HRX := hide (HR.out.below BL.out)
      generalize x0 + 256 * x1 + 65536 * x2 + 16777216 * x3 = n at *
      generalize x4 + 256 * x5 + 65536 * x6 + 16777216 * x7 = N2 at *
      clear q0 q1 q2 q3 q4 q5 q6 q7 hg hcl b0 b1 b2 b3 b4 b5 b6 b7 hby hd
      have hw1 : IntKind.i64.wrap ((xs.length : Int) - (pos : Int)) = (xs.length : Int) - (pos : Int) := by rw [IntKind.wrap_i64]; omega
      have d1 : ((xs.length : Int) - (pos : Int) ≥ 8) = True := eq_true (by omega)
      have d2 : (8 ≤ (xs.length : Int) - (pos : Int)) = True := eq_true (by omega)
      have hw2 : IntKind.i64.wrap ((pos : Int) + 4) = ((pos + 4 : Nat) : Int) := by rw [IntKind.wrap_i64]; omega
      have hw3 : IntKind.i64.wrap ((pos : Int) + 8) = ((pos + 8 : Nat) : Int) := by rw [IntKind.wrap_i64]; omega
      obtain ⟨p4, hp4⟩ : ∃ p4, p4 = pos + 4 := ⟨_, rfl⟩
      obtain ⟨p8, hp8⟩ : ∃ p8, p8 = pos + 8 := ⟨_, rfl⟩
      rw [← hp4] at hw2 HN2
      rw [← hp8] at hw3
      have c1 : (pos : Int) ≤ (p4 : Int) := by omega
      have c2 : (p4 : Int) ≤ (cap : Int) := by omega
      have c3 : ¬ cap = pos := by omega
      have c4 : (p4 : Int) ≤ (p8 : Int) := by omega
      have c5 : (p8 : Int) ≤ (cap : Int) := by omega
      have c6 : ¬ cap = p4 := by omega
      have c7 : p4 - pos = 4 := by omega
      have c8 : p8 - p4 = 4 := by omega
      have c9 : p4 ≤ cap := by omega
      have c10 : pos ≤ p4 := by omega
      have HP4 := hide hp4
      have HP8 := hide hp8
      clear hp4 hp8
      go_wp2_with fail
      refine HN1.out.mono ?_
      rintro e w3 ⟨rfl, hb3⟩
      have B3 := hide hb3
      clear hb3
      have hw4 : IntKind.i64.wrap (n : Int) = n := by rw [IntKind.wrap_i64]; omega
      have hw5 : IntKind.i64.wrap ((xs.length : Int) - (pos : Int) - 8) = (ys.length : Int) := by rw [IntKind.wrap_i64]; omega
      by_cases g1 : n < 1
      · have f1 : ((n : Int) < 1) = True := eq_true (by omega)
        have f2 : (n < 1) = True := eq_true g1
        have HO := hide (HOUT.out w3 B3.out (fstR_no (fun k => by have := HI.out.1 k; omega)))
        go_wp2
        go_ret2
        exact HO.out
      have f1 : ((n : Int) < 1) = False := eq_false (by omega)
      have f2 : (n < 1) = False := eq_false g1
      by_cases g2 : 65537 < n
      · have f3 : ((n : Int) > 65537) = True := eq_true (by omega)
        have f4 : (65537 < n) = True := eq_true g2
        have HO := hide (HOUT.out w3 B3.out (fstR_no (fun k => by have := HI.out.1 k; omega)))
        go_wp2
        go_ret2
        exact HO.out
      have f3 : ((n : Int) > 65537) = False := eq_false (by omega)
      have f4 : (65537 < n) = False := eq_false g2
      by_cases g3 : ys.length < n
      · have f5 : ((n : Int) > (ys.length : Int)) = True := eq_true (by omega)
        have f6 : (ys.length < n) = True := eq_true g3
        have HO := hide (HOUT.out w3 B3.out (fstR_no (fun k => by have := HI.out.1 k; omega)))
        go_wp2
        go_ret2
        exact HO.out
      have f5 : ((n : Int) > (ys.length : Int)) = False := eq_false (by omega)
      have f6 : (ys.length < n) = False := eq_false g3
      have hln : (ys.take n).length = n := by rw [List.length_take]; omega
      have hyt : RdA wr (some ⟨p, off + p8, none⟩) (ys.take n) := by
        have := rdA_part HRX.out (pos + 8) n
        rw [← hdy, List.drop_drop, HP8.out]; exact this
      have HYT := hide hyt
      have hyb2 : ∀ y ∈ ys.take n, y < 256 := fun y hy => hyb y (List.mem_of_mem_take hy)
      have hS := sum32 (ys.take n) hyb2
      have HSM := hide (fun W (hb : Below wr.heap.size wr W) => rsumOf_any (some ⟨p, off + p8, none⟩) (cap - p8) (ys.take n) W hyb2 (by omega) (by omega) (hyt.below hb))
      rw [hln] at HSM
      have HLL := hide (HL4.out (sumF 2 (ys.take n)) hS)
      have HF : Hid (le4 (sumF 2 (ys.take n)) = [x4, x5, x6, x7] → isR (xs.drop pos)) := fun h => HI.out.2 ⟨⟨by omega, by omega⟩, by omega, h⟩
      have HF2 : Hid (isR (xs.drop pos) → le4 (sumF 2 (ys.take n)) = [x4, x5, x6, x7]) := fun h => (HI.out.1 h).2.2
      obtain ⟨q8, hq8⟩ : ∃ q8, q8 = pos + 8 + n := ⟨_, rfl⟩
      have hw6 : IntKind.i64.wrap ((p8 : Int) + (n : Int)) = (q8 : Int) := by have := HP8.out; rw [IntKind.wrap_i64]; omega
      have k1 : (p8 : Int) ≤ (q8 : Int) := by have := HP8.out; omega
      have k2 : (q8 : Int) ≤ (cap : Int) := by omega
      have k3 : ¬ cap = p8 := by have := HP8.out; omega
      have k4 : q8 - p8 = n := by have := HP8.out; omega
      have k5 : p8 ≤ q8 := by have := HP8.out; omega
      have k6 : q8 ≤ cap := by omega
      have HQ8 := hide hq8
      have HLN := hide hln
      clear hyt hyb hyb2 hq8 hln
      have HN3 := hide (fun W (hb : Below wr.heap.size wr W) => (HN2.out W hb).mono (fun e w' h => (⟨h.1, hb.trans (h.2.mono hb.size)⟩ : e = .returned (.int .u64 (N2 : Int)) ∧ Below wr.heap.size wr w')))
      have HSN := hide (fun W (hb : Below wr.heap.size wr W) => (HSM.out W hb).mono (fun e w' h => (⟨h.1, hb.trans (h.2.mono hb.size)⟩ : e = .returned (.int .u64 ((sumF 2 (ys.take n) : Nat) : Int)) ∧ Below wr.heap.size wr w')))
      clear HN2 HSM
      by_cases hs : sumF 2 (ys.take n) = N2
      · have HR1 := hide (HF.out (HLL.out.2 hs))
        rw [hs] at HSN
        have hfr : fstR (xs.drop pos) = ys.take n := by rw [fstR_yes HR1.out, HM4.out, hdy]
        have HEQ2 : Hid ((rs ++ [ys.take n]) ++ rd (xs.drop q8) = rd xs) := by
          show _ = _
          have hne : fstR (xs.drop pos) ≠ [] := by rw [hfr]; intro e; have := HLN.out; rw [e] at this; simp at this; omega
          rw [← HEQ.out, rd_step _ hne, hfr, HLN.out, List.drop_drop, HQ8.out, List.append_assoc, Nat.add_assoc]
          rfl
        have HPU2 : Hid (q8 = used (rs ++ [ys.take n])) := by show _ = _; rw [used_append, used_cons, used_nil, HLN.out, ← HPU.out, HQ8.out]; omega
        have hvl : vs.length ≤ 1000000000 := by rw [RC.out.len]; have := HRL.out; omega
        have hzw := BL.out.size
        clear hfr
        clear hs hS HLL
        have BY := hide B3.out.drew
        go_wp2_with fail
        go_region_with (first
          | (go_at_call 46; refine (HSN.out _ (by first | exact BX.out | exact BY.out)).mono ?_; rintro e wS ⟨rfl, hb⟩; have BX := hide hb; have BZ := hide hb; clear hb)
          | (go_at_call 45; refine (HN3.out _ (by first | exact BX.out | exact BY.out)).mono ?_; rintro e wN ⟨rfl, hb⟩; have BY := hide hb; have BZ := hide hb; clear hb))
        all_goals
          have hzz := BZ.out.size
          go_wp2_with (first
            | (at_builtin; refine wpList_app8 rfl _ _ rfl wr.heap.size _ [] rfl (Own8.nil _ _) (some ⟨p, off + p8, none⟩) n (cap - p8) (ys.take n) rfl HLN.out.symm (HYT.out.below BZ.out) (fun e => by cases e) (by rw [HLN.out]; simp; omega) hzz ?_; intro v6 w6 O6 G6 K6; have B6 := hide (below_own BZ.out (Own8.nil _ wr.heap.size) G6 hzz); obtain ⟨a6, c6, hv6, _, _, _⟩ := O6.shape; rw [List.nil_append, HLN.out] at hv6; subst hv6; have O6h := hide O6; have L6 := hide (RC.out.own.below (B6.out.trans (((Below.refl _ w6).alloc (Nat.le_refl _) (.cells #[.slice a6 n c6] 31)).mono B6.out.size))); have z6 := B6.out.size; clear O6 G6 K6)
            | (at_builtin; refine wpList_appR rfl _ _ rfl w.heap.size _ vs rfl L6.out ⟨w6.heap.size, 0, none⟩ _ rfl (one_cell w6 _ _) rfl rfl hvl (by simp only [World.size_alloc]; omega) ?_; intro v7 w7 O7 G7 K7; have R7 := hide (RC.out.snoc hzw O6h.out B6.out ((Below.refl _ w6).alloc (Nat.le_refl _) _) O7 G7 K7); have B7 := hide (Below.grown ((BL.out.trans (B6.out.mono hzw)).alloc (by omega) (.cells #[.slice a6 n c6] 31)) G7 (by simp only [World.size_alloc]; omega) (fun k e => (World.ownsRow.lt L6.out k e).1)); clear O7 G7 K7))
          go_roundw
          case rel => exact ⟨q8, rs ++ [ys.take n], _, _, rfl, rfl, by have := HQ8.out; omega, HPU2.out, HEQ2.out, by rw [List.length_append, List.length_singleton]; have := HRL.out; have := HQ8.out; omega, R7.out, B7.out⟩
          case measure => simp [intOf]; have := HQ8.out; omega
      · have hne : (((sumF 2 (ys.take n) : Nat) : Int) == (N2 : Int)) = false := beq_eq_false_iff_ne.2 (by omega)
        have hne2 : (sumF 2 (ys.take n) = N2) = False := eq_false hs
        have HNR : Hid (fstR (xs.drop pos) = []) := fstR_no (fun k => hs (HLL.out.1 (HF2.out k)))
        clear hs hS HLL
        have BY := hide B3.out.drew
        generalize sumF 2 (ys.take n) = S at *
        go_wp2_with fail
        go_region_with (first
          | (go_at_call 46; refine (HSN.out _ (by first | exact BX.out | exact BY.out)).mono ?_; rintro e wS ⟨rfl, hb⟩; have BX := hide hb; have BZ := hide hb; clear hb)
          | (go_at_call 45; refine (HN3.out _ (by first | exact BX.out | exact BY.out)).mono ?_; rintro e wN ⟨rfl, hb⟩; have BY := hide hb; have BZ := hide hb; clear hb))
        all_goals
          have HO := hide (HOUT.out _ BZ.out HNR.out)
          go_wp2
          go_ret2
          exact HO.out
end Go.Proofs.Ytannocdcohofbaa
