/- Pieces of the proof: JRm, DkTm, StoreZ. -/
import Derived.Test.YtpgkohimcofjnaaGreatDoorM12
import Derived.Test.YtpgkohimcofjnaaGreatDoorM16
import Derived.Test.YtpgkohimcofjnaaGreatDoorM8
import Derived.Test.YtpgkohimcofjnaaGreatDoorM1
import Derived.Laws.IdiomCopy
/- The document's journal: number, Read. -/
namespace Go.Proofs.YtpgkohimcofjnaaGreatDoor
open Go.RowKit

theorem rsumOf_any (a : Option Addr) (cap : Nat) (xs : List Nat) (w : World) (hx : ∀ y ∈ xs, y < 256) (h0 : 1 ≤ xs.length) (hl : xs.length < 140737488355328) (hr : RdA w a xs) :
    Calls Tryz.prog 15 #[.slice a xs.length cap] w fun e w' => e = .returned (.int .u64 ((sumF 2 xs : Nat) : Int)) ∧ Below w.heap.size w w' := by
  have HS := hide (rsum_two a cap xs w hx hl (hr.s h0))
  clear hr
  generalize sumF 2 xs = V at *
  go_enter Tryz.func15, Tryz.ntmps15
  go_wp2_with fail
  refine HS.out.mono ?_
  rintro e w1 ⟨rfl, hb⟩
  have HB := hide hb
  clear hb
  go_wp2
  go_ret
  exact ⟨rfl, HB.out.alloc HB.out.size _⟩

theorem wpList_appR {w : World} {ops : Array Oper} {rest : List Oper} {o : Oper} {a : Act} {Q : Exit → Act → World → Prop} (hgd : o.guard = none) (s x : Operand) (ho : o.op = .call { callee := .builtin .append, args := #[s, x], argTypes := #[24, 24] })
    (B : Nat) (v : Value) (vs : List Value) (hs : a.eval s = v) (hown : OwnL w B v vs) (q : Addr) (u : Value) (hx : a.eval x = .slice (some q) 1 1) (hc : w.cell? q = some u) (hq : q.spot = none) (hu : u.oneCell' = true)
    (hl : vs.length ≤ 1000000000) (hB : B ≤ w.heap.size)
    (h : ∀ v' w', OwnL w' B v' (vs ++ [u]) → w.grownBy w' v.ownBlock → (v'.ownBlock = v.ownBlock ∨ v'.ownBlock = some w.heap.size) → wpList Tryz.prog ops Q rest (a.put o.dst v') w') :
    wpList Tryz.prog ops Q (o :: rest) a w := by
  obtain ⟨i0, hi0, hz0, hz1, hz2⟩ := info_parts Tryz.infoB
  refine wpList_append_own_at w hgd s x 24 ho B 22 i0 (.slice none 0 0) 1 24 Tryz.underlying24 hi0 hz0 hz1 hz2 rfl (by decide) v vs.length vs hs hown q 1 1 [u] hx rfl (fun j y hj => ?_) (fun y hy => by rw [List.mem_singleton.1 hy]; exact hu) (by unfold maxLen; omega) (by omega) hB ?_
  · cases j with
    | zero =>
      have e : q.add 0 = q := by obtain ⟨b, o', sp⟩ := q; cases sp with | none => rw [add8]; rfl | some _ => cases hq
      have : u = y := by simpa using hj
      rw [e, ← this]; exact hc
    | succ j => simp at hj
  · intro v' w' h1 h2 _ h4
    exact h v' w' (by unfold OwnL; rw [List.length_append]; exact h1) h2 h4

set_option maxRecDepth 100000 in
set_option maxHeartbeats 1000000 in
theorem rnumber_any (p off cap c0 c1 c2 c3 : Nat) (w : World) (h0 : c0 < 256) (h1 : c1 < 256) (h2 : c2 < 256) (h3 : c3 < 256) (q0 : w.cell? ⟨p, off, none⟩ = some (.int .u8 (c0 : Int))) (q1 : w.cell? ⟨p, off + 1, none⟩ = some (.int .u8 (c1 : Int))) (q2 : w.cell? ⟨p, off + 2, none⟩ = some (.int .u8 (c2 : Int))) (q3 : w.cell? ⟨p, off + 3, none⟩ = some (.int .u8 (c3 : Int))) :
    Calls Tryz.prog 14 #[.slice (some ⟨p, off, none⟩) 4 cap] w fun e w' => e = .returned (.int .u64 ((c0 + 256 * c1 + 65536 * c2 + 16777216 * c3 : Nat) : Int)) ∧ Below w.heap.size w w' := by
  have E1 := or_up c0 c1 8 h0 h1 (by omega)
  obtain ⟨t1, ht1⟩ : ∃ t, t = c0 + c1 * 2 ^ 8 := ⟨_, rfl⟩
  have E2 := or_up t1 c2 16 (by omega) h2 (by omega)
  obtain ⟨t2, ht2⟩ : ∃ t, t = t1 + c2 * 2 ^ 16 := ⟨_, rfl⟩
  have E3 := or_up t2 c3 24 (by omega) h3 (by omega)
  obtain ⟨t3, ht3⟩ : ∃ t, t = t2 + c3 * 2 ^ 24 := ⟨_, rfl⟩
  rw [← ht1] at E1
  rw [← ht2] at E2
  rw [← ht3] at E3
  have e1 : ((2 : Int) ^ 8) = 256 := by decide
  have e2 : ((2 : Int) ^ 16) = 65536 := by decide
  have e3 : ((2 : Int) ^ 24) = 16777216 := by decide
  rw [e1] at E1
  rw [e2] at E2
  rw [e3] at E3
  have HV : Hid (c0 + 256 * c1 + 65536 * c2 + 16777216 * c3 = t3) := by show _ = _; omega
  have w1 : IntKind.u64.wrap ((c1 : Int) * 256) = (c1 : Int) * 256 := by rw [IntKind.wrap_u64]; omega
  have w2 : IntKind.u64.wrap ((c2 : Int) * 65536) = (c2 : Int) * 65536 := by rw [IntKind.wrap_u64]; omega
  have w3 : IntKind.u64.wrap ((c3 : Int) * 16777216) = (c3 : Int) * 16777216 := by rw [IntKind.wrap_u64]; omega
  clear ht1 ht2 ht3 e1 e2 e3
  rw [HV.out]
  go_enter Tryz.func14, Tryz.ntmps14
  go_wp2
  go_quiet (fail)
  go_wp2
  go_ret
  exact ⟨rfl, below_drewN (Below.refl _ _) nq⟩
theorem le4_four (a b c d : Nat) (h0 : a < 256) (h1 : b < 256) (h2 : c < 256) (h3 : d < 256) (S : Nat) (hS : S < 4294967296) : le4 S = [a, b, c, d] ↔ S = a + 256 * b + 65536 * c + 16777216 * d := by
  constructor
  · intro h
    have := num4_le4 S [] hS
    rw [h] at this
    simp [num4] at this
    omega
  · rintro rfl
    unfold le4
    congr 1
    · omega
    · congr 1
      · omega
      · congr 1
        · omega
        · congr 1
          omega
set_option maxRecDepth 100000 in
set_option maxHeartbeats 4000000 in
theorem rread_yes (a : Option Addr) (cap : Nat) (xs : List Nat) (w : World) (hx : ∀ y ∈ xs, y < 256) (hl : xs.length ≤ 100000000) (hcap : xs.length ≤ cap) (hr : RdA w a xs) :
    Calls Tryz.prog 6 #[.slice a xs.length cap] w fun e w' => ∃ v vs, e = .returned (.tuple #[v, .int .i64 ((used (rd xs) : Nat) : Int)]) ∧ Recs w' w.heap.size v vs (rd xs) ∧ Below w.heap.size w w' := by
  have HR := hide hr
  have HX := hide hx
  clear hr hx
  go_enter Tryz.func6, Tryz.ntmps6
  go_wp2
  go_loopw [4, 5] (fun u i wr => ∃ (pos : Nat) (rs : List (List Nat)) (v : Value) (vs : List Value), i = .int .i64 pos ∧ v = u ∧ pos ≤ xs.length ∧ pos = used rs ∧ rs ++ rd (xs.drop pos) = rd xs ∧ rs.length ≤ pos ∧ Recs wr w.heap.size v vs rs ∧ Below w.heap.size w wr) (fun _ i _ => xs.length - (intOf i).toNat)
  case atStart => exact ⟨0, [], _, [], rfl, rfl, by omega, rfl, by simp, by simp, Recs.nil _ _, Below.refl _ _⟩
  case round =>
    obtain ⟨pos, rs, v, vs, rfl, rfl, hle, hpu, heq, hrl, hrc, hb⟩ := hrel
    have RC := hide hrc
    have BL := hide hb
    have HPU := hide hpu
    have HEQ := hide heq
    have HRL := hide hrl
    obtain ⟨av, cv, hv⟩ := hrc.own.sl
    clear hrc hb hpu heq hrl
    have HEND : Hid (fstR (xs.drop pos) = [] → rs = rd xs ∧ pos = used (rd xs)) := fun h => by
      have h1 := HEQ.out
      rw [rd_stop _ h, List.append_nil] at h1
      exact ⟨h1, by rw [← h1]; exact HPU.out⟩
    have HOUT : Hid (∀ W, Below wr.heap.size wr W → fstR (xs.drop pos) = [] → ∃ v' vs', Ending.returned (.tuple #[v, .int .i64 (pos : Int)]) = Ending.returned (.tuple #[v', .int .i64 ((used (rd xs) : Nat) : Int)]) ∧ Recs W w.heap.size v' vs' (rd xs) ∧ Below w.heap.size w W) := fun W hb h => by
      obtain ⟨e1, e2⟩ := HEND.out h
      exact ⟨v, vs, by rw [← e2], by rw [← e1]; exact RC.out.below hb, BL.out.trans (hb.mono BL.out.size)⟩
    subst hv
    by_cases h8 : xs.length - pos < 8
    · have hw1 : IntKind.i64.wrap ((xs.length : Int) - (pos : Int)) = (xs.length : Int) - (pos : Int) := by rw [IntKind.wrap_i64]; omega
      have d1 : ((xs.length : Int) - (pos : Int) ≥ 8) = False := eq_false (by omega)
      have d2 : (8 ≤ (xs.length : Int) - (pos : Int)) = False := eq_false (by omega)
      have HO := hide (HOUT.out wr (Below.refl _ _) (fstR_no (fun k => by have := k.1; rw [List.length_drop] at this; omega)))
      go_wp2
      go_ret2
      exact HO.out
    · obtain ⟨p, off, rfl, hp, hcl⟩ := (HR.out.below BL.out).some (by omega)
      obtain ⟨x0, x1, x2, x3, x4, x5, x6, x7, ys, hd⟩ := eight (xs.drop pos) (by rw [List.length_drop]; omega)
      have hyl : ys.length + 8 = xs.length - pos := by have := congrArg List.length hd; rw [List.length_drop] at this; simp at this; omega
      have hg : ∀ j y, (xs.drop pos)[j]? = some y → wr.cell? ⟨p, off + pos + j, none⟩ = some (.int .u8 (y : Nat)) := fun j y hj => by
        rw [List.getElem?_drop] at hj
        obtain ⟨hjl, rfl⟩ := List.getElem?_eq_some_iff.1 hj
        rw [Nat.add_assoc]; exact hcl (pos + j) hjl
      have hby : ∀ y ∈ xs.drop pos, y < 256 := fun y hy => HX.out y (List.mem_of_mem_drop hy)
      have q0 := hg 0 x0 (by rw [hd]; rfl); have q1 := hg 1 x1 (by rw [hd]; rfl); have q2 := hg 2 x2 (by rw [hd]; rfl); have q3 := hg 3 x3 (by rw [hd]; rfl)
      have q4 := hg 4 x4 (by rw [hd]; rfl); have q5 := hg 5 x5 (by rw [hd]; rfl); have q6 := hg 6 x6 (by rw [hd]; rfl); have q7 := hg 7 x7 (by rw [hd]; rfl)
      rw [hd] at hby
      have b0 := hby x0 (by simp); have b1 := hby x1 (by simp); have b2 := hby x2 (by simp); have b3 := hby x3 (by simp)
      have b4 := hby x4 (by simp); have b5 := hby x5 (by simp); have b6 := hby x6 (by simp); have b7 := hby x7 (by simp)
      have HN1 := hide (rnumber_any p (off + pos) (cap - pos) x0 x1 x2 x3 wr b0 b1 b2 b3 q0 q1 q2 q3)
      have HN2 := hide (fun W (hb : Below wr.heap.size wr W) => rnumber_any p (off + (pos + 4)) (cap - (pos + 4)) x4 x5 x6 x7 W b4 b5 b6 b7 ((hb.cell (p := ⟨p, off + (pos + 4), none⟩) hp).trans (by rw [← Nat.add_assoc]; exact q4)) ((hb.cell (p := ⟨p, off + (pos + 4) + 1, none⟩) hp).trans (by rw [show off + (pos + 4) + 1 = off + pos + 5 by omega]; exact q5)) ((hb.cell (p := ⟨p, off + (pos + 4) + 2, none⟩) hp).trans (by rw [show off + (pos + 4) + 2 = off + pos + 6 by omega]; exact q6)) ((hb.cell (p := ⟨p, off + (pos + 4) + 3, none⟩) hp).trans (by rw [show off + (pos + 4) + 3 = off + pos + 7 by omega]; exact q7)))
      have HI := hide (isR_eight x0 x1 x2 x3 x4 x5 x6 x7 ys)
      rw [← hd] at HI
      have HM4 : Hid (num4 (xs.drop pos) = x0 + 256 * x1 + 65536 * x2 + 16777216 * x3) := by show _ = _; rw [hd]; rfl
      have HL4 := hide (fun S hS => le4_four x4 x5 x6 x7 b4 b5 b6 b7 S hS)
      have hnl : x0 + 256 * x1 + 65536 * x2 + 16777216 * x3 < 4294967296 := by omega
      have hdy : (xs.drop pos).drop 8 = ys := by rw [hd]; rfl
      have hyb : ∀ y ∈ ys, y < 256 := fun y hy => hby y (by simp [hy])
      have HRX := hide (HR.out.below BL.out)
      generalize x0 + 256 * x1 + 65536 * x2 + 16777216 * x3 = n at *
      generalize x4 + 256 * x5 + 65536 * x6 + 16777216 * x7 = N2 at *
      clear q0 q1 q2 q3 q4 q5 q6 q7 hg hcl b0 b1 b2 b3 b4 b5 b6 b7 hby hd
      have hw1 : IntKind.i64.wrap ((xs.length : Int) - (pos : Int)) = (xs.length : Int) - (pos : Int) := by rw [IntKind.wrap_i64]; omega
      have d1 : ((xs.length : Int) - (pos : Int) ≥ 8) = True := eq_true (by omega)
      have d2 : (8 ≤ (xs.length : Int) - (pos : Int)) = True := eq_true (by omega)
      have hw2 : IntKind.i64.wrap ((pos : Int) + 4) = ((pos + 4 : Nat) : Int) := by rw [IntKind.wrap_i64]; omega
      have hw3 : IntKind.i64.wrap ((pos : Int) + 8) = ((pos + 8 : Nat) : Int) := by rw [IntKind.wrap_i64]; omega
      obtain ⟨p4, hp4⟩ : ∃ p4, p4 = pos + 4 := ⟨_, rfl⟩
      obtain ⟨p8, hp8⟩ : ∃ p8, p8 = pos + 8 := ⟨_, rfl⟩
      rw [← hp4] at hw2 HN2
      rw [← hp8] at hw3
      have c1 : (pos : Int) ≤ (p4 : Int) := by omega
      have c2 : (p4 : Int) ≤ (cap : Int) := by omega
      have c3 : ¬ cap = pos := by omega
      have c4 : (p4 : Int) ≤ (p8 : Int) := by omega
      have c5 : (p8 : Int) ≤ (cap : Int) := by omega
      have c6 : ¬ cap = p4 := by omega
      have c7 : p4 - pos = 4 := by omega
      have c8 : p8 - p4 = 4 := by omega
      have c9 : p4 ≤ cap := by omega
      have c10 : pos ≤ p4 := by omega
      have HP4 := hide hp4
      have HP8 := hide hp8
      clear hp4 hp8
      go_wp2_with fail
      refine HN1.out.mono ?_
      rintro e w3 ⟨rfl, hb3⟩
      have B3 := hide hb3
      clear hb3
      have hw4 : IntKind.i64.wrap (n : Int) = n := by rw [IntKind.wrap_i64]; omega
      have hw5 : IntKind.i64.wrap ((xs.length : Int) - (pos : Int) - 8) = (ys.length : Int) := by rw [IntKind.wrap_i64]; omega
      by_cases g1 : n < 1
      · have f1 : ((n : Int) < 1) = True := eq_true (by omega)
        have f2 : (n < 1) = True := eq_true g1
        have HO := hide (HOUT.out w3 B3.out (fstR_no (fun k => by have := HI.out.1 k; omega)))
        go_wp2
        go_ret2
        exact HO.out
      have f1 : ((n : Int) < 1) = False := eq_false (by omega)
      have f2 : (n < 1) = False := eq_false g1
      by_cases g2 : 65537 < n
      · have f3 : ((n : Int) > 65537) = True := eq_true (by omega)
        have f4 : (65537 < n) = True := eq_true g2
        have HO := hide (HOUT.out w3 B3.out (fstR_no (fun k => by have := HI.out.1 k; omega)))
        go_wp2
        go_ret2
        exact HO.out
      have f3 : ((n : Int) > 65537) = False := eq_false (by omega)
      have f4 : (65537 < n) = False := eq_false g2
      by_cases g3 : ys.length < n
      · have f5 : ((n : Int) > (ys.length : Int)) = True := eq_true (by omega)
        have f6 : (ys.length < n) = True := eq_true g3
        have HO := hide (HOUT.out w3 B3.out (fstR_no (fun k => by have := HI.out.1 k; omega)))
        go_wp2
        go_ret2
        exact HO.out
      have f5 : ((n : Int) > (ys.length : Int)) = False := eq_false (by omega)
      have f6 : (ys.length < n) = False := eq_false g3
      have hln : (ys.take n).length = n := by rw [List.length_take]; omega
      have hyt : RdA wr (some ⟨p, off + p8, none⟩) (ys.take n) := by
        have := rdA_part HRX.out (pos + 8) n
        rw [← hdy, List.drop_drop, HP8.out]; exact this
      have HYT := hide hyt
      have hyb2 : ∀ y ∈ ys.take n, y < 256 := fun y hy => hyb y (List.mem_of_mem_take hy)
      have hS := sum32 (ys.take n) hyb2
      have HSM := hide (fun W (hb : Below wr.heap.size wr W) => rsumOf_any (some ⟨p, off + p8, none⟩) (cap - p8) (ys.take n) W hyb2 (by omega) (by omega) (hyt.below hb))
      rw [hln] at HSM
      have HLL := hide (HL4.out (sumF 2 (ys.take n)) hS)
      have HF : Hid (le4 (sumF 2 (ys.take n)) = [x4, x5, x6, x7] → isR (xs.drop pos)) := fun h => HI.out.2 ⟨⟨by omega, by omega⟩, by omega, h⟩
      have HF2 : Hid (isR (xs.drop pos) → le4 (sumF 2 (ys.take n)) = [x4, x5, x6, x7]) := fun h => (HI.out.1 h).2.2
      obtain ⟨q8, hq8⟩ : ∃ q8, q8 = pos + 8 + n := ⟨_, rfl⟩
      have hw6 : IntKind.i64.wrap ((p8 : Int) + (n : Int)) = (q8 : Int) := by have := HP8.out; rw [IntKind.wrap_i64]; omega
      have k1 : (p8 : Int) ≤ (q8 : Int) := by have := HP8.out; omega
      have k2 : (q8 : Int) ≤ (cap : Int) := by omega
      have k3 : ¬ cap = p8 := by have := HP8.out; omega
      have k4 : q8 - p8 = n := by have := HP8.out; omega
      have k5 : p8 ≤ q8 := by have := HP8.out; omega
      have k6 : q8 ≤ cap := by omega
      have HQ8 := hide hq8
      have HLN := hide hln
      clear hyt hyb hyb2 hq8 hln
      have HN3 := hide (fun W (hb : Below wr.heap.size wr W) => (HN2.out W hb).mono (fun e w' h => (⟨h.1, hb.trans (h.2.mono hb.size)⟩ : e = .returned (.int .u64 (N2 : Int)) ∧ Below wr.heap.size wr w')))
      have HSN := hide (fun W (hb : Below wr.heap.size wr W) => (HSM.out W hb).mono (fun e w' h => (⟨h.1, hb.trans (h.2.mono hb.size)⟩ : e = .returned (.int .u64 ((sumF 2 (ys.take n) : Nat) : Int)) ∧ Below wr.heap.size wr w')))
      clear HN2 HSM
      by_cases hs : sumF 2 (ys.take n) = N2
      · have HR1 := hide (HF.out (HLL.out.2 hs))
        rw [hs] at HSN
        have hfr : fstR (xs.drop pos) = ys.take n := by rw [fstR_yes HR1.out, HM4.out, hdy]
        have HEQ2 : Hid ((rs ++ [ys.take n]) ++ rd (xs.drop q8) = rd xs) := by
          show _ = _
          have hne : fstR (xs.drop pos) ≠ [] := by rw [hfr]; intro e; have := HLN.out; rw [e] at this; simp at this; omega
          rw [← HEQ.out, rd_step _ hne, hfr, HLN.out, List.drop_drop, HQ8.out, List.append_assoc, Nat.add_assoc]
          rfl
        have HPU2 : Hid (q8 = used (rs ++ [ys.take n])) := by show _ = _; rw [used_append, used_cons, used_nil, HLN.out, ← HPU.out, HQ8.out]; omega
        have hvl : vs.length ≤ 1000000000 := by rw [RC.out.len]; have := HRL.out; omega
        have hzw := BL.out.size
        clear hfr
        clear hs hS HLL
        have BY := hide B3.out.drew
        go_wp2_with fail
        go_region_with (first
          | (go_at_call 15; refine (HSN.out _ (by first | exact BX.out | exact BY.out)).mono ?_; rintro e wS ⟨rfl, hb⟩; have BX := hide hb; have BZ := hide hb; clear hb)
          | (go_at_call 14; refine (HN3.out _ (by first | exact BX.out | exact BY.out)).mono ?_; rintro e wN ⟨rfl, hb⟩; have BY := hide hb; have BZ := hide hb; clear hb))
        all_goals
          have hzz := BZ.out.size
          go_wp2_with (first
            | (at_builtin; refine wpList_app8 rfl _ _ rfl wr.heap.size _ [] rfl (Own8.nil _ _) (some ⟨p, off + p8, none⟩) n (cap - p8) (ys.take n) rfl HLN.out.symm (HYT.out.below BZ.out) (fun e => by cases e) (by rw [HLN.out]; simp; omega) hzz ?_; intro v6 w6 O6 G6 K6; have B6 := hide (below_own BZ.out (Own8.nil _ wr.heap.size) G6 hzz); obtain ⟨a6, c6, hv6, _, _, _⟩ := O6.shape; rw [List.nil_append, HLN.out] at hv6; subst hv6; have O6h := hide O6; have L6 := hide (RC.out.own.below (B6.out.trans (((Below.refl _ w6).alloc (Nat.le_refl _) (.cells #[.slice a6 n c6] 22)).mono B6.out.size))); have z6 := B6.out.size; clear O6 G6 K6)
            | (at_builtin; refine wpList_appR rfl _ _ rfl w.heap.size _ vs rfl L6.out ⟨w6.heap.size, 0, none⟩ _ rfl (one_cell w6 _ _) rfl rfl hvl (by simp only [World.size_alloc]; omega) ?_; intro v7 w7 O7 G7 K7; have R7 := hide (RC.out.snoc hzw O6h.out B6.out ((Below.refl _ w6).alloc (Nat.le_refl _) _) O7 G7 K7); have B7 := hide (Below.grown ((BL.out.trans (B6.out.mono hzw)).alloc (by omega) (.cells #[.slice a6 n c6] 22)) G7 (by simp only [World.size_alloc]; omega) (fun k e => (World.ownsRow.lt L6.out k e).1)); clear O7 G7 K7))
          go_roundw
          case rel => exact ⟨q8, rs ++ [ys.take n], _, _, rfl, rfl, by have := HQ8.out; omega, HPU2.out, HEQ2.out, by rw [List.length_append, List.length_singleton]; have := HRL.out; have := HQ8.out; omega, R7.out, B7.out⟩
          case measure => simp [intOf]; have := HQ8.out; omega
      · have hne : (((sumF 2 (ys.take n) : Nat) : Int) == (N2 : Int)) = false := beq_eq_false_iff_ne.2 (by omega)
        have hne2 : (sumF 2 (ys.take n) = N2) = False := eq_false hs
        have HNR : Hid (fstR (xs.drop pos) = []) := fstR_no (fun k => hs (HLL.out.1 (HF2.out k)))
        clear hs hS HLL
        have BY := hide B3.out.drew
        generalize sumF 2 (ys.take n) = S at *
        go_wp2_with fail
        go_region_with (first
          | (go_at_call 15; refine (HSN.out _ (by first | exact BX.out | exact BY.out)).mono ?_; rintro e wS ⟨rfl, hb⟩; have BX := hide hb; have BZ := hide hb; clear hb)
          | (go_at_call 14; refine (HN3.out _ (by first | exact BX.out | exact BY.out)).mono ?_; rintro e wN ⟨rfl, hb⟩; have BY := hide hb; have BZ := hide hb; clear hb))
        all_goals
          have HO := hide (HOUT.out _ BZ.out HNR.out)
          go_wp2
          go_ret2
          exact HO.out
end Go.Proofs.YtpgkohimcofjnaaGreatDoor
/- pointsmanlaw01's TwinBytes, LeftBytes: a list of bytes with one more behind it. -/
namespace Go.Proofs.YtpgkohimcofjnaaGreatDoor
open Go.RowKit

theorem below_none {B : Nat} {w a b : World} (h : Below B w a) (g : a.grownBy b none) (hB : B ≤ a.heap.size) : Below B w b := h.grown g hB (fun k e => by cases e)
theorem one_rdI (W : World) (x : Nat) (p : Int) (hp : p = x) (t : TypeId) : RdA (W.alloc (.cells #[.int .u8 p] t)) (some ⟨W.heap.size, 0, none⟩) [x] := by
  subst hp; exact one_rd W x t
set_option maxRecDepth 100000 in
set_option maxHeartbeats 4000000 in
theorem twin_any (a : Option Addr) (cap : Nat) (xs : List Nat) (w : World) (hl : xs.length ≤ 100000000) (hr : RdA w a xs) :
    Calls Tryz.prog 4 #[.slice a xs.length cap] w fun e w' => ∃ g c, e = .returned (.slice (some ⟨g, 0, none⟩) xs.length c) ∧ Own8 w' w.heap.size (.slice (some ⟨g, 0, none⟩) (xs.length + 1) c) (xs ++ [77]) ∧ xs.length + 1 ≤ c ∧ w.heap.size ≤ g ∧ Below w.heap.size w w' := by
  have HR := hide hr
  obtain ⟨i0, hi0, hz0, hz1, hz2⟩ := info_parts Tryz.info8
  clear hr
  go_enter Tryz.func4, Tryz.ntmps4
  go_wp2_with (first
    | (refine wpList_make_own _ rfl _ _ 22 rfl w.heap.size 5 i0 (.int .u8 0) 1 Tryz.underlying22 hi0 hz0 hz1 .i64 .i64 _ (xs.length + 1) rfl rfl (by simp) (by rw [hz2]; omega) (by unfold maxLen; omega) (Nat.le_refl _) ?_; intro w1 O1 G1; have OO1 : Hid (Own8 w1 w.heap.size (.slice (some ⟨w.heap.size, 0, none⟩) 0 (xs.length + 1)) []) := O1; have B1 := hide (below_none (Below.refl _ w) G1 (Nat.le_refl _)); clear O1 G1))
  go_loopw [3, 4] (fun t i wr => ∃ (k : Nat) (v : Value), k ≤ xs.length ∧ i = .int .i64 k ∧ t = v ∧ Own8 wr w.heap.size v (xs.take k) ∧ Below w.heap.size w wr) (fun _ i _ => xs.length - (intOf i).toNat)
  case atStart => exact ⟨0, _, by omega, rfl, rfl, OO1.out, B1.out⟩
  case round =>
    obtain ⟨k, v, hk, rfl, rfl, ho, hb⟩ := hrel
    have OO := hide ho; have BB := hide hb
    clear ho hb OO1 B1
    by_cases hlt : k < xs.length
    · have R1 := HR.out.below BB.out
      obtain ⟨p, off, rfl, _, hc⟩ := R1.some (by omega)
      have hck := hc k hlt
      have hkI : (k : Int) < (xs.length : Int) := by omega
      have HT := hide (List.take_succ_eq_append_getElem hlt)
      clear hc R1 HR
      generalize xs[k] = x at *
      go_wp2_with (first
        | (at_builtin; refine wpList_app8 rfl _ _ rfl w.heap.size _ (xs.take k) rfl (OO.out.below ((Below.refl _ wr).alloc (Nat.le_refl _) _)) (some ⟨wr.heap.size, 0, none⟩) 1 1 [x] rfl rfl (one_rd wr x _) (by simp) (by simp; omega) (by have := BB.out.size; simp; omega) ?_; intro v7 w7 O7 G7 K7; have OO7 := hide O7; have B7 := hide (below_own (BB.out.alloc BB.out.size _) (OO.out.below ((Below.refl _ wr).alloc (Nat.le_refl _) _)) G7 (by have := BB.out.size; simp; omega)); clear O7 G7 K7))
      rw [← HT.out] at OO7
      go_roundw
      case rel => exact ⟨k + 1, v7, by omega, by go_num, rfl, OO7.out, B7.out⟩
      case measure => simp [intOf]; omega
    · obtain rfl : k = xs.length := by omega
      rw [List.take_length] at OO
      have HLN : Hid ((xs ++ [77]).length = xs.length + 1) := List.length_append
      go_wp2_with (at_builtin; (refine wpList_app8 rfl _ _ rfl w.heap.size _ xs rfl (OO.out.below ((Below.refl _ wr).alloc (Nat.le_refl _) _)) (some ⟨wr.heap.size, 0, none⟩) 1 1 [77] rfl rfl (one_rdI wr 77 _ (by simp) _) (by simp) (by simp; omega) (by have := BB.out.size; simp; omega) ?_; intro v7 w7 O7 G7 K7; have B7 := hide (below_own (BB.out.alloc BB.out.size _) (OO.out.below ((Below.refl _ wr).alloc (Nat.le_refl _) _)) G7 (by have := BB.out.size; simp; omega)); obtain ⟨g, c, rfl, hgc, hgB, hgl, hcm⟩ := Own8.some8 O7 (by simp); have OO7 := hide O7; rw [HLN.out] at OO7 hgc ⊢; clear O7 G7 K7))
      go_ret
      exact ⟨g, c, rfl, OO7.out, hgc, hgB, B7.out⟩
set_option maxRecDepth 100000 in
set_option maxHeartbeats 4000000 in
theorem left_yes (g c : Nat) (a : Option Addr) (cap : Nat) (xs : List Nat) (w : World) (B : Nat) (hl : xs.length ≤ 100000000) (hr : RdA w a xs) (hc : xs.length + 1 ≤ c) (hcm : c ≤ 9223372036854775807) (ho : Own8 w B (.slice (some ⟨g, 0, none⟩) (xs.length + 1) c) (xs ++ [77])) :
    Calls Tryz.prog 8 #[.slice (some ⟨g, 0, none⟩) xs.length c, .slice a xs.length cap] w fun e w' => e = .returned (.bool true) ∧ Below w.heap.size w w' := by
  have HC := hide (own_cell8 ho)
  have HR := hide hr
  have hcI : decide ((c : Int) ≤ (xs.length : Int)) = false := by simp; omega
  have hlast : w.cell? ⟨g, xs.length, none⟩ = some (.int .u8 77) := by
    have := own_cell8 ho xs.length (by simp)
    simpa using this
  have hlI : (xs.length : Int) + 1 ≤ (c : Int) := by omega
  clear hr ho
  go_enter Tryz.func8, Tryz.ntmps8
  go_wp2
  go_loopw [5] (fun i wr => ∃ k : Nat, k ≤ xs.length ∧ i = .int .i64 k ∧ ∃ n, wr = w.drewN n) (fun i _ => xs.length - (intOf i).toNat)
  case atStart => exact ⟨0, by omega, rfl, 0, rfl⟩
  case round =>
    obtain ⟨k, hk, rfl, m, rfl⟩ := hrel
    by_cases hlt : k < xs.length
    · obtain ⟨p, off, rfl, _, hcl⟩ := HR.out.some (by omega)
      have h1 := HC.out k (by simp; omega)
      have h2 := hcl k hlt
      rw [List.getElem_append_left hlt] at h1
      have hkI : (k : Int) < (xs.length : Int) := by omega
      clear hcl HR HC
      generalize xs[k] = x at *
      go_wp2
      go_region
      all_goals
        go_wp2
        exact ⟨⟨k + 1, by omega, by go_num, m + 1, rfl⟩, by simp [intOf]; omega⟩
    · obtain rfl : k = xs.length := by omega
      clear HR HC
      go_wp2
      go_ret
      exact ⟨rfl, below_drewN (Below.refl _ _) _⟩
end Go.Proofs.YtpgkohimcofjnaaGreatDoor
/- A store of what lies there already. No program stands in it. -/
namespace Go.Proofs.YtpgkohimcofjnaaGreatDoor
open Go.RowKit

theorem setCell_same {w : World} {b o : Nat} {v : Value} {cs : Array Value} {e : TypeId} {fr : Nat × Nat} (hb : w.heap[b]? = some (.cells cs e fr)) (hv : cs[o]? = some v) : w.setCell ⟨b, o, none⟩ v = w := by
  have h : (w.setCell ⟨b, o, none⟩ v).heap = w.heap := by
    apply Array.ext_getElem?
    intro i
    by_cases hi : i = b
    · subst hi
      rw [heap_setCell_same hb, hb]
      congr 2
      apply Array.ext_getElem?
      intro j
      rw [Array.getElem?_setIfInBounds]
      split
      · rename_i e; subst e
        obtain ⟨hlt, hv'⟩ := Array.getElem?_eq_some_iff.1 hv
        rw [if_pos hlt, hv]
      · rfl
    · exact Below.heap_setCell _ _ _ _ hi
  unfold World.setCell at h ⊢
  simp only at h
  rw [h]
theorem setCells_same {w : World} {b : Nat} {cs : Array Value} {e : TypeId} {fr : Nat × Nat} (hb : w.heap[b]? = some (.cells cs e fr)) : ∀ (vs : List Value) (o : Nat), (∀ j v, vs[j]? = some v → cs[o + j]? = some v) → w.setCells b o vs = w := by
  intro vs
  induction vs with
  | nil => intro o _; rfl
  | cons v r ih =>
    intro o h
    show (w.setCell ⟨b, o, none⟩ v).setCells b (o + 1) r = w
    rw [setCell_same hb (by have := h 0 v rfl; simpa using this)]
    exact ih (o + 1) (fun j u hu => by have := h (j + 1) u (by simpa using hu); rw [← this]; congr 1; omega)
theorem wpList_storeZ {P : Program} {w : World} {ops : Array Oper} {rest : List Oper} {o : Oper} {a : Act} {Q : Exit → Act → World → Prop} (hg : o.guard = none) (t : TypeId) (x y : Operand) (ho : o.op = .store t x y) (b : Nat) (cs : Array Value) (e : TypeId)
    (hx : a.eval x = .pointer (some ⟨b, 0, none⟩)) (hy : a.eval y = .agg cs) (hs : ∀ w, (sizeOf t).run P w = .ok cs.size w) (hb : w.heap[b]? = some (.cells cs e (0, 0))) (one : ∀ v ∈ cs.toList, v.oneCell' = true)
    (hK : wpList P ops Q rest (a.put o.dst undef) w) : wpList P ops Q (o :: rest) a w := by
  refine wpList_plain hg fun K hK' => ?_
  have h1 : (storeCells ⟨b, 0, none⟩ cs.toList 0).run P w = .ok () w := by
    rw [run_storeCells_cells (P := P) b 0 cs.toList 0 w (fun j hj => ?_) (fun j _ => ?_) one]
    · rw [setCells_same hb cs.toList (0 + 0) (fun j v hv => by rw [Nat.zero_add, ← Array.getElem?_toList]; exact hv)]
    · unfold World.cell?
      simp only [hb, Nat.zero_add]
      simp at hj
      simp [hj]
    · unfold World.frozen?; simp only [hb]; simp
  have h2 : (Instr.storeAt t (.pointer (some ⟨b, 0, none⟩)) (.agg cs)).run P w = .ok () w := by
    simp [Instr.storeAt, Instr.sureAddr, storeVar, hs, Value.cells, h1, Result.andThen]
  have h3 : (execOp a.eval o).run P w = .ok .skip w := by
    simp [execOp, ho, hx, hy, h2, Result.andThen]
  unfold Oper.wp
  rw [h3, Oper.upon_skip]
  exact hK' _ _ hK
end Go.Proofs.YtpgkohimcofjnaaGreatDoor
