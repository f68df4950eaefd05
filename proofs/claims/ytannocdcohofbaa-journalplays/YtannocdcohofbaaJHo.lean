/- pointsmanlaw05.JournalHolds, walked. -/
import Derived.Test.YtannocdcohofbaaJK
namespace Go.Proofs.Ytannocdcohofbaa
open Go.RowKit

theorem wpList_appR {w : World} {ops : Array Oper} {rest : List Oper} {o : Oper} {a : Act} {Q : Exit → Act → World → Prop} (hgd : o.guard = none) (s x : Operand) (ho : o.op = .call { callee := .builtin .append, args := #[s, x], argTypes := #[38, 38] })
    (B : Nat) (v : Value) (vs : List Value) (hs : a.eval s = v) (hown : OwnL w B v vs) (q : Addr) (u : Value) (hx : a.eval x = .slice (some q) 1 1) (hc : w.cell? q = some u) (hq : q.spot = none) (hu : u.oneCell' = true)
    (hl : vs.length ≤ 1000000000) (hB : B ≤ w.heap.size)
    (h : ∀ v' w', OwnL w' B v' (vs ++ [u]) → w.grownBy w' v.ownBlock → (v'.ownBlock = v.ownBlock ∨ v'.ownBlock = some w.heap.size) → wpList Try.prog ops Q rest (a.put o.dst v') w') :
    wpList Try.prog ops Q (o :: rest) a w := by
  obtain ⟨i0, hi0, hz0, hz1, hz2⟩ := info_parts Try.infoB
  refine wpList_append_own_at w hgd s x 38 ho B 31 i0 (.slice none 0 0) 1 24 Try.underlying38 hi0 hz0 hz1 hz2 rfl (by decide) v vs.length vs hs hown q 1 1 [u] hx rfl (fun j y hj => ?_) (fun y hy => by rw [List.mem_singleton.1 hy]; exact hu) (by unfold maxLen; omega) (by omega) hB ?_
  · cases j with
    | zero =>
      have e : q.add 0 = q := by obtain ⟨b, o', sp⟩ := q; cases sp with | none => rw [add8]; rfl | some _ => cases hq
      have : u = y := by simpa using hj
      rw [e, ← this]; exact hc
    | succ j => simp at hj
  · intro v' w' h1 h2 _ h4
    exact h v' w' (by unfold OwnL; rw [List.length_append]; exact h1) h2 h4
def vof (it : It) : Value := .slice it.a it.xs.length it.cap
/- The disk and the records that are awaited. -/
structure HoS (w W : World) (B g : Nat) (v vw : Value) (ws : List It) (D : List Nat) (off : Bool) (f : Value) (st : Option Nat) : Prop where
  bl : Below w.heap.size w W
  wB : w.heap.size ≤ B
  dk : Dk W B g v 16777216 D off f st
  ow : OwnL W B vw (ws.map vof)
  n1 : vw.ownBlock ≠ some g
  n2 : ∀ b, vw.ownBlock = some b → v.ownBlock ≠ some b
  ok : ∀ it ∈ ws, ItOk w it
theorem sameRow {W W' : World} {B n : Nat} {e : TypeId} {v : Value} {xs : List Value} (h : W.ownsRow B e 1 v n xs) (hs : ∀ b, v.ownBlock = some b → W'.heap[b]? = W.heap[b]?) : W'.ownsRow B e 1 v n xs := by
  refine ⟨h.1, ?_⟩
  rcases h.2 with h0 | ⟨gr, cap, cur, rfl, hg, hcur, rest⟩
  · exact .inl h0
  · exact .inr ⟨gr, cap, cur, rfl, hg, (hs gr rfl).trans hcur, rest⟩
theorem HoS.move {w W W' : World} {B g : Nat} {v v' vw f f' : Value} {ws : List It} {D D' : List Nat} {off off' : Bool} {st st' : Option Nat} (h : HoS w W B g v vw ws D off f st) (hm : Mv g v v' W W') (hd : Dk W' B g v' 16777216 D' off' f' st') : HoS w W' B g v' vw ws D' off' f' st' := by
  have hlt := World.ownsRow.lt h.ow
  refine ⟨h.bl.trans ((hm.fr.below h.dk.E h.dk.BW).mono h.wB), h.wB, hd, ?_, h.n1, fun b hb e => ?_, h.ok⟩
  · refine sameRow h.ow (fun b hb => hm.fr.block b (hlt b hb).2 (fun k => ?_))
    rcases k with k | k
    · exact h.n1 (by rw [hb, k])
    · exact h.n2 b hb k
  · rcases hm.bl b e with e | e
    · exact h.n2 b hb e
    · have := (hlt b hb).2; omega
theorem HoS.next {w W W' : World} {B g : Nat} {v vw f : Value} {ws : List It} {D : List Nat} {off : Bool} {st : Option Nat} (h : HoS w W B g v vw ws D off f st) (hb : Below W.heap.size W W') : HoS w W' B g v vw ws D off f st := h.move (Mv.ofBelow hb) (h.dk.next hb)
theorem HoS.want {w W W' : World} {B g : Nat} {v vw vw' : Value} {ws : List It} {D : List Nat} {off : Bool} {it : It} (h : HoS w W B g v vw ws D off .nilFunc none) (hi : ItOk w it) (O : OwnL W' B vw' (ws.map vof ++ [vof it])) (G : W.grownBy W' vw.ownBlock) (K : vw'.ownBlock = vw.ownBlock ∨ vw'.ownBlock = some W.heap.size) : HoS w W' B g v vw' (ws ++ [it]) D off .nilFunc none := by
  have hlt := World.ownsRow.lt h.ow
  have hfr : Fr (fun b => vw.ownBlock = some b) W W' := Fr.grown G (fun r e => e)
  refine ⟨h.bl.trans (hfr.below (B := w.heap.size) (fun b hb => Nat.le_trans h.wB (hlt b hb).1) (Nat.le_trans h.wB h.dk.BW)), h.wB, h.dk.other hfr h.n1 (fun b hb e => h.n2 b e hb) (fun n p e => by cases e), ?_, ?_, ?_, ?_⟩
  · rw [List.map_append]; exact O
  · rcases K with e | e
    · rw [e]; exact h.n1
    · rw [e]; intro k; injection k with k; have := h.dk.lt; omega
  · intro b hb e
    rcases K with k | k
    · exact h.n2 b (by rw [← k]; exact hb) e
    · rw [k] at hb; injection hb with hb; have := (h.dk.vlt b e).2; omega
  · intro x hx
    rcases List.mem_append.1 hx with hx | hx
    · exact h.ok x hx
    · rw [List.mem_singleton.1 hx]; exact hi
theorem HoS.rdl {w W : World} {B g : Nat} {v vw f : Value} {ws : List It} {D : List Nat} {off : Bool} {st : Option Nat} (h : HoS w W B g v vw ws D off f st) : ∃ a c, vw = .slice a ws.length c ∧ RdL W a ws := by
  obtain ⟨a, c, e⟩ := h.ow.sl
  rw [List.length_map] at e
  refine ⟨a, c, e, ?_, fun it hi => ⟨(h.ok it hi).rd.below h.bl, (h.ok it hi).le, (h.ok it hi).nn, (h.ok it hi).ln⟩⟩
  rcases h.ow.2 with ⟨_, h0⟩ | ⟨gr, cap, cur, e', hg, hcur, _⟩
  · exact .inl (List.length_eq_zero_iff.1 (by rw [List.length_map] at h0; exact h0))
  · rw [e] at e'
    injection e' with e1 e2 e3
    subst e1
    refine .inr ⟨gr, 0, rfl, (Array.getElem?_eq_some_iff.1 hcur).1, fun i hi => ?_⟩
    have hi2 : i < (ws.map vof).length := by rw [List.length_map]; exact hi
    have h5 := World.ownsRow.cells h.ow (g := gr) (by rw [e]; rfl) i _ (List.getElem?_eq_getElem hi2)
    rw [add8] at h5
    rw [h5, List.getElem_map]; rfl
/- What came in. -/
structure Trn where
  it : It
  fail : Int
structure TrnOk (W : World) (t : Trn) : Prop where
  ok : ItOk W t.it
  by' : ∀ y ∈ t.it.xs, y < 256
  lo : -9223372036854775808 ≤ t.fail
  hi : t.fail < 9223372036854775808
structure RdT (W : World) (a : Option Addr) (ts : List Trn) : Prop where
  rd : ts = [] ∨ ∃ p off, a = some ⟨p, off, none⟩ ∧ p < W.heap.size ∧ ∀ i (h : i < ts.length), W.cell? ⟨p, off + i * 2, none⟩ = some (.slice ts[i].it.a ts[i].it.xs.length ts[i].it.cap) ∧ W.cell? ⟨p, off + i * 2 + 1, none⟩ = some (.int .i64 ts[i].fail)
  ok : ∀ t ∈ ts, TrnOk W t
theorem RdT.some {W : World} {a : Option Addr} {ts : List Trn} (h : RdT W a ts) (h0 : 0 < ts.length) : ∃ p off, a = Option.some ⟨p, off, none⟩ ∧ p < W.heap.size ∧ ∀ i (h : i < ts.length), W.cell? ⟨p, off + i * 2, none⟩ = Option.some (.slice ts[i].it.a ts[i].it.xs.length ts[i].it.cap) ∧ W.cell? ⟨p, off + i * 2 + 1, none⟩ = Option.some (.int .i64 ts[i].fail) := by
  rcases h.rd with rfl | h
  · simp at h0
  · exact h
def totT (ts : List Trn) : Nat := (ts.map (fun t => 1 + t.it.xs.length)).sum
theorem totT_succ (ts : List Trn) (k : Nat) (h : k < ts.length) : totT (ts.take (k + 1)) = totT (ts.take k) + (1 + ts[k].it.xs.length) := by
  rw [List.take_succ_eq_append_getElem h]; unfold totT; rw [List.map_append, List.sum_append_nat]; simp only [List.map_cons, List.map_nil, List.sum_cons, List.sum_nil, Nat.add_zero]
theorem totT_len (ts : List Trn) : ts.length ≤ totT ts := by
  induction ts with
  | nil => exact Nat.zero_le _
  | cons x l ih => unfold totT at *; simp only [List.map_cons, List.sum_cons, List.length_cons]; omega
theorem totT_le (ts : List Trn) (k : Nat) : totT (ts.take k) ≤ totT ts := by
  conv => rhs; rw [← List.take_append_drop k ts]
  unfold totT
  rw [List.map_append, List.sum_append_nat]
  omega
set_option maxRecDepth 100000 in
set_option maxHeartbeats 4000000 in
theorem holds_yes (a : Option Addr) (cap : Nat) (ts : List Trn) (w : World) (hll : ts.length ≤ 140737488355328) (hr : RdT w a ts) : Calls Try.prog 5 #[.slice a ts.length cap] w fun e w' => e = .returned (.bool true) ∧ Below w.heap.size w w' := by
  have HR := hide hr
  have HLL := hide hll
  clear hr hll
  go_enter Try.func5, Try.ntmps5
  go_wp2
  go_loopw [3, 4] (fun n i wr => ∃ k : Nat, k ≤ ts.length ∧ i = .int .i64 k ∧ n = .int .i64 ((totT (ts.take k) : Nat) : Int) ∧ totT (ts.take k) ≤ 140737488555329 ∧ wr = w) (fun _ i _ => ts.length - (intOf i).toNat)
  case atStart => exact ⟨0, by omega, rfl, rfl, by simp [totT], rfl⟩
  case round =>
    obtain ⟨k, hk, rfl, rfl, hn, hwr⟩ := hrel
    have HA : Hid (∀ W, Below w.heap.size w W → Calls Try.prog 26 #[] W fun e w' => e = .returned (.bool true) ∧ Below w.heap.size w w') := fun W hb => (alive_yes W).mono (fun e w' h => ⟨h.1, hb.trans (h.2.mono hb.size)⟩)
    have hww := hwr.symm
    clear hwr
    subst hww
    by_cases hbig : 200000 < totT (ts.take k)
    · generalize totT (ts.take k) = T at *
      have d1 : ((T : Int) ≤ 200000) = False := by simp; omega
      have d2 : ((T : Int) > 200000) = True := by simp; omega
      have d3 : (T ≤ 200000) = False := by simp; omega
      have d4 : (200000 < T) = True := by simp; omega
      clear hbig HR
      by_cases hlt : k < ts.length
      · have hlI : ((k : Int) < (ts.length : Int)) = True := by simp; omega
        have hlJ : (k < ts.length) = True := by simp; omega
        go_wp2_with fail
        refine (HA.out _ (Below.refl _ _)).mono ?_
        rintro e w1 ⟨rfl, hb⟩
        have HB := hide hb
        clear hb
        go_wp2_with fail
        refine (HA.out _ HB.out).mono ?_
        rintro e w2 ⟨rfl, hb⟩
        go_wp2
        go_ret
        exact ⟨rfl, hb⟩
      · have hlI : ((k : Int) < (ts.length : Int)) = False := by simp; omega
        have hlJ : (k < ts.length) = False := by simp; omega
        go_wp2_with fail
        refine (HA.out _ (Below.refl _ _)).mono ?_
        rintro e w1 ⟨rfl, hb⟩
        have HB := hide hb
        clear hb
        go_wp2_with fail
        refine (HA.out _ HB.out).mono ?_
        rintro e w2 ⟨rfl, hb⟩
        go_wp2
        go_ret
        exact ⟨rfl, hb⟩
    by_cases hlt : k < ts.length
    · obtain ⟨p, off, rfl, hp, hcl⟩ := HR.out.some (by omega)
      have q0 := (hcl k hlt).1
      have hil := (HR.out.ok _ (List.getElem_mem hlt)).ok.ln
      have HS := hide (totT_succ ts k hlt)
      have hlI : (k : Int) < (ts.length : Int) := by omega
      have hkb : k < 140737488355328 := by have := HLL.out; omega
      clear hcl
      generalize ts[k] = o at *
      obtain ⟨T, hT⟩ : ∃ T, T = totT (ts.take k) := ⟨_, rfl⟩
      rw [← hT] at HS hbig ⊢
      have d1 : ((T : Int) ≤ 200000) = True := by simp; omega
      have d3 : (T ≤ 200000) = True := by simp; omega
      have hw1 : IntKind.i64.wrap ((T : Int) + 1) = (T : Int) + 1 := by rw [IntKind.wrap_i64]; omega
      have hw2 : IntKind.i64.wrap ((T : Int) + 1 + (o.it.xs.length : Int)) = (T : Int) + 1 + (o.it.xs.length : Int) := by rw [IntKind.wrap_i64]; omega
      have HB := hide hbig
      clear hn hT hbig
      go_wp2
      go_roundw
      case rel => exact ⟨k + 1, by omega, by go_num, by rw [HS.out]; congr 1; omega, by rw [HS.out]; have := HB.out; omega, by first | rfl | trivial⟩
      case measure => simp [intOf]; omega
    obtain rfl : k = ts.length := by omega
    rw [List.take_length] at hbig ⊢
    have HT := hide (Nat.le_of_not_lt hbig)
    clear hn hlt hbig hk
    have HTL := hide (totT_len ts)
    generalize hTT : totT ts = T at *
    have HTT := hide hTT
    clear hTT
    have d1 : ((T : Int) ≤ 200000) = True := by have := HT.out; simp; omega
    have d2 : ((T : Int) > 200000) = False := by have := HT.out; simp; omega
    have d3 : (T ≤ 200000) = True := by have := HT.out; simp; omega
    have d4 : (200000 < T) = False := by have := HT.out; simp; omega
    go_wp2_with fail
    refine (HA.out _ (Below.refl _ _)).mono ?_
    rintro e w1 ⟨rfl, hb⟩
    have B1 := hide hb
    clear hb
    go_wp2_with fail
    refine (new_yes 16777216 w1 (by decide) (by decide)).mono ?_
    rintro e w2 ⟨rfl, hd, hb⟩
    have S2 : Hid (HoS w w2 w1.heap.size w1.heap.size (.slice none 0 0) (.slice none 0 0) [] [] false .nilFunc none) := ⟨B1.out.trans (hb.mono B1.out.size), B1.out.size, hd, World.ownsRow_nil _ _ _ _, (fun e => by cases e), (fun b e => by cases e), fun it h => absurd h (by simp)⟩
    clear hd hb d1 d2 d3 d4
    generalize w1.heap.size = B at *
    go_wp2
    go_loopw [7, 8] (fun u i wl => ∃ (k : Nat) (v : Value) (ws : List It), k ≤ ts.length ∧ i = .int .i64 k ∧ HoS w wl B B v u ws (frms (recs ws)) false .nilFunc none ∧ used (recs ws) ≤ 8 * totT (ts.take k) ∧ ws.length ≤ k ∧ ∀ r ∈ recs ws, okR r ∧ ∀ y ∈ r, y < 256) (fun _ i _ => ts.length - (intOf i).toNat)
    case atStart => exact ⟨0, _, [], by omega, rfl, S2.out, by simp [recs, used], by simp, fun r h => by simp [recs] at h⟩
    case round =>
      obtain ⟨k, v, ws, hk, rfl, hS, hus, hwl, hwk⟩ := hrel
      have S3 := hide hS
      have HOK := hide hwk
      have hrd : rd (frms (recs ws)) = recs ws := rd_frms_all _ (fun r h => (hwk r h).1)
      have HRD := hide hrd
      have hby : ∀ y ∈ frms (recs ws), y < 256 := fun y hy => by
        obtain ⟨l, hl, hyl⟩ := List.mem_flatten.1 hy
        obtain ⟨r, hr, rfl⟩ := List.mem_map.1 hl
        exact frm_bytes r (hwk r hr).2 y hyl
      have HBY := hide hby
      have HUS := hide hus
      have HWL := hide hwl
      have htk := totT_le ts k
      rw [HTT.out] at htk
      have HTK := hide htk
      have hkb : k < 9223372036854775807 := by have := HLL.out; omega
      clear S2 hS hwk hrd hby hus hwl htk
      by_cases hlt : k < ts.length
      · obtain ⟨p, off, rfl, hp, hcl⟩ := HR.out.some (by omega)
        have q0 : wr.cell? ⟨p, off + k * 2, none⟩ = some (.slice ts[k].it.a ts[k].it.xs.length ts[k].it.cap) := (S3.out.bl.cell (p := ⟨p, off + k * 2, none⟩) hp).trans (hcl k hlt).1
        have q1 : wr.cell? ⟨p, off + k * 2 + 1, none⟩ = some (.int .i64 ts[k].fail) := (S3.out.bl.cell (p := ⟨p, off + k * 2 + 1, none⟩) hp).trans (hcl k hlt).2
        have HC1 : Hid (∀ W, Below w.heap.size w W → W.cell? ⟨p, off + k * 2 + 1, none⟩ = some (.int .i64 ts[k].fail)) := fun W hb => (hb.cell (p := ⟨p, off + k * 2 + 1, none⟩) hp).trans (hcl k hlt).2
        have HTO := hide (HR.out.ok _ (List.getElem_mem hlt))
        have hlI : (k : Int) < (ts.length : Int) := by omega
        have hsucc := totT_succ ts k hlt
        have hle2 := totT_le ts (k + 1)
        rw [HTT.out] at hle2
        have HSU := hide hsucc
        have HL2 := hide hle2
        clear hcl HR HA hsucc hle2
        generalize ts[k] = o at *
        obtain ⟨it, fl⟩ := o
        simp only at q0 q1 HC1 HSU
        have HFH : Hid (fl < 9223372036854775808) := HTO.out.hi
        by_cases hok : okR it.xs
        · have hok2 := hok
          obtain ⟨k0, k1⟩ := hok2
          have HOKX := hide hok
          have hd0 : ((it.xs.length : Int) == 0) = false := beq_eq_false_iff_ne.2 (by omega)
          have hd0' : (it.xs.length = 0) = False := eq_false (by omega)
          have hd1 : ((it.xs.length : Int) > 65537) = False := by simp; omega
          have hd1' : (65537 < it.xs.length) = False := by simp; omega
          have hfit : (frms (recs ws)).length + (frm it.xs).length ≤ 16777216 := by rw [frms_length, frm_length]; have := HUS.out; have := HTK.out; have := HT.out; omega
          have HFT := hide hfit
          have HBX : Hid (∀ y ∈ it.xs, y < 256) := HTO.out.by'
          have HIO : Hid (ItOk w it) := HTO.out.ok
          have hwv : (ws.map vof).length ≤ 1000000000 := by rw [List.length_map]; have := HWL.out; have := HTL.out; have := HT.out; omega
          have OKN : Hid (∀ r ∈ recs (ws ++ [it]), okR r ∧ ∀ y ∈ r, y < 256) := fun r h => by
            rw [recs_snoc] at h
            rcases List.mem_append.1 h with h | h
            · exact HOK.out r h
            · rw [List.mem_singleton.1 h]; exact ⟨HOKX.out, HBX.out⟩
          have USN : Hid (used (recs (ws ++ [it])) ≤ 8 * totT (ts.take (k + 1))) := by
            show _ ≤ _
            rw [recs_snoc, used_append, used_cons, used_nil]
            have := HUS.out; have := HSU.out; omega
          clear hok hfit k0 HTO
          by_cases hfl : fl < 0
          · have d2 : (fl < 0) = True := by simp; omega
            have HAD := hide (add_yes it.a it.cap it.xs HBX.out HOKX.out (HIO.out.rd.below S3.out.bl) HFT.out S3.out.dk)
            clear hfl HC1
            go_wp2_with fail
            refine HAD.out.mono ?_
            rintro e w5 ⟨rfl, v5, hd, hm⟩
            have S5 := hide (S3.out.move hm hd)
            clear hd hm S3 HAD
            have S6 := hide (S5.out.next ((Below.refl _ w5).alloc (Nat.le_refl _) (.cells #[.slice it.a it.xs.length it.cap] 31)))
            go_wp2_with (at_builtin; refine wpList_appR rfl _ _ rfl B _ (ws.map vof) rfl S6.out.ow ⟨w5.heap.size, 0, none⟩ _ rfl (one_cell w5 _ _) rfl rfl hwv S6.out.dk.BW ?_; intro v7 w7 O7 G7 K7; have S7 := hide (S6.out.want (it := it) HIO.out O7 G7 K7); clear O7 G7 K7)
            go_roundw
            case rel => exact ⟨k + 1, _, ws ++ [it], by omega, by go_num, by rw [recs_snoc, frms_snoc]; exact S7.out, USN.out, by rw [List.length_append, List.length_singleton]; have := HWL.out; omega, OKN.out⟩
            case measure => simp [intOf]; omega
          · obtain ⟨n, rfl⟩ : ∃ n : Nat, fl = n := ⟨fl.toNat, by omega⟩
            have hn : n < 9223372036854775808 := by have := HFH.out; omega
            have d2 : ((n : Int) < 0) = False := eq_false (by omega)
            have HFA := hide (fail_yes n hn S3.out.dk)
            clear hfl
            go_wp2_with fail
            refine HFA.out.mono ?_
            rintro e w5 ⟨rfl, ⟨f5, hd⟩, hm⟩
            have S5 := hide (S3.out.move hm hd)
            have HAD := hide (add_cut it.a it.cap it.xs HBX.out HOKX.out (HIO.out.rd.below S5.out.bl) HFT.out S5.out.dk)
            clear hd hm S3 HFA
            go_wp2_with fail
            refine HAD.out.mono ?_
            rintro e w6 ⟨rfl, v6, hd, hm⟩
            have S6 := hide (S5.out.move hm hd)
            have HUP := hide (up_yes S6.out.dk)
            clear hd hm S5 HAD
            go_wp2_with fail
            refine HUP.out.mono ?_
            rintro e w7 ⟨rfl, hd, hm⟩
            have S7 := hide (S6.out.move hm hd)
            have q2 := HC1.out w7 S7.out.bl
            clear hd hm S6 HUP HC1 q0 q1
            have hw8 : IntKind.i64.wrap ((it.xs.length : Int) + 8) = (it.xs.length : Int) + 8 := by rw [IntKind.wrap_i64]; omega
            by_cases hge : it.xs.length + 8 ≤ n
            · have d3 : ((n : Int) ≥ (it.xs.length : Int) + 8) = True := by simp; omega
              have d3' : ((it.xs.length : Int) + 8 ≤ (n : Int)) = True := by simp; omega
              have hall : (frm it.xs).take n = frm it.xs := List.take_of_length_le (by rw [frm_length]; exact hge)
              rw [hall] at S7
              have S8a := hide (S7.out.next ((Below.refl _ w7).alloc (Nat.le_refl _) (.cells #[.slice it.a it.xs.length it.cap] 31)))
              clear hge hall
              go_wp2_with (at_builtin; refine wpList_appR rfl _ _ rfl B _ (ws.map vof) rfl S8a.out.ow ⟨w7.heap.size, 0, none⟩ _ rfl (one_cell w7 _ _) rfl rfl hwv S8a.out.dk.BW ?_; intro v8 w8 O7 G7 K7; have S8 := hide (S8a.out.want (it := it) HIO.out O7 G7 K7); clear O7 G7 K7)
              obtain ⟨WS, hWS⟩ : ∃ WS, WS = ws ++ [it] := ⟨_, rfl⟩
              rw [← frms_snoc, ← recs_snoc, ← hWS] at S8
              rw [← hWS] at OKN USN
              have OK8 := OKN
              have US8 := USN
              have WL8 : Hid (WS.length ≤ k + 1) := by show _ ≤ _; rw [hWS, List.length_append, List.length_singleton]; have := HWL.out; omega
              have HO := hide (open_yes (fun y hy => by
                obtain ⟨l, hl, hyl⟩ := List.mem_flatten.1 hy
                obtain ⟨r, hr, rfl⟩ := List.mem_map.1 hl
                exact frm_bytes r (OK8.out r hr).2 y hyl) S8.out.dk)
              rw [rd_frms_all _ (fun r h => (OK8.out r h).1), ← frms_length, List.take_length] at HO
              clear hWS
              go_wp2_with fail
              refine HO.out.mono ?_
              rintro e w9 ⟨u9, us9, v9, rfl, hrc, hd, hm⟩
              have S9 := hide (S8.out.move hm hd)
              obtain ⟨a9, c9, ls9, rfl, he9, hrl9⟩ := hrc.rdl (fun r h => (OK8.out r h).1.2)
              obtain ⟨aw, cw, hvw, hrl'⟩ := S9.out.rdl
              subst hvw
              have HSR := hide (same_recs ls9 WS he9 (fun r h => by rw [he9] at h; have := (OK8.out r h).1.2; omega) (by have := congrArg List.length he9; rw [recs_length, recs_length] at this; have := WL8.out; have := HTL.out; have := HT.out; omega) a9 aw c9 cw w9 hrl9 hrl')
              clear hrc hd hm hrl9 hrl'
              go_wp2_with fail
              refine HSR.out.mono ?_
              rintro e w10 ⟨rfl, hb⟩
              have S10 := hide (S9.out.next hb)
              clear hb
              go_wp2
              go_roundw
              case rel => exact ⟨k + 1, _, WS, by omega, by go_num, S10.out, US8.out, by have := WL8.out; omega, OK8.out⟩
              case measure => simp [intOf]; omega
            · have d3 : ((n : Int) ≥ (it.xs.length : Int) + 8) = False := by simp; omega
              have d3' : ((it.xs.length : Int) + 8 ≤ (n : Int)) = False := by simp; omega
              have S8 := S7
              have OK8 := HOK
              have US8 : Hid (used (recs ws) ≤ 8 * totT (ts.take (k + 1))) := by show _ ≤ _; have := HUS.out; have := HSU.out; omega
              obtain ⟨WS, hWS⟩ : ∃ WS, WS = ws := ⟨_, rfl⟩
              have WL8 : Hid (WS.length ≤ k + 1) := by show _ ≤ _; rw [hWS]; have := HWL.out; omega
              have HO := hide (open_yes (fun y hy => by
                rcases List.mem_append.1 hy with hy | hy
                · exact HBY.out y hy
                · exact frm_bytes _ HBX.out y (List.mem_of_mem_take hy)) S8.out.dk)
              rw [rd_part _ _ _ (fun r h => (OK8.out r h).1) HOKX.out (by rw [frm_length]; omega), ← frms_length, List.take_left] at HO
              rw [← hWS] at HO S8 OK8 US8
              clear hWS hge
              go_wp2_with fail
              refine HO.out.mono ?_
              rintro e w9 ⟨u9, us9, v9, rfl, hrc, hd, hm⟩
              have S9 := hide (S8.out.move hm hd)
              obtain ⟨a9, c9, ls9, rfl, he9, hrl9⟩ := hrc.rdl (fun r h => (OK8.out r h).1.2)
              obtain ⟨aw, cw, hvw, hrl'⟩ := S9.out.rdl
              subst hvw
              have HSR := hide (same_recs ls9 WS he9 (fun r h => by rw [he9] at h; have := (OK8.out r h).1.2; omega) (by have := congrArg List.length he9; rw [recs_length, recs_length] at this; have := WL8.out; have := HTL.out; have := HT.out; omega) a9 aw c9 cw w9 hrl9 hrl')
              clear hrc hd hm hrl9 hrl'
              go_wp2_with fail
              refine HSR.out.mono ?_
              rintro e w10 ⟨rfl, hb⟩
              have S10 := hide (S9.out.next hb)
              clear hb
              go_wp2
              go_roundw
              case rel => exact ⟨k + 1, _, WS, by omega, by go_num, S10.out, US8.out, by have := WL8.out; omega, OK8.out⟩
              case measure => simp [intOf]; omega
          
        · have HAD := hide (add_no it.a it.xs.length it.cap (by have := HTO.out.ok.ln; show it.xs.length ≤ _; have : it.xs.length ≤ 140737488355328 := this; omega) hok S3.out.dk)
          by_cases h0 : it.xs.length = 0
          · generalize it.xs.length = L at *
            subst h0
            go_wp2_with fail
            refine HAD.out.mono ?_
            rintro e w5 ⟨rfl, hw5⟩
            subst hw5
            go_wp2
            go_roundw
            case rel => exact ⟨k + 1, v, ws, by omega, by go_num, S3.out, by have := HUS.out; have := HSU.out; omega, by have := HWL.out; omega, HOK.out⟩
            case measure => simp [intOf]; omega
          · have hbg : 65537 < it.xs.length := by unfold okR at hok; omega
            generalize it.xs.length = L at *
            have d0 : ((L : Int) == 0) = false := by simp; omega
            have d0' : (L = 0) = False := by simp; omega
            have d1 : ((L : Int) > 65537) = True := by simp; omega
            have d1' : (65537 < L) = True := by simp; omega
            clear hbg h0
            go_wp2_with fail
            refine HAD.out.mono ?_
            rintro e w5 ⟨rfl, hw5⟩
            subst hw5
            go_wp2
            go_roundw
            case rel => exact ⟨k + 1, v, ws, by omega, by go_num, S3.out, by have := HUS.out; have := HSU.out; omega, by have := HWL.out; omega, HOK.out⟩
            case measure => simp [intOf]; omega
      · obtain ⟨aw, cw, hvw, hrl⟩ := S3.out.rdl
        subst hvw
        have HO := hide (open_yes HBY.out S3.out.dk)
        rw [HRD.out, ← frms_length, List.take_length] at HO
        have hlI : ((k : Int) < (ts.length : Int)) = False := by simp; omega
        have hlJ : (k < ts.length) = False := by simp; omega
        have HRL := hide hrl
        clear hrl HA HR
        go_wp2_with fail
        refine HO.out.mono ?_
        rintro e w5 ⟨u5, us5, v5, rfl, hrc, hd, hm⟩
        have S5 := hide (S3.out.move hm hd)
        obtain ⟨a5, c5, ls5, rfl, he5, hrl5⟩ := hrc.rdl (fun r h => (HOK.out r h).1.2)
        obtain ⟨aw', cw', hvw', hrl'⟩ := S5.out.rdl
        injection hvw' with x1 x2 x3
        subst x1
        have HSR := hide (same_recs ls5 ws he5 (fun r h => by rw [he5] at h; have := (HOK.out r h).1.2; omega) (by have := congrArg List.length he5; rw [recs_length, recs_length] at this; have := HWL.out; have := HTL.out; have := HT.out; omega) a5 aw c5 cw w5 hrl5 hrl')
        clear hrc hd hm hrl5 hrl' x2 x3
        go_wp2_with fail
        refine HSR.out.mono ?_
        rintro e w6 ⟨rfl, hb⟩
        have S6 := hide (S5.out.next hb)
        clear hb
        go_wp2
        go_ret
        exact ⟨rfl, S6.out.bl⟩
end Go.Proofs.Ytannocdcohofbaa
