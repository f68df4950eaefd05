/- package disk: cut; Append while a failure is set. -/
import Derived.Test.YtgfmkhgdndodkaaGreatDoorDkD
import Derived.Shelf.Abstract
namespace Go.Proofs.YtgfmkhgdndodkaaGreatDoor
open Go.RowKit Go.Shelf

/- An append to a row of one's own, inside a region that draws its order. -/
theorem step_appL {ops : Array Oper} {o : Oper} {a : Act} {w : World} {K : Act → World → Prop} {Q : Exit → Act → World → Prop} {E : Prop}
    (hg : o.guard = none) (s x : Operand) (hop : o.op = Op.call { callee := Callee.builtin Builtin.append, args := #[s, x], argTypes := #[31, 31] })
    (B : Nat) (v : Value) (xs : List Nat) (hs : a.eval s = v) (hown : Own8 w B v xs) (sa : Option Addr) (m cap : Nat) (ys : List Nat) (hx : a.eval x = .slice sa m cap) (hm : m = ys.length) (hr : RdA w sa ys) (hn : sa = none → cap = 0)
    (hl : xs.length + ys.length ≤ 1000000000) (hB : B ≤ w.heap.size)
    (hK : ∀ v' w', Own8 w' B v' (xs ++ ys) → w.grownBy w' v.ownBlock → (v'.ownBlock = v.ownBlock ∨ v'.ownBlock = some w.heap.size) → K (a.put o.dst v') w') :
    if Region.wanted o (yielded ops a.tmps) = true then Oper.wp Tryz.prog o a w K Q else E := by
  have hw : Region.wanted o (yielded ops a.tmps) = true := by simp [Region.wanted, hg]
  rw [if_pos hw]
  subst hm
  obtain ⟨i0, hi0, hz0, hz1, hz2⟩ := info_parts Tryz.info8
  have hcase : (∃ q, sa = some q ∧ ∀ j u, (u8s ys)[j]? = some u → w.cell? (q.add j) = some u) ∨ (sa = none ∧ ys = []) := by
    rcases hr with rfl | ⟨p, off, rfl, _, hc⟩
    · cases sa with
      | none => exact .inr ⟨rfl, rfl⟩
      | some q => exact .inl ⟨q, rfl, fun j u h => by simp [u8s] at h⟩
    · exact .inl ⟨_, rfl, rdA_src hc⟩
  rcases hcase with ⟨q, rfl, hc⟩ | ⟨rfl, rfl⟩
  rotate_left
  · have hx2 : a.eval x = .slice none 0 0 := by rw [hx, hn rfl]; rfl
    have hrun := run_append_owned_none (P := Tryz.prog) (w := w) B 31 o.type 5 i0 1 Tryz.underlying31 hi0 v xs.length (u8s xs) hown
    unfold Oper.wp
    simp [execOp, hop, resolve, invoke, builtin, hs, hx2, hrun, Result.andThen]
    exact hK v w (by rw [List.append_nil]; exact hown) ⟨rfl, rfl, rfl, Nat.le_refl _, fun _ _ _ => rfl⟩ (.inl rfl)
  · obtain ⟨v', w', hrun, r1, r2, _, r4⟩ := run_append_own_at (P := Tryz.prog) w B 31 o.type 5 i0 (.int .u8 0) 1 1 Tryz.underlying31 hi0 hz0 hz1 hz2 rfl (by decide) v xs.length (u8s xs) hown q ys.length cap (u8s ys) (by rw [u8s_length, Nat.mul_one]) hc (u8s_one ys) (by unfold maxLen; omega) (by omega) hB
    unfold Oper.wp
    simp [execOp, hop, resolve, invoke, builtin, hs, hx, hrun, Result.andThen]
    refine hK v' w' ?_ r2 r4
    unfold Own8
    rw [List.length_append, u8s_append]
    exact r1
theorem ent_fa : ∀ args w, (callFunc 121 args).run Tryz.prog w = .ok (.enter 121 args) w := enters_of Tryz.func121 (by kernel_rfl) rfl
/- A call of a function value with one argument, inside a region that draws its order. -/
theorem step_fn {P : Program} {f : FuncId} (hent : ∀ args w, (callFunc f args).run P w = .ok (.enter f args) w) {ops : Array Oper} {o : Oper} {a : Act} {w : World} {K : Act → World → Prop} {Q : Exit → Act → World → Prop} {E : Prop} {t : TypeId}
    (hg : o.guard = none) (s x : Operand) (hop : o.op = Op.call { callee := Callee.value s, args := #[x], argTypes := #[t] }) (m c r : Value)
    (hs : a.eval s = .func (Fn.func f) #[] #[c]) (hx : a.eval x = m)
    (hC : Calls P f #[m, c] w fun e w' => e = .returned r ∧ w' = w)
    (hK : K (a.put o.dst r) w) :
    if Region.wanted o (yielded ops a.tmps) = true then Oper.wp P o a w K Q else E := by
  have hw : Region.wanted o (yielded ops a.tmps) = true := by simp [Region.wanted, hg]
  rw [if_pos hw]
  have h : (execOp a.eval o).run P w = .ok (.enter f #[m, c]) w := by
    simp [execOp, hop, resolve, invoke, hs, hx, Deferred.ofValue, hent]
  unfold Oper.wp
  rw [h, Oper.upon_enter]
  refine hC.mono ?_
  rintro e w1 ⟨rfl, rfl⟩
  exact hK
theorem RdA.pre {W : World} {a : Option Addr} {ys : List Nat} (h : RdA W a ys) (k : Nat) : RdA W a (ys.take k) := by
  rcases h with rfl | ⟨p, off, rfl, hp, hc⟩
  · exact .inl (by simp)
  · refine .inr ⟨p, off, rfl, hp, fun i hi => ?_⟩
    rw [List.getElem_take]
    exact hc i (by simp at hi; omega)
set_option maxRecDepth 100000 in
set_option maxHeartbeats 1000000 in
theorem cut_some {B g room p n : Nat} {v : Value} {xs : List Nat} {w : World} (q off cap : Nat) (ys : List Nat) (hr : RdA w (some ⟨q, off, none⟩) ys) (hlc : ys.length ≤ cap) (hf : xs.length + ys.length ≤ room) (h : Dk w B g v room xs false (.func (Fn.func 121) #[] #[.pointer (some ⟨p, 0, none⟩)]) (some n)) (hc : w.cell? ⟨p, 0, none⟩ = some (.int .i64 n)) :
    Calls Tryz.prog 28 #[.pointer (some ⟨g, 0, none⟩), .slice (some ⟨q, off, none⟩) ys.length cap] w fun e w' => e = .returned (.int .i64 13) ∧ ∃ v', Dk w' B g v' room (xs ++ ys.take n) true .nilFunc none ∧ Mv g v v' w w' := by
  obtain ⟨k, hk, hkm⟩ : ∃ k, k = (ys.take n).length ∧ k = min n ys.length := ⟨_, rfl, by simp⟩
  have HF := hide (fun m => fa1_any n ys.length p (w.drewN m) hc)
  rw [← hkm] at HF
  have HD := hide (fun m => h.drewN m)
  have HR : Hid (∀ m, RdA (w.drewN m) (some ⟨q, off, none⟩) (ys.take n)) := fun m => hr.pre n
  have hkc : (k : Int) ≤ (cap : Int) := by omega
  have hkl : k ≤ ys.length := by omega
  have HL : Hid (xs.length + (ys.take n).length ≤ room) := by show _ ≤ _; rw [← hk]; omega
  have hs := h.own.shape
  obtain ⟨a1, cap1, hv, _, _, _⟩ := hs
  subst hv
  have c1 := h.c1
  have c2 := h.c2
  have c3 := h.c3
  have s1 := h.soft 1
  have s2 := h.soft 2
  have s3 := h.soft 3
  have hrm := h.r1
  have HK := hide hk
  clear h hr hc hf hkm hk
  go_enter Tryz.func28, Tryz.ntmps28
  go_wp2
  go_region_law (first
    | (refine step_appL rfl _ _ rfl B _ xs rfl (HD.out 1).own (some ⟨q, off, none⟩) k cap (ys.take n) rfl HK.out (HR.out 1) (by simp) (by have := HL.out; omega) (HD.out 1).BW ?_; intro v7 w7 O7 G7 K7; obtain ⟨a7, n7, p7, rfl⟩ := O7.sl; have L7 := hide ((HD.out 1).lay G7 O7 K7 (by rw [List.length_append]; exact HL.out)); have c7 := (World.cell?_of_block (w := w.drewN 1) (a := ⟨g, 1, none⟩) (G7.block g (HD.out 1).lt (fun e => (HD.out 1).ne e.symm))).trans (HD.out 1).c1; have s7 := (World.frozen?_of_block (w := w.drewN 1) (a := ⟨g, 1, none⟩) (G7.block g (HD.out 1).lt (fun e => (HD.out 1).ne e.symm))).trans ((HD.out 1).soft 1); clear O7 G7 K7)
    | (refine step_fn ent_fa rfl _ _ rfl _ _ _ rfl rfl (HF.out 1) ?_))
  all_goals
    have d2 := L7.out.1.c2
    have d3 := L7.out.1.c3
    have t2 := L7.out.1.soft 2
    have t3 := L7.out.1.soft 3
    have LL := hide (⟨(L7.out.1.set2 true).set3 (.inl ⟨rfl, rfl⟩), (L7.out.2.setg 2 (.bool true)).setg 3 .nilFunc⟩ : _ ∧ _)
    go_wp2
    go_ret
    exact ⟨rfl, _, LL.out.1, ((Mv.refl g _ w).drewN 1).trans LL.out.2⟩
set_option maxRecDepth 100000 in
set_option maxHeartbeats 1000000 in
theorem cut_none {B g room p n : Nat} {v : Value} {xs : List Nat} {w : World} (h : Dk w B g v room xs false (.func (Fn.func 121) #[] #[.pointer (some ⟨p, 0, none⟩)]) (some n)) (hc : w.cell? ⟨p, 0, none⟩ = some (.int .i64 n)) :
    Calls Tryz.prog 28 #[.pointer (some ⟨g, 0, none⟩), .slice none 0 0] w fun e w' => e = .returned (.int .i64 13) ∧ ∃ v', Dk w' B g v' room (xs ++ []) true .nilFunc none ∧ Mv g v v' w w' := by
  have HF := hide (fun m => fa1_any n 0 p (w.drewN m) hc)
  rw [Nat.min_zero] at HF
  have HD := hide (fun m => h.drewN m)
  have HL : Hid (xs.length + ([] : List Nat).length ≤ room) := h.le
  have hs := h.own.shape
  obtain ⟨a1, cap1, hv, _, _, _⟩ := hs
  subst hv
  have c1 := h.c1
  have c2 := h.c2
  have c3 := h.c3
  have s1 := h.soft 1
  have s2 := h.soft 2
  have s3 := h.soft 3
  have hrm := h.r1
  clear h hc
  go_enter Tryz.func28, Tryz.ntmps28
  go_wp2
  go_region_law (first
    | (refine step_appL rfl _ _ rfl B _ xs rfl (HD.out 1).own none 0 0 [] rfl rfl (.inl rfl) (by simp) (by have := HL.out; omega) (HD.out 1).BW ?_; intro v7 w7 O7 G7 K7; obtain ⟨a7, n7, p7, rfl⟩ := O7.sl; have L7 := hide ((HD.out 1).lay G7 O7 K7 (by rw [List.length_append]; exact HL.out)); have c7 := (World.cell?_of_block (w := w.drewN 1) (a := ⟨g, 1, none⟩) (G7.block g (HD.out 1).lt (fun e => (HD.out 1).ne e.symm))).trans (HD.out 1).c1; have s7 := (World.frozen?_of_block (w := w.drewN 1) (a := ⟨g, 1, none⟩) (G7.block g (HD.out 1).lt (fun e => (HD.out 1).ne e.symm))).trans ((HD.out 1).soft 1); clear O7 G7 K7)
    | (refine step_fn ent_fa rfl _ _ rfl _ _ _ rfl rfl (HF.out 1) ?_))
  all_goals
    have d2 := L7.out.1.c2
    have d3 := L7.out.1.c3
    have t2 := L7.out.1.soft 2
    have t3 := L7.out.1.soft 3
    have LL := hide (⟨(L7.out.1.set2 true).set3 (.inl ⟨rfl, rfl⟩), (L7.out.2.setg 2 (.bool true)).setg 3 .nilFunc⟩ : _ ∧ _)
    go_wp2
    go_ret
    exact ⟨rfl, _, LL.out.1, ((Mv.refl g _ w).drewN 1).trans LL.out.2⟩
set_option maxRecDepth 100000 in
set_option maxHeartbeats 1000000 in
theorem cut_q {B g room p n : Nat} {v : Value} {xs : List Nat} {w : World} (q : Addr) (cap : Nat) (h : Dk w B g v room xs false (.func (Fn.func 121) #[] #[.pointer (some ⟨p, 0, none⟩)]) (some n)) (hc : w.cell? ⟨p, 0, none⟩ = some (.int .i64 n)) :
    Calls Tryz.prog 28 #[.pointer (some ⟨g, 0, none⟩), .slice (some q) 0 cap] w fun e w' => e = .returned (.int .i64 13) ∧ ∃ v', Dk w' B g v' room (xs ++ []) true .nilFunc none ∧ Mv g v v' w w' := by
  have HF := hide (fun m => fa1_any n 0 p (w.drewN m) hc)
  rw [Nat.min_zero] at HF
  have HD := hide (fun m => h.drewN m)
  have HL : Hid (xs.length + ([] : List Nat).length ≤ room) := h.le
  have hs := h.own.shape
  obtain ⟨a1, cap1, hv, _, _, _⟩ := hs
  subst hv
  have c1 := h.c1
  have c2 := h.c2
  have c3 := h.c3
  have s1 := h.soft 1
  have s2 := h.soft 2
  have s3 := h.soft 3
  have hrm := h.r1
  clear h hc
  have hqa : q.add 0 = q := by simp [Addr.add]
  go_enter Tryz.func28, Tryz.ntmps28
  go_wp2
  go_region_law (first
    | (refine step_appL rfl _ _ rfl B _ xs rfl (HD.out 1).own (some q) 0 cap [] rfl rfl (.inl rfl) (by simp) (by have := HL.out; omega) (HD.out 1).BW ?_; intro v7 w7 O7 G7 K7; obtain ⟨a7, n7, p7, rfl⟩ := O7.sl; have L7 := hide ((HD.out 1).lay G7 O7 K7 (by rw [List.length_append]; exact HL.out)); have c7 := (World.cell?_of_block (w := w.drewN 1) (a := ⟨g, 1, none⟩) (G7.block g (HD.out 1).lt (fun e => (HD.out 1).ne e.symm))).trans (HD.out 1).c1; have s7 := (World.frozen?_of_block (w := w.drewN 1) (a := ⟨g, 1, none⟩) (G7.block g (HD.out 1).lt (fun e => (HD.out 1).ne e.symm))).trans ((HD.out 1).soft 1); clear O7 G7 K7)
    | (refine step_fn ent_fa rfl _ _ rfl _ _ _ rfl rfl (HF.out 1) ?_))
  all_goals
    have d2 := L7.out.1.c2
    have d3 := L7.out.1.c3
    have t2 := L7.out.1.soft 2
    have t3 := L7.out.1.soft 3
    have LL := hide (⟨(L7.out.1.set2 true).set3 (.inl ⟨rfl, rfl⟩), (L7.out.2.setg 2 (.bool true)).setg 3 .nilFunc⟩ : _ ∧ _)
    go_wp2
    go_ret
    exact ⟨rfl, _, LL.out.1, ((Mv.refl g _ w).drewN 1).trans LL.out.2⟩
theorem append_cut {B g room n : Nat} {v f : Value} {xs : List Nat} {w : World} (a : Option Addr) (cap : Nat) (ys : List Nat) (hr : RdA w a ys) (hlc : ys.length ≤ cap) (hn : a = none → cap = 0) (hf : xs.length + ys.length ≤ room) (h : Dk w B g v room xs false f (some n)) : Calls Tryz.prog 14 #[.pointer (some ⟨g, 0, none⟩), .slice a ys.length cap] w fun e w' => e = .returned (.int .i64 13) ∧ ∃ v', Dk w' B g v' room (xs ++ ys.take n) true .nilFunc none ∧ Mv g v v' w w' := by
  have H := hide (powered_yes g room false w h.r0 h.c0 h.c2)
  have hfn := run_fn_set
  have HD := hide h
  obtain ⟨p, hf', hcp⟩ : ∃ p, f = .func (Fn.func 121) #[] #[.pointer (some ⟨p, 0, none⟩)] ∧ w.cell? ⟨p, 0, none⟩ = some (.int .i64 n) := by
    rcases h.fn with ⟨e, _⟩ | ⟨n', p, e, _, hp, hc, _⟩
    · cases e
    · cases e; exact ⟨p, hp, hc⟩
  subst hf'
  have HC : Hid (∀ m, Calls Tryz.prog 28 #[.pointer (some ⟨g, 0, none⟩), .slice a ys.length cap] (w.drewN m) fun e w' => e = .returned (.int .i64 13) ∧ ∃ v', Dk w' B g v' room (xs ++ ys.take n) true .nilFunc none ∧ Mv g v v' (w.drewN m) w') := fun m => by
    rcases hr with rfl | ⟨q, off, rfl, hq, hc⟩
    · rw [List.take_nil]
      cases a with
      | none =>
        obtain rfl := hn rfl
        exact cut_none (h.drewN m) hcp
      | some q => exact cut_q q cap (h.drewN m) hcp
    · exact cut_some q off cap ys (.inr ⟨q, off, rfl, hq, hc⟩) hlc hf (h.drewN m) hcp
  have hvs := h.own.shape
  have c0 := h.c0
  have c1 := h.c1
  have c3 := h.c3
  have hr1 := h.r1
  have hl := h.le
  obtain ⟨a1, cap1, hv, _, _, _⟩ := hvs
  have hw : IntKind.i64.wrap ((room : Int) - (xs.length : Int)) = ((room - xs.length : Nat) : Int) := by rw [IntKind.wrap_i64]; omega
  have hd : decide ((ys.length : Int) > ((room - xs.length : Nat) : Int)) = false := by simp; omega
  have hd2 : decide ((room - xs.length : Nat) < ys.length) = false := by simp; omega
  subst hv
  clear h hr hn hf hcp
  generalize room - xs.length = R at *
  go_enter Tryz.func14, Tryz.ntmps14
  go_wp2_with fail
  refine H.out.mono ?_
  rintro e w1 ⟨rfl, hw⟩
  subst hw
  go_wp2
  go_quiet (fail)
  go_wp2_with fail
  refine (HC.out _).mono ?_
  rintro e w2 ⟨rfl, v', hD, hM⟩
  have HD2 := hide hD; have HM2 := hide hM
  clear hD hM
  go_wp2
  go_ret
  exact ⟨rfl, v', HD2.out, ((Mv.refl g _ w1).drewN nq).trans HM2.out⟩
end Go.Proofs.YtgfmkhgdndodkaaGreatDoor
