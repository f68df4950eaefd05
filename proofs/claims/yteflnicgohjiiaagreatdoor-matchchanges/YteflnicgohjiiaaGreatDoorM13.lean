/- Pieces of the proof: MtS, MtT. -/
import Derived.Test.YteflnicgohjiiaaGreatDoorM12
/- package match: the iterator over the entries that match. -/
namespace Go.Proofs.YteflnicgohjiiaaGreatDoor
open Go.RowKit Go.Shelf

attribute [local go_sem] Oper.semAt_some
/- What a round keeps: all below n₀, but one block. -/
structure Kq (n₀ b8 : Nat) (A B : World) : Prop where
  os : B.os = A.os
  tape : B.tape = A.tape
  output : B.output = A.output
  size : A.heap.size ≤ B.heap.size
  block : ∀ b, b < n₀ → b ≠ b8 → B.heap[b]? = A.heap[b]?
theorem Kq.refl (n₀ b8 : Nat) (A : World) : Kq n₀ b8 A A := ⟨rfl, rfl, rfl, Nat.le_refl _, fun _ _ _ => rfl⟩
theorem Kq.t {n₀ b8 : Nat} {A B C : World} (h : Kq n₀ b8 A B) (k : Kq n₀ b8 B C) : Kq n₀ b8 A C :=
  ⟨k.os.trans h.os, k.tape.trans h.tape, k.output.trans h.output, Nat.le_trans h.size k.size, fun b hb he => (k.block b hb he).trans (h.block b hb he)⟩
theorem Kq.ofBelow {n₀ b8 : Nat} {A B : World} (h : Below A.heap.size A B) (hn : n₀ ≤ A.heap.size) : Kq n₀ b8 A B := ⟨h.os, h.tape, h.output, h.size, fun b hb _ => h.block b (by omega)⟩
theorem Kq.b {n₀ b8 : Nat} {w : World} (hn : n₀ ≤ w.heap.size) (W : World) (l : Nat) (o o' : Obj) (hl : w.heap.size ≤ l) (h : W.heap[l]? = some o) (h1 : o.isCells = false) (h2 : o.isWalk = false) : Kq n₀ b8 W (W.putObj l o') := by
  have := belowK_b hn W l o o' hl h h1 h2
  exact ⟨this.os, this.tape, this.output, this.size, fun b hb _ => this.block b hb⟩
theorem Kq.below {n₀ b8 : Nat} {w A B : World} (hw : Below w.heap.size w A) (h : Kq n₀ b8 A B) (h1 : w.heap.size ≤ n₀) (h2 : w.heap.size ≤ b8) : Below w.heap.size w B :=
  ⟨h.os.trans hw.os, h.tape.trans hw.tape, h.output.trans hw.output, Nat.le_trans hw.size h.size, fun b hb => (h.block b (by omega) (by omega)).trans (hw.block b hb)⟩
/- The places of those of a list for which something holds. -/
def idxsTo {α : Type} (P : α → Bool) (l : List α) : Nat → List Nat
  | 0 => []
  | k + 1 => idxsTo P l k ++ (if h : k < l.length then (if P l[k] then [k] else []) else [])
theorem idxsTo_len {α : Type} (P : α → Bool) (l : List α) : ∀ k, (idxsTo P l k).length ≤ k
  | 0 => Nat.le_refl _
  | k + 1 => by
    have := idxsTo_len P l k
    rw [idxsTo, List.length_append]
    split
    · split <;> simp <;> omega
    · simp; omega
def Hx {α : Type} (P : α → Bool) (l : List α) : Type := { k : Nat // ∃ h : k < l.length, P l[k] = true }
def hv {α : Type} {P : α → Bool} {l : List α} (ys : List (Hx P l)) : List Nat := ys.map (·.1)
def mkHx {α : Type} {P : α → Bool} {l : List α} {k : Nat} (h : k < l.length) (hp : P l[k] = true) : Hx P l := ⟨k, h, hp⟩
theorem mkHx_val {α : Type} {P : α → Bool} {l : List α} {k : Nat} (h : k < l.length) (hp : P l[k] = true) : (mkHx h hp).1 = k := rfl
theorem hv_snoc {α : Type} {P : α → Bool} {l : List α} (ys : List (Hx P l)) (x : Hx P l) : hv (ys ++ [x]) = hv ys ++ [x.1] := by simp [hv]
theorem hv_len {α : Type} {P : α → Bool} {l : List α} (ys : List (Hx P l)) : (hv ys).length = ys.length := by simp [hv]
def encH {α : Type} (P : α → Bool) (l : List α) (x : Hx P l) : Array Value := #[.int .i64 (x.1 : Nat)]
theorem grown_of_below {W W' : World} (h : Below W.heap.size W W') : W.grownBy W' none := ⟨h.os, h.tape, h.output, h.size, fun b hb _ => h.block b hb⟩
theorem Mg.kp {W W' : World} {x : TbL} {la ka : Option Addr} {ln lc kn kc tb lb kb rb hb n₀ b8 : Nat} (h : Mg W x la ln lc ka kn kc tb lb kb rb hb) (hk : Kq n₀ b8 W W') (h1 : tb < n₀ ∧ tb ≠ b8) (h2 : lb < n₀ ∧ lb ≠ b8) (h3 : kb < n₀ ∧ kb ≠ b8) (h4 : rb < n₀ ∧ rb ≠ b8) (h5 : hb < n₀ ∧ hb ≠ b8) : Mg W' x la ln lc ka kn kc tb lb kb rb hb :=
  ⟨(hk.block _ h1.1 h1.2).trans h.t, (hk.block _ h2.1 h2.2).trans h.l, (hk.block _ h3.1 h3.2).trans h.k, (hk.block _ h4.1 h4.2).trans h.r, (hk.block _ h5.1 h5.2).trans h.h⟩
/- What matching was given. -/
structure Mi (w : World) (x : TbL) (la : Option Addr) (lc : Nat) (es : List EnL) (ka : Option Addr) (kc : Nat) (keys : List Nb) : Prop where
  t : TbR w x
  l : RdE w la es
  k : RdN w ka keys
  kr : ∀ b ∈ keys, NbR b
  may : tabMay x.t = true
  kl : keys.length = x.t.ks.length
  n : es.length ≤ 1000000
theorem each_hits {w W : World} {x : TbL} {la : Option Addr} {lc : Nat} {es : List EnL} {ka : Option Addr} {kc : Nat} {keys : List Nb} {tb lb kb rb hb : Nat} (hi : Mi w x la lc es ka kc keys) (hW : Below w.heap.size w W) (hm : Mg W x la es.length lc ka keys.length kc tb lb kb rb hb) (y : EnL) (hy : EnR W y) (hl : y.e.ms.length = keys.length) :
    Calls Tryz.prog 221 #[.slice y.ma y.e.ms.length y.mc, .func (.func 219) #[] #[.pointer (some ⟨kb, 0, none⟩), .pointer (some ⟨rb, 0, none⟩), .pointer (some ⟨tb, 0, none⟩)]] W fun e w' => e = .returned (.bool (hitB x.t keys y.e)) ∧ Below W.heap.size W w' := by
  have E : hitB x.t keys y.e = allI (mtB x.t keys) 0 y.e.ms := by simp [hitB, hl]
  rw [E]
  obtain ⟨r1, r2, r3⟩ := tab_row hi.may
  refine each_mat (mtB x.t keys) kb rb tb y.ma y.mc y.e.ms W hy.ms (by have := hy.mn; omega) (fun i h W' hb' => ?_)
  have h1 : i < x.t.ks.length := by have := hi.kl; omega
  have h2 : i < keys.length := by omega
  obtain ⟨k1, k2, -, -⟩ := kOk_yes (r3 i h1 (by omega))
  exact matAt_any x keys ka kc tb rb kb i y.e.ms[i] (hy.mr _ (List.getElem_mem h)) W' (hi.t.below (bstep hW hb')) (hi.k.below (bstep hW hb')) hi.kr (hm.t.below hb') (hm.r.below hb') (hm.k.below hb') h1 h2 k1 k2
set_option maxRecDepth 100000 in
set_option maxHeartbeats 4000000 in
theorem match2_in (n : Nat) (hn : 1 ≤ n) (lp n₀ b8 : Nat) {w : World} {x : TbL} {la : Option Addr} {lc : Nat} {es : List EnL} {ka : Option Addr} {kc : Nat} {keys : List Nb} {tb lb kb rb hb : Nat} (hi : Mi w x la lc es ka kc keys)
    (P : EnL → Bool) (hP : P = fun y => hitB x.t keys y.e) (J Jx : List (Hx P es) → World → Prop) (W : World) (hW : Below w.heap.size w W) (hm : Mg W x la es.length lc ka keys.length kc tb lb kb rb hb) (hJa : AbidesFrom W.heap.size J)
    (g0 : w.heap.size ≤ n₀) (g1 : w.heap.size ≤ b8) (g2 : n₀ ≤ W.heap.size) (h1 : tb < n₀ ∧ tb ≠ b8) (h2 : lb < n₀ ∧ lb ≠ b8) (h3 : kb < n₀ ∧ kb ≠ b8) (h4 : rb < n₀ ∧ rb ≠ b8) (h5 : hb < n₀ ∧ hb ≠ b8)
    (hY : ∀ pre x W, J pre W → pre.length < es.length → YieldAt Fence.wide (n - 1) Tryz.prog lp (encH P es x) W fun e W' => (e = .returned (.bool true) ∧ J (pre ++ [x]) W' ∧ Kq n₀ b8 W W') ∨ (e = .returned (.bool false) ∧ Jx (pre ++ [x]) W'))
    (hJ : J [] W) :
    CallsIn Fence.wide n Tryz.prog 220 #[.func (.yield lp) #[] #[], .pointer (some ⟨lb, 0, none⟩), .pointer (some ⟨kb, 0, none⟩), .pointer (some ⟨hb, 0, none⟩)] W fun e W' => (∃ v, e = .returned v) ∧ ((∃ ys, hv ys = idxsTo P es es.length ∧ J ys W') ∨ (∃ pre, True ∧ Jx pre W')) := by
  have HM : Hid (∀ wr, Kq n₀ b8 W wr → Mg wr x la es.length lc ka keys.length kc tb lb kb rb hb ∧ Below w.heap.size w wr) := fun wr hk => ⟨hm.kp hk h1 h2 h3 h4 h5, Kq.below hW hk g0 g1⟩
  have HL := hide (at1 hm.l).1
  have HI := hide hi
  have HN := hide hi.n
  have HJA := hide hJa
  have HY := hide hY
  have HG := hide g2
  have HP := hide hP
  have l0 := (at1 hm.l).1
  clear hi hm hW hJa hY g0 g1 g2 h1 h2 h3 h4 h5 hP
  refine callsIn_of_wp Tryz.func220 rfl trivial ?_ rfl
  simp only [Tryz.ntmps220, List.size_toArray, List.length_cons, List.length_nil, Nat.reduceAdd, Nat.reduceSub, Array.replicate_succ, Array.replicate_zero, List.push_toArray, List.append_toArray, List.nil_append, List.cons_append]
  gi_wp2
  gi_loopw [9] (fun i wr => ∃ (pre : List (Hx P es)) (k : Nat), k ≤ es.length ∧ i = .int .i64 k ∧ hv pre = idxsTo P es k ∧ J pre wr ∧ Kq n₀ b8 W wr) (fun i _ => es.length - (intOf i).toNat)
  case atStart => exact ⟨[], 0, by omega, rfl, rfl, hJ, Kq.refl _ _ _⟩
  case round =>
    obtain ⟨pre, k, hk, rfl, hpre, hj, hkq⟩ := hrel
    have HPre := hide hpre
    have HJ := hide hj
    have HK := hide hkq
    clear hpre hj hkq hJ l0
    by_cases hlt : k < es.length
    · have hlI : (k : Int) < (es.length : Int) := by omega
      have hkb : k < 1000000 := by have := HN.out; omega
      obtain ⟨mg, bw⟩ := HM.out wr HK.out
      obtain ⟨p, off, rfl, hp, hcl⟩ := (HI.out.l.below bw).some (by omega)
      obtain ⟨q0, q1, q2, q3⟩ := hcl k hlt
      have c1 := fun o => (at1 (heap_past o mg.k)).1
      have c2 := fun o => (at1 (heap_past o mg.h)).1
      have hyr := (HI.out.l.ok _ (List.getElem_mem hlt)).below bw
      have HE : Hid (es[k].e.ms.length = keys.length → ∀ o, Calls Tryz.prog 221 #[.slice es[k].ma es[k].e.ms.length es[k].mc, .func (.func 219) #[] #[.pointer (some ⟨kb, 0, none⟩), .pointer (some ⟨rb, 0, none⟩), .pointer (some ⟨tb, 0, none⟩)]] (wr.alloc o) fun e w' => e = .returned (.bool (P es[k])) ∧ Below (wr.alloc o).heap.size (wr.alloc o) w') := fun hl o => by
        rw [HP.out]
        exact each_hits HI.out (bstep bw (below1 _ _)) (mg.kp (n₀ := wr.heap.size) (b8 := wr.heap.size + 1) (Kq.ofBelow (below1 _ _) (Nat.le_refl _)) ⟨lt_heap mg.t, by have := lt_heap mg.t; omega⟩ ⟨lt_heap mg.l, by have := lt_heap mg.l; omega⟩ ⟨lt_heap mg.k, by have := lt_heap mg.k; omega⟩ ⟨lt_heap mg.r, by have := lt_heap mg.r; omega⟩ ⟨lt_heap mg.h, by have := lt_heap mg.h; omega⟩) es[k] (hyr.below (below1 _ _)) hl
      have HQ0 : Hid (es[k].e.ms.length ≠ keys.length → P es[k] = false) := fun hl => by rw [HP.out]; simp [hitB, hl]
      have HID : Hid (∀ b, P es[k] = b → idxsTo P es (k + 1) = idxsTo P es k ++ (if b then [k] else [])) := fun b hb => by simp [idxsTo, hlt, hb]
      have HYK : Hid (P es[k] = true → ∀ W1, J pre W1 → YieldAt Fence.wide (n - 1) Tryz.prog lp #[.int .i64 k] W1 fun e W' => (e = .returned (.bool true) ∧ (∃ pre', hv pre' = idxsTo P es (k + 1) ∧ J pre' W') ∧ Kq n₀ b8 W1 W') ∨ (e = .returned (.bool false) ∧ ∃ pre', Jx pre' W')) := fun hp W1 hj1 => by
        have hlen : pre.length < es.length := by have h1 := idxsTo_len P es k; rw [← HPre.out, hv_len] at h1; omega
        obtain ⟨fn, tmps, assign, body, hy, hYR⟩ := HY.out pre (mkHx hlt hp) W1 hj1 hlen
        refine ⟨fn, tmps, assign, body, hy, hYR.mono ?_⟩
        rintro e W' (⟨e1, e2, e3⟩ | ⟨e1, e2⟩)
        · exact .inl ⟨e1, ⟨_, by rw [hv_snoc, HPre.out, HID.out _ hp, mkHx_val]; rfl, e2⟩, e3⟩
        · exact .inr ⟨e1, _, e2⟩
      have JG : Hid (∀ w5, Below wr.heap.size wr w5 → J pre w5 ∧ Kq n₀ b8 W w5) := fun w5 hb5 => ⟨HJA.out pre wr w5 none HJ.out (grown_of_below hb5) (fun r e => by cases e), HK.out.t (Kq.ofBelow hb5 (Nat.le_trans HG.out HK.out.size))⟩
      clear mg bw hcl hyr hp
      generalize P es[k] = t at *
      generalize es[k] = y at *
      obtain ⟨⟨ms, prio, act, args⟩, ma, mc, aa, ac⟩ := y
      simp only at q0 q1 q2 q3 HE HQ0
      by_cases hlen : ms.length = keys.length
      · have hE := HE.out hlen
        have HE2 := hide hE
        have f1 : ((ms.length : Int) == (keys.length : Int)) = true := by simp [hlen]
        have f2 : ((ms.length : Int) = (keys.length : Int)) := by omega
        clear hE HE HQ0 hlen
        cases t
        · gi_wp2_with fail
          refine ⟨trivial, (callsIn_wide.2 (HE2.out _)).mono ?_⟩
          rintro e w5 ⟨rfl, hb⟩
          obtain ⟨j5, k5⟩ := JG.out w5 (bstep (below1 _ _) hb)
          have J5 := hide j5
          have K5 := hide k5
          have HI5 := hide (HID.out false (by first | rfl | trivial))
          clear hb j5 k5
          gi_wp2
          refine ⟨fun f h => by (cases h), ?_⟩
          rename_i hK _ _ _ _
          refine hK _ _ ?_
          clear hK
          gi_wp2
          exact ⟨⟨pre, k + 1, by omega, by go_num, by rw [HI5.out, HPre.out]; simp, J5.out, K5.out⟩, by simp [intOf]; omega⟩
        · gi_wp2_with fail
          refine ⟨trivial, (callsIn_wide.2 (HE2.out _)).mono ?_⟩
          rintro e w5 ⟨rfl, hb⟩
          obtain ⟨j5, k5⟩ := JG.out w5 (bstep (below1 _ _) hb)
          have K5 := hide k5
          obtain ⟨fn, tmps, assign, body, hy, hYR⟩ := HYK.out (by first | rfl | trivial) w5 j5
          have HYR := hide hYR
          clear hb j5 k5 hYR
          gi_wp2
          refine HYR.out.mono ?_
          rintro e W3 (⟨rfl, ⟨pre', h1, h2⟩, h3⟩ | ⟨rfl, pre', h1⟩)
          · have H1 := hide h1
            have H2 := hide h2
            have H3 := hide (K5.out.t h3)
            clear h1 h2 h3
            gi_wp2
            exact ⟨⟨pre', k + 1, by omega, by go_num, H1.out, H2.out, H3.out⟩, by simp [intOf]; omega⟩
          · gi_wp2
            refine bodyPost_ret (results_none rfl _ _ _) rfl ?_
            exact ⟨⟨_, rfl⟩, .inr ⟨_, trivial, h1⟩⟩
      · have f1 : ((ms.length : Int) == (keys.length : Int)) = false := by simp; omega
        have f2 : ((ms.length : Int) = (keys.length : Int)) = False := by simp; omega
        have f3 : (ms.length = keys.length) = False := by simp; omega
        obtain rfl : t = false := HQ0.out hlen
        obtain ⟨j5, k5⟩ := JG.out (wr.alloc (.cells #[.slice ma ms.length mc, .int .i64 prio, .string act, .slice aa args.length ac] 30)) (below1 _ _)
        have J5 := hide j5
        have K5 := hide k5
        have HI5 := hide (HID.out false (by first | rfl | trivial))
        clear j5 k5 HE HQ0 hlen
        gi_wp2
        refine ⟨trivial, ?_⟩
        rename_i hK
        refine hK _ _ ?_
        clear hK
        gi_wp2
        refine ⟨fun f h => by (cases h), ?_⟩
        rename_i hK _ _ _ _
        refine hK _ _ ?_
        clear hK
        gi_wp2
        exact ⟨⟨pre, k + 1, by omega, by go_num, by rw [HI5.out, HPre.out]; simp, J5.out, K5.out⟩, by simp [intOf]; omega⟩
    · obtain rfl : k = es.length := by omega
      gi_wp2
      refine bodyPost_end (results_none rfl _ _ _) rfl ?_
      exact ⟨⟨_, rfl⟩, .inl ⟨pre, HPre.out, HJ.out⟩⟩
end Go.Proofs.YteflnicgohjiiaaGreatDoor
/- package match: Find. -/
namespace Go.Proofs.YteflnicgohjiiaaGreatDoor
open Go.RowKit Go.Shelf

attribute [local go_sem] Oper.semAt_some
theorem kept_cells {W W' : World} {b : Nat} {cs : Array Value} {t : TypeId} {row : Option Nat} (h : W.heap[b]? = some (.cells cs t (0, 0))) (hg : W.grownBy W' row) (hr : ∀ r, row = some r → ∃ o : Obj, W.heap[r]? = some o ∧ o.isCells = false) : W'.heap[b]? = some (.cells cs t (0, 0)) := by
  refine (hg.block b (lt_heap h) (fun e => ?_)).trans h
  obtain ⟨o, ho, hc⟩ := hr b e.symm
  rw [h] at ho; cases ho; cases hc
theorem KeepsOthers.ofBelow {W W' : World} (h : Below W.heap.size W W') : KeepsOthers W W' := KeepsOthers.of_grownBy (grown_of_below h) (fun j o e => by cases e)
theorem heap_set1 {W : World} {b : Nat} {x v : Value} {t : TypeId} (h : W.heap[b]? = some (.cells #[x] t (0, 0))) : (W.setCell ⟨b, 0, none⟩ v).heap[b]? = some (.cells #[v] t (0, 0)) := heap_setCell_same h v
def bestC : Option Nat → Int
  | none => -1
  | some k => k
def pickB (wt : Nat → Int) (b : Option Nat) (k : Nat) : Option Nat :=
  match b with
  | none => some k
  | some j => if wt j < wt k then some k else some j
def bestL (wt : Nat → Int) (ys : List Nat) : Option Nat := ys.foldl (pickB wt) none
theorem bestL_snoc (wt : Nat → Int) (ys : List Nat) (k : Nat) : bestL wt (ys ++ [k]) = pickB wt (bestL wt ys) k := by simp [bestL]
theorem bestL_mem (wt : Nat → Int) : ∀ (ys : List Nat) (b : Option Nat) (j : Nat), ys.foldl (pickB wt) b = some j → j ∈ ys ∨ b = some j
  | [], b, j, h => .inr h
  | k :: ys, b, j, h => by
    rcases bestL_mem wt ys (pickB wt b k) j h with h | h
    · exact .inl (by simp [h])
    · cases b with
      | none => simp [pickB] at h; exact .inl (by simp [h])
      | some i =>
        simp only [pickB] at h
        split at h
        · injection h with h; exact .inl (by simp [h])
        · exact .inr h
def wtAt (t : Tb) (es : List EnL) (k : Nat) : Int := if h : k < es.length then wtI t es[k].e else 0
theorem hv_hit {P : EnL → Bool} {es : List EnL} (ys : List (Hx P es)) (j : Nat) (h : j ∈ hv ys) : ∃ hj : j < es.length, P es[j] = true := by
  obtain ⟨x, _, rfl⟩ := List.mem_map.1 h
  exact x.2
theorem best_hit {P : EnL → Bool} {es : List EnL} {wt : Nat → Int} (ys : List (Hx P es)) (j : Nat) (h : bestL wt (hv ys) = some j) : ∃ hj : j < es.length, P es[j] = true := by
  rcases bestL_mem wt _ _ _ h with h | h
  · exact hv_hit ys j h
  · cases h
structure FiI (W : World) (b4 b7 b8 : Nat) (la : Option Addr) (ln lc : Nat) (fv : Value) (t : Tb) (o : Option Nat) : Prop where
  best : W.heap[b8]? = some (.cells #[.int .i64 (bestC o)] 3 (0, 0))
  fn : W.heap[b7]? = some (.cells #[fv] 80 (0, 0))
  lb : W.heap[b4]? = some (.cells #[.slice la ln lc] 26 (0, 0))
  wf : WfV t fv W
theorem WfV.kept {W W' : World} {t : Tb} {fv : Value} {row : Option Nat} (h : WfV t fv W) (hg : W.grownBy W' row) (hr : ∀ r, row = some r → ∃ o : Obj, W.heap[r]? = some o ∧ o.isCells = false) : WfV t fv W' := by
  rcases h with h | ⟨h1, k, b, h2, h3, h4⟩ | h
  · exact .inl h
  · exact .inr (.inl ⟨h1, k, b, h2, h3, kept_cells h4 hg hr⟩)
  · exact .inr (.inr h)
theorem FiI.kept {W W' : World} {b4 b7 b8 : Nat} {la : Option Addr} {ln lc : Nat} {fv : Value} {t : Tb} {o : Option Nat} {row : Option Nat} (h : FiI W b4 b7 b8 la ln lc fv t o) (hg : W.grownBy W' row) (hr : ∀ r, row = some r → ∃ o : Obj, W.heap[r]? = some o ∧ o.isCells = false) : FiI W' b4 b7 b8 la ln lc fv t o :=
  ⟨kept_cells h.best hg hr, kept_cells h.fn hg hr, kept_cells h.lb hg hr, h.wf.kept hg hr⟩
def findB (t : Tb) (keys : List Nb) : Bool := tabMay t && (keys.length == t.ws.length && allI (fun i k => wide k (t.ws.getD i 0)) 0 keys)
def findI (t : Tb) (es : List EnL) (keys : List Nb) : Int := if findB t keys then bestC (bestL (wtAt t es) (idxsTo (fun y : EnL => hitB t keys y.e) es es.length)) else -1
set_option maxHeartbeats 2000000 in
theorem find_no (x : TbL) (la : Option Addr) (lc : Nat) (es : List EnL) (ka : Option Addr) (kc : Nat) (keys : List Nb) (w : World) (hx : TbR w x) (hk : RdN w ka keys) (hkr : ∀ b ∈ keys, NbR b) (hkn : keys.length ≤ 1000000) (hb : findB x.t keys = false) :
    Calls Tryz.prog 25 #[x.val, .slice la es.length lc, .slice ka keys.length kc] w fun e w' => e = .returned (.int .i64 (-1)) ∧ Below w.heap.size w w' := by
  have HT : Hid (∀ W, Below w.heap.size w W → _) := fun W hb => tableMayBe_any x W (hx.below hb)
  have HE : Hid (∀ W, Below w.heap.size w W → _) := fun W hb => equalFunc_any ka x.wa kc x.wc keys x.t.ws W (hk.below hb) (hx.ws.below hb) hkr (by omega)
  unfold findB at hb
  clear hx hk hkr hkn
  generalize tabMay x.t = t1 at *
  generalize (keys.length == x.t.ws.length && allI (fun i k => wide k (x.t.ws.getD i 0)) 0 keys) = t2 at *
  obtain ⟨⟨ks, ws, size⟩, xka, xkc, xwa, xwc⟩ := x
  simp only [TbL.val] at *
  cases t1
  · clear hb
    refine (callsIn_wide (n := 6)).1 ?_
    refine callsIn_of_wp_marks Tryz.func25 rfl trivial ?_ rfl
    simp only [Tryz.ntmps25, List.size_toArray, List.length_cons, List.length_nil, Nat.reduceAdd, Nat.reduceSub, Array.replicate_succ, Array.replicate_zero, List.push_toArray, List.append_toArray, List.nil_append, List.cons_append]
    gi_wp2_with fail
    refine ⟨trivial, (callsIn_wide.2 (HT.out _ (below2 _ _ _))).mono ?_⟩
    rintro e w1 ⟨rfl, hb⟩
    have B1 := hide (bstep (below2 _ _ _) hb)
    clear hb
    gi_wp2
    refine ⟨trivial, ?_⟩
    rename_i hK
    refine hK _ _ ?_
    clear hK
    gi_wp2
    exact ⟨_, results_tmp rfl _ _ _, rfl, B1.out⟩
  · obtain rfl : t2 = false := by simpa using hb
    clear hb
    refine (callsIn_wide (n := 6)).1 ?_
    refine callsIn_of_wp_marks Tryz.func25 rfl trivial ?_ rfl
    simp only [Tryz.ntmps25, List.size_toArray, List.length_cons, List.length_nil, Nat.reduceAdd, Nat.reduceSub, Array.replicate_succ, Array.replicate_zero, List.push_toArray, List.append_toArray, List.nil_append, List.cons_append]
    gi_wp2_with fail
    refine ⟨trivial, (callsIn_wide.2 (HT.out _ (below2 _ _ _))).mono ?_⟩
    rintro e w1 ⟨rfl, hb⟩
    have B1 := hide (bstep (below2 _ _ _) hb)
    obtain ⟨c0, c1, c2, -⟩ := at3 (heap_below hb (heap_past _ (heap_alloc_new _ _)))
    clear hb
    gi_wp2_with fail
    refine ⟨trivial, (callsIn_wide.2 (HE.out _ B1.out)).mono ?_⟩
    rintro e w2 ⟨rfl, hb2⟩
    have B2 := hide (bstep B1.out hb2)
    clear hb2
    gi_wp2
    exact ⟨_, results_tmp rfl _ _ _, rfl, B2.out⟩
end Go.Proofs.YteflnicgohjiiaaGreatDoor
