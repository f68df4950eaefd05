/- Pieces of the proof: CfM. -/
import Derived.Test.YtbemfjdloeipmaaGreatDoorM28
import Derived.Deep.RegionHeld3
/- The end of the document's Meter (chapter 14): what lies there, and its last row's stores in whatever order. -/
namespace Go.Proofs.YtbemfjdloeipmaaGreatDoor
open Go.RowKit

theorem zero7 {W : World} {b : Nat} {t : TypeId} (h : W.heap[b]? = some (.cells zeroC.toArray t (0, 0))) : W.heap[b]? = some (.cells #[.string ⟨#[]⟩, .int .u8 0, .int .i64 0, .int .i64 0, .int .i64 0, .slice none 0 0, .slice none 0 0] t (0, 0)) := h
/- What lies there behind 'out.Last[k] = last'. -/
structure MfV (w W : World) (bv bo n1 n2 : Nat) (v1 v2 : Value) (OUT : Array Value) (V : Int) (CS LS : List Value) : Prop where
  bl : Below w.heap.size w W
  b2 : W.heap[w.heap.size + 1 + 1]? = some (.cells zeroC.toArray 26 (0, 0))
  b3 : W.heap[w.heap.size + 1 + 1 + 1]? = some (.cells #[.int .i64 0, .int .u64 0, .int .u64 0] 29 (0, 0))
  bv : W.heap[bv]? = some (.cells #[.int .i64 1, .int .u64 0, .int .u64 V] 29 (0, 0))
  bo : W.heap[bo]? = some (.cells OUT 26 (0, 0))
  o1 : W.ownsRow (w.heap.size + 4) 29 3 v1 n1 CS
  o2 : W.ownsRow (w.heap.size + 4) 3 1 v2 n2 LS
theorem mf_of {w w3 : World} {bv n1 n2 g2 lc k : Nat} {v1 : Value} (OUT : Array Value) {V : Int} {CS LS : List Value} (z : Value) (bl : Below w.heap.size w w3) (b2 : w3.heap[w.heap.size + 1 + 1]? = some (.cells zeroC.toArray 26 (0, 0))) (b3 : w3.heap[w.heap.size + 1 + 1 + 1]? = some (.cells #[.int .i64 0, .int .u64 0, .int .u64 0] 29 (0, 0))) (hv : w3.heap[bv]? = some (.cells #[.int .i64 1, .int .u64 0, .int .u64 V] 29 (0, 0))) (o1 : w3.ownsRow (w.heap.size + 4) 29 3 v1 n1 CS) (o2 : w3.ownsRow (w.heap.size + 4) 3 1 (.slice (some ⟨g2, 0, none⟩) n2 lc) n2 LS) :
    MfV w ((w3.alloc (.cells OUT 26)).setCell ⟨g2, k, none⟩ z) bv w3.heap.size n1 n2 v1 (.slice (some ⟨g2, 0, none⟩) n2 lc) OUT V CS (LS.set k z) := by
  have hg := World.ownsRow.lt o2 g2 rfl
  obtain ⟨_, cur, hcur, _⟩ := own_open o2
  have hne : bv ≠ g2 := fun e => by subst e; rw [hv] at hcur; injection hcur with hcur; injection hcur with _ ht _; exact absurd ht (by decide)
  have nx : ∀ {b : Nat} {o : Obj}, b ≠ g2 → w3.heap[b]? = some o → ((w3.alloc (.cells OUT 26)).setCell ⟨g2, k, none⟩ z).heap[b]? = some o := fun hb h => (Below.heap_setCell _ _ _ _ hb).trans (((below1 w3 (.cells OUT 26)).block _ (lt_heap h)).trans h)
  have o1' : (w3.alloc (.cells OUT 26)).ownsRow (w.heap.size + 4) 29 3 v1 n1 CS := owR_below o1 (below1 _ _)
  have o2' : (w3.alloc (.cells OUT 26)).ownsRow (w.heap.size + 4) 3 1 (.slice (some ⟨g2, 0, none⟩) n2 lc) n2 LS := owR_below o2 (below1 _ _)
  have hcur' : (w3.alloc (.cells OUT 26)).heap[g2]? = some (.cells cur.toArray 3 (0, 0)) := ((below1 w3 _).block _ (lt_heap hcur)).trans hcur
  have hb4 : Below w.heap.size w (w3.alloc (.cells OUT 26)) := bl.trans ((below1 w3 _).mono bl.size)
  refine ⟨(hb4.setCell (p := ⟨g2, k, none⟩) (by have := hg.1; show _ ≤ g2; omega) z), nx (by omega) b2, nx (by omega) b3, nx hne hv, (Below.heap_setCell _ _ _ _ (by show w3.heap.size ≠ g2; omega)).trans (heap_alloc_new w3 _), own_other o1' hcur' (by decide) ((Fr.refl _ _).set _ _ rfl), (World.ownsRow.stored o2' k z).1⟩
theorem MfV.drew {w W : World} {bv bo n1 n2 : Nat} {v1 v2 : Value} {OUT : Array Value} {V : Int} {CS LS : List Value} (h : MfV w W bv bo n1 n2 v1 v2 OUT V CS LS) : MfV w W.drew bv bo n1 n2 v1 v2 OUT V CS LS := ⟨h.bl.drew, h.b2, h.b3, h.bv, h.bo, World.ownsRow.drew h.o1, World.ownsRow.drew h.o2⟩
structure MfS (w : World) (bv bo n1 n2 : Nat) (v1 v2 : Value) (OUT : Array Value) (V : Int) (CS LS : List Value) (W : World) : Prop where
  bl : Below w.heap.size w W
  b2 : ∃ cur : Array Value, W.heap[w.heap.size + 1 + 1]? = some (.cells cur 26 (0, 0)) ∧ cur.size = 7
  b3 : ∃ cur : Array Value, W.heap[w.heap.size + 1 + 1 + 1]? = some (.cells cur 29 (0, 0)) ∧ cur.size = 3
  bv : W.heap[bv]? = some (.cells #[.int .i64 1, .int .u64 0, .int .u64 V] 29 (0, 0))
  bo : W.heap[bo]? = some (.cells OUT 26 (0, 0))
  o1 : W.ownsRow (w.heap.size + 4) 29 3 v1 n1 CS
  o2 : W.ownsRow (w.heap.size + 4) 3 1 v2 n2 LS
theorem MfV.s {w W : World} {bv bo n1 n2 : Nat} {v1 v2 : Value} {OUT : Array Value} {V : Int} {CS LS : List Value} (h : MfV w W bv bo n1 n2 v1 v2 OUT V CS LS) : MfS w bv bo n1 n2 v1 v2 OUT V CS LS W := ⟨h.bl, ⟨_, h.b2, rfl⟩, ⟨_, h.b3, rfl⟩, h.bv, h.bo, h.o1, h.o2⟩
theorem MfS.st2 {w W W' : World} {bv bo n1 n2 : Nat} {v1 v2 : Value} {OUT : Array Value} {V : Int} {CS LS cs : List Value} (h : MfS w bv bo n1 n2 v1 v2 OUT V CS LS W) (hl : cs.length = 7) (e1 : ¬ bv = w.heap.size + 1 + 1) (e3 : ¬ bo = w.heap.size + 1 + 1) (hw : W' = setAll (w.heap.size + 1 + 1) W 0 cs) : MfS w bv bo n1 n2 v1 v2 OUT V CS LS W' ∧ W'.heap[w.heap.size + 1 + 1]? = some (.cells cs.toArray 26 (0, 0)) ∧ Fr (· = w.heap.size + 1 + 1) W W' := by
  obtain ⟨cur, hc, hs⟩ := h.b2
  have hf := fr_of hw
  have hg := got_of hw hc (by rw [hs, hl])
  obtain ⟨c3, h3, s3⟩ := h.b3
  exact ⟨⟨h.bl.trans (hf.below (fun b e => by omega) h.bl.size), ⟨_, hg, by simp [hl]⟩, ⟨c3, (hf.block _ (lt_heap h3) (by omega)).trans h3, s3⟩, (hf.block _ (lt_heap h.bv) e1).trans h.bv, (hf.block _ (lt_heap h.bo) e3).trans h.bo, own_fr1 h.o1 (by omega) hf, own_fr1 h.o2 (by omega) hf⟩, hg, hf⟩
theorem MfS.st3 {w W W' : World} {bv bo n1 n2 : Nat} {v1 v2 : Value} {OUT : Array Value} {V : Int} {CS LS cs : List Value} (h : MfS w bv bo n1 n2 v1 v2 OUT V CS LS W) (hl : cs.length = 3) (e2 : ¬ bv = w.heap.size + 1 + 1 + 1) (e4 : ¬ bo = w.heap.size + 1 + 1 + 1) (hw : W' = setAll (w.heap.size + 1 + 1 + 1) W 0 cs) : MfS w bv bo n1 n2 v1 v2 OUT V CS LS W' ∧ W'.heap[w.heap.size + 1 + 1 + 1]? = some (.cells cs.toArray 29 (0, 0)) ∧ Fr (· = w.heap.size + 1 + 1 + 1) W W' := by
  obtain ⟨cur, hc, hs⟩ := h.b3
  have hf := fr_of hw
  have hg := got_of hw hc (by rw [hs, hl])
  obtain ⟨c2, h2, s2⟩ := h.b2
  exact ⟨⟨h.bl.trans (hf.below (fun b e => by omega) h.bl.size), ⟨c2, (hf.block _ (lt_heap h2) (by omega)).trans h2, s2⟩, ⟨_, hg, by simp [hl]⟩, (hf.block _ (lt_heap h.bv) e2).trans h.bv, (hf.block _ (lt_heap h.bo) e4).trans h.bo, own_fr1 h.o1 (by omega) hf, own_fr1 h.o2 (by omega) hf⟩, hg, hf⟩
theorem flat_setZ (l : List Int) (k : Nat) (v : Int) : (flat intC l).set k (.int .i64 v) = flat intC (l.set k v) := by
  induction l generalizing k with
  | nil => simp [flat]
  | cons a l ih =>
    have e : ∀ (b : Int) (q : List Int), flat intC (b :: q) = .int .i64 b :: flat intC q := fun b q => by simp [flat, intC]
    cases k with
    | zero => simp only [e, List.set_cons_zero]
    | succ k => simp only [e, List.set_cons_succ, ih]
theorem ev_ne (a : Act) (dst : Option Tmp) (d j : Nat) (v : Value) (hd : dst = some d) (h : d ≠ j) : (a.put dst v).eval (.tmp j) = a.eval (.tmp j) := Act.eval_put (fun e he hx => by rw [hd] at he; cases he; cases hx; exact h rfl)
theorem ev_eq (a : Act) (dst : Option Tmp) (d : Nat) (v : Value) (hd : dst = some d) (h : d < a.tmps.size) : (a.put dst v).eval (.tmp d) = v := by subst hd; simp [Act.put, Act.eval, Array.getD, h]
theorem ev_no (a : Act) (dst : Option Tmp) (v : Value) (x : Operand) (hd : dst = none) : (a.put dst v).eval x = a.eval x := by subst hd; rfl
theorem sz_put (a : Act) (d : Option Tmp) (v : Value) : (a.put d v).tmps.size = a.tmps.size := by cases d <;> simp [Act.put]
theorem df_put (a : Act) (d : Option Tmp) (v : Value) : (a.put d v).defers = a.defers := by cases d <;> simp [Act.put]
theorem exec_loadA {P : Program} {w : World} {o : Oper} {ev : Operand → Value} {t : TypeId} {x : Operand} {b : Nat} {cs : List Value} {e : TypeId} (ho : o.op = .load t x) (hx : ev x = .pointer (some ⟨b, 0, none⟩)) (ha : ∀ w, (isAgg t).run P w = .ok true w) (hs : ∀ w, (sizeOf t).run P w = .ok cs.length w) (hb : w.heap[b]? = some (.cells cs.toArray e (0, 0))) : (execOp ev o).run P w = .ok (.value (.agg cs.toArray)) w := by
  have h2 : (Instr.loadAt t (.pointer (some ⟨b, 0, none⟩))).run P w = .ok (.agg cs.toArray) w := by
    simp [Instr.loadAt, Instr.sureAddr, run_loadA ha hs hb]
  simp [execOp, ho, hx, h2, Result.andThen]
set_option maxHeartbeats 2000000 in
theorem meter_end {w W : World} {bv bo n1 n2 : Nat} {v1 v2 : Value} {V : Int} {CS LS cs7 : List Value} {id : Nat} {Q : Exit → Act → World → Prop} {a : Act} (hl7 : cs7.length = 7) (hone : ∀ v ∈ cs7, v.oneCell' = true)
    (h15 : a.eval (.tmp 15) = .pointer (some ⟨bo, 0, none⟩)) (h14 : a.eval (.tmp 14) = .pointer (some ⟨bv, 0, none⟩)) (h6 : a.eval (.tmp 6) = .pointer (some ⟨w.heap.size + 1 + 1, 0, none⟩)) (h7 : a.eval (.tmp 7) = .pointer (some ⟨w.heap.size + 1 + 1 + 1, 0, none⟩)) (hsz : 100 < a.tmps.size)
    (hS : MfS w bv bo n1 n2 v1 v2 cs7.toArray V CS LS W.drew) (e1 : ¬ (bv = w.heap.size + 1 + 1)) (e2 : ¬ (bv = w.heap.size + 1 + 1 + 1)) (e3 : ¬ (bo = w.heap.size + 1 + 1)) (e4 : ¬ (bo = w.heap.size + 1 + 1 + 1))
    (hQ : ∀ a' w', MfS w bv bo n1 n2 v1 v2 cs7.toArray V CS LS w' → w'.heap[w.heap.size + 1 + 1]? = some (.cells cs7.toArray 26 (0, 0)) → w'.heap[w.heap.size + 1 + 1 + 1]? = some (.cells ([.int .i64 1, .int .u64 0, .int .u64 V] : List Value).toArray 29 (0, 0)) → a'.tmps.getD 6 undef = .pointer (some ⟨w.heap.size + 1 + 1, 0, none⟩) → a'.tmps.getD 7 undef = .pointer (some ⟨w.heap.size + 1 + 1 + 1, 0, none⟩) → a'.tmps.getD 8 undef = .int .i64 0 → a'.defers = a.defers → Q .normal a' w') :
    (Code.region id #[{ dst := some 99, op := .load 26 (.tmp 15), type := 26, pos := "ref.go:175", after := #[], guard := none }, { dst := some 100, op := .load 29 (.tmp 14), type := 29, pos := "ref.go:175", after := #[{ on := 2, ground := .gcOnly .lateStores }], guard := none }, { dst := none, op := .store 26 (.tmp 6) (.tmp 99), type := 0, pos := "ref.go:175", after := #[{ on := 0, ground := .data }, { on := 0, ground := .phase }, { on := 1, ground := .textOnly .lateStores }], guard := none }, { dst := none, op := .store 29 (.tmp 7) (.tmp 100), type := 0, pos := "ref.go:175", after := #[{ on := 1, ground := .data }, { on := 2, ground := .chain }, { on := 0, ground := .phase }, { on := 1, ground := .phase }, { on := 2, ground := .phase }], guard := none }, { dst := some 8, op := .assign (.const (.int .i64 0)), type := 34, pos := "ref.go:175", after := #[{ on := 3, ground := .chain }, { on := 0, ground := .phase }, { on := 1, ground := .phase }, { on := 2, ground := .phase }, { on := 3, ground := .phase }], guard := none }] true).wp Tryz.prog Q a W := by
  refine wp_region_noPanic ?_
  refine wp_region_held_drew (S := MfS w bv bo n1 n2 v1 v2 cs7.toArray V CS LS) (by kernel_rfl) hS (fun hHeld => ?_)
  generalize W.drew = wd at *
  refine wpAnyH_take (i := 0) (v := .agg cs7.toArray) rfl (by kernel_rfl) (by kernel_rfl) (by kernel_rfl) (fun _ _ _ h => h) (Or.inl ⟨by rfl, ?_⟩) hHeld ?_
  · intro w' hSw
    exact exec_loadA (x := .tmp 15) rfl h15 agg33 (by rw [hl7]; exact sz33) hSw.bo
  refine wpAnyH_take (i := 1) (v := .agg #[.int .i64 1, .int .u64 0, .int .u64 V]) rfl (by kernel_rfl) (by kernel_rfl) (by kernel_rfl) (fun _ _ _ h => h) (Or.inl ⟨by rfl, ?_⟩) hHeld ?_
  · intro w' hSw
    exact exec_loadA (x := .tmp 14) (cs := [.int .i64 1, .int .u64 0, .int .u64 V]) rfl ((ev_ne _ _ 99 14 _ rfl (by decide)).trans h14) aggNb szNb hSw.bv
  refine wpAnyH_ready (rs := [2]) (by kernel_rfl) (by simp) ?_
  refine AllReadyH.cons rfl (fun K hK => ?_) AllReadyH.nil
  obtain ⟨cu, hcu, hcs⟩ := hHeld.b2
  refine step_storeA rfl 26 _ _ rfl (w.heap.size + 1 + 1) cs7 cu 26 ((ev_ne _ _ 100 6 _ rfl (by decide)).trans ((ev_ne _ _ 99 6 _ rfl (by decide)).trans h6)) ((ev_ne _ _ 100 99 _ rfl (by decide)).trans (ev_eq _ _ 99 _ rfl (by omega))) (by rw [hl7]; exact sz33) hcu (by rw [hcs, hl7]) hone ?_
  intro w9 hw
  have sw9 := hHeld.st2 (cs := cs7) hl7 e1 e3 hw
  refine hK.out _ _ sw9.1 (fun _ => ?_)
  clear hK K
  refine wpAnyH_ready (rs := [3]) (by kernel_rfl) (by simp) ?_
  refine AllReadyH.cons rfl (fun K hK => ?_) AllReadyH.nil
  clear hcu hcs hw
  obtain ⟨cu, hcu, hcs⟩ := sw9.1.b3
  refine step_storeA rfl 29 _ _ rfl (w.heap.size + 1 + 1 + 1) [.int .i64 1, .int .u64 0, .int .u64 V] cu 29 ((ev_no _ _ _ _ rfl).trans ((ev_ne _ _ 100 7 _ rfl (by decide)).trans ((ev_ne _ _ 99 7 _ rfl (by decide)).trans h7))) ((ev_no _ _ _ _ rfl).trans (ev_eq _ _ 100 _ rfl (by rw [sz_put]; omega))) szNb hcu hcs (nb_one ⟨1, 0, V⟩) ?_
  intro w10 hw
  have sw10 := sw9.1.st3 (cs := [.int .i64 1, .int .u64 0, .int .u64 V]) rfl e2 e4 hw
  refine hK.out _ _ sw10.1 (fun _ => ?_)
  clear hK K
  refine wpAnyH_take (i := 4) (v := .int .i64 0) rfl (by kernel_rfl) (by kernel_rfl) (by kernel_rfl) (fun _ _ _ h => h) (Or.inl ⟨by rfl, ?_⟩) sw10.1 ?_
  · intro w' _
    rfl
  refine wpAnyH_done (by kernel_rfl) ?_ _
  refine NoPanic.normal ?_
  refine hQ _ _ sw10.1 ((sw10.2.2.block _ (lt_heap sw9.2.1) (by omega)).trans sw9.2.1) sw10.2.1 ?_ ?_ ?_ ?_
  · exact (ev_ne _ _ 8 6 _ rfl (by decide)).trans ((ev_no _ _ _ _ rfl).trans ((ev_no _ _ _ _ rfl).trans ((ev_ne _ _ 100 6 _ rfl (by decide)).trans ((ev_ne _ _ 99 6 _ rfl (by decide)).trans h6))))
  · exact (ev_ne _ _ 8 7 _ rfl (by decide)).trans ((ev_no _ _ _ _ rfl).trans ((ev_no _ _ _ _ rfl).trans ((ev_ne _ _ 100 7 _ rfl (by decide)).trans ((ev_ne _ _ 99 7 _ rfl (by decide)).trans h7))))
  · exact ev_eq _ _ 8 _ rfl (by rw [sz_put, sz_put, sz_put, sz_put]; omega)
  · rw [df_put, df_put, df_put, df_put, df_put]
end Go.Proofs.YtbemfjdloeipmaaGreatDoor
