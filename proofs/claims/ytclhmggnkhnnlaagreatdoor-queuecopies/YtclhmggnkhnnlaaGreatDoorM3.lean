/- Pieces of the proof: LwM. -/
import Derived.Test.YtclhmggnkhnnlaaGreatDoorM2
import Derived.Laws.IdiomCopy
/- Structs that are loaded and stored whole: one law each. -/
namespace Go.Proofs.YtclhmggnkhnnlaaGreatDoor
open Go.RowKit

theorem add8 (p off j : Nat) : (⟨p, off, none⟩ : Addr).add j = ⟨p, off + j, none⟩ := by
  unfold Addr.add; split
  · rename_i h; simp_all
  · rfl
theorem heap_setCell_same {W : World} {g k : Nat} {cur : Array Value} {t : TypeId} {fr : Nat × Nat} (h : W.heap[g]? = some (.cells cur t fr)) (v : Value) : (W.setCell ⟨g, k, none⟩ v).heap[g]? = some (.cells (cur.setIfInBounds k v) t fr) := by
  simp [World.setCell, Array.getElem?_modify, h]
/- All cells of a block are written, one behind the other. -/
def setAll (b : Nat) : World → Nat → List Value → World
  | W, _, [] => W
  | W, o, x :: xs => setAll b (W.setCell ⟨b, o, none⟩ x) (o + 1) xs
theorem fr_all (b : Nat) : ∀ (cs : List Value) (W : World) (o : Nat), Fr (· = b) W (setAll b W o cs)
  | [], W, _ => Fr.refl _ W
  | x :: xs, W, o => ((Fr.refl (· = b) W).set ⟨b, o, none⟩ x rfl).trans (fr_all b xs _ _) (fun _ _ e => e)
theorem got_all (b : Nat) (t : TypeId) : ∀ (cs : List Value) (W : World) (o : Nat) (ys : Array Value), W.heap[b]? = some (.cells ys t (0, 0)) → ys.size = o + cs.length → (setAll b W o cs).heap[b]? = some (.cells (ys.toList.take o ++ cs).toArray t (0, 0))
  | [], W, o, ys, h, hs => by
    have e : (ys.toList.take o ++ ([] : List Value)).toArray = ys := by rw [List.append_nil, List.take_of_length_le (by simp at hs; simp; omega)]
    rw [e]; exact h
  | x :: xs, W, o, ys, h, hs => by
    have h1 := heap_setCell_same (k := o) h x
    have := got_all b t xs (W.setCell ⟨b, o, none⟩ x) (o + 1) (ys.setIfInBounds o x) h1 (by simp at hs ⊢; omega)
    rw [setAll, this]
    have ho : o < ys.toList.length := by simp at hs ⊢; omega
    rw [Array.toList_setIfInBounds, List.take_set, List.take_succ_eq_append_getElem ho, List.set_append_right _ _ (by simp; omega)]
    have e : o - (List.take o ys.toList).length = 0 := by rw [List.length_take]; omega
    rw [e, List.set_cons_zero, List.append_assoc]
    rfl
theorem got0 {b : Nat} {t : TypeId} {cs : List Value} {W : World} {ys : Array Value} (h : W.heap[b]? = some (.cells ys t (0, 0))) (hs : ys.size = cs.length) : (setAll b W 0 cs).heap[b]? = some (.cells cs.toArray t (0, 0)) := by
  have := got_all b t cs W 0 ys h (by omega)
  rwa [List.take_zero, List.nil_append] at this
theorem cellA {W : World} {b : Nat} {cs : Array Value} {t : TypeId} (h : W.heap[b]? = some (.cells cs t (0, 0))) (i : Nat) : W.cell? ⟨b, i, none⟩ = cs[i]? := by unfold World.cell?; simp only [h]; rfl
theorem softA {W : World} {b : Nat} {cs : Array Value} {t : TypeId} (h : W.heap[b]? = some (.cells cs t (0, 0))) (i : Nat) : W.frozen? ⟨b, i, none⟩ = false := by unfold World.frozen?; simp only [h]; simp
theorem setAll_eq (b : Nat) : ∀ (vs : List Value) (w : World) (o : Nat), w.setCells b o vs = setAll b w o vs
  | [], _, _ => rfl
  | v :: vs, w, o => setAll_eq b vs (w.setCell ⟨b, o, none⟩ v) (o + 1)
theorem add0 (b j : Nat) : (⟨b, 0, none⟩ : Addr).add j = ⟨b, j, none⟩ := by rw [Addr.add_mid, Nat.zero_add]
theorem run_loadA {P : Program} {w : World} {t : TypeId} {b : Nat} {cs : List Value} {e : TypeId} (ha : ∀ w, (isAgg t).run P w = .ok true w) (hs : ∀ w, (sizeOf t).run P w = .ok cs.length w) (hb : w.heap[b]? = some (.cells cs.toArray e (0, 0))) : (loadVar t ⟨b, 0, none⟩).run P w = .ok (.agg cs.toArray) w := by
  have h1 := run_loadCells_list (P := P) w ⟨b, 0, none⟩ cs (fun j v hv => by rw [add0, cellA hb j]; simpa using hv)
  simp [loadVar, ha, hs, h1, Result.andThen]
theorem wpList_loadA {P : Program} {w : World} {ops : Array Oper} {rest : List Oper} {o : Oper} {a : Act} {Q : Exit → Act → World → Prop} (hg : o.guard = none) (t : TypeId) (x : Operand) (ho : o.op = .load t x) (b : Nat) (cs : List Value) (e : TypeId)
    (hx : a.eval x = .pointer (some ⟨b, 0, none⟩)) (ha : ∀ w, (isAgg t).run P w = .ok true w) (hs : ∀ w, (sizeOf t).run P w = .ok cs.length w) (hb : w.heap[b]? = some (.cells cs.toArray e (0, 0)))
    (hK : wpList P ops Q rest (a.put o.dst (.agg cs.toArray)) w) : wpList P ops Q (o :: rest) a w := by
  refine wpList_plain hg fun K hK' => ?_
  have h2 : (Instr.loadAt t (.pointer (some ⟨b, 0, none⟩))).run P w = .ok (.agg cs.toArray) w := by
    simp [Instr.loadAt, Instr.sureAddr, run_loadA ha hs hb]
  have h3 : (execOp a.eval o).run P w = .ok (.value (.agg cs.toArray)) w := by
    simp [execOp, ho, hx, h2, Result.andThen]
  unfold Oper.wp
  rw [h3]
  exact hK' _ _ hK
theorem wpList_storeA {P : Program} {w : World} {ops : Array Oper} {rest : List Oper} {o : Oper} {a : Act} {Q : Exit → Act → World → Prop} (hg : o.guard = none) (t : TypeId) (x y : Operand) (ho : o.op = .store t x y) (b : Nat) (cs : List Value) (ys : Array Value) (e : TypeId)
    (hx : a.eval x = .pointer (some ⟨b, 0, none⟩)) (hy : a.eval y = .agg cs.toArray) (hs : ∀ w, (sizeOf t).run P w = .ok cs.length w) (hb : w.heap[b]? = some (.cells ys e (0, 0))) (hl : ys.size = cs.length) (one : ∀ v ∈ cs, v.oneCell' = true)
    (hK : ∀ w', w' = setAll b w 0 cs → wpList P ops Q rest (a.put o.dst undef) w') : wpList P ops Q (o :: rest) a w := by
  refine wpList_plain hg fun K hK' => ?_
  have h1 : (storeCells ⟨b, 0, none⟩ cs 0).run P w = .ok () (setAll b w 0 cs) := by
    rw [run_storeCells_cells (P := P) b 0 cs 0 w (fun j hj => ?_) (fun j _ => ?_) one, setAll_eq]
    · rw [cellA hb]
      have hj' : j < ys.size := by omega
      simp [hj']
    · exact softA hb _
  have h2 : (Instr.storeAt t (.pointer (some ⟨b, 0, none⟩)) (.agg cs.toArray)).run P w = .ok () (setAll b w 0 cs) := by
    simp [Instr.storeAt, Instr.sureAddr, storeVar, hs, Value.cells, h1, Result.andThen]
  have h3 : (execOp a.eval o).run P w = .ok .skip (setAll b w 0 cs) := by
    simp [execOp, ho, hx, hy, h2, Result.andThen]
  unfold Oper.wp
  rw [h3, Oper.upon_skip]
  exact hK' _ _ (hK _ rfl)
/- The same inside a region that draws its order. -/
theorem step_loadA {P : Program} {ops : Array Oper} {o : Oper} {a : Act} {w : World} {K : Act → World → Prop} {Q : Exit → Act → World → Prop} {E : Prop} (hg : o.guard = none) (t : TypeId) (x : Operand) (ho : o.op = .load t x) (b : Nat) (cs : List Value) (e : TypeId)
    (hx : a.eval x = .pointer (some ⟨b, 0, none⟩)) (ha : ∀ w, (isAgg t).run P w = .ok true w) (hs : ∀ w, (sizeOf t).run P w = .ok cs.length w) (hb : w.heap[b]? = some (.cells cs.toArray e (0, 0)))
    (hK : K (a.put o.dst (.agg cs.toArray)) w) : if Region.wanted o (yielded ops a.tmps) = true then Oper.wp P o a w K Q else E := by
  have hw : Region.wanted o (yielded ops a.tmps) = true := by simp [Region.wanted, hg]
  rw [if_pos hw]
  have h2 : (Instr.loadAt t (.pointer (some ⟨b, 0, none⟩))).run P w = .ok (.agg cs.toArray) w := by
    simp [Instr.loadAt, Instr.sureAddr, run_loadA ha hs hb]
  have h3 : (execOp a.eval o).run P w = .ok (.value (.agg cs.toArray)) w := by
    simp [execOp, ho, hx, h2, Result.andThen]
  unfold Oper.wp
  rw [h3]
  exact hK
theorem step_load1 {P : Program} {ops : Array Oper} {o : Oper} {a : Act} {w : World} {K : Act → World → Prop} {Q : Exit → Act → World → Prop} {E : Prop} (hg : o.guard = none) (t : TypeId) (x : Operand) (ho : o.op = .load t x) (b i : Nat) (v : Value)
    (hx : a.eval x = .pointer (some ⟨b, i, none⟩)) (ha : ∀ w, (isAgg t).run P w = .ok false w) (hc : w.cell? ⟨b, i, none⟩ = some v)
    (hK : K (a.put o.dst v) w) : if Region.wanted o (yielded ops a.tmps) = true then Oper.wp P o a w K Q else E := by
  have hw : Region.wanted o (yielded ops a.tmps) = true := by simp [Region.wanted, hg]
  rw [if_pos hw]
  have h2 : (Instr.loadAt t (.pointer (some ⟨b, i, none⟩))).run P w = .ok v w := by
    simp [Instr.loadAt, Instr.sureAddr, loadVar, ha, run_load, hc, Result.andThen]
  have h3 : (execOp a.eval o).run P w = .ok (.value v) w := by
    simp [execOp, ho, hx, h2, Result.andThen]
  unfold Oper.wp
  rw [h3]
  exact hK
theorem step_storeA {P : Program} {ops : Array Oper} {o : Oper} {a : Act} {w : World} {K : Act → World → Prop} {Q : Exit → Act → World → Prop} {E : Prop} (hg : o.guard = none) (t : TypeId) (x y : Operand) (ho : o.op = .store t x y) (b : Nat) (cs : List Value) (ys : Array Value) (e : TypeId)
    (hx : a.eval x = .pointer (some ⟨b, 0, none⟩)) (hy : a.eval y = .agg cs.toArray) (hs : ∀ w, (sizeOf t).run P w = .ok cs.length w) (hb : w.heap[b]? = some (.cells ys e (0, 0))) (hl : ys.size = cs.length) (one : ∀ v ∈ cs, v.oneCell' = true)
    (hK : ∀ w', w' = setAll b w 0 cs → K (a.put o.dst undef) w') : if Region.wanted o (yielded ops a.tmps) = true then Oper.wp P o a w K Q else E := by
  have hw : Region.wanted o (yielded ops a.tmps) = true := by simp [Region.wanted, hg]
  rw [if_pos hw]
  have h1 : (storeCells ⟨b, 0, none⟩ cs 0).run P w = .ok () (setAll b w 0 cs) := by
    rw [run_storeCells_cells (P := P) b 0 cs 0 w (fun j hj => ?_) (fun j _ => ?_) one, setAll_eq]
    · rw [cellA hb]
      have hj' : j < ys.size := by omega
      simp [hj']
    · exact softA hb _
  have h2 : (Instr.storeAt t (.pointer (some ⟨b, 0, none⟩)) (.agg cs.toArray)).run P w = .ok () (setAll b w 0 cs) := by
    simp [Instr.storeAt, Instr.sureAddr, storeVar, hs, Value.cells, h1, Result.andThen]
  have h3 : (execOp a.eval o).run P w = .ok .skip (setAll b w 0 cs) := by
    simp [execOp, ho, hx, hy, h2, Result.andThen]
  unfold Oper.wp
  rw [h3, Oper.upon_skip]
  exact hK _ rfl
theorem step_store1 {P : Program} {ops : Array Oper} {o : Oper} {a : Act} {w : World} {K : Act → World → Prop} {Q : Exit → Act → World → Prop} {E : Prop} (hg : o.guard = none) (t : TypeId) (x y : Operand) (ho : o.op = .store t x y) (b i : Nat) (v : Value)
    (hx : a.eval x = .pointer (some ⟨b, i, none⟩)) (hy : a.eval y = v) (hv : v.cells = #[v]) (hs : ∀ w, (sizeOf t).run P w = .ok 1 w) (hc : (w.cell? ⟨b, i, none⟩).isSome = true) (hf : w.frozen? ⟨b, i, none⟩ = false) (one : v.oneCell' = true)
    (hK : K (a.put o.dst undef) (w.setCell ⟨b, i, none⟩ v)) : if Region.wanted o (yielded ops a.tmps) = true then Oper.wp P o a w K Q else E := by
  have hw : Region.wanted o (yielded ops a.tmps) = true := by simp [Region.wanted, hg]
  rw [if_pos hw]
  have h1 : (storeCells ⟨b, i, none⟩ [v] 0).run P w = .ok () (w.setCell ⟨b, i, none⟩ v) := by
    rw [run_storeCells_cells (P := P) b i [v] 0 w (fun j hj => ?_) (fun j hj => ?_) (fun u hu => ?_)]
    · rfl
    · obtain rfl : j = 0 := by simp at hj; omega
      exact hc
    · obtain rfl : j = 0 := by simp at hj; omega
      exact hf
    · simp at hu; subst hu; exact one
  have h2 : (Instr.storeAt t (.pointer (some ⟨b, i, none⟩)) v).run P w = .ok () (w.setCell ⟨b, i, none⟩ v) := by
    simp [Instr.storeAt, Instr.sureAddr, storeVar, hs, hv, h1, Result.andThen]
  have h3 : (execOp a.eval o).run P w = .ok .skip (w.setCell ⟨b, i, none⟩ v) := by
    simp [execOp, ho, hx, hy, h2, Result.andThen]
  unfold Oper.wp
  rw [h3, Oper.upon_skip]
  exact hK
/- A result that lies in a block. -/
theorem res_cell {P : Program} {f : Func} {tmps : Array Value} {w : World} {s : Nat} {t : TypeId} {b : Nat} {cs : List Value} {e : TypeId} (hf : f.results = #[.cell s t]) (hx : tmps.getD s undef = .pointer (some ⟨b, 0, none⟩)) (ha : ∀ w, (isAgg t).run P w = .ok true w) (hs : ∀ w, (sizeOf t).run P w = .ok cs.length w) (hb : w.heap[b]? = some (.cells cs.toArray e (0, 0))) : (results f tmps).run P w = .ok (.agg cs.toArray) w := by
  unfold results
  rw [hf]
  have h := run_loadA (P := P) ha hs hb
  have hx' : tmps[s]?.getD undef = .pointer (some ⟨b, 0, none⟩) := by rw [← hx]; simp
  simp [Array.mapM_eq_mapM_toList, hx', asAddr, h]
/- A struct is loaded out of a row of many. -/
theorem run_loadW {P : Program} {w : World} {t : TypeId} {b o : Nat} {cs : List Value} (ha : ∀ w, (isAgg t).run P w = .ok true w) (hs : ∀ w, (sizeOf t).run P w = .ok cs.length w) (hb : ∀ j u, cs[j]? = some u → w.cell? ⟨b, o + j, none⟩ = some u) : (loadVar t ⟨b, o, none⟩).run P w = .ok (.agg cs.toArray) w := by
  have h1 := run_loadCells_list (P := P) w ⟨b, o, none⟩ cs (fun j v hv => by rw [add8]; exact hb j v hv)
  simp [loadVar, ha, hs, h1, Result.andThen]
theorem wpList_loadW {P : Program} {w : World} {ops : Array Oper} {rest : List Oper} {o : Oper} {a : Act} {Q : Exit → Act → World → Prop} (hg : o.guard = none) (t : TypeId) (x : Operand) (ho : o.op = .load t x) (b off : Nat) (cs : List Value)
    (hx : a.eval x = .pointer (some ⟨b, off, none⟩)) (ha : ∀ w, (isAgg t).run P w = .ok true w) (hs : ∀ w, (sizeOf t).run P w = .ok cs.length w) (hb : ∀ j u, cs[j]? = some u → w.cell? ⟨b, off + j, none⟩ = some u)
    (hK : wpList P ops Q rest (a.put o.dst (.agg cs.toArray)) w) : wpList P ops Q (o :: rest) a w := by
  refine wpList_plain hg fun K hK' => ?_
  have h2 : (Instr.loadAt t (.pointer (some ⟨b, off, none⟩))).run P w = .ok (.agg cs.toArray) w := by
    simp [Instr.loadAt, Instr.sureAddr, run_loadW ha hs hb]
  have h3 : (execOp a.eval o).run P w = .ok (.value (.agg cs.toArray)) w := by
    simp [execOp, ho, hx, h2, Result.andThen]
  unfold Oper.wp
  rw [h3]
  exact hK' _ _ hK
end Go.Proofs.YtclhmggnkhnnlaaGreatDoor
