/- Pieces of the proof: LwM, GnM. -/
import Derived.Test.YteflnicgohjiiaaGreatDoorM2
import Derived.Laws.IdiomCopy
import Derived.Laws.AppendOwnNone
/- Structs that are loaded and stored whole: one law each. -/
namespace Go.Proofs.YteflnicgohjiiaaGreatDoor
open Go.RowKit

theorem add8 (p off j : Nat) : (⟨p, off, none⟩ : Addr).add j = ⟨p, off + j, none⟩ := by
  unfold Addr.add; split
  · rename_i h; simp_all
  · rfl
theorem heap_setCell_same {W : World} {g k : Nat} {cur : Array Value} {t : TypeId} {fr : Nat × Nat} (h : W.heap[g]? = some (.cells cur t fr)) (v : Value) : (W.setCell ⟨g, k, none⟩ v).heap[g]? = some (.cells (cur.setIfInBounds k v) t fr) := by
  simp [World.setCell, Array.getElem?_modify, h]
/- All cells of a block are written, one behind the other. -/
def setAll (b : Nat) : World → Nat → List Value → World
  | W, _, [] => W
  | W, o, x :: xs => setAll b (W.setCell ⟨b, o, none⟩ x) (o + 1) xs
theorem fr_all (b : Nat) : ∀ (cs : List Value) (W : World) (o : Nat), Fr (· = b) W (setAll b W o cs)
  | [], W, _ => Fr.refl _ W
  | x :: xs, W, o => ((Fr.refl (· = b) W).set ⟨b, o, none⟩ x rfl).trans (fr_all b xs _ _) (fun _ _ e => e)
theorem got_all (b : Nat) (t : TypeId) : ∀ (cs : List Value) (W : World) (o : Nat) (ys : Array Value), W.heap[b]? = some (.cells ys t (0, 0)) → ys.size = o + cs.length → (setAll b W o cs).heap[b]? = some (.cells (ys.toList.take o ++ cs).toArray t (0, 0))
  | [], W, o, ys, h, hs => by
    have e : (ys.toList.take o ++ ([] : List Value)).toArray = ys := by rw [List.append_nil, List.take_of_length_le (by simp at hs; simp; omega)]
    rw [e]; exact h
  | x :: xs, W, o, ys, h, hs => by
    have h1 := heap_setCell_same (k := o) h x
    have := got_all b t xs (W.setCell ⟨b, o, none⟩ x) (o + 1) (ys.setIfInBounds o x) h1 (by simp at hs ⊢; omega)
    rw [setAll, this]
    have ho : o < ys.toList.length := by simp at hs ⊢; omega
    rw [Array.toList_setIfInBounds, List.take_set, List.take_succ_eq_append_getElem ho, List.set_append_right _ _ (by simp; omega)]
    have e : o - (List.take o ys.toList).length = 0 := by rw [List.length_take]; omega
    rw [e, List.set_cons_zero, List.append_assoc]
    rfl
theorem got0 {b : Nat} {t : TypeId} {cs : List Value} {W : World} {ys : Array Value} (h : W.heap[b]? = some (.cells ys t (0, 0))) (hs : ys.size = cs.length) : (setAll b W 0 cs).heap[b]? = some (.cells cs.toArray t (0, 0)) := by
  have := got_all b t cs W 0 ys h (by omega)
  rwa [List.take_zero, List.nil_append] at this
theorem cellA {W : World} {b : Nat} {cs : Array Value} {t : TypeId} (h : W.heap[b]? = some (.cells cs t (0, 0))) (i : Nat) : W.cell? ⟨b, i, none⟩ = cs[i]? := by unfold World.cell?; simp only [h]; rfl
theorem softA {W : World} {b : Nat} {cs : Array Value} {t : TypeId} (h : W.heap[b]? = some (.cells cs t (0, 0))) (i : Nat) : W.frozen? ⟨b, i, none⟩ = false := by unfold World.frozen?; simp only [h]; simp
theorem setAll_eq (b : Nat) : ∀ (vs : List Value) (w : World) (o : Nat), w.setCells b o vs = setAll b w o vs
  | [], _, _ => rfl
  | v :: vs, w, o => setAll_eq b vs (w.setCell ⟨b, o, none⟩ v) (o + 1)
theorem add0 (b j : Nat) : (⟨b, 0, none⟩ : Addr).add j = ⟨b, j, none⟩ := by rw [Addr.add_mid, Nat.zero_add]
theorem run_loadA {P : Program} {w : World} {t : TypeId} {b : Nat} {cs : List Value} {e : TypeId} (ha : ∀ w, (isAgg t).run P w = .ok true w) (hs : ∀ w, (sizeOf t).run P w = .ok cs.length w) (hb : w.heap[b]? = some (.cells cs.toArray e (0, 0))) : (loadVar t ⟨b, 0, none⟩).run P w = .ok (.agg cs.toArray) w := by
  have h1 := run_loadCells_list (P := P) w ⟨b, 0, none⟩ cs (fun j v hv => by rw [add0, cellA hb j]; simpa using hv)
  simp [loadVar, ha, hs, h1, Result.andThen]
theorem wpList_loadA {P : Program} {w : World} {ops : Array Oper} {rest : List Oper} {o : Oper} {a : Act} {Q : Exit → Act → World → Prop} (hg : o.guard = none) (t : TypeId) (x : Operand) (ho : o.op = .load t x) (b : Nat) (cs : List Value) (e : TypeId)
    (hx : a.eval x = .pointer (some ⟨b, 0, none⟩)) (ha : ∀ w, (isAgg t).run P w = .ok true w) (hs : ∀ w, (sizeOf t).run P w = .ok cs.length w) (hb : w.heap[b]? = some (.cells cs.toArray e (0, 0)))
    (hK : wpList P ops Q rest (a.put o.dst (.agg cs.toArray)) w) : wpList P ops Q (o :: rest) a w := by
  refine wpList_plain hg fun K hK' => ?_
  have h2 : (Instr.loadAt t (.pointer (some ⟨b, 0, none⟩))).run P w = .ok (.agg cs.toArray) w := by
    simp [Instr.loadAt, Instr.sureAddr, run_loadA ha hs hb]
  have h3 : (execOp a.eval o).run P w = .ok (.value (.agg cs.toArray)) w := by
    simp [execOp, ho, hx, h2, Result.andThen]
  unfold Oper.wp
  rw [h3]
  exact hK' _ _ hK
theorem wpList_storeA {P : Program} {w : World} {ops : Array Oper} {rest : List Oper} {o : Oper} {a : Act} {Q : Exit → Act → World → Prop} (hg : o.guard = none) (t : TypeId) (x y : Operand) (ho : o.op = .store t x y) (b : Nat) (cs : List Value) (ys : Array Value) (e : TypeId)
    (hx : a.eval x = .pointer (some ⟨b, 0, none⟩)) (hy : a.eval y = .agg cs.toArray) (hs : ∀ w, (sizeOf t).run P w = .ok cs.length w) (hb : w.heap[b]? = some (.cells ys e (0, 0))) (hl : ys.size = cs.length) (one : ∀ v ∈ cs, v.oneCell' = true)
    (hK : ∀ w', w' = setAll b w 0 cs → wpList P ops Q rest (a.put o.dst undef) w') : wpList P ops Q (o :: rest) a w := by
  refine wpList_plain hg fun K hK' => ?_
  have h1 : (storeCells ⟨b, 0, none⟩ cs 0).run P w = .ok () (setAll b w 0 cs) := by
    rw [run_storeCells_cells (P := P) b 0 cs 0 w (fun j hj => ?_) (fun j _ => ?_) one, setAll_eq]
    · rw [cellA hb]
      have hj' : j < ys.size := by omega
      simp [hj']
    · exact softA hb _
  have h2 : (Instr.storeAt t (.pointer (some ⟨b, 0, none⟩)) (.agg cs.toArray)).run P w = .ok () (setAll b w 0 cs) := by
    simp [Instr.storeAt, Instr.sureAddr, storeVar, hs, Value.cells, h1, Result.andThen]
  have h3 : (execOp a.eval o).run P w = .ok .skip (setAll b w 0 cs) := by
    simp [execOp, ho, hx, hy, h2, Result.andThen]
  unfold Oper.wp
  rw [h3, Oper.upon_skip]
  exact hK' _ _ (hK _ rfl)
/- The same inside a region that draws its order. -/
theorem step_loadA {P : Program} {ops : Array Oper} {o : Oper} {a : Act} {w : World} {K : Act → World → Prop} {Q : Exit → Act → World → Prop} {E : Prop} (hg : o.guard = none) (t : TypeId) (x : Operand) (ho : o.op = .load t x) (b : Nat) (cs : List Value) (e : TypeId)
    (hx : a.eval x = .pointer (some ⟨b, 0, none⟩)) (ha : ∀ w, (isAgg t).run P w = .ok true w) (hs : ∀ w, (sizeOf t).run P w = .ok cs.length w) (hb : w.heap[b]? = some (.cells cs.toArray e (0, 0)))
    (hK : K (a.put o.dst (.agg cs.toArray)) w) : if Region.wanted o (yielded ops a.tmps) = true then Oper.wp P o a w K Q else E := by
  have hw : Region.wanted o (yielded ops a.tmps) = true := by simp [Region.wanted, hg]
  rw [if_pos hw]
  have h2 : (Instr.loadAt t (.pointer (some ⟨b, 0, none⟩))).run P w = .ok (.agg cs.toArray) w := by
    simp [Instr.loadAt, Instr.sureAddr, run_loadA ha hs hb]
  have h3 : (execOp a.eval o).run P w = .ok (.value (.agg cs.toArray)) w := by
    simp [execOp, ho, hx, h2, Result.andThen]
  unfold Oper.wp
  rw [h3]
  exact hK
theorem step_load1 {P : Program} {ops : Array Oper} {o : Oper} {a : Act} {w : World} {K : Act → World → Prop} {Q : Exit → Act → World → Prop} {E : Prop} (hg : o.guard = none) (t : TypeId) (x : Operand) (ho : o.op = .load t x) (b i : Nat) (v : Value)
    (hx : a.eval x = .pointer (some ⟨b, i, none⟩)) (ha : ∀ w, (isAgg t).run P w = .ok false w) (hc : w.cell? ⟨b, i, none⟩ = some v)
    (hK : K (a.put o.dst v) w) : if Region.wanted o (yielded ops a.tmps) = true then Oper.wp P o a w K Q else E := by
  have hw : Region.wanted o (yielded ops a.tmps) = true := by simp [Region.wanted, hg]
  rw [if_pos hw]
  have h2 : (Instr.loadAt t (.pointer (some ⟨b, i, none⟩))).run P w = .ok v w := by
    simp [Instr.loadAt, Instr.sureAddr, loadVar, ha, run_load, hc, Result.andThen]
  have h3 : (execOp a.eval o).run P w = .ok (.value v) w := by
    simp [execOp, ho, hx, h2, Result.andThen]
  unfold Oper.wp
  rw [h3]
  exact hK
theorem step_storeA {P : Program} {ops : Array Oper} {o : Oper} {a : Act} {w : World} {K : Act → World → Prop} {Q : Exit → Act → World → Prop} {E : Prop} (hg : o.guard = none) (t : TypeId) (x y : Operand) (ho : o.op = .store t x y) (b : Nat) (cs : List Value) (ys : Array Value) (e : TypeId)
    (hx : a.eval x = .pointer (some ⟨b, 0, none⟩)) (hy : a.eval y = .agg cs.toArray) (hs : ∀ w, (sizeOf t).run P w = .ok cs.length w) (hb : w.heap[b]? = some (.cells ys e (0, 0))) (hl : ys.size = cs.length) (one : ∀ v ∈ cs, v.oneCell' = true)
    (hK : ∀ w', w' = setAll b w 0 cs → K (a.put o.dst undef) w') : if Region.wanted o (yielded ops a.tmps) = true then Oper.wp P o a w K Q else E := by
  have hw : Region.wanted o (yielded ops a.tmps) = true := by simp [Region.wanted, hg]
  rw [if_pos hw]
  have h1 : (storeCells ⟨b, 0, none⟩ cs 0).run P w = .ok () (setAll b w 0 cs) := by
    rw [run_storeCells_cells (P := P) b 0 cs 0 w (fun j hj => ?_) (fun j _ => ?_) one, setAll_eq]
    · rw [cellA hb]
      have hj' : j < ys.size := by omega
      simp [hj']
    · exact softA hb _
  have h2 : (Instr.storeAt t (.pointer (some ⟨b, 0, none⟩)) (.agg cs.toArray)).run P w = .ok () (setAll b w 0 cs) := by
    simp [Instr.storeAt, Instr.sureAddr, storeVar, hs, Value.cells, h1, Result.andThen]
  have h3 : (execOp a.eval o).run P w = .ok .skip (setAll b w 0 cs) := by
    simp [execOp, ho, hx, hy, h2, Result.andThen]
  unfold Oper.wp
  rw [h3, Oper.upon_skip]
  exact hK _ rfl
theorem step_store1 {P : Program} {ops : Array Oper} {o : Oper} {a : Act} {w : World} {K : Act → World → Prop} {Q : Exit → Act → World → Prop} {E : Prop} (hg : o.guard = none) (t : TypeId) (x y : Operand) (ho : o.op = .store t x y) (b i : Nat) (v : Value)
    (hx : a.eval x = .pointer (some ⟨b, i, none⟩)) (hy : a.eval y = v) (hv : v.cells = #[v]) (hs : ∀ w, (sizeOf t).run P w = .ok 1 w) (hc : (w.cell? ⟨b, i, none⟩).isSome = true) (hf : w.frozen? ⟨b, i, none⟩ = false) (one : v.oneCell' = true)
    (hK : K (a.put o.dst undef) (w.setCell ⟨b, i, none⟩ v)) : if Region.wanted o (yielded ops a.tmps) = true then Oper.wp P o a w K Q else E := by
  have hw : Region.wanted o (yielded ops a.tmps) = true := by simp [Region.wanted, hg]
  rw [if_pos hw]
  have h1 : (storeCells ⟨b, i, none⟩ [v] 0).run P w = .ok () (w.setCell ⟨b, i, none⟩ v) := by
    rw [run_storeCells_cells (P := P) b i [v] 0 w (fun j hj => ?_) (fun j hj => ?_) (fun u hu => ?_)]
    · rfl
    · obtain rfl : j = 0 := by simp at hj; omega
      exact hc
    · obtain rfl : j = 0 := by simp at hj; omega
      exact hf
    · simp at hu; subst hu; exact one
  have h2 : (Instr.storeAt t (.pointer (some ⟨b, i, none⟩)) v).run P w = .ok () (w.setCell ⟨b, i, none⟩ v) := by
    simp [Instr.storeAt, Instr.sureAddr, storeVar, hs, hv, h1, Result.andThen]
  have h3 : (execOp a.eval o).run P w = .ok .skip (w.setCell ⟨b, i, none⟩ v) := by
    simp [execOp, ho, hx, hy, h2, Result.andThen]
  unfold Oper.wp
  rw [h3, Oper.upon_skip]
  exact hK
/- A result that lies in a block. -/
theorem res_cell {P : Program} {f : Func} {tmps : Array Value} {w : World} {s : Nat} {t : TypeId} {b : Nat} {cs : List Value} {e : TypeId} (hf : f.results = #[.cell s t]) (hx : tmps.getD s undef = .pointer (some ⟨b, 0, none⟩)) (ha : ∀ w, (isAgg t).run P w = .ok true w) (hs : ∀ w, (sizeOf t).run P w = .ok cs.length w) (hb : w.heap[b]? = some (.cells cs.toArray e (0, 0))) : (results f tmps).run P w = .ok (.agg cs.toArray) w := by
  unfold results
  rw [hf]
  have h := run_loadA (P := P) ha hs hb
  have hx' : tmps[s]?.getD undef = .pointer (some ⟨b, 0, none⟩) := by rw [← hx]; simp
  simp [Array.mapM_eq_mapM_toList, hx', asAddr, h]
/- A struct is loaded out of a row of many. -/
theorem run_loadW {P : Program} {w : World} {t : TypeId} {b o : Nat} {cs : List Value} (ha : ∀ w, (isAgg t).run P w = .ok true w) (hs : ∀ w, (sizeOf t).run P w = .ok cs.length w) (hb : ∀ j u, cs[j]? = some u → w.cell? ⟨b, o + j, none⟩ = some u) : (loadVar t ⟨b, o, none⟩).run P w = .ok (.agg cs.toArray) w := by
  have h1 := run_loadCells_list (P := P) w ⟨b, o, none⟩ cs (fun j v hv => by rw [add8]; exact hb j v hv)
  simp [loadVar, ha, hs, h1, Result.andThen]
theorem wpList_loadW {P : Program} {w : World} {ops : Array Oper} {rest : List Oper} {o : Oper} {a : Act} {Q : Exit → Act → World → Prop} (hg : o.guard = none) (t : TypeId) (x : Operand) (ho : o.op = .load t x) (b off : Nat) (cs : List Value)
    (hx : a.eval x = .pointer (some ⟨b, off, none⟩)) (ha : ∀ w, (isAgg t).run P w = .ok true w) (hs : ∀ w, (sizeOf t).run P w = .ok cs.length w) (hb : ∀ j u, cs[j]? = some u → w.cell? ⟨b, off + j, none⟩ = some u)
    (hK : wpList P ops Q rest (a.put o.dst (.agg cs.toArray)) w) : wpList P ops Q (o :: rest) a w := by
  refine wpList_plain hg fun K hK' => ?_
  have h2 : (Instr.loadAt t (.pointer (some ⟨b, off, none⟩))).run P w = .ok (.agg cs.toArray) w := by
    simp [Instr.loadAt, Instr.sureAddr, run_loadW ha hs hb]
  have h3 : (execOp a.eval o).run P w = .ok (.value (.agg cs.toArray)) w := by
    simp [execOp, ho, hx, h2, Result.andThen]
  unfold Oper.wp
  rw [h3]
  exact hK' _ _ hK
end Go.Proofs.YteflnicgohjiiaaGreatDoor
/- Of every package: lists cell by cell, and copies of them that are one's own. -/
namespace Go.Proofs.YteflnicgohjiiaaGreatDoor
open Go.RowKit

theorem Tryz.infoNb : (Tryz.prog.info? 86).map (fun i => (i.zero, i.size, i.bytes)) = some (some (.agg #[.int .i64 0, .int .u64 0, .int .u64 0]), 3, 24) := by kernel_rfl
def Nb.cells (b : Nb) : List Value := [.int .i64 b.w, .int .u64 b.hi, .int .u64 b.lo]
def flat {α : Type} (f : α → List Value) (l : List α) : List Value := l.flatMap f
theorem flat_length {α : Type} {f : α → List Value} {c : Nat} (hf : ∀ x, (f x).length = c) : ∀ l : List α, (flat f l).length = l.length * c
  | [] => by simp [flat]
  | x :: l => by
    have := flat_length hf l
    unfold flat at *
    rw [List.flatMap_cons, List.length_append, hf, this, List.length_cons, Nat.succ_mul, Nat.add_comm]
theorem flat_append {α : Type} (f : α → List Value) (l m : List α) : flat f (l ++ m) = flat f l ++ flat f m := by simp [flat]
theorem flat_get {α : Type} {f : α → List Value} {c : Nat} (hf : ∀ x, (f x).length = c) : ∀ (l : List α) (i j : Nat) (h : i < l.length), j < c → (flat f l)[i * c + j]? = (f l[i])[j]?
  | [], i, _, h, _ => by simp at h
  | x :: l, 0, j, _, hj => by
    unfold flat
    rw [List.flatMap_cons, Nat.zero_mul, Nat.zero_add, List.getElem?_append_left (by rw [hf]; exact hj)]
    rfl
  | x :: l, i + 1, j, h, hj => by
    have := flat_get hf l i j (by simpa using h) hj
    unfold flat at *
    rw [List.flatMap_cons, List.getElem?_append_right (by rw [hf, Nat.succ_mul]; omega), hf]
    rw [List.getElem_cons_succ, ← this]
    congr 1
    rw [Nat.succ_mul]; omega
theorem nb_len (b : Nb) : b.cells.length = 3 := rfl
theorem flat_one {α : Type} {f : α → List Value} (hf : ∀ x, ∀ u ∈ f x, u.oneCell' = true) (l : List α) : ∀ u ∈ flat f l, u.oneCell' = true := fun u hu => by
  obtain ⟨x, _, h⟩ := List.mem_flatMap.1 hu
  exact hf x u h
theorem nb_one (b : Nb) : ∀ u ∈ b.cells, u.oneCell' = true := fun u hu => by
  simp only [Nb.cells, List.mem_cons, List.not_mem_nil, or_false] at hu
  rcases hu with rfl | rfl | rfl <;> rfl
theorem flat_src {α : Type} {f : α → List Value} {c : Nat} (hc : 0 < c) (hf : ∀ x, (f x).length = c) {W : World} {p off : Nat} {l : List α} (h : ∀ i (hi : i < l.length) j u, (f l[i])[j]? = some u → W.cell? ⟨p, off + i * c + j, none⟩ = some u) : ∀ j u, (flat f l)[j]? = some u → W.cell? ((⟨p, off, none⟩ : Addr).add j) = some u := fun j u hu => by
  have hj : j < (flat f l).length := (List.getElem?_eq_some_iff.1 hu).1
  rw [flat_length hf] at hj
  have hi : j / c < l.length := Nat.div_lt_of_lt_mul (by rw [Nat.mul_comm]; exact hj)
  have hm := Nat.mod_lt j hc
  have e : j / c * c + j % c = j := by rw [Nat.mul_comm]; exact Nat.div_add_mod j c
  rw [← e, flat_get hf l _ _ hi hm] at hu
  have := h _ hi _ _ hu
  rw [add8, ← this]
  congr 2
  omega
theorem nb_src {W : World} {p off : Nat} {l : List Nb} (h : ∀ i (h : i < l.length), W.cell? ⟨p, off + i * 3, none⟩ = some (.int .i64 l[i].w) ∧ W.cell? ⟨p, off + i * 3 + 1, none⟩ = some (.int .u64 l[i].hi) ∧ W.cell? ⟨p, off + i * 3 + 2, none⟩ = some (.int .u64 l[i].lo)) : ∀ j u, (flat Nb.cells l)[j]? = some u → W.cell? ((⟨p, off, none⟩ : Addr).add j) = some u := by
  refine flat_src (by decide) nb_len (fun i hi j u hu => ?_)
  obtain ⟨h0, h1, h2⟩ := h i hi
  have hj : j < 3 := (List.getElem?_eq_some_iff.1 hu).1
  rcases (by omega : j = 0 ∨ j = 1 ∨ j = 2) with rfl | rfl | rfl
  all_goals (injection hu with hu; subst hu; assumption)
theorem own_cell {W : World} {B c n : Nat} {e : TypeId} {v : Value} {α : Type} {f : α → List Value} {l : List α} (hf : ∀ x, (f x).length = c) (h : W.ownsRow B e c v n (flat f l)) {g cap : Nat} (hv : v = .slice (some ⟨g, 0, none⟩) n cap) (i : Nat) (hi : i < l.length) (j : Nat) (u : Value) (hj : (f l[i])[j]? = some u) : W.cell? ⟨g, 0 + i * c + j, none⟩ = some u := by
  have hjc : j < c := by have := (List.getElem?_eq_some_iff.1 hj).1; rw [hf] at this; exact this
  have := World.ownsRow.cells h (g := g) (by rw [hv]; rfl) (i * c + j) u (by rw [flat_get hf l i j hi hjc]; exact hj)
  rw [add8] at this
  rw [← this]; congr 2; omega
theorem own_form {W : World} {B c n : Nat} {e : TypeId} {v : Value} {xs : List Value} (h : W.ownsRow B e c v n xs) : (v = .slice none 0 0 ∧ n = 0) ∨ ∃ g cap, v = .slice (some ⟨g, 0, none⟩) n cap ∧ B ≤ g ∧ g < W.heap.size ∧ n ≤ cap := by
  rcases h.2 with ⟨h1, h2⟩ | ⟨g, cap, cur, h1, h2, h3, h4, _⟩
  · exact .inl ⟨h1, h2⟩
  · exact .inr ⟨g, cap, h1, h2, (Array.getElem?_eq_some_iff.1 h3).1, h4⟩
theorem rdN_own {W : World} {B n : Nat} {a : Option Addr} {k cap : Nat} {l : List Nb} (h : W.ownsRow B 86 3 (.slice a k cap) n (flat Nb.cells l)) : k = l.length ∧ RdN W a l ∧ (a = none → cap = 0) ∧ ∀ q, a = some q → B ≤ q.block ∧ q.block < W.heap.size := by
  have hl := h.1
  rw [flat_length nb_len] at hl
  rcases own_form h with ⟨hv, hn⟩ | ⟨g, cap', hv, hg, hlt, hc⟩
  · injection hv with h1 h2 h3
    subst h1 h2 h3 hn
    have h0 : l = [] := List.length_eq_zero_iff.1 (by omega)
    subst h0
    exact ⟨rfl, .inl rfl, fun _ => rfl, fun q e => by cases e⟩
  · injection hv with h1 h2 h3
    subst h1 h2 h3
    refine ⟨by omega, .inr ⟨g, 0, rfl, hlt, fun i hi => ?_⟩, fun e => (by cases e), fun q e => (by cases e; exact ⟨hg, hlt⟩)⟩
    have key := own_cell nb_len h rfl i hi
    exact ⟨key 0 _ rfl, key 1 _ rfl, key 2 _ rfl⟩
theorem rdN_kept {W W' : World} {a : Option Addr} {l : List Nb} {row : Option Nat} (h : RdN W a l) (hg : W.grownBy W' row) (hne : ∀ q, a = some q → row ≠ some q.block) : RdN W' a l := by
  rcases h with h | ⟨p, off, rfl, hp, hc⟩
  · exact .inl h
  · have hn := hne _ rfl
    have key : ∀ o v, W.cell? ⟨p, o, none⟩ = some v → W'.cell? ⟨p, o, none⟩ = some v := fun o v hv => (World.cell?_of_block (w := W) (a := ⟨p, o, none⟩) (hg.block p hp (fun e => hn e.symm))).trans hv
    refine .inr ⟨p, off, rfl, Nat.lt_of_lt_of_le hp hg.size, fun i hi => ?_⟩
    obtain ⟨h0, h1, h2⟩ := hc i hi
    exact ⟨key _ _ h0, key _ _ h1, key _ _ h2⟩
theorem rdN_setc {W : World} {a : Option Addr} {l : List Nb} (h : RdN W a l) (p : Addr) (v : Value) (hne : ∀ q, a = some q → p.block ≠ q.block) : RdN (W.setCell p v) a l := by
  refine rdN_kept h (W' := W.setCell p v) (row := some p.block) ?_ (fun q e h => hne q e (by injection h))
  have hb := (Below.refl 0 W).setCell (p := p) (Nat.zero_le _) v
  exact ⟨hb.os, hb.tape, hb.output, hb.size, fun b _ hn => Below.heap_setCell _ _ _ _ (fun e => hn (by rw [e]))⟩
theorem wpList_copyN {w : World} {ops : Array Oper} {rest : List Oper} {o : Oper} {a : Act} {Q : Exit → Act → World → Prop} (hgd : o.guard = none) (s x : Operand) (ho : o.op = .call { callee := .builtin .append, args := #[s, x], argTypes := #[28, 28] })
    (hs : a.eval s = .slice none 0 0) (sa : Option Addr) (cap : Nat) (l : List Nb) (hx : a.eval x = .slice sa l.length cap) (hr : RdN w sa l) (hn : sa = none → cap = 0) (hl : l.length ≤ 1000000)
    (h : ∀ a' cap' w', RdN w' a' l → (a' = none → cap' = 0) → (∀ q, a' = some q → w.heap.size ≤ q.block ∧ q.block < w'.heap.size) → Below w.heap.size w w' → wpList Tryz.prog ops Q rest (a.put o.dst (.slice a' l.length cap')) w') :
    wpList Tryz.prog ops Q (o :: rest) a w := by
  obtain ⟨i0, hi0, hz0, hz1, hz2⟩ := info_parts Tryz.infoNb
  have key : ∀ (ad : Addr) (hsrc : ∀ j u, (flat Nb.cells l)[j]? = some u → w.cell? (ad.add j) = some u), a.eval x = .slice (some ad) l.length cap → wpList Tryz.prog ops Q (o :: rest) a w := fun ad hsrc hx' => by
    refine wpList_append_own_at w hgd s x 28 ho w.heap.size 86 i0 _ 3 24 Tryz.underlying28 hi0 hz0 hz1 hz2 rfl (by decide) _ 0 [] hs (World.ownsRow_nil _ _ _ _) ad l.length cap (flat Nb.cells l) hx' (flat_length nb_len l) hsrc (flat_one nb_one l) (by unfold maxLen; omega) (by omega) (Nat.le_refl _) ?_
    intro v' w' h1 h2 _ _
    rw [List.nil_append, Nat.zero_add] at h1
    rcases own_form h1 with ⟨rfl, hn0⟩ | ⟨g, cap', rfl, _⟩
    · obtain ⟨e1, e2, e3, e4⟩ := rdN_own h1
      have := h none 0 w' e2 e3 e4 ((Below.refl _ _).grown h2 (Nat.le_refl _) (fun k e => by cases e))
      rw [← e1] at this
      exact this
    · obtain ⟨e1, e2, e3, e4⟩ := rdN_own h1
      exact h _ _ w' e2 e3 e4 ((Below.refl _ _).grown h2 (Nat.le_refl _) (fun k e => by cases e))
  rcases hr with rfl | ⟨p, off, rfl, hp, hc⟩
  · cases sa with
    | none =>
      have hx2 : a.eval x = .slice none 0 0 := by rw [hx, hn rfl]; rfl
      refine wpList_append_own_none hgd s x 28 ho w.heap.size 86 i0 3 Tryz.underlying28 hi0 _ 0 [] hs (World.ownsRow_nil _ _ _ _) hx2 ?_
      exact h none 0 w (.inl rfl) (fun _ => rfl) (fun q e => by cases e) (Below.refl _ _)
    | some q => exact key q (fun j u hu => by simp [flat] at hu) hx
  · exact key _ (nb_src hc) hx
end Go.Proofs.YteflnicgohjiiaaGreatDoor
