/- A store of what lies there already. No program stands in it. -/
import Derived.Test.YtlddnpgcoekaaaaGreatDoorFr
import Derived.Laws.IdiomCopy
namespace Go.Proofs.YtlddnpgcoekaaaaGreatDoor
open Go.RowKit

theorem setCell_same {w : World} {b o : Nat} {v : Value} {cs : Array Value} {e : TypeId} {fr : Nat × Nat} (hb : w.heap[b]? = some (.cells cs e fr)) (hv : cs[o]? = some v) : w.setCell ⟨b, o, none⟩ v = w := by
  have h : (w.setCell ⟨b, o, none⟩ v).heap = w.heap := by
    apply Array.ext_getElem?
    intro i
    by_cases hi : i = b
    · subst hi
      rw [heap_setCell_same hb, hb]
      congr 2
      apply Array.ext_getElem?
      intro j
      rw [Array.getElem?_setIfInBounds]
      split
      · rename_i e; subst e
        obtain ⟨hlt, hv'⟩ := Array.getElem?_eq_some_iff.1 hv
        rw [if_pos hlt, hv]
      · rfl
    · exact Below.heap_setCell _ _ _ _ hi
  unfold World.setCell at h ⊢
  simp only at h
  rw [h]
theorem setCells_same {w : World} {b : Nat} {cs : Array Value} {e : TypeId} {fr : Nat × Nat} (hb : w.heap[b]? = some (.cells cs e fr)) : ∀ (vs : List Value) (o : Nat), (∀ j v, vs[j]? = some v → cs[o + j]? = some v) → w.setCells b o vs = w := by
  intro vs
  induction vs with
  | nil => intro o _; rfl
  | cons v r ih =>
    intro o h
    show (w.setCell ⟨b, o, none⟩ v).setCells b (o + 1) r = w
    rw [setCell_same hb (by have := h 0 v rfl; simpa using this)]
    exact ih (o + 1) (fun j u hu => by have := h (j + 1) u (by simpa using hu); rw [← this]; congr 1; omega)
theorem wpList_storeZ {P : Program} {w : World} {ops : Array Oper} {rest : List Oper} {o : Oper} {a : Act} {Q : Exit → Act → World → Prop} (hg : o.guard = none) (t : TypeId) (x y : Operand) (ho : o.op = .store t x y) (b : Nat) (cs : Array Value) (e : TypeId)
    (hx : a.eval x = .pointer (some ⟨b, 0, none⟩)) (hy : a.eval y = .agg cs) (hs : ∀ w, (sizeOf t).run P w = .ok cs.size w) (hb : w.heap[b]? = some (.cells cs e (0, 0))) (one : ∀ v ∈ cs.toList, v.oneCell' = true)
    (hK : wpList P ops Q rest (a.put o.dst undef) w) : wpList P ops Q (o :: rest) a w := by
  refine wpList_plain hg fun K hK' => ?_
  have h1 : (storeCells ⟨b, 0, none⟩ cs.toList 0).run P w = .ok () w := by
    rw [run_storeCells_cells (P := P) b 0 cs.toList 0 w (fun j hj => ?_) (fun j _ => ?_) one]
    · rw [setCells_same hb cs.toList (0 + 0) (fun j v hv => by rw [Nat.zero_add, ← Array.getElem?_toList]; exact hv)]
    · unfold World.cell?
      simp only [hb, Nat.zero_add]
      simp at hj
      simp [hj]
    · unfold World.frozen?; simp only [hb]; simp
  have h2 : (Instr.storeAt t (.pointer (some ⟨b, 0, none⟩)) (.agg cs)).run P w = .ok () w := by
    simp [Instr.storeAt, Instr.sureAddr, storeVar, hs, Value.cells, h1, Result.andThen]
  have h3 : (execOp a.eval o).run P w = .ok .skip w := by
    simp [execOp, ho, hx, hy, h2, Result.andThen]
  unfold Oper.wp
  rw [h3, Oper.upon_skip]
  exact hK' _ _ hK
end Go.Proofs.YtlddnpgcoekaaaaGreatDoor
