/- CellsKeep, as plain data; and what lies there while it goes on. -/
import Derived.Test.YtngeclnlgoamkaaCeX
import Derived.Test.YtngeclnlgoamkaaCeV
namespace Go.Proofs.Ytngeclnlgoamkaa
open Go.RowKit

theorem holds_put (a : Ar) (k : Nat) (v b : Nb) : holdsB (a.put k v) b = holdsB a b := rfl
theorem may_holds {a : Ar} (h : mayA a = true) : ∀ b ∈ a.cs, holdsB a b = true := fun b hb => by
  simp only [mayA, Bool.and_eq_true] at h
  have h3 := h.2.2
  rw [Bool.not_eq_true'] at h3
  have := List.any_eq_false.1 h3 b hb
  simpa using this
theorem may_put {a : Ar} {k : Nat} {v : Nb} (h : mayA a = true) (hv : holdsB a v = true) : mayA (a.put k v) = true := by
  have hb := may_holds h
  have hl : (a.put k v).cs.length = a.cs.length := by simp [Ar.put]
  have h' := h
  simp only [mayA, Bool.and_eq_true] at h'
  have ha : (a.put k v).cs.any (fun b => !holdsB (a.put k v) b) = false := by
    rw [List.any_eq_false]
    intro b hm
    rw [holds_put]
    rcases List.mem_or_eq_of_mem_set hm with h1 | h1
    · simp [hb b h1]
    · simp [h1, hv]
  have hf : frameB (a.put k v) = frameB a := by
    have ht : ticksB (a.put k v) = ticksB a := by unfold ticksB; rw [hl]; rfl
    unfold frameB
    rw [ht]; rfl
  unfold mayA
  rw [ha, hf, hl, h'.1, h'.2.1]; rfl
theorem find_put {a : Ar} {k : Nat} {v i : Nb} (h : mayA a = true) (hv : holdsB a v = true) : findA 3 (a.put k v) i = findA 3 a i := by
  have hl : (a.put k v).cs.length = a.cs.length := by simp [Ar.put]
  unfold findA
  rw [may_put h hv, h, hl]; rfl
theorem put_put {a : Ar} {k : Nat} {v : Nb} (h : k < a.cs.length) : (a.put k v).put k (a.cs.getD k nb0) = a := by
  have : a.cs.getD k nb0 = a.cs[k] := by rw [List.getD_eq_getElem?_getD, List.getElem?_eq_getElem h]; rfl
  rw [this]
  unfold Ar.put
  simp
theorem put_get {a : Ar} {k : Nat} {v : Nb} (h : k < a.cs.length) : (a.put k v).cs.getD k nb0 = v := by
  unfold Ar.put
  rw [List.getD_eq_getElem?_getD, List.getElem?_set_self h]; rfl
theorem put_g {a : Ar} {k : Nat} {v : Nb} (h : ArG a) (hv : NbR v) : ArG (a.put k v) := by
  refine ⟨by simp only [Ar.put, List.length_set]; exact h.cn, h.ln, fun b hb => ?_, h.lr, h.wr, h.rr, h.br, h.kr⟩
  rcases List.mem_or_eq_of_mem_set hb with h1 | h1
  · exact h.cr b h1
  · rw [h1]; exact hv
theorem ArR.g {W : World} {x : ArL} (h : ArR W x) : ArG x.a := ⟨h.cn, h.ln, h.cr, h.lr, h.wr, h.rr, h.br, h.kr⟩
theorem count_kind {a : Ar} {i : Nb} (h : a.kind = 3) : countC a i = 1 := by
  unfold countC findA
  have : (a.kind == 4) = false := by rw [h]; rfl
  rw [this, Bool.false_and, if_neg (by decide)]
/- The three boxes of the arguments. -/
structure Kp (W : World) (b0 : Nat) (A : Array Value) (iw ih il vw vh vl : Int) : Prop where
  a : W.heap[b0]? = some (.cells A 33 (0, 0))
  i : W.heap[b0 + 1]? = some (.cells #[.int .i64 iw, .int .u64 ih, .int .u64 il] 24 (0, 0))
  v : W.heap[b0 + 1 + 1]? = some (.cells #[.int .i64 vw, .int .u64 vh, .int .u64 vl] 24 (0, 0))
theorem Kp.below {W W' : World} {b0 : Nat} {A : Array Value} {iw ih il vw vh vl : Int} (h : Kp W b0 A iw ih il vw vh vl) (hb : Below W.heap.size W W') : Kp W' b0 A iw ih il vw vh vl := ⟨heap_below hb h.a, heap_below hb h.i, heap_below hb h.v⟩
theorem ranN_mem {a : Ar} (h : ArG a) (k : Nat) (hk : k < a.cs.length) : NbR (a.cs.getD k nb0) := by
  rw [List.getD_eq_getElem?_getD, List.getElem?_eq_getElem hk]
  exact h.cr _ (List.getElem_mem hk)
end Go.Proofs.Ytngeclnlgoamkaa
