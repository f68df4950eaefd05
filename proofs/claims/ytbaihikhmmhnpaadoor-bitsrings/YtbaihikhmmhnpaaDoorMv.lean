/- pointsmanlaw01.BitsMoves, walked over its callees' contracts. -/
import Derived.Test.YtbaihikhmmhnpaaDoorAlive
import Derived.Deep.RegionHeld3
namespace Go.Proofs.YtbaihikhmmhnpaaDoor
open Go.RowKit

theorem mblk_new (W : World) (a : Array Value) (t : TypeId) : (W.alloc (.cells a t)).heap[W.heap.size]? = some (.cells a t (0, 0)) := heap_alloc_new W _
theorem mblk3 {W : World} {b : Nat} {x y z : Value} {t : TypeId} (h : W.heap[b]? = some (.cells #[x, y, z] t (0, 0))) : W.cell? ⟨b, 0, none⟩ = some x ∧ W.cell? ⟨b, 1, none⟩ = some y ∧ W.cell? ⟨b, 2, none⟩ = some z ∧ ∀ o, W.frozen? ⟨b, o, none⟩ = false := by
  refine ⟨?_, ?_, ?_, fun o => ?_⟩
  · unfold World.cell?; simp only [h]; rfl
  · unfold World.cell?; simp only [h]; rfl
  · unfold World.cell?; simp only [h]; rfl
  · simp [World.frozen?, h]
theorem mlt {W : World} {b : Nat} {o : Obj} (h : W.heap[b]? = some o) : b < W.heap.size := (Array.getElem?_eq_some_iff.1 h).1
def N3 (W : World) (b : Nat) (n h l : Int) : Prop := W.heap[b]? = some (.cells #[.int .i64 n, .int .u64 h, .int .u64 l] 27 (0, 0))
theorem N3.below {W W' : World} {b : Nat} {n h l : Int} (k : N3 W b n h l) (hb : Below W.heap.size W W') : N3 W' b n h l := (hb.block _ (mlt k)).trans k
theorem N3.new (W : World) (n h l : Int) : N3 (W.alloc (.cells #[.int .i64 n, .int .u64 h, .int .u64 l] 27)) W.heap.size n h l := mblk_new _ _ _
theorem mset_same {W : World} {g k : Nat} {cur : Array Value} {t : TypeId} {fr : Nat × Nat} (h : W.heap[g]? = some (.cells cur t fr)) (v : Value) : (W.setCell ⟨g, k, none⟩ v).heap[g]? = some (.cells (cur.setIfInBounds k v) t fr) := by
  simp [World.setCell, Array.getElem?_modify, h]
theorem N3.set {W : World} {b : Nat} {n h l : Int} (k : N3 W b n h l) (h' l' : Int) : N3 (((W.setCell ⟨b, 0, none⟩ (.int .i64 n)).setCell ⟨b, 1, none⟩ (.int .u64 h')).setCell ⟨b, 2, none⟩ (.int .u64 l')) b n h' l' := by
  unfold N3
  rw [mset_same (mset_same (mset_same k _) _) _]
  rfl
theorem N3.far {W : World} {b c : Nat} {n h l : Int} (k : N3 W b n h l) (hne : b ≠ c) (x y z : Value) : N3 (((W.setCell ⟨c, 0, none⟩ x).setCell ⟨c, 1, none⟩ y).setCell ⟨c, 2, none⟩ z) b n h l := by
  unfold N3
  rw [Below.heap_setCell _ _ _ _ hne, Below.heap_setCell _ _ _ _ hne, Below.heap_setCell _ _ _ _ hne]
  exact k
end Go.Proofs.YtbaihikhmmhnpaaDoor
