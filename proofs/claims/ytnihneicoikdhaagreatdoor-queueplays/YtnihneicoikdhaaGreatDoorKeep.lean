/- Cells of one's own, and what a loop over a function keeps: no program in sight. -/
import Derived.RangeFuncNested
import Derived.RangeFuncBound
import Derived.RangeFuncCalls
import Derived.RangeFuncLeaves
import Derived.Shelf.Abstract
import Derived.Shelf.RegionOpen
import Derived.WalkKit
import Derived.OwnWalkIn
import Derived.TacticsInMore
import Derived.LoopNIn
import Derived.LoopIn
import Derived.Laws.Pointers
import Derived.Deep.RegionHeld3
import Derived.WalkSpells
import Derived.WalkLawsBesides
namespace Go.Proofs.YtnihneicoikdhaaGreatDoor
open Go.RowKit Go.Shelf

def KeepBut (E : Nat → Prop) (n₀ : Nat) (W W' : World) : Prop := W.heap.size ≤ W'.heap.size ∧ ∀ b, b < n₀ → ¬ E b → W'.heap[b]? = W.heap[b]?
theorem KeepBut.refl {E : Nat → Prop} {n₀ : Nat} {W : World} : KeepBut E n₀ W W := ⟨Nat.le_refl _, fun _ _ _ => rfl⟩
theorem KeepBut.t {E : Nat → Prop} {n₀ : Nat} {A B C : World} (h : KeepBut E n₀ A B) (k : KeepBut E n₀ B C) : KeepBut E n₀ A C := ⟨Nat.le_trans h.1 k.1, fun b hb he => (k.2 b hb he).trans (h.2 b hb he)⟩
theorem KeepBut.b {E : Nat → Prop} {n₀ : Nat} {w : World} (hn : n₀ ≤ w.heap.size) (W : World) (l : Nat) (o o' : Obj) (hl : w.heap.size ≤ l) (_ : W.heap[l]? = some o) (_ : o.isCells = false) (_ : o.isWalk = false) : KeepBut E n₀ W (W.putObj l o') :=
  ⟨by simp, fun b hb _ => World.putObj_heap_other (by omega)⟩
theorem KeepBut.ofBelow {E : Nat → Prop} {n₀ : Nat} {A B : World} (h : Below A.heap.size A B) (hn : n₀ ≤ A.heap.size) : KeepBut E n₀ A B := ⟨h.size, fun b hb _ => h.block b (by omega)⟩
theorem KeepBut.drew {E : Nat → Prop} {n₀ : Nat} {A B : World} (h : KeepBut E n₀ A B) : KeepBut E n₀ A B.drew := h
theorem KeepBut.cell {E : Nat → Prop} {n₀ : Nat} {A B : World} (h : KeepBut E n₀ A B) {p : Addr} (hp : p.block < n₀) (he : ¬ E p.block) : B.cell? p = A.cell? p := World.cell?_of_block (w := A) (h.2 p.block hp he)
def LC (W : World) (b : Nat) (v : Value) : Prop := W.cell? ⟨b, 0, none⟩ = some v ∧ W.frozen? ⟨b, 0, none⟩ = false
theorem LC.box {W : World} {b : Nat} {v : Value} {t : TypeId} (h : W.heap[b]? = some (.cells #[v] t (0, 0))) : LC W b v := by
  constructor <;> simp [World.cell?, World.frozen?, h]
theorem LC.new (W : World) (v : Value) (t : TypeId) : LC (W.alloc (.cells #[v] t)) W.heap.size v := LC.box (World.alloc_heap_new W _)
theorem LC.kept {W W' : World} {row : Option Nat} {b : Nat} {v : Value} (h : LC W b v) (hg : W.grownBy W' row) (hr : ∀ r, row = some r → ∃ o : Obj, W.heap[r]? = some o ∧ o.isCells = false) : LC W' b v :=
  ⟨cell_kept h.1 hg hr, (frozen_kept h.1 hg hr).trans h.2⟩
theorem LC.alloc {W : World} {b : Nat} {v : Value} (o : Obj) (h : LC W b v) : LC (W.alloc o) b v := h.kept (World.grownBy_alloc W o none) (fun r e => by cases e)
theorem LC.drew {W : World} {b : Nat} {v : Value} (h : LC W b v) : LC W.drew b v := h
theorem LC.set {W : World} {b : Nat} {v : Value} (h : LC W b v) (u : Value) : LC (W.setCell ⟨b, 0, none⟩ u) b u := ⟨World.cell?_setCell_same' _ _ _ (by rw [h.1]; rfl), by rw [World.frozen?_setCell]; exact h.2⟩
theorem LC.far {W : World} {b : Nat} {v : Value} (h : LC W b v) (p : Addr) (u : Value) (hne : p.block ≠ b) : LC (W.setCell p u) b v := ⟨(World.cell?_setCell_far _ _ _ _ hne).trans h.1, by rw [World.frozen?_setCell]; exact h.2⟩
theorem LC.below {W W' : World} {b B : Nat} {v : Value} (h : LC W b v) (hb : Below B W W') (hl : b < B) : LC W' b v := ⟨(hb.cell (p := ⟨b, 0, none⟩) hl).trans h.1, (hb.frozen (p := ⟨b, 0, none⟩) hl).trans h.2⟩
theorem LC.lt {W : World} {b : Nat} {v : Value} (h : LC W b v) : b < W.heap.size := World.block_lt_of_cell? W _ h.1
theorem LC.own (b : Nat) {β : Type} (f : β → Value) : Own (fun (s : β) W => LC W b (f s)) := fun _ _ _ _ hs hg hr => hs.kept hg hr
theorem LC.cast {W : World} {b : Nat} {v u : Value} (h : LC W b v) (e : v = u) : LC W b u := e ▸ h
theorem KeepBut.setCell {E : Nat → Prop} {n₀ : Nat} {A B : World} (h : KeepBut E n₀ A B) (p : Addr) (v : Value) (he : E p.block) : KeepBut E n₀ A (B.setCell p v) :=
  ⟨by simpa using h.1, fun b hb hne => by rw [Below.heap_setCell _ _ _ _ (fun e => hne (by rw [e]; exact he))]; exact h.2 b hb hne⟩
theorem KeepBut.alloc {E : Nat → Prop} {n₀ : Nat} {A B : World} (h : KeepBut E n₀ A B) (hn : n₀ ≤ B.heap.size) (o : Obj) : KeepBut E n₀ A (B.alloc o) :=
  ⟨by have := h.1; simp; omega, fun b hb hne => (Below.heap_alloc _ _ _ (by omega)).trans (h.2 b hb hne)⟩
end Go.Proofs.YtnihneicoikdhaaGreatDoor
