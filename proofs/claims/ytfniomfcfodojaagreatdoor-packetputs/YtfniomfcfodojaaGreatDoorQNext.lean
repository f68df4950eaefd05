/- The iterator over a cursor's next bits. -/
import Derived.Test.YtfniomfcfodojaaGreatDoorQSmall
import Derived.RangeFuncNested
import Derived.RangeFuncBound
import Derived.RangeFuncCalls
import Derived.RangeFuncLeaves
import Derived.Shelf.Abstract
import Derived.Shelf.RegionOpen
import Derived.WalkKit
import Derived.OwnWalkIn
import Derived.TacticsInMore
import Derived.LoopNIn
import Derived.LoopIn
namespace Go.Proofs.YtfniomfcfodojaaGreatDoor
open Go.RowKit Go.Shelf

attribute [local go_sem] Oper.semAt_some

def KeepBut (E : Nat → Prop) (n₀ : Nat) (W W' : World) : Prop := W.heap.size ≤ W'.heap.size ∧ ∀ b, b < n₀ → ¬ E b → W'.heap[b]? = W.heap[b]?
theorem KeepBut.refl {E : Nat → Prop} {n₀ : Nat} {W : World} : KeepBut E n₀ W W := ⟨Nat.le_refl _, fun _ _ _ => rfl⟩
theorem KeepBut.t {E : Nat → Prop} {n₀ : Nat} {A B C : World} (h : KeepBut E n₀ A B) (k : KeepBut E n₀ B C) : KeepBut E n₀ A C := ⟨Nat.le_trans h.1 k.1, fun b hb he => (k.2 b hb he).trans (h.2 b hb he)⟩
theorem KeepBut.b {E : Nat → Prop} {n₀ : Nat} {w : World} (hn : n₀ ≤ w.heap.size) (W : World) (l : Nat) (o o' : Obj) (hl : w.heap.size ≤ l) (_ : W.heap[l]? = some o) (_ : o.isCells = false) (_ : o.isWalk = false) : KeepBut E n₀ W (W.putObj l o') :=
  ⟨by simp, fun b hb _ => World.putObj_heap_other (by omega)⟩
theorem KeepBut.ofBelow {E : Nat → Prop} {n₀ : Nat} {A B : World} (h : Below A.heap.size A B) (hn : n₀ ≤ A.heap.size) : KeepBut E n₀ A B := ⟨h.size, fun b hb _ => h.block b (by omega)⟩
theorem KeepBut.drew {E : Nat → Prop} {n₀ : Nat} {A B : World} (h : KeepBut E n₀ A B) : KeepBut E n₀ A B.drew := h
theorem KeepBut.cell {E : Nat → Prop} {n₀ : Nat} {A B : World} (h : KeepBut E n₀ A B) {p : Addr} (hp : p.block < n₀) (he : ¬ E p.block) : B.cell? p = A.cell? p := World.cell?_of_block (w := A) (h.2 p.block hp he)

def enc1 (x : Bit01) : Array Value := #[.int .u8 x.1]
theorem bit_walk (xs : List Nat) (i : Nat) (hx : ∀ y ∈ xs, y < 256) (h : i / 8 < xs.length) : bits .and .u8 (((xs[i / 8] : Nat) : Int) / 2 ^ (7 - i % 8)) 1 = ((bitOf xs i : Nat) : Int) := by
  rw [u8_bit _ _ (hx _ (List.getElem_mem h))]
  simp [bitOf, List.getD_eq_getElem?_getD, h]

theorem wrap_small {x : Int} (h0 : 0 ≤ x) (h1 : x < 1099511627776) : IntKind.i64.wrap x = x := by rw [IntKind.wrap_i64]; omega
end Go.Proofs.YtfniomfcfodojaaGreatDoor
