/- Four things that lie apart in memory. No program stands in it. -/
import Derived.Test.YtgfmkhgdndodkaaGreatDoorFr
namespace Go.Proofs.YtgfmkhgdndodkaaGreatDoor
open Go.RowKit

structure Comp (C : World → Prop) (F : Nat → Prop) : Prop where
  st : ∀ {E : Nat → Prop} {W W' : World}, C W → Fr E W W' → (∀ b, F b → ¬ E b) → C W'
  lt : ∀ {W : World} {b : Nat}, C W → F b → b < W.heap.size
structure Four (w W : World) (C1 : World → Prop) (F1 : Nat → Prop) (C2 : World → Prop) (F2 : Nat → Prop) (C3 : World → Prop) (F3 : Nat → Prop) (C4 : World → Prop) (F4 : Nat → Prop) : Prop where
  bl : Below w.heap.size w W
  k1 : Comp C1 F1
  k2 : Comp C2 F2
  k3 : Comp C3 F3
  k4 : Comp C4 F4
  c1 : C1 W
  c2 : C2 W
  c3 : C3 W
  c4 : C4 W
  l1 : ∀ b, F1 b → w.heap.size ≤ b
  l2 : ∀ b, F2 b → w.heap.size ≤ b
  l3 : ∀ b, F3 b → w.heap.size ≤ b
  l4 : ∀ b, F4 b → w.heap.size ≤ b
  d12 : ∀ b, F1 b → ¬ F2 b
  d13 : ∀ b, F1 b → ¬ F3 b
  d14 : ∀ b, F1 b → ¬ F4 b
  d23 : ∀ b, F2 b → ¬ F3 b
  d24 : ∀ b, F2 b → ¬ F4 b
  d34 : ∀ b, F3 b → ¬ F4 b
section
variable {w W W' : World} {C1 C2 C3 C4 C1' C2' C3' C4' : World → Prop} {F1 F2 F3 F4 F1' F2' F3' F4' : Nat → Prop}
theorem Four.rot (h : Four w W C1 F1 C2 F2 C3 F3 C4 F4) : Four w W C2 F2 C3 F3 C4 F4 C1 F1 :=
  ⟨h.bl, h.k2, h.k3, h.k4, h.k1, h.c2, h.c3, h.c4, h.c1, h.l2, h.l3, h.l4, h.l1, h.d23, h.d24, fun b e e' => h.d12 b e' e, h.d34, fun b e e' => h.d13 b e' e, fun b e e' => h.d14 b e' e⟩
theorem Four.step1 (h : Four w W C1 F1 C2 F2 C3 F3 C4 F4) (hf : Fr F1 W W') (k : Comp C1' F1') (c : C1' W') (hn : ∀ b, F1' b → F1 b ∨ W.heap.size ≤ b) : Four w W' C1' F1' C2 F2 C3 F3 C4 F4 := by
  have hs := h.bl.size
  refine ⟨h.bl.trans (hf.below h.l1 hs), k, h.k2, h.k3, h.k4, c, h.k2.st h.c2 hf (fun b e e' => h.d12 b e' e), h.k3.st h.c3 hf (fun b e e' => h.d13 b e' e), h.k4.st h.c4 hf (fun b e e' => h.d14 b e' e), fun b e => ?_, h.l2, h.l3, h.l4, fun b e e' => ?_, fun b e e' => ?_, fun b e e' => ?_, h.d23, h.d24, h.d34⟩
  · rcases hn b e with e | e
    · exact h.l1 b e
    · omega
  · rcases hn b e with e | e
    · exact h.d12 b e e'
    · have := h.k2.lt h.c2 e'; omega
  · rcases hn b e with e | e
    · exact h.d13 b e e'
    · have := h.k3.lt h.c3 e'; omega
  · rcases hn b e with e | e
    · exact h.d14 b e e'
    · have := h.k4.lt h.c4 e'; omega
theorem Four.step2 (h : Four w W C1 F1 C2 F2 C3 F3 C4 F4) (hf : Fr F2 W W') (k : Comp C2' F2') (c : C2' W') (hn : ∀ b, F2' b → F2 b ∨ W.heap.size ≤ b) : Four w W' C1 F1 C2' F2' C3 F3 C4 F4 := (h.rot.step1 hf k c hn).rot.rot.rot
theorem Four.step3 (h : Four w W C1 F1 C2 F2 C3 F3 C4 F4) (hf : Fr F3 W W') (k : Comp C3' F3') (c : C3' W') (hn : ∀ b, F3' b → F3 b ∨ W.heap.size ≤ b) : Four w W' C1 F1 C2 F2 C3' F3' C4 F4 := (h.rot.rot.step1 hf k c hn).rot.rot
theorem Four.step4 (h : Four w W C1 F1 C2 F2 C3 F3 C4 F4) (hf : Fr F4 W W') (k : Comp C4' F4') (c : C4' W') (hn : ∀ b, F4' b → F4 b ∨ W.heap.size ≤ b) : Four w W' C1 F1 C2 F2 C3 F3 C4' F4' := (h.rot.rot.rot.step1 hf k c hn).rot
theorem Four.next (h : Four w W C1 F1 C2 F2 C3 F3 C4 F4) (hb : Below W.heap.size W W') : Four w W' C1 F1 C2 F2 C3 F3 C4 F4 :=
  h.step1 (Fr.ofBelow hb) h.k1 (h.k1.st (E := fun _ => False) h.c1 (Fr.ofBelow hb) (fun _ _ e => e)) (fun _ e => .inl e)
end
end Go.Proofs.YtgfmkhgdndodkaaGreatDoor
