/- What a call may touch: all blocks but some stay. -/
import Derived.Test.YtnihneicoikdhaaGreatDoorRd
import Derived.Maps.AppendAt
namespace Go.Proofs.YtnihneicoikdhaaGreatDoor
open Go.RowKit

structure Fr (E : Nat → Prop) (W W' : World) : Prop where
  os : W'.os = W.os
  tape : W'.tape = W.tape
  output : W'.output = W.output
  size : W.heap.size ≤ W'.heap.size
  block : ∀ b, b < W.heap.size → ¬ E b → W'.heap[b]? = W.heap[b]?
theorem Fr.refl (E : Nat → Prop) (W : World) : Fr E W W := ⟨rfl, rfl, rfl, Nat.le_refl _, fun _ _ _ => rfl⟩
theorem Fr.trans {E E' : Nat → Prop} {W W1 W2 : World} (h : Fr E W W1) (k : Fr E' W1 W2) (hE : ∀ b, b < W.heap.size → E' b → E b) : Fr E W W2 :=
  ⟨k.os.trans h.os, k.tape.trans h.tape, k.output.trans h.output, Nat.le_trans h.size k.size, fun b hb hn => (k.block b (Nat.lt_of_lt_of_le hb h.size) (fun e => hn (hE b hb e))).trans (h.block b hb hn)⟩
theorem Fr.ofBelow {E : Nat → Prop} {W W' : World} (h : Below W.heap.size W W') : Fr E W W' := ⟨h.os, h.tape, h.output, h.size, fun b hb _ => h.block b hb⟩
theorem Fr.below {E : Nat → Prop} {B : Nat} {W W' : World} (h : Fr E W W') (hE : ∀ b, E b → B ≤ b) (hB : B ≤ W.heap.size) : Below B W W' :=
  ⟨h.os, h.tape, h.output, h.size, fun b hb => h.block b (by omega) (fun e => by have := hE b e; omega)⟩
theorem Fr.drew {E : Nat → Prop} {W W' : World} (h : Fr E W W') : Fr E W W'.drew := ⟨h.os, h.tape, h.output, h.size, h.block⟩
theorem Fr.drewN {E : Nat → Prop} {W W' : World} (h : Fr E W W') (n : Nat) : Fr E W (W'.drewN n) := ⟨h.os, h.tape, h.output, h.size, h.block⟩
theorem Fr.grown {E : Nat → Prop} {W W' : World} {row : Option Nat} (h : W.grownBy W' row) (hE : ∀ r, row = some r → E r) : Fr E W W' := by
  exact ⟨h.os, h.tape, h.output, h.size, fun b hb hn => h.block b hb (fun e => hn (hE b e.symm))⟩
theorem Fr.set {E : Nat → Prop} {W W' : World} (h : Fr E W W') (p : Addr) (v : Value) (hE : E p.block) : Fr E W (W'.setCell p v) := by
  have hb := (Below.refl 0 W').setCell (p := p) (Nat.zero_le _) v
  exact ⟨hb.os.trans h.os, hb.tape.trans h.tape, hb.output.trans h.output, Nat.le_trans h.size hb.size, fun b hb hn => by rw [Below.heap_setCell _ _ _ _ (fun e => hn (by rw [e]; exact hE))]; exact h.block b hb hn⟩
theorem Fr.alloc {E : Nat → Prop} {W W' : World} (h : Fr E W W') (o : Obj) : Fr E W (W'.alloc o) := h.trans (E' := fun _ => False) (Fr.ofBelow ((Below.refl _ _).alloc (Nat.le_refl _) o)) (fun _ _ e => e.elim)
theorem Fr.cell {E : Nat → Prop} {W W' : World} (h : Fr E W W') {b o : Nat} {v : Value} (hc : W.cell? ⟨b, o, none⟩ = some v) (hn : ¬ E b) : W'.cell? ⟨b, o, none⟩ = some v :=
  (World.cell?_of_block (w := W) (a := ⟨b, o, none⟩) (h.block b (World.block_lt_of_cell? W _ hc) hn)).trans hc
end Go.Proofs.YtnihneicoikdhaaGreatDoor
