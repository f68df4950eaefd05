/- A disk as it lies in memory, and what the calls of package disk may touch. -/
import Derived.Test.YtgfmkhgdndodkaaGreatDoorFr
namespace Go.Proofs.YtgfmkhgdndodkaaGreatDoor
open Go.RowKit

def DE (g : Nat) (v : Value) (b : Nat) : Prop := b = g ∨ v.ownBlock = some b
structure Mv (g : Nat) (v v' : Value) (W W' : World) : Prop where
  fr : Fr (DE g v) W W'
  bl : ∀ b, v'.ownBlock = some b → v.ownBlock = some b ∨ W.heap.size ≤ b
theorem Mv.refl (g : Nat) (v : Value) (W : World) : Mv g v v W W := ⟨Fr.refl _ _, fun _ h => .inl h⟩
theorem Mv.trans {g : Nat} {v v1 v2 : Value} {W W1 W2 : World} (h : Mv g v v1 W W1) (k : Mv g v1 v2 W1 W2) : Mv g v v2 W W2 := by
  refine ⟨h.fr.trans k.fr (fun b hb e => ?_), fun b hb => ?_⟩
  · rcases e with e | e
    · exact .inl e
    · rcases h.bl b e with e | e
      · exact .inr e
      · omega
  · rcases k.bl b hb with e | e
    · exact h.bl b e
    · exact .inr (Nat.le_trans h.fr.size e)
theorem Mv.drewN {g : Nat} {v v' : Value} {W W' : World} (h : Mv g v v' W W') (n : Nat) : Mv g v v' W (W'.drewN n) := ⟨h.fr.drewN n, h.bl⟩
theorem Mv.next {g : Nat} {v v' : Value} {W W1 W2 : World} (h : Mv g v v' W W1) (k : Below W1.heap.size W1 W2) : Mv g v v' W W2 := h.trans ⟨Fr.ofBelow k, fun _ e => .inl e⟩
theorem Mv.ofBelow {g : Nat} {v : Value} {W W' : World} (h : Below W.heap.size W W') : Mv g v v W W' := (Mv.refl g v W).next h
/- The function that is set. -/
def FnIs (W : World) (B g : Nat) (v : Value) (f : Value) (st : Option Nat) : Prop :=
  (st = none ∧ f = .nilFunc) ∨ ∃ n p : Nat, st = some n ∧ n < 9223372036854775808 ∧ f = .func (Fn.func 121) #[] #[.pointer (some ⟨p, 0, none⟩)] ∧ W.cell? ⟨p, 0, none⟩ = some (.int .i64 n) ∧ B ≤ p ∧ p ≠ g ∧ v.ownBlock ≠ some p
structure Dk (W : World) (B g : Nat) (v : Value) (room : Nat) (xs : List Nat) (off : Bool) (f : Value) (st : Option Nat) : Prop where
  gB : B ≤ g
  c0 : W.cell? ⟨g, 0, none⟩ = some (.int .i64 room)
  c1 : W.cell? ⟨g, 1, none⟩ = some v
  c2 : W.cell? ⟨g, 2, none⟩ = some (.bool off)
  c3 : W.cell? ⟨g, 3, none⟩ = some f
  soft : ∀ o, W.frozen? ⟨g, o, none⟩ = false
  own : Own8 W B v xs
  ne : v.ownBlock ≠ some g
  r0 : 1 ≤ room
  r1 : room ≤ 16777216
  le : xs.length ≤ room
  fn : FnIs W B g v f st
theorem Dk.lt {W : World} {B g room : Nat} {v f : Value} {xs : List Nat} {off : Bool} {st : Option Nat} (h : Dk W B g v room xs off f st) : g < W.heap.size := World.block_lt_of_cell? W _ h.c0
theorem Dk.vlt {W : World} {B g room : Nat} {v f : Value} {xs : List Nat} {off : Bool} {st : Option Nat} (h : Dk W B g v room xs off f st) : ∀ b, v.ownBlock = some b → B ≤ b ∧ b < W.heap.size := World.ownsRow.lt h.own
theorem Dk.BW {W : World} {B g room : Nat} {v f : Value} {xs : List Nat} {off : Bool} {st : Option Nat} (h : Dk W B g v room xs off f st) : B ≤ W.heap.size := by have := h.gB; have := h.lt; omega
theorem Dk.E {W : World} {B g room : Nat} {v f : Value} {xs : List Nat} {off : Bool} {st : Option Nat} (h : Dk W B g v room xs off f st) : ∀ b, DE g v b → B ≤ b := fun b e => by
  rcases e with rfl | e
  · exact h.gB
  · exact (h.vlt b e).1
theorem FnIs.keep {W W' : World} {B g : Nat} {v f : Value} {st : Option Nat} (h : FnIs W B g v f st) (hf : ∀ p, p < W.heap.size → p ≠ g → v.ownBlock ≠ some p → W'.heap[p]? = W.heap[p]?) : FnIs W' B g v f st := by
  rcases h with h | ⟨n, p, h1, h2, h3, h4, h5, h6, h7⟩
  · exact .inl h
  · exact .inr ⟨n, p, h1, h2, h3, (World.cell?_of_block (w := W) (a := ⟨p, 0, none⟩) (hf p (World.block_lt_of_cell? W _ h4) h6 h7)).trans h4, h5, h6, h7⟩
theorem FnIs.keepV {W W' : World} {B g : Nat} {v v' f : Value} {st : Option Nat} (h : FnIs W B g v f st) (hm : Mv g v v' W W') : FnIs W' B g v' f st := by
  rcases h with h | ⟨n, p, h1, h2, h3, h4, h5, h6, h7⟩
  · exact .inl h
  · refine .inr ⟨n, p, h1, h2, h3, hm.fr.cell h4 (fun e => ?_), h5, h6, fun e => ?_⟩
    · rcases e with e | e
      · exact h6 e
      · exact h7 e
    · have := World.block_lt_of_cell? W _ h4
      rcases hm.bl p e with e | e
      · exact h7 e
      · simp at this; omega
theorem Dk.next {W W' : World} {B g room : Nat} {v f : Value} {xs : List Nat} {off : Bool} {st : Option Nat} (h : Dk W B g v room xs off f st) (hb : Below W.heap.size W W') : Dk W' B g v room xs off f st :=
  ⟨h.gB, (hb.cell (p := ⟨g, 0, none⟩) h.lt).trans h.c0, (hb.cell (p := ⟨g, 1, none⟩) h.lt).trans h.c1, (hb.cell (p := ⟨g, 2, none⟩) h.lt).trans h.c2, (hb.cell (p := ⟨g, 3, none⟩) h.lt).trans h.c3, fun o => (hb.frozen (p := ⟨g, o, none⟩) h.lt).trans (h.soft o), h.own.below hb, h.ne, h.r0, h.r1, h.le, h.fn.keep (fun p hp _ _ => hb.block p hp)⟩
theorem Dk.other {W W' : World} {B g room : Nat} {v f : Value} {xs : List Nat} {off : Bool} {st : Option Nat} {E : Nat → Prop} (h : Dk W B g v room xs off f st) (hb : Fr E W W') (h1 : ¬ E g) (h2 : ∀ b, v.ownBlock = some b → ¬ E b) (h3 : ∀ n p, f = .func (Fn.func n) #[] #[.pointer (some ⟨p, 0, none⟩)] → ¬ E p) : Dk W' B g v room xs off f st := by
  have hg := hb.block g h.lt h1
  refine ⟨h.gB, hb.cell h.c0 h1, hb.cell h.c1 h1, hb.cell h.c2 h1, hb.cell h.c3 h1, fun o => ?_, ?_, h.ne, h.r0, h.r1, h.le, ?_⟩
  · have := h.soft o; unfold World.frozen? at this ⊢; rw [hg]; exact this
  · refine ⟨h.own.1, ?_⟩
    rcases h.own.2 with h0 | ⟨gr, cap, cur, rfl, hg, hcur, rest⟩
    · exact .inl h0
    · exact .inr ⟨gr, cap, cur, rfl, hg, (hb.block _ (Array.getElem?_eq_some_iff.1 hcur).1 (h2 gr rfl)).trans hcur, rest⟩
  · rcases h.fn with e | ⟨n, p, e1, e2, e3, e4, e5, e6, e7⟩
    · exact .inl e
    · exact .inr ⟨n, p, e1, e2, e3, hb.cell e4 (h3 _ p e3), e5, e6, e7⟩
theorem Dk.drewN {W : World} {B g room : Nat} {v f : Value} {xs : List Nat} {off : Bool} {st : Option Nat} (h : Dk W B g v room xs off f st) (n : Nat) : Dk (W.drewN n) B g v room xs off f st := h.next ⟨rfl, rfl, rfl, Nat.le_refl _, fun _ _ => rfl⟩
/- Another row of one's own beside a disk. -/
theorem Own8.beside {W W' : World} {B' g : Nat} {v v' u : Value} {ys : List Nat} (h : Own8 W B' u ys) (hm : Mv g v v' W W') (h1 : u.ownBlock ≠ some g) (h2 : ∀ b, u.ownBlock = some b → v.ownBlock ≠ some b) : Own8 W' B' u ys ∧ ∀ b, u.ownBlock = some b → v'.ownBlock ≠ some b := by
  constructor
  · refine ⟨h.1, ?_⟩
    rcases h.2 with h0 | ⟨gr, cap, cur, rfl, hg, hcur, rest⟩
    · exact .inl h0
    · refine .inr ⟨gr, cap, cur, rfl, hg, (hm.fr.block _ (Array.getElem?_eq_some_iff.1 hcur).1 (fun e => ?_)).trans hcur, rest⟩
      rcases e with e | e
      · exact h1 (by rw [e]; rfl)
      · exact h2 gr rfl e
  · intro b hb e
    have := (World.ownsRow.lt h b hb).2
    rcases hm.bl b e with e | e
    · exact h2 b hb e
    · omega
end Go.Proofs.YtgfmkhgdndodkaaGreatDoor
