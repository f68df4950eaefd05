/- Of every package: a list of lists of bytes that can be read. (Cut out of DkK in round 17.) -/
import Derived.Test.YtnihneicoikdhaaGreatDoorRd
namespace Go.Proofs.YtnihneicoikdhaaGreatDoor
open Go.RowKit

/- A list of lists of bytes that can be read. -/
structure It where
  a : Option Addr
  cap : Nat
  xs : List Nat
structure ItOk (W : World) (it : It) : Prop where
  rd : RdA W it.a it.xs
  le : it.xs.length ≤ it.cap
  nn : it.a = none → it.cap = 0
  ln : it.xs.length ≤ 140737488355328
structure RdL (W : World) (a : Option Addr) (ls : List It) : Prop where
  rd : ls = [] ∨ ∃ p off, a = some ⟨p, off, none⟩ ∧ p < W.heap.size ∧ ∀ i (h : i < ls.length), W.cell? ⟨p, off + i, none⟩ = some (.slice ls[i].a ls[i].xs.length ls[i].cap)
  ok : ∀ it ∈ ls, ItOk W it
theorem RdL.below {W W' : World} {a : Option Addr} {ls : List It} (h : RdL W a ls) (hb : Below W.heap.size W W') : RdL W' a ls := by
  refine ⟨?_, fun it hi => ⟨(h.ok it hi).rd.below hb, (h.ok it hi).le, (h.ok it hi).nn, (h.ok it hi).ln⟩⟩
  rcases h.rd with h | ⟨p, off, rfl, hp, hc⟩
  · exact .inl h
  · exact .inr ⟨p, off, rfl, Nat.lt_of_lt_of_le hp hb.size, fun i hi => (hb.cell (p := ⟨p, off + i, none⟩) hp).trans (hc i hi)⟩
theorem RdL.get {W : World} {a : Option Addr} {ls : List It} (h : RdL W a ls) (h0 : 0 < ls.length) : ∃ p off, a = some ⟨p, off, none⟩ ∧ p < W.heap.size ∧ ∀ i (h : i < ls.length), W.cell? ⟨p, off + i, none⟩ = some (.slice ls[i].a ls[i].xs.length ls[i].cap) := by
  rcases h.rd with rfl | h
  · simp at h0
  · exact h
end Go.Proofs.YtnihneicoikdhaaGreatDoor
