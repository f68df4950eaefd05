/- pointsmanlaw17.QueueOrder: what waits is what was put. -/
import Derived.Test.YtnihneicoikdhaaQuJ
import Derived.Test.YtnihneicoikdhaaQSame
import Derived.Test.YtnihneicoikdhaaItm
namespace Go.Proofs.Ytnihneicoikdhaa
open Go.RowKit

/- Of the lists ls, those from t on, len of them put in all, wait. -/
def QO (w W : World) (r : Nat) (ls : List It) (t len : Nat) : Prop := ∃ f L, Qs W w.heap.size r f L ∧ t + L.length = len ∧ ∀ i (h : i < L.length), L[i].port = ((t + i : Nat) : Int) ∧ (∃ h' : t + i < ls.length, L[i].xs = ls[t + i].xs) ∧ Own8 W (w.heap.size + 1) (.slice L[i].a L[i].xs.length L[i].cap) L[i].xs
theorem QO.fr {E : Nat → Prop} {w W W' : World} {r t len : Nat} {ls : List It} (h : QO w W r ls t len) (hf : Fr E W W') (hn : ∀ b, E b → W.heap.size ≤ b) : QO w W' r ls t len := by
  obtain ⟨f, L, h1, h2, h3⟩ := h
  refine ⟨f, L, h1.fr hf (fun e => by have := hn _ e; have := h1.lt; omega), h2, fun i hi => ⟨(h3 i hi).1, (h3 i hi).2.1, (h3 i hi).2.2.fr hf (fun b hb e => ?_)⟩⟩
  have := hn b e
  have := (World.ownsRow.lt (h3 i hi).2.2 b hb).2
  omega
theorem QO.below {w W W' : World} {r t len : Nat} {ls : List It} (h : QO w W r ls t len) (hb : Below W.heap.size W W') : QO w W' r ls t len := h.fr (E := fun _ => False) (Fr.ofBelow hb) (fun _ e => e.elim)
theorem QO.le {w W : World} {r t len : Nat} {ls : List It} (h : QO w W r ls t len) : t ≤ len ∧ len - t ≤ r ∧ r ≤ 64 ∧ w.heap.size < W.heap.size := by
  obtain ⟨f, L, h1, h2, _⟩ := h
  have := h1.at
  exact ⟨by omega, by omega, by omega, h1.lt⟩
theorem put_o {w W : World} {r k : Nat} {ls : List It} (h : QO w W r ls 0 k) (hk : k < r) (hk2 : k < ls.length) (hr : ItOk W ls[k]) : Calls Try.prog 7 #[.pointer (some ⟨w.heap.size, 0, none⟩), .agg #[.int .i64 k, .slice ls[k].a ls[k].xs.length ls[k].cap]] W fun e W' => e = .returned (.int .i64 0) ∧ QO w W' r ls 0 (k + 1) ∧ Fr (· = w.heap.size) W W' := by
  obtain ⟨f, L, h1, h2, h3⟩ := h
  rw [Nat.zero_add] at h2
  refine (put_yes h1 (by omega) k ls[k].a ls[k].cap ls[k].xs hr.ln hr.rd hr.nn).mono ?_
  rintro e W' ⟨rfl, a', c', hq, ho, hf⟩
  refine ⟨rfl, ⟨f, _, hq, by simp [h2], fun i hi => ?_⟩, hf⟩
  by_cases e : i < L.length
  · rw [List.getElem_append_left e]
    refine ⟨(h3 i e).1, (h3 i e).2.1, (h3 i e).2.2.fr hf (fun b hb e2 => ?_)⟩
    have := (World.ownsRow.lt (h3 i e).2.2 b hb).1
    omega
  · obtain rfl : i = L.length := by simp at hi; omega
    rw [List.getElem_concat_length (h := rfl)]
    exact ⟨by simp [h2], ⟨by omega, by simp [h2]⟩, ho.lower h1.lt⟩
theorem put_of {w W : World} {r : Nat} {ls : List It} (h : QO w W r ls 0 r) (port : Int) (a : Option Addr) (n cap : Nat) : Calls Try.prog 7 #[.pointer (some ⟨w.heap.size, 0, none⟩), .agg #[.int .i64 port, .slice a n cap]] W fun e W' => e = .returned (.int .i64 10) ∧ Below W.heap.size W W' := by
  obtain ⟨f, L, h1, h2, h3⟩ := h
  exact put_full h1 (by omega) port a n cap
theorem len_o {w W : World} {r t len : Nat} {ls : List It} (h : QO w W r ls t len) : Calls Try.prog 10 #[.pointer (some ⟨w.heap.size, 0, none⟩)] W fun e W' => e = .returned (.int .i64 (len - t : Nat)) ∧ W' = W := by
  obtain ⟨f, L, h1, h2, h3⟩ := h
  have e : len - t = L.length := by omega
  rw [e]
  exact len_any h1
/- What came out: so many of the lists, from t on, each with its number. -/
def An (W : World) (b k t : Nat) (ls : List It) : Prop := b < W.heap.size ∧ ∀ i, i < k → ∃ a c, ∃ h : t + i < ls.length, W.cell? ⟨b, i * 2, none⟩ = some (.int .i64 ((t + i : Nat) : Int)) ∧ W.cell? ⟨b, i * 2 + 1, none⟩ = some (.slice a ls[t + i].xs.length c) ∧ RdA W a ls[t + i].xs
theorem An.below {W W' : World} {b k t : Nat} {ls : List It} (h : An W b k t ls) (hb : Below W.heap.size W W') : An W' b k t ls := by
  refine ⟨Nat.lt_of_lt_of_le h.1 hb.size, fun i hi => ?_⟩
  obtain ⟨a, c, h1, h2, h3, h4⟩ := h.2 i hi
  exact ⟨a, c, h1, (hb.cell (p := ⟨b, _, none⟩) h.1).trans h2, (hb.cell (p := ⟨b, _, none⟩) h.1).trans h3, h4.below hb⟩
theorem send_o {w W : World} {r t len : Nat} {ls : List It} (h : QO w W r ls t len) (n j : Nat) (hj : j = min n (len - t)) : Calls Try.prog 8 #[.pointer (some ⟨w.heap.size, 0, none⟩), .int .i64 n] W fun e W' => ∃ b, e = .returned (.tuple #[.slice (some ⟨b, 0, none⟩) j j, .int .i64 0]) ∧ An W' b j t ls ∧ QO w W' r ls (t + j) len ∧ Fr (· = w.heap.size) W W' := by
  obtain ⟨f, L, h1, h2, h3⟩ := h
  refine (send_yes h1 n j (by omega)).mono ?_
  rintro e W' ⟨b, rfl, hr, ⟨f', hq⟩, hf⟩
  have ow : ∀ i (hi : i < L.length), Own8 W' (w.heap.size + 1) (.slice L[i].a L[i].xs.length L[i].cap) L[i].xs := fun i hi => (h3 i hi).2.2.fr hf (fun b hb e => by
    have := (World.ownsRow.lt (h3 i hi).2.2 b hb).1
    omega)
  refine ⟨b, rfl, ⟨(World.ownsRow.lt hr b rfl).2, fun i hi => ?_⟩, ⟨f', _, hq, by simp; omega, fun i hi => ?_⟩, hf⟩
  · have hi2 : i < L.length := by omega
    have hit : i < (L.take j).length := by simp; omega
    obtain ⟨h', hx⟩ := (h3 i hi2).2.1
    have k0 := own_cell cy_len hr rfl i hit 0 (.int .i64 L[i].port) (by simp [Cy.cells])
    have k1 := own_cell cy_len hr rfl i hit 1 (.slice L[i].a L[i].xs.length L[i].cap) (by simp [Cy.cells])
    rw [Nat.zero_add] at k0 k1
    rw [(h3 i hi2).1] at k0
    have := (ow i hi2).rd.2
    rw [hx] at k1 this
    exact ⟨_, _, h', k0, k1, this⟩
  · have hi2 : j + i < L.length := by simp at hi; omega
    rw [List.getElem_drop]
    obtain ⟨h', hx⟩ := (h3 _ hi2).2.1
    have e : t + j + i = t + (j + i) := by omega
    refine ⟨by rw [(h3 _ hi2).1, e], ⟨by omega, ?_⟩, ow _ hi2⟩
    rw [hx]
    congr 2
    omega
end Go.Proofs.Ytnihneicoikdhaa
