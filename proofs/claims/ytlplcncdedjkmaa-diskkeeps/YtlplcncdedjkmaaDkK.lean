/- pointsmanlaw04.DiskKeeps, walked. -/
import Derived.Test.YtlplcncdedjkmaaDkW
namespace Go.Proofs.Ytlplcncdedjkmaa
open Go.RowKit

/- A list of lists of bytes that can be read. -/
structure It where
  a : Option Addr
  cap : Nat
  xs : List Nat
structure ItOk (W : World) (it : It) : Prop where
  rd : RdA W it.a it.xs
  le : it.xs.length ≤ it.cap
  nn : it.a = none → it.cap = 0
  ln : it.xs.length ≤ 140737488355328
structure RdL (W : World) (a : Option Addr) (ls : List It) : Prop where
  rd : ls = [] ∨ ∃ p off, a = some ⟨p, off, none⟩ ∧ p < W.heap.size ∧ ∀ i (h : i < ls.length), W.cell? ⟨p, off + i, none⟩ = some (.slice ls[i].a ls[i].xs.length ls[i].cap)
  ok : ∀ it ∈ ls, ItOk W it
theorem RdL.below {W W' : World} {a : Option Addr} {ls : List It} (h : RdL W a ls) (hb : Below W.heap.size W W') : RdL W' a ls := by
  refine ⟨?_, fun it hi => ⟨(h.ok it hi).rd.below hb, (h.ok it hi).le, (h.ok it hi).nn, (h.ok it hi).ln⟩⟩
  rcases h.rd with h | ⟨p, off, rfl, hp, hc⟩
  · exact .inl h
  · exact .inr ⟨p, off, rfl, Nat.lt_of_lt_of_le hp hb.size, fun i hi => (hb.cell (p := ⟨p, off + i, none⟩) hp).trans (hc i hi)⟩
def tot (ls : List It) : Nat := (ls.map (fun it => it.xs.length)).sum
theorem tot_succ (ls : List It) (k : Nat) (h : k < ls.length) : tot (ls.take (k + 1)) = tot (ls.take k) + ls[k].xs.length := by
  rw [List.take_succ_eq_append_getElem h]; unfold tot; rw [List.map_append, List.sum_append_nat]; simp only [List.map_cons, List.map_nil, List.sum_cons, List.sum_nil, Nat.add_zero]
theorem tot_le (ls : List It) (k : Nat) : tot (ls.take k) ≤ tot ls := by
  conv => rhs; rw [← List.take_append_drop k ls]
  unfold tot
  rw [List.map_append, List.sum_append_nat]
  omega
structure KS (w W : World) (g : Nat) (v vw : Value) (xd xw : List Nat) (off : Bool) (f : Value) (st : Option Nat) : Prop where
  bl : Below w.heap.size w W
  dk : Dk W w.heap.size g v 1048576 xd off f st
  ow : Own8 W w.heap.size vw xw
  n1 : vw.ownBlock ≠ some g
  n2 : ∀ b, vw.ownBlock = some b → v.ownBlock ≠ some b
theorem KS.move {w W W' : World} {g : Nat} {v v' vw f f' : Value} {xd xd' xw : List Nat} {off off' : Bool} {st st' : Option Nat} (h : KS w W g v vw xd xw off f st) (hm : Mv g v v' W W') (hd : Dk W' w.heap.size g v' 1048576 xd' off' f' st') : KS w W' g v' vw xd' xw off' f' st' :=
  ⟨h.bl.trans (hm.fr.below h.dk.E h.dk.BW), hd, (h.ow.beside hm h.n1 h.n2).1, h.n1, (h.ow.beside hm h.n1 h.n2).2⟩
theorem KS.next {w W W' : World} {g : Nat} {v vw f : Value} {xd xw : List Nat} {off : Bool} {st : Option Nat} (h : KS w W g v vw xd xw off f st) (hb : Below W.heap.size W W') : KS w W' g v vw xd xw off f st := h.move (Mv.ofBelow hb) (h.dk.next hb)
theorem KS.want {w W W' : World} {g : Nat} {v vw vw' : Value} {xd xw xw' : List Nat} {off : Bool} (h : KS w W g v vw xd xw off .nilFunc none) (O : Own8 W' w.heap.size vw' xw') (G : W.grownBy W' vw.ownBlock) (K : vw'.ownBlock = vw.ownBlock ∨ vw'.ownBlock = some W.heap.size) : KS w W' g v vw' xd xw' off .nilFunc none := by
  refine ⟨below_own h.bl h.ow G h.bl.size, h.dk.other (E := fun b => vw.ownBlock = some b) (Fr.grown G (fun r e => e)) h.n1 (fun b e e' => h.n2 b e' e) (fun n p e => by cases e), O, fun e => ?_, fun b e e' => ?_⟩
  · rcases K with k | k
    · exact h.n1 (k ▸ e)
    · rw [k] at e; injection e with e; have := h.dk.lt; omega
  · rcases K with k | k
    · exact h.n2 b (k ▸ e) e'
    · rw [k] at e; injection e with e; have := (h.dk.vlt b e').2; omega
theorem Own8.lower {W : World} {B B' : Nat} {v : Value} {xs : List Nat} (h : Own8 W B v xs) (hb : B' ≤ B) : Own8 W B' v xs := by
  refine ⟨h.1, ?_⟩
  rcases h.2 with h0 | ⟨gr, cap, cur, e, hg, rest⟩
  · exact .inl h0
  · exact .inr ⟨gr, cap, cur, e, Nat.le_trans hb hg, rest⟩
theorem Dk.lower {W : World} {B B' g room : Nat} {v f : Value} {xs : List Nat} {off : Bool} {st : Option Nat} (h : Dk W B g v room xs off f st) (hb : B' ≤ B) : Dk W B' g v room xs off f st := by
  refine ⟨Nat.le_trans hb h.gB, h.c0, h.c1, h.c2, h.c3, h.soft, h.own.lower hb, h.ne, h.r0, h.r1, h.le, ?_⟩
  rcases h.fn with e | ⟨n, p, e1, e2, e3, e4, e5, e6⟩
  · exact .inl e
  · exact .inr ⟨n, p, e1, e2, e3, e4, Nat.le_trans hb e5, e6⟩
theorem keeps_long (a0 a1 : Option Addr) (n0 c0 n1 c1 : Nat) (w : World) (h : 300 < n0) : Calls Try.prog 3 #[.slice a0 n0 c0, .slice a1 n1 c1] w fun e w' => e = .returned (.bool true) ∧ Below w.heap.size w w' := by
  have d1 : decide ((n0 : Int) > 300) = true := by simp; omega
  have d2 : decide (300 < n0) = true := by simp; omega
  go_enter Try.func3, Try.ntmps3
  go_wp2_with fail
  refine (alive_yes _).mono ?_
  rintro e w1 ⟨rfl, hb1⟩
  have B1 := hide hb1
  clear hb1
  go_wp2_with fail
  refine (alive_yes _).mono ?_
  rintro e w2 ⟨rfl, hb2⟩
  have B2 := hide hb2
  clear hb2
  go_wp2
  go_ret
  exact ⟨rfl, B1.out.trans (B2.out.mono B1.out.size)⟩
end Go.Proofs.Ytlplcncdedjkmaa
