/- Pieces of the proof: QuA. -/
import Derived.Test.YtclhmggnkhnnlaaGreatDoorM4
import Derived.Laws.Tables
import Derived.RegionTactic
import Derived.Deep.RegionHeld3
/- package queue: a queue as it lies; the small calls. -/
namespace Go.Proofs.YtclhmggnkhnnlaaGreatDoor
open Go.RowKit

/- A copy that waits: its port, its bytes. -/
structure Cy where
  port : Int
  a : Option Addr
  cap : Nat
  xs : List Nat
def Cy.v (c : Cy) : Value := .slice c.a c.xs.length c.cap
structure QC (cs : Array Value) (r f : Nat) (L : List Cy) : Prop where
  sz : cs.size = 132
  c0 : cs[0]? = some (.bool true)
  c1 : cs[1]? = some (.int .i64 r)
  c2 : cs[2]? = some (.int .i64 L.length)
  c3 : cs[3]? = some (.int .i64 f)
  cd : ∀ i (h : i < L.length), cs[4 + (f + i) % 64]? = some L[i].v ∧ cs[68 + (f + i) % 64]? = some (.int .i64 L[i].port)
  rl : r ≤ 64
  fl : f < 64
  ll : L.length ≤ r
def Qs (W : World) (g r f : Nat) (L : List Cy) : Prop := ∃ cs, W.heap[g]? = some (.cells cs 116 (0, 0)) ∧ QC cs r f L
theorem Qs.lt {W : World} {g r f : Nat} {L : List Cy} (h : Qs W g r f L) : g < W.heap.size := by
  obtain ⟨cs, h, _⟩ := h
  exact (Array.getElem?_eq_some_iff.1 h).1
theorem Qs.block {W W' : World} {g r f : Nat} {L : List Cy} (h : Qs W g r f L) (e : W'.heap[g]? = W.heap[g]?) : Qs W' g r f L := by
  obtain ⟨cs, h, k⟩ := h
  exact ⟨cs, e.trans h, k⟩
theorem Qs.below {W W' : World} {g r f : Nat} {L : List Cy} (h : Qs W g r f L) (hb : Below W.heap.size W W') : Qs W' g r f L := h.block (hb.block _ h.lt)
theorem Qs.fr {E : Nat → Prop} {W W' : World} {g r f : Nat} {L : List Cy} (h : Qs W g r f L) (hf : Fr E W W') (hn : ¬ E g) : Qs W' g r f L := h.block (hf.block _ h.lt hn)
theorem Qs.at {W : World} {g r f : Nat} {L : List Cy} (h : Qs W g r f L) : W.cell? ⟨g, 0, none⟩ = some (.bool true) ∧ W.cell? ⟨g, 1, none⟩ = some (.int .i64 r) ∧ W.cell? ⟨g, 2, none⟩ = some (.int .i64 L.length) ∧ W.cell? ⟨g, 3, none⟩ = some (.int .i64 f) ∧ (∀ o, W.frozen? ⟨g, o, none⟩ = false) ∧ r ≤ 64 ∧ f < 64 ∧ L.length ≤ r := by
  obtain ⟨cs, h, k⟩ := h
  exact ⟨(cellA h 0).trans k.c0, (cellA h 1).trans k.c1, (cellA h 2).trans k.c2, (cellA h 3).trans k.c3, fun o => softA h o, k.rl, k.fl, k.ll⟩
theorem Qs.isS {W : World} {g r f : Nat} {L : List Cy} (h : Qs W g r f L) (o : Nat) (ho : o < 132) : (W.cell? ⟨g, o, none⟩).isSome = true := by
  obtain ⟨cs, h, k⟩ := h
  rw [cellA h o]
  simp [k.sz, ho]
theorem built_q (n : Int) : ∃ cs, Tryz.prog.built 116 #[(0, .bool true), (1, .int .i64 n)].toList = some cs ∧ cs.size = 132 ∧ cs[0]? = some (.bool true) ∧ cs[1]? = some (.int .i64 n) ∧ cs[2]? = some (.int .i64 0) ∧ cs[3]? = some (.int .i64 0) := by
  have h : (Tryz.prog.built 116 #[(0, .bool true), (1, .int .i64 n)].toList).map (fun cs => (cs.size, cs[0]?, cs[1]?, cs[2]?, cs[3]?)) = some (132, some (.bool true), some (.int .i64 n), some (.int .i64 0), some (.int .i64 0)) := by kernel_rfl
  obtain ⟨cs, h1, h2⟩ := Option.map_eq_some_iff.1 h
  simp only [Prod.mk.injEq] at h2
  exact ⟨cs, h1, h2⟩
theorem run_boxC {P : Program} (t : TypeId) (cs : Array Value) (w : World) : (Instr.box t (.agg cs)).run P w = .ok (.pointer (some ⟨w.heap.size, 0, none⟩)) (w.alloc (.cells cs t)) := by
  simp [Instr.box, newVar, newRow, Value.cells]
theorem wpList_buildZ {P : Program} {w : World} {ops : Array Oper} {rest : List Oper} {o : Oper} {a : Act} {Q : Exit → Act → World → Prop} (hg : o.guard = none) (t : TypeId) (parts : Array (Nat × Operand)) (ho : o.op = .build t parts) (ps : Array (Nat × Value)) (hp : parts.toList.map (fun x => (x.1, a.eval x.2)) = ps.toList) (cs : Array Value) (hb : ∀ w, (Instr.build t ps).run P w = .ok (.agg cs) w)
    (h : wpList P ops Q rest (a.put o.dst (.agg cs)) w) : wpList P ops Q (o :: rest) a w := by
  refine wpList_plain hg fun K hK => ?_
  have e : (parts.map fun x => (x.1, a.eval x.2)) = ps := by
    apply Array.toList_inj.1
    rw [Array.toList_map, hp]
  have h3 : (execOp a.eval o).run P w = .ok (.value (.agg cs)) w := by
    have hb' := hb w
    rw [← e] at hb'
    simp only [execOp, ho]
    simp [hb', Result.andThen]
  unfold Oper.wp
  rw [h3]
  exact hK _ _ h
set_option maxRecDepth 100000 in
theorem new_yes (n : Nat) (w : World) (hn : n ≤ 64) : Calls Tryz.prog 18 #[.int .i64 n] w fun e w' => e = .returned (.tuple #[.pointer (some ⟨w.heap.size, 0, none⟩), .int .i64 0]) ∧ Qs w' w.heap.size n 0 [] ∧ Below w.heap.size w w' := by
  obtain ⟨cs, h, hs, h0, h1, h2, h3⟩ := built_q n
  have hB : ∀ W, (Instr.build 116 #[(0, .bool true), (1, .int .i64 n)]).run Tryz.prog W = .ok (.agg cs) W := fun W => run_build W _ _ _ h
  have hX : ∀ W, (Instr.box 116 (.agg cs)).run Tryz.prog W = .ok (.pointer (some ⟨W.heap.size, 0, none⟩)) (W.alloc (.cells cs 116)) := fun W => run_boxC _ cs W
  have HQ : Hid (QC cs n 0 []) := ⟨hs, h0, h1, h2, h3, fun i hi => absurd hi (by simp), hn, by omega, Nat.zero_le _⟩
  have e1 : decide ((n : Int) < 0) = false := by simp
  have e2 : decide ((n : Int) > 64) = false := by simp; omega
  clear h hs h0 h1 h2 h3 hn
  go_enter Tryz.func18, Tryz.ntmps18
  go_wp2_with (refine wpList_buildZ rfl _ _ rfl _ rfl cs hB ?_)
  go_ret2
  refine ⟨rfl, ⟨cs, ?_, HQ.out⟩, ?_⟩
  · exact heap_alloc_new w _
  · exact (Below.refl _ w).alloc (Nat.le_refl _) _
theorem new_no (n : Int) (w : World) (hn : n < 0 ∨ 64 < n) : Calls Tryz.prog 18 #[.int .i64 n] w fun e w' => e = .returned (.tuple #[.pointer none, .int .i64 1]) ∧ w' = w := by
  by_cases h : n < 0
  · have e1 : decide (n < 0) = true := by simpa using h
    clear hn
    go_enter Tryz.func18, Tryz.ntmps18
    go_wp2
    go_ret2
    exact ⟨rfl, rfl⟩
  · have e1 : decide (n < 0) = false := by simpa using h
    have e2 : decide (n > 64) = true := by simp; omega
    clear hn
    go_enter Tryz.func18, Tryz.ntmps18
    go_wp2
    go_ret2
    exact ⟨rfl, rfl⟩
theorem isThere_yes {W : World} {g r f : Nat} {L : List Cy} (h : Qs W g r f L) : Calls Tryz.prog 126 #[.pointer (some ⟨g, 0, none⟩)] W fun e w' => e = .returned (.bool true) ∧ w' = W := by
  obtain ⟨c0, -⟩ := h.at
  go_enter Tryz.func126, Tryz.ntmps126
  go_wp2
  go_ret
  exact ⟨rfl, rfl⟩
theorem isThere_no (W : World) : Calls Tryz.prog 126 #[.pointer none] W fun e w' => e = .returned (.bool false) ∧ w' = W := by
  go_enter Tryz.func126, Tryz.ntmps126
  go_wp2
  go_ret
  exact ⟨rfl, rfl⟩
theorem place_at {W : World} {g f : Nat} (c3 : W.cell? ⟨g, 3, none⟩ = some (.int .i64 f)) (hf : f < 64) (k : Nat) (hk : k ≤ 64) : Calls Tryz.prog 127 #[.pointer (some ⟨g, 0, none⟩), .int .i64 k] W fun e w' => e = .returned (.int .i64 ((f + k) % 64 : Nat)) ∧ w' = W := by
  have e1 : IntKind.i64.wrap ((f : Int) + (k : Int)) = ((f + k : Nat) : Int) := by rw [IntKind.wrap_i64]; omega
  have e2 : ((f + k : Nat) : Int).tmod 64 = (((f + k) % 64 : Nat) : Int) := (Int.ofNat_tmod _ _).symm
  have hk2 : f + k < 128 := by omega
  clear hf
  generalize f + k = s at e1 e2 hk2 ⊢
  generalize hd : s % 64 = d at e2 ⊢
  have hd2 : d < 64 := by omega
  have e3 : IntKind.i64.wrap ((d : Nat) : Int) = ((d : Nat) : Int) := by rw [IntKind.wrap_i64]; omega
  clear hd
  go_enter Tryz.func127, Tryz.ntmps127
  go_wp2
  go_ret
  exact ⟨by first | rfl | simp [*], rfl⟩
theorem place_any {W : World} {g r f : Nat} {L : List Cy} (h : Qs W g r f L) (k : Nat) (hk : k ≤ 64) : Calls Tryz.prog 127 #[.pointer (some ⟨g, 0, none⟩), .int .i64 k] W fun e w' => e = .returned (.int .i64 ((f + k) % 64 : Nat)) ∧ w' = W :=
  place_at h.at.2.2.2.1 h.at.2.2.2.2.2.2.1 k hk
theorem len_any {W : World} {g r f : Nat} {L : List Cy} (h : Qs W g r f L) : Calls Tryz.prog 21 #[.pointer (some ⟨g, 0, none⟩)] W fun e w' => e = .returned (.int .i64 L.length) ∧ w' = W := by
  have HI := hide (isThere_yes h)
  obtain ⟨-, -, c2, -⟩ := h.at
  generalize L.length = n at c2 ⊢
  clear h
  go_enter Tryz.func21, Tryz.ntmps21
  go_wp2_with fail
  refine HI.out.mono ?_
  rintro e w1 ⟨rfl, rfl⟩
  go_wp2
  go_ret
  exact ⟨rfl, rfl⟩
theorem len_no (W : World) : Calls Tryz.prog 21 #[.pointer none] W fun e w' => e = .returned (.int .i64 0) ∧ w' = W := by
  have HI := hide (isThere_no W)
  go_enter Tryz.func21, Tryz.ntmps21
  go_wp2_with fail
  refine HI.out.mono ?_
  rintro e w1 ⟨rfl, rfl⟩
  go_wp2
  go_ret
  exact ⟨rfl, rfl⟩
end Go.Proofs.YtclhmggnkhnnlaaGreatDoor
