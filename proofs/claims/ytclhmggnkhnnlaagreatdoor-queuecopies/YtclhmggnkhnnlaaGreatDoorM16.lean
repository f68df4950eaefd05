/- Pieces of the proof: QuF, LwIn. -/
import Derived.Test.YtclhmggnkhnnlaaGreatDoorM14
import Derived.Test.YtclhmggnkhnnlaaGreatDoorM15
import Derived.Test.YtclhmggnkhnnlaaGreatDoorM3
import Derived.OwnWalkIn
/- package queue: copyFor, goesOut, copies; what the iterator reads. -/
namespace Go.Proofs.YtclhmggnkhnnlaaGreatDoor
open Go.RowKit Go.Shelf

structure Ps where
  fin : Int
  pa : Option Addr
  pc : Nat
  xs : List Nat
  port : Int
  again : Bool
  round : Bool
  ea : Option Addr
  ec : Nat
  es : List Ef
def Ps.cells (p : Ps) : List Value := [.int .u8 p.fin, .slice p.pa p.xs.length p.pc, .int .i64 p.port, .bool p.again, .bool p.round, .slice p.ea p.es.length p.ec]
structure Gp where
  a : Option Addr
  cap : Nat
  ps : List Int
def Gp.cells (g : Gp) : List Value := [.slice g.a g.ps.length g.cap]
theorem gp_len (g : Gp) : g.cells.length = 1 := rfl
theorem aggPs : ∀ w, (isAgg 27).run Tryz.prog w = .ok true w := fun w => by kernel_rfl
theorem szPs : ∀ w, (sizeOf 27).run Tryz.prog w = .ok 6 w := fun w => by kernel_rfl
def outB (p : Ps) : Bool := p.fin == 1 && !p.again && !p.round
theorem goesOut_any (p : Ps) (w : World) : Calls Tryz.prog 136 #[.agg p.cells.toArray] w fun e w' => e = .returned (.bool (outB p)) ∧ Below w.heap.size w w' := by
  have h := heap_alloc_new w (.cells p.cells.toArray 27)
  have c0 : (w.alloc (.cells p.cells.toArray 27)).cell? ⟨w.heap.size, 0, none⟩ = some (.int .u8 p.fin) := cellA h 0
  have c3 : (w.alloc (.cells p.cells.toArray 27)).cell? ⟨w.heap.size, 3, none⟩ = some (.bool p.again) := cellA h 3
  have c4 : (w.alloc (.cells p.cells.toArray 27)).cell? ⟨w.heap.size, 4, none⟩ = some (.bool p.round) := cellA h 4
  clear h
  unfold outB
  generalize p.cells.toArray = cs at *
  generalize p.again = x at *
  generalize p.round = y at *
  generalize p.fin = k at *
  generalize ht : (k == 1) = t
  have HT := hide ht
  cases t with
  | false =>
    go_enter Tryz.func136, Tryz.ntmps136
    go_wp2
    go_ret
    exact ⟨by simp, below1 _ _⟩
  | true =>
    cases x with
    | true =>
      go_enter Tryz.func136, Tryz.ntmps136
      go_wp2
      go_ret
      exact ⟨by simp, below1 _ _⟩
    | false =>
      go_enter Tryz.func136, Tryz.ntmps136
      go_wp2
      go_ret
      exact ⟨by simp, below1 _ _⟩
set_option maxHeartbeats 1000000 in
theorem copyFor_any (port : Int) (p : Ps) (w : World) (hl : p.xs.length ≤ 140737488355328) (hr : RdA w p.pa p.xs) (hn : p.pa = none → p.pc = 0) : Calls Tryz.prog 135 #[.int .i64 port, .agg p.cells.toArray] w fun e w' => ∃ a' c', e = .returned (.agg #[.int .i64 port, .slice a' p.xs.length c']) ∧ Own8 w' w.heap.size (.slice a' p.xs.length c') p.xs ∧ Below w.heap.size w w' := by
  have HC : Hid (∀ W, Below w.heap.size w W → _) := fun W hb => clone_any p.pa p.pc p.xs W hl (hr.below hb) hn
  have hb0 := below2 w (.cells p.cells.toArray 27) (.cells #[.int .i64 0, .slice none 0 0] 80)
  have c1 : ((w.alloc (.cells p.cells.toArray 27)).alloc (.cells #[.int .i64 0, .slice none 0 0] 80)).cell? ⟨w.heap.size, 1, none⟩ = some (.slice p.pa p.xs.length p.pc) := cellA (heap_past _ (heap_alloc_new w _)) 1
  have HB0 := hide hb0
  clear hb0 hr hn hl
  generalize p.cells.toArray = cs at *
  generalize p.xs = xs at *
  generalize hN : xs.length = N at *
  generalize p.pa = pa at *
  generalize p.pc = pc at *
  go_enter Tryz.func135, Tryz.ntmps135
  go_wp2_with fail
  refine (HC.out _ HB0.out).mono ?_
  rintro e w2 ⟨a', c', rfl, ho, hb⟩
  have hz := heap_below hb (heap_snd w (.cells cs 27) #[.int .i64 0, .slice none 0 0] 80)
  have HO := hide ho
  have HZ := hide hz
  have HB := hide hb
  clear ho hb hz
  go_wp2_with (refine wpList_storeA rfl 80 _ _ rfl (w.heap.size + 1) [.int .i64 port, .slice a' N c'] _ 80 rfl rfl szCy HZ.out rfl (by simp [Value.oneCell']) ?_; intro w5 hw5; have HW5 := hide hw5; clear hw5)
  have R5 : w5.heap[w.heap.size + 1]? = some (.cells #[.int .i64 port, .slice a' N c'] 80 (0, 0)) := by rw [HW5.out]; exact got0 HZ.out rfl
  have F5 : Fr (· = w.heap.size + 1) w2 w5 := by rw [HW5.out]; exact fr_all _ _ _ _
  refine bodyPost_ret (res_cell (cs := [.int .i64 port, .slice a' N c']) Tryz.results135 rfl aggCy szCy R5) rfl ⟨a', c', rfl, ?_, ?_⟩
  · refine (HO.out.lower HB0.out.size).fr F5 (fun b hb e => ?_)
    have := (World.ownsRow.lt HO.out b hb).1
    simp only [World.size_alloc] at this
    omega
  · exact (bstep HB0.out HB.out).trans (F5.below (fun b e => by omega) (bstep HB0.out HB.out).size)
/- What the iterator reads; 'ok': blocks that its caller leaves alone. -/
def Okb {α : Type} (ok : Nat → Prop) (a : Option Addr) (l : List α) : Prop := l = [] ∨ ∀ q, a = some q → ok q.block
structure Src (ok : Nat → Prop) (W : World) (pb gb : Nat) (p : Ps) (ga : Option Addr) (gc : Nat) (gs : List Gp) : Prop where
  okp : ok pb
  pbk : W.heap[pb]? = some (.cells p.cells.toArray 27 (0, 0))
  okg : ok gb
  gbk : GrS W gb ga gs.length gc
  okx : Okb ok p.pa p.xs
  rx : RdA W p.pa p.xs
  nx : p.pa = none → p.pc = 0
  lx : p.xs.length ≤ 140737488355328
  oke : Okb ok p.ea p.es
  re : RdG Ef.cells 10 W p.ea p.es
  okgs : Okb ok ga gs
  rgs : RdG Gp.cells 1 W ga gs
  rz : ∀ g ∈ gs, Okb ok g.a g.ps ∧ RdZ W g.a g.ps ∧ g.ps.length ≤ 1000000
  ask : ∀ e ∈ p.es, asks gs.length e = false
  le : p.es.length ≤ 1000000
  lg : gs.length ≤ 1000000
theorem rdA_ok {ok : Nat → Prop} {W W' : World} {a : Option Addr} {xs : List Nat} (h : RdA W a xs) (ho : Okb ok a xs) (hs : W.heap.size ≤ W'.heap.size) (hk : ∀ b, ok b → W'.heap[b]? = W.heap[b]?) : RdA W' a xs := by
  rcases h with h | ⟨p, off, rfl, hp, hc⟩
  · exact .inl h
  · rcases ho with h | ho
    · exact .inl h
    · exact .inr ⟨p, off, rfl, by omega, fun i hi => (World.cell?_of_block (w := W) (a := ⟨p, off + i, none⟩) (hk p (ho _ rfl))).trans (hc i hi)⟩
theorem rdZ_ok {ok : Nat → Prop} {W W' : World} {a : Option Addr} {xs : List Int} (h : RdZ W a xs) (ho : Okb ok a xs) (hs : W.heap.size ≤ W'.heap.size) (hk : ∀ b, ok b → W'.heap[b]? = W.heap[b]?) : RdZ W' a xs := by
  rcases h with h | ⟨p, off, rfl, hp, hc⟩
  · exact .inl h
  · rcases ho with h | ho
    · exact .inl h
    · exact .inr ⟨p, off, rfl, by omega, fun i hi => (World.cell?_of_block (w := W) (a := ⟨p, off + i, none⟩) (hk p (ho _ rfl))).trans (hc i hi)⟩
theorem rdG_ok {α : Type} {f : α → List Value} {c : Nat} {ok : Nat → Prop} {W W' : World} {a : Option Addr} {xs : List α} (h : RdG f c W a xs) (ho : Okb ok a xs) (hs : W.heap.size ≤ W'.heap.size) (hk : ∀ b, ok b → W'.heap[b]? = W.heap[b]?) : RdG f c W' a xs := by
  rcases h with h | ⟨p, off, rfl, hp, hc⟩
  · exact .inl h
  · rcases ho with h | ho
    · exact .inl h
    · exact .inr ⟨p, off, rfl, by omega, fun i hi j u hu => (World.cell?_of_block (w := W) (a := ⟨p, off + i * c + j, none⟩) (hk p (ho _ rfl))).trans (hc i hi j u hu)⟩
theorem Src.keep {ok : Nat → Prop} {W W' : World} {pb gb : Nat} {p : Ps} {ga : Option Addr} {gc : Nat} {gs : List Gp} (h : Src ok W pb gb p ga gc gs) (hs : W.heap.size ≤ W'.heap.size) (hk : ∀ b, ok b → W'.heap[b]? = W.heap[b]?) : Src ok W' pb gb p ga gc gs :=
  ⟨h.okp, (hk _ h.okp).trans h.pbk, h.okg, (hk _ h.okg).trans h.gbk, h.okx, rdA_ok h.rx h.okx hs hk, h.nx, h.lx, h.oke, rdG_ok h.re h.oke hs hk, h.okgs, rdG_ok h.rgs h.okgs hs hk, fun g hg => ⟨(h.rz g hg).1, rdZ_ok (h.rz g hg).2.1 (h.rz g hg).1 hs hk, (h.rz g hg).2.2⟩, h.ask, h.le, h.lg⟩
theorem copies_any (p : Ps) (ga : Option Addr) (gn gc : Nat) (w : World) : Calls Tryz.prog 28 #[.slice ga gn gc, .agg p.cells.toArray] w fun e w' => e = .returned (.func (.func 134) #[] #[.pointer (some ⟨w.heap.size + 1, 0, none⟩), .pointer (some ⟨w.heap.size, 0, none⟩)]) ∧ w' = (w.alloc (.cells #[.slice ga gn gc] 22)).alloc (.cells p.cells.toArray 27) := by
  generalize p.cells.toArray = cs
  go_enter Tryz.func28, Tryz.ntmps28
  go_wp2
  go_ret
  exact ⟨rfl, rfl⟩
end Go.Proofs.YtclhmggnkhnnlaaGreatDoor
/- Structs that are made, loaded and stored whole, within a fence: one law each. -/
namespace Go.Proofs.YtclhmggnkhnnlaaGreatDoor
open Go.RowKit

theorem wpListIn_loadW {F : Fence} {n : Nat} {P : Program} {w : World} {ops : Array Oper} {rest : List Oper} {o : Oper} {a : Act} {Q : Exit → Act → World → Prop} (hg : o.guard = none) (t : TypeId) (x : Operand) (ho : o.op = .load t x) (b off : Nat) (cs : List Value)
    (hx : a.eval x = .pointer (some ⟨b, off, none⟩)) (ha : ∀ w, (isAgg t).run P w = .ok true w) (hs : ∀ w, (sizeOf t).run P w = .ok cs.length w) (hb : ∀ j u, cs[j]? = some u → w.cell? ⟨b, off + j, none⟩ = some u)
    (hK : wpListIn F n P ops Q rest (a.put o.dst (.agg cs.toArray)) w) : wpListIn F n P ops Q (o :: rest) a w := by
  refine wpListIn_plain hg fun K hK' => ?_
  have h2 : (Instr.loadAt t (.pointer (some ⟨b, off, none⟩))).run P w = .ok (.agg cs.toArray) w := by
    simp [Instr.loadAt, Instr.sureAddr, run_loadW ha hs hb]
  have h3 : (execOp a.eval o).run P w = .ok (.value (.agg cs.toArray)) w := by
    simp [execOp, ho, hx, h2, Result.andThen]
  unfold Oper.wpIn
  refine ⟨by simp [Oper.about, ho], ?_⟩
  rw [Oper.semAt_plain F _ _ (by rw [ho]; intro c hc; cases hc), h3]
  exact hK' _ _ hK
theorem wpListIn_loadA {F : Fence} {n : Nat} {P : Program} {w : World} {ops : Array Oper} {rest : List Oper} {o : Oper} {a : Act} {Q : Exit → Act → World → Prop} (hg : o.guard = none) (t : TypeId) (x : Operand) (ho : o.op = .load t x) (b : Nat) (cs : List Value) (e : TypeId)
    (hx : a.eval x = .pointer (some ⟨b, 0, none⟩)) (ha : ∀ w, (isAgg t).run P w = .ok true w) (hs : ∀ w, (sizeOf t).run P w = .ok cs.length w) (hb : w.heap[b]? = some (.cells cs.toArray e (0, 0)))
    (hK : wpListIn F n P ops Q rest (a.put o.dst (.agg cs.toArray)) w) : wpListIn F n P ops Q (o :: rest) a w :=
  wpListIn_loadW hg t x ho b 0 cs hx ha hs (fun j u hj => by rw [cellA hb, Nat.zero_add]; simpa using hj) hK
theorem wpListIn_allocZ {F : Fence} {n : Nat} {P : Program} {w : World} {ops : Array Oper} {rest : List Oper} {o : Oper} {a : Act} {Q : Exit → Act → World → Prop} (hg : o.guard = none) (t : TypeId) (ho : o.op = .alloc t) (cs : List Value) (hz : ∀ w, (zeroValue t).run P w = .ok (.agg cs.toArray) w)
    (h : ∀ w', Hid (w' = w.alloc (.cells cs.toArray t)) → wpListIn F n P ops Q rest (a.put o.dst (.pointer (some ⟨w.heap.size, 0, none⟩))) w') : wpListIn F n P ops Q (o :: rest) a w := by
  refine wpListIn_plain hg fun K hK => ?_
  have h3 : (execOp a.eval o).run P w = .ok (.value (.pointer (some ⟨w.heap.size, 0, none⟩))) (w.alloc (.cells cs.toArray t)) := by
    simp [execOp, ho, Instr.alloc, hz, newVar, newRow, Value.cells, Result.andThen]
  unfold Oper.wpIn
  refine ⟨by simp [Oper.about, ho], ?_⟩
  rw [Oper.semAt_plain F _ _ (by rw [ho]; intro c hc; cases hc), h3]
  exact hK _ _ (h _ (rfl : _ = _))
theorem wpListIn_storeA {F : Fence} {n : Nat} {P : Program} {w : World} {ops : Array Oper} {rest : List Oper} {o : Oper} {a : Act} {Q : Exit → Act → World → Prop} (hg : o.guard = none) (t : TypeId) (x y : Operand) (ho : o.op = .store t x y) (b : Nat) (cs : List Value) (ys : Array Value) (e : TypeId)
    (hx : a.eval x = .pointer (some ⟨b, 0, none⟩)) (hy : a.eval y = .agg cs.toArray) (hs : ∀ w, (sizeOf t).run P w = .ok cs.length w) (hb : w.heap[b]? = some (.cells ys e (0, 0))) (hl : ys.size = cs.length) (one : ∀ v ∈ cs, v.oneCell' = true)
    (hK : ∀ w', Hid (w' = setAll b w 0 cs) → wpListIn F n P ops Q rest (a.put o.dst undef) w') : wpListIn F n P ops Q (o :: rest) a w := by
  refine wpListIn_plain hg fun K hK' => ?_
  have h1 : (storeCells ⟨b, 0, none⟩ cs 0).run P w = .ok () (setAll b w 0 cs) := by
    rw [run_storeCells_cells (P := P) b 0 cs 0 w (fun j hj => ?_) (fun j _ => ?_) one, setAll_eq]
    · rw [cellA hb]
      have hj' : j < ys.size := by omega
      simp [hj']
    · exact softA hb _
  have h2 : (Instr.storeAt t (.pointer (some ⟨b, 0, none⟩)) (.agg cs.toArray)).run P w = .ok () (setAll b w 0 cs) := by
    simp [Instr.storeAt, Instr.sureAddr, storeVar, hs, Value.cells, h1, Result.andThen]
  have h3 : (execOp a.eval o).run P w = .ok .skip (setAll b w 0 cs) := by
    simp [execOp, ho, hx, hy, h2, Result.andThen]
  unfold Oper.wpIn
  refine ⟨by simp [Oper.about, ho], ?_⟩
  rw [Oper.semAt_plain F _ _ (by rw [ho]; intro c hc; cases hc), h3]
  exact hK' _ _ (hK _ (rfl : _ = _))
end Go.Proofs.YtclhmggnkhnnlaaGreatDoor
