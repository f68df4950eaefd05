/- Pieces of the proof: MtA, GnB, GnA, FrM, LwM, GnD. -/
import Derived.Test.YtlipcmonlhdgfaaGreatM1
import Derived.Maps.AppendAt
import Derived.Laws.IdiomCopy
import Derived.Laws.AppendOwnNone
/- package match: numbers, matches, entries and tables as plain data, and what is asked of them (no walk). -/
namespace Go.Proofs.YtlipcmonlhdgfaaGreat
open Go.RowKit

structure Nb where
  w : Int
  hi : Int
  lo : Int
structure Mx where
  v : Nb
  m : Nb
  len : Int
structure En where
  ms : List Mx
  prio : Int
  act : ByteArray
  args : List Nb
structure Tb where
  ks : List Nat
  ws : List Int
  size : Int
def Nb.val (b : Nb) : Value := .agg #[.int .i64 b.w, .int .u64 b.hi, .int .u64 b.lo]
def Mx.val (m : Mx) : Value := .agg #[.int .i64 m.v.w, .int .u64 m.v.hi, .int .u64 m.v.lo, .int .i64 m.m.w, .int .u64 m.m.hi, .int .u64 m.m.lo, .int .i64 m.len]
def i64R (n : Int) : Prop := -9223372036854775808 ≤ n ∧ n < 9223372036854775808
def u64R (n : Int) : Prop := 0 ≤ n ∧ n < 18446744073709551616
structure NbR (b : Nb) : Prop where
  w : i64R b.w
  hi : u64R b.hi
  lo : u64R b.lo
structure MxR (x : Mx) : Prop where
  v : NbR x.v
  m : NbR x.m
  len : i64R x.len
def Nb.ok (b : Nb) : Bool := okB b.w b.hi b.lo
def Nb.eq (a b : Nb) : Bool := a.w == b.w && (a.hi == b.hi && a.lo == b.lo)
def Mx.eq (a b : Mx) : Bool := a.v.eq b.v && (a.m.eq b.m && a.len == b.len)
def nb0 : Nb := ⟨0, 0, 0⟩
def wide (b : Nb) (w : Int) : Bool := b.w == w && b.ok
def fromB (a n b : Int) : Bool := decide (a ≤ n) && decide (n ≤ b)
def covB (m b : Nb) : Bool := bits .andNot .u64 b.hi m.hi == 0 && bits .andNot .u64 b.lo m.lo == 0
def aliB (a b m : Nb) : Bool := bits .and .u64 (bits .xor .u64 a.hi b.hi) m.hi == 0 && bits .and .u64 (bits .xor .u64 a.lo b.lo) m.lo == 0
def atmB (a b : Nb) : Bool := decide (a.hi < b.hi) || (a.hi == b.hi && decide (a.lo ≤ b.lo))
def ofB (n hi lo : Int) : Nb := if mayBe n then ⟨n, cHi n hi, cLo n lo⟩ else nb0
def ones : Int := 18446744073709551615
def fstB (w n : Int) : Nb := ⟨w, bits .andNot .u64 (ofB w ones ones).hi (ofB (w - n) ones ones).hi, bits .andNot .u64 (ofB w ones ones).lo (ofB (w - n) ones ones).lo⟩
/- May a match of a key so wide be an entry's? -/
def mayK (k : Nat) (m : Mx) (w : Int) : Bool :=
  match k with
  | 1 => m.m.eq nb0 && m.len == 0
  | 2 => m.m.eq nb0 && (fromB 0 m.len w && covB (fstB w m.len) m.v)
  | 3 => wide m.m w && (covB m.m m.v && m.len == 0)
  | _ => wide m.m w && (atmB m.v m.m && m.len == 0)
def matK (k : Nat) (m : Mx) (key : Nb) : Bool :=
  match k with
  | 1 => key.eq m.v
  | 2 => fromB 0 m.len key.w && aliB key m.v (fstB key.w m.len)
  | 3 => wide m.m key.w && aliB key m.v m.m
  | _ => wide m.m key.w && (atmB m.v key && atmB key m.m)
def Pure (F : Nat) (args : Array Value) (v : Value) : Prop := ∀ w, Calls Tryz.prog F args w fun e w' => e = .returned v ∧ Below w.heap.size w w'
end Go.Proofs.YtlipcmonlhdgfaaGreat
/- Of every package, naming no number: cells, worlds, first places. (Cut out of GnA in round 17.) -/
namespace Go.Proofs.YtlipcmonlhdgfaaGreat
open Go.RowKit

theorem at3 {W : World} {b : Nat} {x y z : Value} {t : TypeId} (h : W.heap[b]? = some (.cells #[x, y, z] t (0, 0))) : W.cell? ⟨b, 0, none⟩ = some x ∧ W.cell? ⟨b, 1, none⟩ = some y ∧ W.cell? ⟨b, 2, none⟩ = some z ∧ ∀ o, W.frozen? ⟨b, o, none⟩ = false := by
  refine ⟨?_, ?_, ?_, fun o => ?_⟩
  all_goals first | (unfold World.cell?; simp only [h]; rfl) | (unfold World.frozen?; simp only [h]; simp)
theorem lt_heap {W : World} {s : Nat} {o : Obj} (h : W.heap[s]? = some o) : s < W.heap.size := (Array.getElem?_eq_some_iff.1 h).1
theorem heap_past {W : World} {b : Nat} {o : Obj} (o' : Obj) (h : W.heap[b]? = some o) : (W.alloc o').heap[b]? = some o := (Below.heap_alloc _ _ _ (lt_heap h)).trans h
theorem heap_below {W W' : World} {b : Nat} {o : Obj} (hb : Below W.heap.size W W') (h : W.heap[b]? = some o) : W'.heap[b]? = some o := (hb.block _ (lt_heap h)).trans h
theorem below1 (w : World) (o : Obj) : Below w.heap.size w (w.alloc o) := (Below.refl _ _).alloc (Nat.le_refl _) _
theorem below2 (w : World) (o o2 : Obj) : Below w.heap.size w ((w.alloc o).alloc o2) := ((Below.refl _ _).alloc (Nat.le_refl _) _).alloc (by simp) _
theorem bstep {w a b : World} (h : Below w.heap.size w a) (k : Below a.heap.size a b) : Below w.heap.size w b := h.trans (k.mono h.size)
theorem at7 {W : World} {b : Nat} {x0 x1 x2 x3 x4 x5 x6 : Value} {t : TypeId} (h : W.heap[b]? = some (.cells #[x0, x1, x2, x3, x4, x5, x6] t (0, 0))) : W.cell? ⟨b, 0, none⟩ = some x0 ∧ W.cell? ⟨b, 1, none⟩ = some x1 ∧ W.cell? ⟨b, 2, none⟩ = some x2 ∧ W.cell? ⟨b, 3, none⟩ = some x3 ∧ W.cell? ⟨b, 4, none⟩ = some x4 ∧ W.cell? ⟨b, 5, none⟩ = some x5 ∧ W.cell? ⟨b, 6, none⟩ = some x6 := by
  refine ⟨?_, ?_, ?_, ?_, ?_, ?_, ?_⟩
  all_goals (unfold World.cell?; simp only [h]; rfl)
theorem heap_snd (w : World) (o : Obj) (cs : Array Value) (t : TypeId) : ((w.alloc o).alloc (.cells cs t)).heap[w.heap.size + 1]? = some (.cells cs t (0, 0)) := by
  have := heap_alloc_new (w.alloc o) (.cells cs t)
  rw [World.size_alloc] at this
  exact this
def RdZ (W : World) (a : Option Addr) (xs : List Int) : Prop :=
  xs = [] ∨ ∃ p off, a = some ⟨p, off, none⟩ ∧ p < W.heap.size ∧ ∀ i (h : i < xs.length), W.cell? ⟨p, off + i, none⟩ = some (.int .i64 xs[i])
theorem RdZ.below {W W' : World} {a : Option Addr} {xs : List Int} (h : RdZ W a xs) (hb : Below W.heap.size W W') : RdZ W' a xs := by
  rcases h with h | ⟨p, off, rfl, hp, hc⟩
  · exact .inl h
  · exact .inr ⟨p, off, rfl, Nat.lt_of_lt_of_le hp hb.size, fun i hi => (hb.cell (p := ⟨p, off + i, none⟩) hp).trans (hc i hi)⟩
theorem RdZ.some {W : World} {a : Option Addr} {xs : List Int} (h : RdZ W a xs) (hx : 0 < xs.length) : ∃ p off, a = some ⟨p, off, none⟩ ∧ p < W.heap.size ∧ ∀ i (h : i < xs.length), W.cell? ⟨p, off + i, none⟩ = some (.int .i64 xs[i]) := by
  rcases h with rfl | h
  · simp at hx
  · exact h
def firstI {α : Type} (p : α → Bool) (l : List α) : Int := match l.findIdx? p with | some i => (i : Int) | none => -1
theorem firstI_hit {α : Type} {p : α → Bool} {l : List α} {k : Nat} (h : k < l.length) (hp : p l[k] = true) (hn : ∀ j (hj : j < k), p (l[j]'(by omega)) = false) : firstI p l = k := by
  have : l.findIdx? p = some k := by
    rw [List.findIdx?_eq_some_iff_getElem]
    exact ⟨h, hp, fun j hj => by simp [hn j hj]⟩
  unfold firstI; rw [this]
theorem firstI_none {α : Type} {p : α → Bool} {l : List α} (hn : ∀ j (hj : j < l.length), p l[j] = false) : firstI p l = -1 := by
  have : l.findIdx? p = none := by
    rw [List.findIdx?_eq_none_iff]
    intro x hx
    obtain ⟨j, hj, rfl⟩ := List.mem_iff_getElem.1 hx
    exact hn j hj
  unfold firstI; rw [this]
theorem firstI_cases {α : Type} (p : α → Bool) (l : List α) : (firstI p l = -1 ∧ ∀ x ∈ l, p x = false) ∨ ∃ k, ∃ h : k < l.length, firstI p l = k ∧ p l[k] = true ∧ ∀ j (hj : j < k), p (l[j]'(by omega)) = false := by
  cases e : l.findIdx? p with
  | none => exact .inl ⟨by unfold firstI; rw [e], fun x hx => by rw [List.findIdx?_eq_none_iff] at e; exact e x hx⟩
  | some k =>
    obtain ⟨h, hp, hn⟩ := List.findIdx?_eq_some_iff_getElem.1 e
    exact .inr ⟨k, h, by unfold firstI; rw [e], hp, fun j hj => by simpa using hn j hj⟩
theorem firstI_any {α : Type} (p : α → Bool) (l : List α) : decide (0 ≤ firstI p l) = l.any p := by
  rcases firstI_cases p l with ⟨e, hn⟩ | ⟨k, h, e, hp, _⟩
  · rw [e]; symm; simp; exact hn
  · rw [e]; symm; simp; exact ⟨_, List.getElem_mem h, hp⟩
theorem firstI_lt {α : Type} (p : α → Bool) (l : List α) : -1 ≤ firstI p l ∧ firstI p l < l.length ∨ firstI p l = -1 := by
  rcases firstI_cases p l with ⟨e, _⟩ | ⟨k, h, e, _⟩
  · exact .inr e
  · left; rw [e]; omega
end Go.Proofs.YtlipcmonlhdgfaaGreat
/- Of every package: cells that stay, lists of numbers that can be read, what stands where. -/
namespace Go.Proofs.YtlipcmonlhdgfaaGreat
open Go.RowKit

def RdN (W : World) (a : Option Addr) (l : List Nb) : Prop :=
  l = [] ∨ ∃ p off, a = some ⟨p, off, none⟩ ∧ p < W.heap.size ∧ ∀ i (h : i < l.length), W.cell? ⟨p, off + i * 3, none⟩ = some (.int .i64 l[i].w) ∧ W.cell? ⟨p, off + i * 3 + 1, none⟩ = some (.int .u64 l[i].hi) ∧ W.cell? ⟨p, off + i * 3 + 2, none⟩ = some (.int .u64 l[i].lo)
theorem RdN.below {W W' : World} {a : Option Addr} {l : List Nb} (h : RdN W a l) (hb : Below W.heap.size W W') : RdN W' a l := by
  rcases h with h | ⟨p, off, rfl, hp, hc⟩
  · exact .inl h
  · exact .inr ⟨p, off, rfl, Nat.lt_of_lt_of_le hp hb.size, fun i hi => ⟨(hb.cell (p := ⟨p, _, none⟩) hp).trans (hc i hi).1, (hb.cell (p := ⟨p, _, none⟩) hp).trans (hc i hi).2.1, (hb.cell (p := ⟨p, _, none⟩) hp).trans (hc i hi).2.2⟩⟩
theorem RdN.some {W : World} {a : Option Addr} {l : List Nb} (h : RdN W a l) (hx : 0 < l.length) : ∃ p off, a = Option.some ⟨p, off, none⟩ ∧ p < W.heap.size ∧ ∀ i (h : i < l.length), W.cell? ⟨p, off + i * 3, none⟩ = Option.some (.int .i64 l[i].w) ∧ W.cell? ⟨p, off + i * 3 + 1, none⟩ = Option.some (.int .u64 l[i].hi) ∧ W.cell? ⟨p, off + i * 3 + 2, none⟩ = Option.some (.int .u64 l[i].lo) := by
  rcases h with rfl | h
  · simp at hx
  · exact h
end Go.Proofs.YtlipcmonlhdgfaaGreat
/- What a call may touch: all blocks but some stay. -/
namespace Go.Proofs.YtlipcmonlhdgfaaGreat
open Go.RowKit

structure Fr (E : Nat → Prop) (W W' : World) : Prop where
  os : W'.os = W.os
  tape : W'.tape = W.tape
  output : W'.output = W.output
  size : W.heap.size ≤ W'.heap.size
  block : ∀ b, b < W.heap.size → ¬ E b → W'.heap[b]? = W.heap[b]?
theorem Fr.refl (E : Nat → Prop) (W : World) : Fr E W W := ⟨rfl, rfl, rfl, Nat.le_refl _, fun _ _ _ => rfl⟩
theorem Fr.trans {E E' : Nat → Prop} {W W1 W2 : World} (h : Fr E W W1) (k : Fr E' W1 W2) (hE : ∀ b, b < W.heap.size → E' b → E b) : Fr E W W2 :=
  ⟨k.os.trans h.os, k.tape.trans h.tape, k.output.trans h.output, Nat.le_trans h.size k.size, fun b hb hn => (k.block b (Nat.lt_of_lt_of_le hb h.size) (fun e => hn (hE b hb e))).trans (h.block b hb hn)⟩
theorem Fr.ofBelow {E : Nat → Prop} {W W' : World} (h : Below W.heap.size W W') : Fr E W W' := ⟨h.os, h.tape, h.output, h.size, fun b hb _ => h.block b hb⟩
theorem Fr.below {E : Nat → Prop} {B : Nat} {W W' : World} (h : Fr E W W') (hE : ∀ b, E b → B ≤ b) (hB : B ≤ W.heap.size) : Below B W W' :=
  ⟨h.os, h.tape, h.output, h.size, fun b hb => h.block b (by omega) (fun e => by have := hE b e; omega)⟩
theorem Fr.drew {E : Nat → Prop} {W W' : World} (h : Fr E W W') : Fr E W W'.drew := ⟨h.os, h.tape, h.output, h.size, h.block⟩
theorem Fr.drewN {E : Nat → Prop} {W W' : World} (h : Fr E W W') (n : Nat) : Fr E W (W'.drewN n) := ⟨h.os, h.tape, h.output, h.size, h.block⟩
theorem Fr.grown {E : Nat → Prop} {W W' : World} {row : Option Nat} (h : W.grownBy W' row) (hE : ∀ r, row = some r → E r) : Fr E W W' := by
  exact ⟨h.os, h.tape, h.output, h.size, fun b hb hn => h.block b hb (fun e => hn (hE b e.symm))⟩
theorem Fr.set {E : Nat → Prop} {W W' : World} (h : Fr E W W') (p : Addr) (v : Value) (hE : E p.block) : Fr E W (W'.setCell p v) := by
  have hb := (Below.refl 0 W').setCell (p := p) (Nat.zero_le _) v
  exact ⟨hb.os.trans h.os, hb.tape.trans h.tape, hb.output.trans h.output, Nat.le_trans h.size hb.size, fun b hb hn => by rw [Below.heap_setCell _ _ _ _ (fun e => hn (by rw [e]; exact hE))]; exact h.block b hb hn⟩
theorem Fr.alloc {E : Nat → Prop} {W W' : World} (h : Fr E W W') (o : Obj) : Fr E W (W'.alloc o) := h.trans (E' := fun _ => False) (Fr.ofBelow ((Below.refl _ _).alloc (Nat.le_refl _) o)) (fun _ _ e => e.elim)
theorem Fr.cell {E : Nat → Prop} {W W' : World} (h : Fr E W W') {b o : Nat} {v : Value} (hc : W.cell? ⟨b, o, none⟩ = some v) (hn : ¬ E b) : W'.cell? ⟨b, o, none⟩ = some v :=
  (World.cell?_of_block (w := W) (a := ⟨b, o, none⟩) (h.block b (World.block_lt_of_cell? W _ hc) hn)).trans hc
end Go.Proofs.YtlipcmonlhdgfaaGreat
/- Structs that are loaded and stored whole: one law each. -/
namespace Go.Proofs.YtlipcmonlhdgfaaGreat
open Go.RowKit

theorem add8 (p off j : Nat) : (⟨p, off, none⟩ : Addr).add j = ⟨p, off + j, none⟩ := by
  unfold Addr.add; split
  · rename_i h; simp_all
  · rfl
theorem heap_setCell_same {W : World} {g k : Nat} {cur : Array Value} {t : TypeId} {fr : Nat × Nat} (h : W.heap[g]? = some (.cells cur t fr)) (v : Value) : (W.setCell ⟨g, k, none⟩ v).heap[g]? = some (.cells (cur.setIfInBounds k v) t fr) := by
  simp [World.setCell, Array.getElem?_modify, h]
/- All cells of a block are written, one behind the other. -/
def setAll (b : Nat) : World → Nat → List Value → World
  | W, _, [] => W
  | W, o, x :: xs => setAll b (W.setCell ⟨b, o, none⟩ x) (o + 1) xs
theorem fr_all (b : Nat) : ∀ (cs : List Value) (W : World) (o : Nat), Fr (· = b) W (setAll b W o cs)
  | [], W, _ => Fr.refl _ W
  | x :: xs, W, o => ((Fr.refl (· = b) W).set ⟨b, o, none⟩ x rfl).trans (fr_all b xs _ _) (fun _ _ e => e)
theorem got_all (b : Nat) (t : TypeId) : ∀ (cs : List Value) (W : World) (o : Nat) (ys : Array Value), W.heap[b]? = some (.cells ys t (0, 0)) → ys.size = o + cs.length → (setAll b W o cs).heap[b]? = some (.cells (ys.toList.take o ++ cs).toArray t (0, 0))
  | [], W, o, ys, h, hs => by
    have e : (ys.toList.take o ++ ([] : List Value)).toArray = ys := by rw [List.append_nil, List.take_of_length_le (by simp at hs; simp; omega)]
    rw [e]; exact h
  | x :: xs, W, o, ys, h, hs => by
    have h1 := heap_setCell_same (k := o) h x
    have := got_all b t xs (W.setCell ⟨b, o, none⟩ x) (o + 1) (ys.setIfInBounds o x) h1 (by simp at hs ⊢; omega)
    rw [setAll, this]
    have ho : o < ys.toList.length := by simp at hs ⊢; omega
    rw [Array.toList_setIfInBounds, List.take_set, List.take_succ_eq_append_getElem ho, List.set_append_right _ _ (by simp; omega)]
    have e : o - (List.take o ys.toList).length = 0 := by rw [List.length_take]; omega
    rw [e, List.set_cons_zero, List.append_assoc]
    rfl
theorem got0 {b : Nat} {t : TypeId} {cs : List Value} {W : World} {ys : Array Value} (h : W.heap[b]? = some (.cells ys t (0, 0))) (hs : ys.size = cs.length) : (setAll b W 0 cs).heap[b]? = some (.cells cs.toArray t (0, 0)) := by
  have := got_all b t cs W 0 ys h (by omega)
  rwa [List.take_zero, List.nil_append] at this
theorem cellA {W : World} {b : Nat} {cs : Array Value} {t : TypeId} (h : W.heap[b]? = some (.cells cs t (0, 0))) (i : Nat) : W.cell? ⟨b, i, none⟩ = cs[i]? := by unfold World.cell?; simp only [h]; rfl
theorem softA {W : World} {b : Nat} {cs : Array Value} {t : TypeId} (h : W.heap[b]? = some (.cells cs t (0, 0))) (i : Nat) : W.frozen? ⟨b, i, none⟩ = false := by unfold World.frozen?; simp only [h]; simp
theorem setAll_eq (b : Nat) : ∀ (vs : List Value) (w : World) (o : Nat), w.setCells b o vs = setAll b w o vs
  | [], _, _ => rfl
  | v :: vs, w, o => setAll_eq b vs (w.setCell ⟨b, o, none⟩ v) (o + 1)
theorem add0 (b j : Nat) : (⟨b, 0, none⟩ : Addr).add j = ⟨b, j, none⟩ := by rw [Addr.add_mid, Nat.zero_add]
theorem run_loadA {P : Program} {w : World} {t : TypeId} {b : Nat} {cs : List Value} {e : TypeId} (ha : ∀ w, (isAgg t).run P w = .ok true w) (hs : ∀ w, (sizeOf t).run P w = .ok cs.length w) (hb : w.heap[b]? = some (.cells cs.toArray e (0, 0))) : (loadVar t ⟨b, 0, none⟩).run P w = .ok (.agg cs.toArray) w := by
  have h1 := run_loadCells_list (P := P) w ⟨b, 0, none⟩ cs (fun j v hv => by rw [add0, cellA hb j]; simpa using hv)
  simp [loadVar, ha, hs, h1, Result.andThen]
theorem wpList_loadA {P : Program} {w : World} {ops : Array Oper} {rest : List Oper} {o : Oper} {a : Act} {Q : Exit → Act → World → Prop} (hg : o.guard = none) (t : TypeId) (x : Operand) (ho : o.op = .load t x) (b : Nat) (cs : List Value) (e : TypeId)
    (hx : a.eval x = .pointer (some ⟨b, 0, none⟩)) (ha : ∀ w, (isAgg t).run P w = .ok true w) (hs : ∀ w, (sizeOf t).run P w = .ok cs.length w) (hb : w.heap[b]? = some (.cells cs.toArray e (0, 0)))
    (hK : wpList P ops Q rest (a.put o.dst (.agg cs.toArray)) w) : wpList P ops Q (o :: rest) a w := by
  refine wpList_plain hg fun K hK' => ?_
  have h2 : (Instr.loadAt t (.pointer (some ⟨b, 0, none⟩))).run P w = .ok (.agg cs.toArray) w := by
    simp [Instr.loadAt, Instr.sureAddr, run_loadA ha hs hb]
  have h3 : (execOp a.eval o).run P w = .ok (.value (.agg cs.toArray)) w := by
    simp [execOp, ho, hx, h2, Result.andThen]
  unfold Oper.wp
  rw [h3]
  exact hK' _ _ hK
theorem wpList_storeA {P : Program} {w : World} {ops : Array Oper} {rest : List Oper} {o : Oper} {a : Act} {Q : Exit → Act → World → Prop} (hg : o.guard = none) (t : TypeId) (x y : Operand) (ho : o.op = .store t x y) (b : Nat) (cs : List Value) (ys : Array Value) (e : TypeId)
    (hx : a.eval x = .pointer (some ⟨b, 0, none⟩)) (hy : a.eval y = .agg cs.toArray) (hs : ∀ w, (sizeOf t).run P w = .ok cs.length w) (hb : w.heap[b]? = some (.cells ys e (0, 0))) (hl : ys.size = cs.length) (one : ∀ v ∈ cs, v.oneCell' = true)
    (hK : ∀ w', w' = setAll b w 0 cs → wpList P ops Q rest (a.put o.dst undef) w') : wpList P ops Q (o :: rest) a w := by
  refine wpList_plain hg fun K hK' => ?_
  have h1 : (storeCells ⟨b, 0, none⟩ cs 0).run P w = .ok () (setAll b w 0 cs) := by
    rw [run_storeCells_cells (P := P) b 0 cs 0 w (fun j hj => ?_) (fun j _ => ?_) one, setAll_eq]
    · rw [cellA hb]
      have hj' : j < ys.size := by omega
      simp [hj']
    · exact softA hb _
  have h2 : (Instr.storeAt t (.pointer (some ⟨b, 0, none⟩)) (.agg cs.toArray)).run P w = .ok () (setAll b w 0 cs) := by
    simp [Instr.storeAt, Instr.sureAddr, storeVar, hs, Value.cells, h1, Result.andThen]
  have h3 : (execOp a.eval o).run P w = .ok .skip (setAll b w 0 cs) := by
    simp [execOp, ho, hx, hy, h2, Result.andThen]
  unfold Oper.wp
  rw [h3, Oper.upon_skip]
  exact hK' _ _ (hK _ rfl)
/- The same inside a region that draws its order. -/
theorem step_loadA {P : Program} {ops : Array Oper} {o : Oper} {a : Act} {w : World} {K : Act → World → Prop} {Q : Exit → Act → World → Prop} {E : Prop} (hg : o.guard = none) (t : TypeId) (x : Operand) (ho : o.op = .load t x) (b : Nat) (cs : List Value) (e : TypeId)
    (hx : a.eval x = .pointer (some ⟨b, 0, none⟩)) (ha : ∀ w, (isAgg t).run P w = .ok true w) (hs : ∀ w, (sizeOf t).run P w = .ok cs.length w) (hb : w.heap[b]? = some (.cells cs.toArray e (0, 0)))
    (hK : K (a.put o.dst (.agg cs.toArray)) w) : if Region.wanted o (yielded ops a.tmps) = true then Oper.wp P o a w K Q else E := by
  have hw : Region.wanted o (yielded ops a.tmps) = true := by simp [Region.wanted, hg]
  rw [if_pos hw]
  have h2 : (Instr.loadAt t (.pointer (some ⟨b, 0, none⟩))).run P w = .ok (.agg cs.toArray) w := by
    simp [Instr.loadAt, Instr.sureAddr, run_loadA ha hs hb]
  have h3 : (execOp a.eval o).run P w = .ok (.value (.agg cs.toArray)) w := by
    simp [execOp, ho, hx, h2, Result.andThen]
  unfold Oper.wp
  rw [h3]
  exact hK
theorem step_load1 {P : Program} {ops : Array Oper} {o : Oper} {a : Act} {w : World} {K : Act → World → Prop} {Q : Exit → Act → World → Prop} {E : Prop} (hg : o.guard = none) (t : TypeId) (x : Operand) (ho : o.op = .load t x) (b i : Nat) (v : Value)
    (hx : a.eval x = .pointer (some ⟨b, i, none⟩)) (ha : ∀ w, (isAgg t).run P w = .ok false w) (hc : w.cell? ⟨b, i, none⟩ = some v)
    (hK : K (a.put o.dst v) w) : if Region.wanted o (yielded ops a.tmps) = true then Oper.wp P o a w K Q else E := by
  have hw : Region.wanted o (yielded ops a.tmps) = true := by simp [Region.wanted, hg]
  rw [if_pos hw]
  have h2 : (Instr.loadAt t (.pointer (some ⟨b, i, none⟩))).run P w = .ok v w := by
    simp [Instr.loadAt, Instr.sureAddr, loadVar, ha, run_load, hc, Result.andThen]
  have h3 : (execOp a.eval o).run P w = .ok (.value v) w := by
    simp [execOp, ho, hx, h2, Result.andThen]
  unfold Oper.wp
  rw [h3]
  exact hK
theorem step_storeA {P : Program} {ops : Array Oper} {o : Oper} {a : Act} {w : World} {K : Act → World → Prop} {Q : Exit → Act → World → Prop} {E : Prop} (hg : o.guard = none) (t : TypeId) (x y : Operand) (ho : o.op = .store t x y) (b : Nat) (cs : List Value) (ys : Array Value) (e : TypeId)
    (hx : a.eval x = .pointer (some ⟨b, 0, none⟩)) (hy : a.eval y = .agg cs.toArray) (hs : ∀ w, (sizeOf t).run P w = .ok cs.length w) (hb : w.heap[b]? = some (.cells ys e (0, 0))) (hl : ys.size = cs.length) (one : ∀ v ∈ cs, v.oneCell' = true)
    (hK : ∀ w', w' = setAll b w 0 cs → K (a.put o.dst undef) w') : if Region.wanted o (yielded ops a.tmps) = true then Oper.wp P o a w K Q else E := by
  have hw : Region.wanted o (yielded ops a.tmps) = true := by simp [Region.wanted, hg]
  rw [if_pos hw]
  have h1 : (storeCells ⟨b, 0, none⟩ cs 0).run P w = .ok () (setAll b w 0 cs) := by
    rw [run_storeCells_cells (P := P) b 0 cs 0 w (fun j hj => ?_) (fun j _ => ?_) one, setAll_eq]
    · rw [cellA hb]
      have hj' : j < ys.size := by omega
      simp [hj']
    · exact softA hb _
  have h2 : (Instr.storeAt t (.pointer (some ⟨b, 0, none⟩)) (.agg cs.toArray)).run P w = .ok () (setAll b w 0 cs) := by
    simp [Instr.storeAt, Instr.sureAddr, storeVar, hs, Value.cells, h1, Result.andThen]
  have h3 : (execOp a.eval o).run P w = .ok .skip (setAll b w 0 cs) := by
    simp [execOp, ho, hx, hy, h2, Result.andThen]
  unfold Oper.wp
  rw [h3, Oper.upon_skip]
  exact hK _ rfl
theorem step_store1 {P : Program} {ops : Array Oper} {o : Oper} {a : Act} {w : World} {K : Act → World → Prop} {Q : Exit → Act → World → Prop} {E : Prop} (hg : o.guard = none) (t : TypeId) (x y : Operand) (ho : o.op = .store t x y) (b i : Nat) (v : Value)
    (hx : a.eval x = .pointer (some ⟨b, i, none⟩)) (hy : a.eval y = v) (hv : v.cells = #[v]) (hs : ∀ w, (sizeOf t).run P w = .ok 1 w) (hc : (w.cell? ⟨b, i, none⟩).isSome = true) (hf : w.frozen? ⟨b, i, none⟩ = false) (one : v.oneCell' = true)
    (hK : K (a.put o.dst undef) (w.setCell ⟨b, i, none⟩ v)) : if Region.wanted o (yielded ops a.tmps) = true then Oper.wp P o a w K Q else E := by
  have hw : Region.wanted o (yielded ops a.tmps) = true := by simp [Region.wanted, hg]
  rw [if_pos hw]
  have h1 : (storeCells ⟨b, i, none⟩ [v] 0).run P w = .ok () (w.setCell ⟨b, i, none⟩ v) := by
    rw [run_storeCells_cells (P := P) b i [v] 0 w (fun j hj => ?_) (fun j hj => ?_) (fun u hu => ?_)]
    · rfl
    · obtain rfl : j = 0 := by simp at hj; omega
      exact hc
    · obtain rfl : j = 0 := by simp at hj; omega
      exact hf
    · simp at hu; subst hu; exact one
  have h2 : (Instr.storeAt t (.pointer (some ⟨b, i, none⟩)) v).run P w = .ok () (w.setCell ⟨b, i, none⟩ v) := by
    simp [Instr.storeAt, Instr.sureAddr, storeVar, hs, hv, h1, Result.andThen]
  have h3 : (execOp a.eval o).run P w = .ok .skip (w.setCell ⟨b, i, none⟩ v) := by
    simp [execOp, ho, hx, hy, h2, Result.andThen]
  unfold Oper.wp
  rw [h3, Oper.upon_skip]
  exact hK
/- A result that lies in a block. -/
theorem res_cell {P : Program} {f : Func} {tmps : Array Value} {w : World} {s : Nat} {t : TypeId} {b : Nat} {cs : List Value} {e : TypeId} (hf : f.results = #[.cell s t]) (hx : tmps.getD s undef = .pointer (some ⟨b, 0, none⟩)) (ha : ∀ w, (isAgg t).run P w = .ok true w) (hs : ∀ w, (sizeOf t).run P w = .ok cs.length w) (hb : w.heap[b]? = some (.cells cs.toArray e (0, 0))) : (results f tmps).run P w = .ok (.agg cs.toArray) w := by
  unfold results
  rw [hf]
  have h := run_loadA (P := P) ha hs hb
  have hx' : tmps[s]?.getD undef = .pointer (some ⟨b, 0, none⟩) := by rw [← hx]; simp
  simp [Array.mapM_eq_mapM_toList, hx', asAddr, h]
/- A struct is loaded out of a row of many. -/
theorem run_loadW {P : Program} {w : World} {t : TypeId} {b o : Nat} {cs : List Value} (ha : ∀ w, (isAgg t).run P w = .ok true w) (hs : ∀ w, (sizeOf t).run P w = .ok cs.length w) (hb : ∀ j u, cs[j]? = some u → w.cell? ⟨b, o + j, none⟩ = some u) : (loadVar t ⟨b, o, none⟩).run P w = .ok (.agg cs.toArray) w := by
  have h1 := run_loadCells_list (P := P) w ⟨b, o, none⟩ cs (fun j v hv => by rw [add8]; exact hb j v hv)
  simp [loadVar, ha, hs, h1, Result.andThen]
theorem wpList_loadW {P : Program} {w : World} {ops : Array Oper} {rest : List Oper} {o : Oper} {a : Act} {Q : Exit → Act → World → Prop} (hg : o.guard = none) (t : TypeId) (x : Operand) (ho : o.op = .load t x) (b off : Nat) (cs : List Value)
    (hx : a.eval x = .pointer (some ⟨b, off, none⟩)) (ha : ∀ w, (isAgg t).run P w = .ok true w) (hs : ∀ w, (sizeOf t).run P w = .ok cs.length w) (hb : ∀ j u, cs[j]? = some u → w.cell? ⟨b, off + j, none⟩ = some u)
    (hK : wpList P ops Q rest (a.put o.dst (.agg cs.toArray)) w) : wpList P ops Q (o :: rest) a w := by
  refine wpList_plain hg fun K hK' => ?_
  have h2 : (Instr.loadAt t (.pointer (some ⟨b, off, none⟩))).run P w = .ok (.agg cs.toArray) w := by
    simp [Instr.loadAt, Instr.sureAddr, run_loadW ha hs hb]
  have h3 : (execOp a.eval o).run P w = .ok (.value (.agg cs.toArray)) w := by
    simp [execOp, ho, hx, h2, Result.andThen]
  unfold Oper.wp
  rw [h3]
  exact hK' _ _ hK
end Go.Proofs.YtlipcmonlhdgfaaGreat
/- Of every package, naming no number: lists cell by cell. (Cut out of GnM in round 17.) -/
namespace Go.Proofs.YtlipcmonlhdgfaaGreat
open Go.RowKit

def flat {α : Type} (f : α → List Value) (l : List α) : List Value := l.flatMap f
theorem flat_length {α : Type} {f : α → List Value} {c : Nat} (hf : ∀ x, (f x).length = c) : ∀ l : List α, (flat f l).length = l.length * c
  | [] => by simp [flat]
  | x :: l => by
    have := flat_length hf l
    unfold flat at *
    rw [List.flatMap_cons, List.length_append, hf, this, List.length_cons, Nat.succ_mul, Nat.add_comm]
theorem flat_append {α : Type} (f : α → List Value) (l m : List α) : flat f (l ++ m) = flat f l ++ flat f m := by simp [flat]
theorem flat_get {α : Type} {f : α → List Value} {c : Nat} (hf : ∀ x, (f x).length = c) : ∀ (l : List α) (i j : Nat) (h : i < l.length), j < c → (flat f l)[i * c + j]? = (f l[i])[j]?
  | [], i, _, h, _ => by simp at h
  | x :: l, 0, j, _, hj => by
    unfold flat
    rw [List.flatMap_cons, Nat.zero_mul, Nat.zero_add, List.getElem?_append_left (by rw [hf]; exact hj)]
    rfl
  | x :: l, i + 1, j, h, hj => by
    have := flat_get hf l i j (by simpa using h) hj
    unfold flat at *
    rw [List.flatMap_cons, List.getElem?_append_right (by rw [hf, Nat.succ_mul]; omega), hf]
    rw [List.getElem_cons_succ, ← this]
    congr 1
    rw [Nat.succ_mul]; omega
theorem flat_one {α : Type} {f : α → List Value} (hf : ∀ x, ∀ u ∈ f x, u.oneCell' = true) (l : List α) : ∀ u ∈ flat f l, u.oneCell' = true := fun u hu => by
  obtain ⟨x, _, h⟩ := List.mem_flatMap.1 hu
  exact hf x u h
theorem flat_src {α : Type} {f : α → List Value} {c : Nat} (hc : 0 < c) (hf : ∀ x, (f x).length = c) {W : World} {p off : Nat} {l : List α} (h : ∀ i (hi : i < l.length) j u, (f l[i])[j]? = some u → W.cell? ⟨p, off + i * c + j, none⟩ = some u) : ∀ j u, (flat f l)[j]? = some u → W.cell? ((⟨p, off, none⟩ : Addr).add j) = some u := fun j u hu => by
  have hj : j < (flat f l).length := (List.getElem?_eq_some_iff.1 hu).1
  rw [flat_length hf] at hj
  have hi : j / c < l.length := Nat.div_lt_of_lt_mul (by rw [Nat.mul_comm]; exact hj)
  have hm := Nat.mod_lt j hc
  have e : j / c * c + j % c = j := by rw [Nat.mul_comm]; exact Nat.div_add_mod j c
  rw [← e, flat_get hf l _ _ hi hm] at hu
  have := h _ hi _ _ hu
  rw [add8, ← this]
  congr 2
  omega
theorem own_cell {W : World} {B c n : Nat} {e : TypeId} {v : Value} {α : Type} {f : α → List Value} {l : List α} (hf : ∀ x, (f x).length = c) (h : W.ownsRow B e c v n (flat f l)) {g cap : Nat} (hv : v = .slice (some ⟨g, 0, none⟩) n cap) (i : Nat) (hi : i < l.length) (j : Nat) (u : Value) (hj : (f l[i])[j]? = some u) : W.cell? ⟨g, 0 + i * c + j, none⟩ = some u := by
  have hjc : j < c := by have := (List.getElem?_eq_some_iff.1 hj).1; rw [hf] at this; exact this
  have := World.ownsRow.cells h (g := g) (by rw [hv]; rfl) (i * c + j) u (by rw [flat_get hf l i j hi hjc]; exact hj)
  rw [add8] at this
  rw [← this]; congr 2; omega
theorem own_form {W : World} {B c n : Nat} {e : TypeId} {v : Value} {xs : List Value} (h : W.ownsRow B e c v n xs) : (v = .slice none 0 0 ∧ n = 0) ∨ ∃ g cap, v = .slice (some ⟨g, 0, none⟩) n cap ∧ B ≤ g ∧ g < W.heap.size ∧ n ≤ cap := by
  rcases h.2 with ⟨h1, h2⟩ | ⟨g, cap, cur, h1, h2, h3, h4, _⟩
  · exact .inl ⟨h1, h2⟩
  · exact .inr ⟨g, cap, h1, h2, (Array.getElem?_eq_some_iff.1 h3).1, h4⟩
end Go.Proofs.YtlipcmonlhdgfaaGreat
