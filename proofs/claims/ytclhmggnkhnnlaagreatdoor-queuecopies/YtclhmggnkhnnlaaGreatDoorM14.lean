/- Pieces of the proof: QuE, Keep. -/
import Derived.Test.YtclhmggnkhnnlaaGreatDoorM10
import Derived.RangeFuncNested
import Derived.RangeFuncBound
import Derived.RangeFuncCalls
import Derived.RangeFuncLeaves
import Derived.Shelf.Abstract
import Derived.Shelf.RegionOpen
import Derived.WalkKit
import Derived.OwnWalkIn
import Derived.TacticsInMore
import Derived.LoopNIn
import Derived.LoopIn
import Derived.Laws.Pointers
import Derived.Deep.RegionHeld3
import Derived.WalkSpells
import Derived.WalkLawsBesides
/- package queue: is an effect a clone of a group that is not there. -/
namespace Go.Proofs.YtclhmggnkhnnlaaGreatDoor
open Go.RowKit

/- A list of structs that can be read, cell by cell. -/
def RdG {α : Type} (f : α → List Value) (c : Nat) (W : World) (a : Option Addr) (l : List α) : Prop := l = [] ∨ ∃ p off, a = some ⟨p, off, none⟩ ∧ p < W.heap.size ∧ ∀ i (h : i < l.length) j u, (f l[i])[j]? = some u → W.cell? ⟨p, off + i * c + j, none⟩ = some u
theorem RdG.below {α : Type} {f : α → List Value} {c : Nat} {W W' : World} {a : Option Addr} {l : List α} (h : RdG f c W a l) (hb : Below W.heap.size W W') : RdG f c W' a l := by
  rcases h with h | ⟨p, off, rfl, hp, hc⟩
  · exact .inl h
  · exact .inr ⟨p, off, rfl, Nat.lt_of_lt_of_le hp hb.size, fun i hi j u hu => (hb.cell (p := ⟨p, _, none⟩) hp).trans (hc i hi j u hu)⟩
theorem RdG.get {α : Type} {f : α → List Value} {c : Nat} {W : World} {a : Option Addr} {l : List α} (h : RdG f c W a l) (hx : 0 < l.length) : ∃ p off, a = Option.some ⟨p, off, none⟩ ∧ p < W.heap.size ∧ ∀ i (h : i < l.length) j u, (f l[i])[j]? = some u → W.cell? ⟨p, off + i * c + j, none⟩ = some u := by
  rcases h with rfl | h
  · simp at hx
  · exact h
structure Ef where
  kind : Int
  array : ByteArray
  cell : Int
  vw : Int
  vh : Int
  vl : Int
  da : Option Addr
  dn : Nat
  dc : Nat
  group : Int
  table : ByteArray
  entry : Int
def Ef.cells (e : Ef) : List Value := [.int .u8 e.kind, .string e.array, .int .i64 e.cell, .int .i64 e.vw, .int .u64 e.vh, .int .u64 e.vl, .slice e.da e.dn e.dc, .int .i64 e.group, .string e.table, .int .i64 e.entry]
theorem ef_len (e : Ef) : e.cells.length = 10 := rfl
theorem aggEf : ∀ w, (isAgg 95).run Tryz.prog w = .ok true w := fun w => by kernel_rfl
theorem szEf : ∀ w, (sizeOf 95).run Tryz.prog w = .ok 10 w := fun w => by kernel_rfl
def isCl (e : Ef) : Bool := e.kind == 7
def asks (n : Nat) (e : Ef) : Bool := isCl e && (decide (e.group < 0) || decide (e.group ≥ n))
theorem isClone_any (e : Ef) (w : World) : Calls Tryz.prog 133 #[.agg e.cells.toArray] w fun x w' => x = .returned (.bool (isCl e)) ∧ Below w.heap.size w w' := by
  have c0 : (w.alloc (.cells e.cells.toArray 95)).cell? ⟨w.heap.size, 0, none⟩ = some (.int .u8 e.kind) := cellA (heap_alloc_new w _) 0
  unfold isCl
  generalize e.cells.toArray = cs at *
  generalize e.kind = k at *
  go_enter Tryz.func133, Tryz.ntmps133
  go_wp2
  go_ret
  exact ⟨rfl, below1 _ _⟩
set_option maxHeartbeats 1000000 in
theorem asks_any (e : Ef) (ga : Option Addr) (gn gc : Nat) (w : World) : Calls Tryz.prog 27 #[.slice ga gn gc, .agg e.cells.toArray] w fun x w' => x = .returned (.bool (asks gn e)) ∧ Below w.heap.size w w' := by
  have HI : Hid (∀ W, _) := fun W => isClone_any e W
  have HC7 : Hid (∀ W, Below (w.alloc (.cells e.cells.toArray 95)).heap.size (w.alloc (.cells e.cells.toArray 95)) W → W.cell? ⟨w.heap.size, 7, none⟩ = some (.int .i64 e.group)) := fun W hb => cellA (heap_below hb (heap_alloc_new w _)) 7
  have HL : Hid (e.cells.length = 10) := rfl
  unfold asks
  generalize isCl e = t at *
  generalize e.group = k at *
  generalize e.cells = cs at *
  have HB := hide (below1 w (.cells cs.toArray 95))
  cases t with
  | false =>
    go_enter Tryz.func27, Tryz.ntmps27
    go_wp2_with (refine wpList_loadA rfl 95 _ rfl w.heap.size cs 95 rfl aggEf (by rw [HL.out]; exact szEf) (heap_alloc_new w _) ?_)
    refine (HI.out _).mono ?_
    rintro x w2 ⟨rfl, hb⟩
    go_wp2
    go_ret
    exact ⟨rfl, bstep HB.out hb⟩
  | true =>
    by_cases h1 : k < 0
    · have e1 : decide (k < 0) = true := by simpa using h1
      go_enter Tryz.func27, Tryz.ntmps27
      go_wp2_with (refine wpList_loadA rfl 95 _ rfl w.heap.size cs 95 rfl aggEf (by rw [HL.out]; exact szEf) (heap_alloc_new w _) ?_)
      refine (HI.out _).mono ?_
      rintro x w2 ⟨rfl, hb⟩
      have c7 := HC7.out _ hb
      go_wp2
      go_ret
      exact ⟨by simp [e1], bstep HB.out hb⟩
    · have e1 : decide (k < 0) = false := by simpa using h1
      obtain ⟨d, hd⟩ : ∃ d, d = decide (k ≥ (gn : Int)) := ⟨_, rfl⟩
      have hd' := hide hd
      have e2 : decide (k ≥ (gn : Int)) = d := hd.symm
      have e3 : decide ((gn : Int) ≤ k) = d := hd.symm
      clear hd
      go_enter Tryz.func27, Tryz.ntmps27
      go_wp2_with (refine wpList_loadA rfl 95 _ rfl w.heap.size cs 95 rfl aggEf (by rw [HL.out]; exact szEf) (heap_alloc_new w _) ?_)
      refine (HI.out _).mono ?_
      rintro x w2 ⟨rfl, hb⟩
      have c7 := HC7.out _ hb
      go_wp2
      go_ret
      exact ⟨by simp [e1, e3], bstep HB.out hb⟩
/- The function value: its groups lie in a cell. -/
def GrS (W : World) (gb : Nat) (ga : Option Addr) (gn gc : Nat) : Prop := W.heap[gb]? = some (.cells #[.slice ga gn gc] 22 (0, 0))
theorem at1 {W : World} {b : Nat} {x : Value} {t : TypeId} (h : W.heap[b]? = some (.cells #[x] t (0, 0))) : W.cell? ⟨b, 0, none⟩ = some x := cellA h 0
theorem clos_any (e : Ef) (gb : Nat) (ga : Option Addr) (gn gc : Nat) (w : World) (hg : GrS w gb ga gn gc) : Calls Tryz.prog 26 #[.agg e.cells.toArray, .pointer (some ⟨gb, 0, none⟩)] w fun x w' => x = .returned (.bool (asks gn e)) ∧ Below w.heap.size w w' := by
  have HA : Hid (∀ W, _) := fun W => asks_any e ga gn gc W
  have HL : Hid (e.cells.length = 10) := rfl
  have c0 := at1 (heap_past (.cells e.cells.toArray 95) hg)
  generalize asks gn e = t at *
  generalize e.cells = cs at *
  have HB := hide (below1 w (.cells cs.toArray 95))
  clear hg
  go_enter Tryz.func26, Tryz.ntmps26
  go_wp2_with (refine wpList_loadA rfl 95 _ rfl w.heap.size cs 95 rfl aggEf (by rw [HL.out]; exact szEf) (heap_alloc_new w _) ?_)
  refine (HA.out _).mono ?_
  rintro x w2 ⟨rfl, hb⟩
  go_wp2
  go_ret
  exact ⟨rfl, bstep HB.out hb⟩
set_option maxHeartbeats 1000000 in
theorem indexEf_any (a : Option Addr) (cap : Nat) (l : List Ef) (gb : Nat) (ga : Option Addr) (gn gc : Nat) (w : World) (hr : RdG Ef.cells 10 w a l) (hl : l.length ≤ 140737488355328) (hg : GrS w gb ga gn gc) : Calls Tryz.prog 132 #[.slice a l.length cap, .func (.func 26) #[] #[.pointer (some ⟨gb, 0, none⟩)]] w fun e w' => e = .returned (.int .i64 (firstI (asks gn) l)) ∧ Below w.heap.size w w' := by
  have HR := hide hr
  have HC : Hid (∀ e W, Below w.heap.size w W → _) := fun e W hb => clos_any e gb ga gn gc W (heap_below hb hg)
  clear hr hg
  go_enter Tryz.func132, Tryz.ntmps132
  go_wp2
  go_loopw [8] (fun i wr => ∃ k : Nat, k ≤ l.length ∧ i = .int .i64 k ∧ (∀ j (hj : j < k) (hj' : j < l.length), asks gn l[j] = false) ∧ Below w.heap.size w wr) (fun i _ => l.length - (intOf i).toNat)
  case atStart => exact ⟨0, by omega, rfl, fun j hj => absurd hj (by omega), Below.refl _ _⟩
  case round =>
    obtain ⟨k, hk, rfl, hn, hb⟩ := hrel
    have HN := hide hn
    have HW := hide hb
    clear hn hb
    by_cases hlt : k < l.length
    · obtain ⟨p, off, rfl, hp, hcl⟩ := (HR.out.below HW.out).get (by omega)
      have hlI : (k : Int) < (l.length : Int) := by omega
      have HCC := hide (HC.out l[k] wr HW.out)
      have HS : Hid (∀ j u, (l[k].cells)[j]? = some u → wr.cell? ⟨p, off + k * 10 + j, none⟩ = some u) := hcl k hlt
      have HL : Hid ((l[k].cells).length = 10) := rfl
      clear hcl
      cases ho : asks gn l[k]
      · have HX : Hid (∀ j (hj : j < k + 1) (hj' : j < l.length), asks gn l[j] = false) := fun j hj hj' => by
          by_cases e : j = k
          · subst e; exact ho
          · exact HN.out j (by omega) hj'
        rw [ho] at HCC
        clear ho
        generalize (l[k].cells) = cs at *
        go_wp2_with (refine wpList_loadW rfl 95 _ rfl p (off + k * 10) cs rfl aggEf (by rw [HL.out]; exact szEf) HS.out ?_)
        refine HCC.out.mono ?_
        rintro e w1 ⟨rfl, hb⟩
        go_wp2
        go_roundw
        case rel => exact ⟨k + 1, by omega, by go_num, HX.out, bstep HW.out hb⟩
        case measure => simp [intOf]; omega
      · have HH := hide (firstI_hit (p := asks gn) hlt ho (fun j hj => HN.out j hj (by omega)))
        rw [ho] at HCC
        clear ho
        generalize (l[k].cells) = cs at *
        go_wp2_with (refine wpList_loadW rfl 95 _ rfl p (off + k * 10) cs rfl aggEf (by rw [HL.out]; exact szEf) HS.out ?_)
        refine HCC.out.mono ?_
        rintro e w1 ⟨rfl, hb⟩
        go_wp2
        go_ret
        exact ⟨by rw [HH.out]; rfl, bstep HW.out hb⟩
    · obtain rfl : k = l.length := by omega
      have HH := hide (firstI_none (p := asks gn) (l := l) (fun j hj => HN.out j hj hj))
      go_wp2
      go_ret
      exact ⟨by rw [HH.out]; rfl, HW.out⟩
theorem containsEf_any (a : Option Addr) (cap : Nat) (l : List Ef) (gb : Nat) (ga : Option Addr) (gn gc : Nat) (w : World) (hr : RdG Ef.cells 10 w a l) (hl : l.length ≤ 140737488355328) (hg : GrS w gb ga gn gc) : Calls Tryz.prog 25 #[.slice a l.length cap, .func (.func 26) #[] #[.pointer (some ⟨gb, 0, none⟩)]] w fun e w' => e = .returned (.bool (l.any (asks gn))) ∧ Below w.heap.size w w' := by
  have H := hide (indexEf_any a cap l gb ga gn gc w hr hl hg)
  have E := hide (firstI_any (asks gn) l)
  clear hr hl hg
  go_enter Tryz.func25, Tryz.ntmps25
  go_wp2_with (go_at_call 132; refine H.out.mono ?_; rintro e w1 ⟨rfl, hb⟩)
  go_ret
  exact ⟨by rw [← E.out]; simp, hb⟩
end Go.Proofs.YtclhmggnkhnnlaaGreatDoor
/- Cells of one's own, and what a loop over a function keeps: no program in sight. -/
namespace Go.Proofs.YtclhmggnkhnnlaaGreatDoor
open Go.RowKit Go.Shelf

def KeepBut (E : Nat → Prop) (n₀ : Nat) (W W' : World) : Prop := W.heap.size ≤ W'.heap.size ∧ ∀ b, b < n₀ → ¬ E b → W'.heap[b]? = W.heap[b]?
theorem KeepBut.refl {E : Nat → Prop} {n₀ : Nat} {W : World} : KeepBut E n₀ W W := ⟨Nat.le_refl _, fun _ _ _ => rfl⟩
theorem KeepBut.t {E : Nat → Prop} {n₀ : Nat} {A B C : World} (h : KeepBut E n₀ A B) (k : KeepBut E n₀ B C) : KeepBut E n₀ A C := ⟨Nat.le_trans h.1 k.1, fun b hb he => (k.2 b hb he).trans (h.2 b hb he)⟩
theorem KeepBut.b {E : Nat → Prop} {n₀ : Nat} {w : World} (hn : n₀ ≤ w.heap.size) (W : World) (l : Nat) (o o' : Obj) (hl : w.heap.size ≤ l) (_ : W.heap[l]? = some o) (_ : o.isCells = false) (_ : o.isWalk = false) : KeepBut E n₀ W (W.putObj l o') :=
  ⟨by simp, fun b hb _ => World.putObj_heap_other (by omega)⟩
theorem KeepBut.ofBelow {E : Nat → Prop} {n₀ : Nat} {A B : World} (h : Below A.heap.size A B) (hn : n₀ ≤ A.heap.size) : KeepBut E n₀ A B := ⟨h.size, fun b hb _ => h.block b (by omega)⟩
theorem KeepBut.drew {E : Nat → Prop} {n₀ : Nat} {A B : World} (h : KeepBut E n₀ A B) : KeepBut E n₀ A B.drew := h
theorem KeepBut.cell {E : Nat → Prop} {n₀ : Nat} {A B : World} (h : KeepBut E n₀ A B) {p : Addr} (hp : p.block < n₀) (he : ¬ E p.block) : B.cell? p = A.cell? p := World.cell?_of_block (w := A) (h.2 p.block hp he)
def LC (W : World) (b : Nat) (v : Value) : Prop := W.cell? ⟨b, 0, none⟩ = some v ∧ W.frozen? ⟨b, 0, none⟩ = false
theorem LC.box {W : World} {b : Nat} {v : Value} {t : TypeId} (h : W.heap[b]? = some (.cells #[v] t (0, 0))) : LC W b v := by
  constructor <;> simp [World.cell?, World.frozen?, h]
theorem LC.new (W : World) (v : Value) (t : TypeId) : LC (W.alloc (.cells #[v] t)) W.heap.size v := LC.box (World.alloc_heap_new W _)
theorem LC.kept {W W' : World} {row : Option Nat} {b : Nat} {v : Value} (h : LC W b v) (hg : W.grownBy W' row) (hr : ∀ r, row = some r → ∃ o : Obj, W.heap[r]? = some o ∧ o.isCells = false) : LC W' b v :=
  ⟨cell_kept h.1 hg hr, (frozen_kept h.1 hg hr).trans h.2⟩
theorem LC.alloc {W : World} {b : Nat} {v : Value} (o : Obj) (h : LC W b v) : LC (W.alloc o) b v := h.kept (World.grownBy_alloc W o none) (fun r e => by cases e)
theorem LC.drew {W : World} {b : Nat} {v : Value} (h : LC W b v) : LC W.drew b v := h
theorem LC.set {W : World} {b : Nat} {v : Value} (h : LC W b v) (u : Value) : LC (W.setCell ⟨b, 0, none⟩ u) b u := ⟨World.cell?_setCell_same' _ _ _ (by rw [h.1]; rfl), by rw [World.frozen?_setCell]; exact h.2⟩
theorem LC.far {W : World} {b : Nat} {v : Value} (h : LC W b v) (p : Addr) (u : Value) (hne : p.block ≠ b) : LC (W.setCell p u) b v := ⟨(World.cell?_setCell_far _ _ _ _ hne).trans h.1, by rw [World.frozen?_setCell]; exact h.2⟩
theorem LC.below {W W' : World} {b B : Nat} {v : Value} (h : LC W b v) (hb : Below B W W') (hl : b < B) : LC W' b v := ⟨(hb.cell (p := ⟨b, 0, none⟩) hl).trans h.1, (hb.frozen (p := ⟨b, 0, none⟩) hl).trans h.2⟩
theorem LC.lt {W : World} {b : Nat} {v : Value} (h : LC W b v) : b < W.heap.size := World.block_lt_of_cell? W _ h.1
theorem LC.own (b : Nat) {β : Type} (f : β → Value) : Own (fun (s : β) W => LC W b (f s)) := fun _ _ _ _ hs hg hr => hs.kept hg hr
theorem LC.cast {W : World} {b : Nat} {v u : Value} (h : LC W b v) (e : v = u) : LC W b u := e ▸ h
theorem KeepBut.setCell {E : Nat → Prop} {n₀ : Nat} {A B : World} (h : KeepBut E n₀ A B) (p : Addr) (v : Value) (he : E p.block) : KeepBut E n₀ A (B.setCell p v) :=
  ⟨by simpa using h.1, fun b hb hne => by rw [Below.heap_setCell _ _ _ _ (fun e => hne (by rw [e]; exact he))]; exact h.2 b hb hne⟩
theorem KeepBut.alloc {E : Nat → Prop} {n₀ : Nat} {A B : World} (h : KeepBut E n₀ A B) (hn : n₀ ≤ B.heap.size) (o : Obj) : KeepBut E n₀ A (B.alloc o) :=
  ⟨by have := h.1; simp; omega, fun b hb hne => (Below.heap_alloc _ _ _ (by omega)).trans (h.2 b hb hne)⟩
end Go.Proofs.YtclhmggnkhnnlaaGreatDoor
