/- Pieces of the proof: MtQ, Keep, InRound, InQuiet, MtR. -/
import Derived.Test.YteflnicgohjiiaaGreatDoorM11
import Derived.RangeFuncNested
import Derived.RangeFuncBound
import Derived.RangeFuncCalls
import Derived.RangeFuncLeaves
import Derived.Shelf.Abstract
import Derived.Shelf.RegionOpen
import Derived.WalkKit
import Derived.OwnWalkIn
import Derived.TacticsInMore
import Derived.LoopNIn
import Derived.LoopIn
import Derived.Laws.Pointers
import Derived.Deep.RegionHeld3
import Derived.WalkSpells
import Derived.WalkLawsBesides
import Derived.Test.YteflnicgohjiiaaGreatDoorM6
/- package match: how much an entry counts. -/
namespace Go.Proofs.YteflnicgohjiiaaGreatDoor
open Go.RowKit

def preI (t : Tb) : Int := firstI (fun k => k == 2) t.ks
def wtI (t : Tb) (e : En) : Int := if weighsB t then e.prio else if 0 ≤ preI t then ((e.ms.map (·.len)).getD (preI t).toNat 0) else 0
theorem weight1_any (y : EnL) : Pure 214 #[y.val] (.int .i64 y.e.prio) := fun w => by
  obtain ⟨⟨ms, prio, act, args⟩, ma, mc, aa, ac⟩ := y
  simp only [EnL.val]
  go_enter Tryz.func214, Tryz.ntmps214
  go_wp2
  go_ret
  exact ⟨rfl, below1 _ _⟩
theorem weight3_any (y : EnL) : Pure 217 #[y.val] (.int .i64 0) := fun w => by
  obtain ⟨⟨ms, prio, act, args⟩, ma, mc, aa, ac⟩ := y
  simp only [EnL.val]
  go_enter Tryz.func217, Tryz.ntmps217
  go_wp2
  go_ret
  exact ⟨rfl, below1 _ _⟩
theorem weight2_any (y : EnL) (b k : Nat) (w : World) (hy : EnR w y) (hb : w.heap[b]? = some (.cells #[.int .i64 k] 3 (0, 0))) (hk : k < y.e.ms.length) :
    Calls Tryz.prog 216 #[y.val, .pointer (some ⟨b, 0, none⟩)] w fun e w' => e = .returned (.int .i64 y.e.ms[k].len) ∧ Below w.heap.size w w' := by
  obtain ⟨p, off, ep, hp, hcl⟩ := hy.ms.some (by omega)
  have q6 : ∀ o, (w.alloc o).cell? ⟨p, off + k * 7 + 6, none⟩ = some (.int .i64 y.e.ms[k].len) := fun o => ((below1 w o).cell (p := ⟨p, off + k * 7 + 6, none⟩) hp).trans (hcl k hk).2.2.2.2.2.2
  have c0 := fun o => (at1 (heap_past o hb)).1
  have hlI : (k : Int) < (y.e.ms.length : Int) := by omega
  clear hcl hy hb
  generalize y.e.ms[k].len = n at *
  obtain ⟨⟨ms, prio, act, args⟩, ma, mc, aa, ac⟩ := y
  simp only [EnL.val] at *
  subst ep
  go_enter Tryz.func216, Tryz.ntmps216
  go_wp2
  go_ret
  exact ⟨rfl, below1 _ _⟩
/- The function that is answered. -/
def WfV (t : Tb) (fv : Value) (W : World) : Prop :=
  (weighsB t = true ∧ fv = .func (.func 214) #[] #[]) ∨ (weighsB t = false ∧ ∃ k b : Nat, preI t = k ∧ fv = .func (.func 216) #[] #[.pointer (some ⟨b, 0, none⟩)] ∧ W.heap[b]? = some (.cells #[.int .i64 k] 3 (0, 0))) ∨ (weighsB t = false ∧ preI t = -1 ∧ fv = .func (.func 217) #[] #[])
theorem preI_cases (t : Tb) : preI t = -1 ∨ ∃ k : Nat, preI t = k ∧ k < t.ks.length := by
  rcases firstI_cases (fun k => k == 2) t.ks with ⟨e, _⟩ | ⟨k, h, e, _⟩
  · exact .inl e
  · exact .inr ⟨k, e, h⟩
set_option maxHeartbeats 2000000 in
theorem weigher_any (x : TbL) (w : World) (hx : TbR w x) : Calls Tryz.prog 136 #[x.val] w fun e w' => ∃ fv, e = .returned fv ∧ WfV x.t fv w' ∧ Below w.heap.size w w' := by
  have hmf : ∀ (fn : Fn) (first cap : Array Value) (w : World), (Instr.makeFunc fn first cap).run Tryz.prog w = .ok (.func fn first cap) w := fun _ _ _ _ => rfl
  have HW : Hid (∀ W, Below w.heap.size w W → _) := fun W hb => weighs_any x W (hx.below hb)
  have HI : Hid (∀ W, Below w.heap.size w W → _) := fun W hb => index_any x.ka x.kc x.t.ks 2 W (hx.ks.below hb) hx.kn
  have HP := hide (preI_cases x.t)
  clear hx
  have HI' : Hid (∀ W, Below w.heap.size w W → Calls Tryz.prog 215 #[.slice x.ka x.t.ks.length x.kc, .int .u8 2] W fun e w' => e = .returned (.int .i64 (preI x.t)) ∧ w' = W) := HI
  clear HI
  suffices H : ∀ Q : Ending → World → Prop, (∀ fv W', WfV x.t fv W' → Below w.heap.size w W' → Q (.returned fv) W') → Calls Tryz.prog 136 #[x.val] w Q from H _ (fun fv W' h1 h2 => ⟨fv, rfl, h1, h2⟩)
  intro Q hQ
  have HQ := hide hQ
  clear hQ
  unfold WfV at HQ
  generalize weighsB x.t = t at *
  generalize preI x.t = r at *
  obtain ⟨⟨ks, ws, size⟩, ka, kc, wa, wc⟩ := x
  simp only [TbL.val] at *
  cases t
  · rcases HP.out with rfl | ⟨k, rfl, hk⟩
    · go_enter Tryz.func136, Tryz.ntmps136
      go_wp2_with fail
      refine (HW.out _ (below1 _ _)).mono ?_
      rintro e w1 ⟨rfl, hb⟩
      have B1 := hide (bstep (below1 _ _) hb)
      obtain ⟨c0, -, -, -⟩ := at3 (heap_below hb (heap_alloc_new _ _))
      clear hb
      go_wp2_with fail
      refine (HI'.out _ B1.out).mono ?_
      rintro e w2 ⟨rfl, rfl⟩
      go_wp2
      exact HQ.out _ _ (.inr (.inr ⟨by first | rfl | trivial, by first | rfl | trivial, rfl⟩)) (bstep B1.out (below1 _ _))
    · go_enter Tryz.func136, Tryz.ntmps136
      go_wp2_with fail
      refine (HW.out _ (below1 _ _)).mono ?_
      rintro e w1 ⟨rfl, hb⟩
      have B1 := hide (bstep (below1 _ _) hb)
      obtain ⟨c0, -, -, -⟩ := at3 (heap_below hb (heap_alloc_new _ _))
      clear hb
      have hk0 : (0 : Int) ≤ (k : Int) := by omega
      go_wp2_with fail
      refine (HI'.out _ B1.out).mono ?_
      rintro e w2 ⟨rfl, rfl⟩
      go_wp2
      exact HQ.out _ _ (.inr (.inl ⟨by first | rfl | trivial, k, _, by first | rfl | trivial, rfl, heap_alloc_new _ _⟩)) (bstep B1.out (below1 _ _))
  · go_enter Tryz.func136, Tryz.ntmps136
    go_wp2_with fail
    refine (HW.out _ (below1 _ _)).mono ?_
    rintro e w1 ⟨rfl, hb⟩
    go_wp2
    exact HQ.out _ _ (.inl ⟨by first | rfl | trivial, rfl⟩) (bstep (below1 _ _) hb)
end Go.Proofs.YteflnicgohjiiaaGreatDoor
/- Cells of one's own, and what a loop over a function keeps: no program in sight. -/
namespace Go.Proofs.YteflnicgohjiiaaGreatDoor
open Go.RowKit Go.Shelf

def KeepBut (E : Nat → Prop) (n₀ : Nat) (W W' : World) : Prop := W.heap.size ≤ W'.heap.size ∧ ∀ b, b < n₀ → ¬ E b → W'.heap[b]? = W.heap[b]?
theorem KeepBut.refl {E : Nat → Prop} {n₀ : Nat} {W : World} : KeepBut E n₀ W W := ⟨Nat.le_refl _, fun _ _ _ => rfl⟩
theorem KeepBut.t {E : Nat → Prop} {n₀ : Nat} {A B C : World} (h : KeepBut E n₀ A B) (k : KeepBut E n₀ B C) : KeepBut E n₀ A C := ⟨Nat.le_trans h.1 k.1, fun b hb he => (k.2 b hb he).trans (h.2 b hb he)⟩
theorem KeepBut.b {E : Nat → Prop} {n₀ : Nat} {w : World} (hn : n₀ ≤ w.heap.size) (W : World) (l : Nat) (o o' : Obj) (hl : w.heap.size ≤ l) (_ : W.heap[l]? = some o) (_ : o.isCells = false) (_ : o.isWalk = false) : KeepBut E n₀ W (W.putObj l o') :=
  ⟨by simp, fun b hb _ => World.putObj_heap_other (by omega)⟩
theorem KeepBut.ofBelow {E : Nat → Prop} {n₀ : Nat} {A B : World} (h : Below A.heap.size A B) (hn : n₀ ≤ A.heap.size) : KeepBut E n₀ A B := ⟨h.size, fun b hb _ => h.block b (by omega)⟩
theorem KeepBut.drew {E : Nat → Prop} {n₀ : Nat} {A B : World} (h : KeepBut E n₀ A B) : KeepBut E n₀ A B.drew := h
theorem KeepBut.cell {E : Nat → Prop} {n₀ : Nat} {A B : World} (h : KeepBut E n₀ A B) {p : Addr} (hp : p.block < n₀) (he : ¬ E p.block) : B.cell? p = A.cell? p := World.cell?_of_block (w := A) (h.2 p.block hp he)
def LC (W : World) (b : Nat) (v : Value) : Prop := W.cell? ⟨b, 0, none⟩ = some v ∧ W.frozen? ⟨b, 0, none⟩ = false
theorem LC.box {W : World} {b : Nat} {v : Value} {t : TypeId} (h : W.heap[b]? = some (.cells #[v] t (0, 0))) : LC W b v := by
  constructor <;> simp [World.cell?, World.frozen?, h]
theorem LC.new (W : World) (v : Value) (t : TypeId) : LC (W.alloc (.cells #[v] t)) W.heap.size v := LC.box (World.alloc_heap_new W _)
theorem LC.kept {W W' : World} {row : Option Nat} {b : Nat} {v : Value} (h : LC W b v) (hg : W.grownBy W' row) (hr : ∀ r, row = some r → ∃ o : Obj, W.heap[r]? = some o ∧ o.isCells = false) : LC W' b v :=
  ⟨cell_kept h.1 hg hr, (frozen_kept h.1 hg hr).trans h.2⟩
theorem LC.alloc {W : World} {b : Nat} {v : Value} (o : Obj) (h : LC W b v) : LC (W.alloc o) b v := h.kept (World.grownBy_alloc W o none) (fun r e => by cases e)
theorem LC.drew {W : World} {b : Nat} {v : Value} (h : LC W b v) : LC W.drew b v := h
theorem LC.set {W : World} {b : Nat} {v : Value} (h : LC W b v) (u : Value) : LC (W.setCell ⟨b, 0, none⟩ u) b u := ⟨World.cell?_setCell_same' _ _ _ (by rw [h.1]; rfl), by rw [World.frozen?_setCell]; exact h.2⟩
theorem LC.far {W : World} {b : Nat} {v : Value} (h : LC W b v) (p : Addr) (u : Value) (hne : p.block ≠ b) : LC (W.setCell p u) b v := ⟨(World.cell?_setCell_far _ _ _ _ hne).trans h.1, by rw [World.frozen?_setCell]; exact h.2⟩
theorem LC.below {W W' : World} {b B : Nat} {v : Value} (h : LC W b v) (hb : Below B W W') (hl : b < B) : LC W' b v := ⟨(hb.cell (p := ⟨b, 0, none⟩) hl).trans h.1, (hb.frozen (p := ⟨b, 0, none⟩) hl).trans h.2⟩
theorem LC.lt {W : World} {b : Nat} {v : Value} (h : LC W b v) : b < W.heap.size := World.block_lt_of_cell? W _ h.1
theorem LC.own (b : Nat) {β : Type} (f : β → Value) : Own (fun (s : β) W => LC W b (f s)) := fun _ _ _ _ hs hg hr => hs.kept hg hr
theorem LC.cast {W : World} {b : Nat} {v u : Value} (h : LC W b v) (e : v = u) : LC W b u := e ▸ h
theorem KeepBut.setCell {E : Nat → Prop} {n₀ : Nat} {A B : World} (h : KeepBut E n₀ A B) (p : Addr) (v : Value) (he : E p.block) : KeepBut E n₀ A (B.setCell p v) :=
  ⟨by simpa using h.1, fun b hb hne => by rw [Below.heap_setCell _ _ _ _ (fun e => hne (by rw [e]; exact he))]; exact h.2 b hb hne⟩
theorem KeepBut.alloc {E : Nat → Prop} {n₀ : Nat} {A B : World} (h : KeepBut E n₀ A B) (hn : n₀ ≤ B.heap.size) (o : Obj) : KeepBut E n₀ A (B.alloc o) :=
  ⟨by have := h.1; simp; omega, fun b hb hne => (Below.heap_alloc _ _ _ (by omega)).trans (h.2 b hb hne)⟩
end Go.Proofs.YteflnicgohjiiaaGreatDoor
/- A drawn region without a defer, inside a round: walked as outside it. -/
namespace Go.Proofs.YteflnicgohjiiaaGreatDoor
open Go.RowKit Go.Shelf

def noDefer (ops : Array Oper) : Bool := ops.all (fun o => match o.op with | .defer _ => false | _ => true)
theorem noDefer_at {ops : Array Oper} (h : noDefer ops = true) {i : Nat} {o : Oper} (hi : ops[i]? = some o) (c : _) : o.op ≠ .defer c := by
  intro e
  obtain ⟨hlt, rfl⟩ := Array.getElem?_eq_some_iff.1 hi
  have := (Array.all_eq_true.1 h) i hlt
  rw [e] at this
  cases this
theorem uponIn_round (F : Fence) (l n : Nat) (P : Program) (o : Oper) (a : Act) (K : Act → World → Prop) (Q : Exit → Act → World → Prop) (r : Result Next) (h : o.uponIn F n P a K Q r) : o.uponIn (F.inRound l) n P a K Q r := by
  cases r with
  | ok x w => cases x <;> exact h
  | halt x w => cases x <;> exact h
theorem wpOpIn_round {F : Fence} {n : Nat} {P : Program} {ops : Array Oper} {Q : Exit → Act → World → Prop} (l : Nat) (hd : noDefer ops = true) {i : Nat} {K : Act → World → Prop} {a : Act} {w : World} (h : wpOpIn F n P ops Q i K a w) : wpOpIn (F.inRound l) n P ops Q i K a w := by
  unfold wpOpIn at h ⊢
  cases hi : ops[i]? with
  | none => rw [hi] at h; exact h
  | some o =>
    rw [hi] at h
    simp only at h ⊢
    split
    · rename_i hw
      rw [if_pos hw] at h
      refine ⟨h.1, ?_⟩
      have h2 := h.2
      rw [Oper.semAt_eq _ _ _ (noDefer_at hd hi)] at h2 ⊢
      exact uponIn_round F l n P o a K Q _ h2
    · rename_i hw
      rw [if_neg hw] at h
      exact h
theorem wpAnyIn_round {F : Fence} {n : Nat} {P : Program} {md : Region.Mode} {ops : Array Oper} {Q : Exit → Act → World → Prop} (l : Nat) (hd : noDefer ops = true) :
    ∀ (fuel : Nat) (listed : Array Bool) (a : Act) (w : World), wpAnyIn F n P md ops Q fuel listed a w → wpAnyIn (F.inRound l) n P md ops Q fuel listed a w := by
  intro fuel
  induction fuel with
  | zero => intro listed a w h; exact h
  | succ fuel ih =>
    intro listed a w h
    exact ⟨h.1, fun i hi => wpOpIn_round l hd (wpOpIn_mono (fun a w h => ih _ a w h) (h.2 i hi))⟩
theorem wpIn_region_round {F : Fence} {n : Nat} {P : Program} {ops : Array Oper} {Q : Exit → Act → World → Prop} {id l : Nat} {a : Act} {w : World} (hm : P.follows .mixedOrders = true) (hd : noDefer ops = true)
    (h : wpAnyIn F n P .any ops Q ops.size (Array.replicate ops.size false) a w.drew) : (Code.region id ops true).wpIn (F.inRound l) n P Q a w :=
  wpIn_region_any hm (wpAnyIn_round l hd _ _ _ _ h)
end Go.Proofs.YteflnicgohjiiaaGreatDoor
/- A drawn region inside a round, walked once, in the text's order, over a class of worlds of one's own. No program stands in it. -/
namespace Go.Proofs.YteflnicgohjiiaaGreatDoor
open Go Go.RowKit

theorem wpIn_of_quiet {P : Program} {C : World → Prop} {n : Nat} {o : Oper} {a : Act} {K : Act → Prop} {K' : Act → World → Prop} {Q' : Exit → Act → World → Prop} {w : World} (hd : ∀ c, o.op ≠ .defer c) (hw : C w) (h : ∀ a w', C w' → K a → K' a w') (hh : o.quiet P a C K) : o.wpIn Fence.wide n P a w K' Q' := by
  obtain ⟨v, h1, h2⟩ := hh
  have h3 := h1 w hw
  unfold Oper.quietAt at h3
  refine ⟨fun f _ => trivial, ?_⟩
  rw [Oper.semAt_eq _ _ _ hd]
  generalize (execOp a.eval o).run P w = r at *
  cases r with
  | ok x w' =>
    cases x <;> simp only [Oper.quietUpon] at h3 <;> simp only [Oper.uponIn]
    case value u =>
      obtain ⟨e1, e2⟩ := h3
      rw [e1, e2]
      exact h _ _ hw h2
    case skip =>
      obtain ⟨e1, e2⟩ := h3
      rw [e1, ← e2]
      exact h _ _ hw h2
    case enter f args =>
      obtain ⟨e1, hc⟩ := h3
      rw [e1]
      exact ⟨fun e => by simp [Fence.wide] at e, callsIn_wide.2 (hc.mono fun e w'' ⟨he, hw''⟩ => by subst he; exact h _ _ hw'' h2)⟩
  | halt x w' => simp only [Oper.quietUpon] at h3
theorem wpOpIn_of_qOp {P : Program} {C : World → Prop} {n : Nat} {ops : Array Oper} {i : Nat} {a : Act} {K : Act → Prop} {K' : Act → World → Prop} {Q' : Exit → Act → World → Prop} {w : World} (hd : noDefer ops = true) (hC : C w) (h : ∀ a w', C w' → K a → K' a w') (hh : qOp P ops C i K a) : wpOpIn Fence.wide n P ops Q' i K' a w := by
  unfold qOp at hh
  unfold wpOpIn
  split
  · rename_i ho; simp only [ho] at hh; exact h _ _ hC hh
  · rename_i o ho
    simp only [ho] at hh
    split
    · rename_i hw; simp only [hw, if_true] at hh; exact wpIn_of_quiet (fun c => noDefer_at hd ho c) hC h hh
    · rename_i hw; simp only [hw] at hh; exact ⟨fun f _ => trivial, h _ _ hC hh⟩
theorem wpAnyIn_of_quiet {P : Program} {C : World → Prop} {n : Nat} {ops : Array Oper} {md : Region.Mode} (hd : noDefer ops = true) {Q : Act → Prop} {Q' : Exit → Act → World → Prop} (hQ : ∀ a w, C w → Q a → Q' .normal a w) : ∀ (fuel : Nat) (listed : Array Bool) (a : Act) (w : World), C w →
    wpAnyQ P md ops C Q fuel listed a → wpAnyIn Fence.wide n P md ops Q' fuel listed a w
  | 0, _, _, _, hw, h => ⟨h.1, hQ _ _ hw h.2⟩
  | fuel + 1, _, _, _, hw, h => ⟨fun h0 => hQ _ _ hw (h.1 h0), fun i hi => wpOpIn_of_qOp hd hw (fun a' w' hw' => wpAnyIn_of_quiet hd hQ fuel _ a' w' hw') (h.2 i hi)⟩
theorem wpIn_region_class {P : Program} {X : Type} (f : X → World) {id r n : Nat} {Q : Exit → Act → World → Prop} {a : Act} {w : World} {l : List Oper} (hm : P.follows .mixedOrders = true) (hd : noDefer l.toArray = true) (hB : Region.lexB .any l.toArray = true) (hC : ∃ x, { w with drawn := w.drawn + 1 } = f x)
    (h : wpQuiet P l.toArray (fun w' => ∃ x, w' = f x) (fun a' => ∀ w', (∃ x, w' = f x) → Q .normal a' w') l a) : (Code.region id l.toArray true).wpIn (Fence.wide.inRound r) n P Q a w := by
  simp only [Region.lexB, Bool.and_eq_true] at hB
  refine wpIn_region_round hm hd (wpAnyIn_of_quiet (C := fun w' => ∃ x, w' = f x) hd (Q := fun a' => ∀ w', (∃ x, w' = f x) → Q .normal a' w') (fun _ w' hw' h => h w' hw') _ _ _ _ hC ?_)
  have := wpAnyQ_lex (C := fun w' => ∃ x, w' = f x) (md := .any) hB.1 l.toArray.toList 0 (Array.replicate l.toArray.size false) a (by simp) (by simpa using hB.2) (by simpa using h)
  simpa using this
end Go.Proofs.YteflnicgohjiiaaGreatDoor
/- package match: the entries that match, one after the other. -/
namespace Go.Proofs.YteflnicgohjiiaaGreatDoor
open Go.RowKit Go.Shelf

def hitB (t : Tb) (keys : List Nb) (e : En) : Bool := e.ms.length == keys.length && allI (mtB t keys) 0 e.ms
/- What matching has laid. -/
structure Mg (W : World) (x : TbL) (la : Option Addr) (ln lc : Nat) (ka : Option Addr) (kn kc : Nat) (tb lb kb rb hb : Nat) : Prop where
  t : TbB W tb x
  l : W.heap[lb]? = some (.cells #[.slice la ln lc] 26 (0, 0))
  k : NbS W kb ka kn kc
  r : KiB W rb
  h : W.heap[hb]? = some (.cells #[.func (.func 219) #[] #[.pointer (some ⟨kb, 0, none⟩), .pointer (some ⟨rb, 0, none⟩), .pointer (some ⟨tb, 0, none⟩)]] 325 (0, 0))
set_option maxHeartbeats 2000000 in
theorem matching_any (x : TbL) (la ka : Option Addr) (ln lc kn kc : Nat) (w : World) : Calls Tryz.prog 137 #[x.val, .slice la ln lc, .slice ka kn kc] w fun e w' => ∃ tb lb kb rb hb, e = .returned (.func (.func 220) #[] #[.pointer (some ⟨lb, 0, none⟩), .pointer (some ⟨kb, 0, none⟩), .pointer (some ⟨hb, 0, none⟩)]) ∧ Mg w' x la ln lc ka kn kc tb lb kb rb hb ∧ w.heap.size ≤ tb ∧ w.heap.size ≤ lb ∧ w.heap.size ≤ kb ∧ w.heap.size ≤ rb ∧ w.heap.size ≤ hb ∧ Below w.heap.size w w' := by
  have hmf : ∀ (fn : Fn) (first cap : Array Value) (w : World), (Instr.makeFunc fn first cap).run Tryz.prog w = .ok (.func fn first cap) w := fun _ _ _ _ => rfl
  have HK : Hid (Pure _ _ _) := kinds_lit
  suffices H : ∀ Q : Ending → World → Prop, (∀ tb lb kb rb hb W', Mg W' x la ln lc ka kn kc tb lb kb rb hb → w.heap.size ≤ tb → w.heap.size ≤ lb → w.heap.size ≤ kb → w.heap.size ≤ rb → w.heap.size ≤ hb → Below w.heap.size w W' → Q (.returned (.func (.func 220) #[] #[.pointer (some ⟨lb, 0, none⟩), .pointer (some ⟨kb, 0, none⟩), .pointer (some ⟨hb, 0, none⟩)])) W') → Calls Tryz.prog 137 #[x.val, .slice la ln lc, .slice ka kn kc] w Q from H _ (fun tb lb kb rb hb W' h1 h2 h3 h4 h5 h6 h7 => ⟨tb, lb, kb, rb, hb, rfl, h1, h2, h3, h4, h5, h6, h7⟩)
  intro Q hQ
  have HQ := hide hQ
  clear hQ
  have HT : Hid (∀ W b, TbB W b x ↔ W.heap[b]? = some (.cells #[.slice x.ka x.t.ks.length x.kc, .slice x.wa x.t.ws.length x.wc, .int .i64 x.t.size] 25 (0, 0))) := fun _ _ => Iff.rfl
  obtain ⟨⟨ks, ws, size⟩, xka, xkc, xwa, xwc⟩ := x
  simp only [TbL.val] at *
  go_enter Tryz.func137, Tryz.ntmps137
  go_wp2_with fail
  refine (HK.out _).mono ?_
  rintro e w1 ⟨rfl, hb⟩
  have hsz := hb.size
  simp only [World.size_alloc] at hsz
  have B1 := hide (bstep (bstep (below2 _ _ _) (below1 _ _)) hb)
  have K1 := hide (heap_below hb (heap_past _ (heap_past _ (heap_alloc_new w _))))
  have K2 := hide (heap_below hb (heap_past _ (heap_snd w _ _ _)))
  have K3 := heap_below hb (heap_alloc_new ((w.alloc _).alloc _) _)
  simp only [World.size_alloc] at K3
  have K4 := hide K3
  clear hb K3
  go_wp2
  refine HQ.out w.heap.size (w.heap.size + 1) (w.heap.size + 1 + 1) w1.heap.size (w1.heap.size + 1) _ ⟨heap_past _ (heap_past _ K1.out), heap_past _ (heap_past _ K2.out), heap_past _ (heap_past _ K4.out), heap_past _ (kiB_new _), heap_snd _ _ _ _⟩ (by omega) (by omega) (by omega) (by omega) (by omega) (bstep B1.out (below2 _ _ _))
end Go.Proofs.YteflnicgohjiiaaGreatDoor
