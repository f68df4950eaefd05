/- Pieces of the proof: Words, WOf, WCk, MtA, GnA, FrM. -/
import Derived.Test.YteflnicgohjiiaaGreatDoorProg
import Derived.Test.YteflnicgohjiiaaGreatDoorM1
import Derived.WalkKit
import Derived.WalkSpells
import Derived.WalkLawsBesides
import Derived.Laws.Pointers
import Derived.Laws.ResultCell
import Derived.Deep.QuietTactic
import Derived.BigQuiet
import Derived.Deep.RegionHeld3
import Derived.Maps.AppendAt
/- The walks of package bits' small functions: widthMayBe, lowest, cut, Of. -/
namespace Go.Proofs.YteflnicgohjiiaaGreatDoor
open Go.RowKit

theorem ret_int {k : IntKind} {a b : Int} (h : a = b) : Ending.returned (.int k a) = .returned (.int k b) := by rw [h]

def mayBe (n : Int) : Bool := decide (1 ≤ n) && decide (n ≤ 128)
theorem mayBe_yes {n : Int} (h1 : 1 ≤ n) (h2 : n ≤ 128) : mayBe n = true := by simp [mayBe, h1, h2]
theorem mayBe_no {n : Int} (h : ¬ (1 ≤ n ∧ n ≤ 128)) : mayBe n = false := by simp [mayBe]; omega

theorem widthMayBe_any (n : Int) (w : World) :
    Calls Tryz.prog 230 #[.int .i64 n] w fun e w' => e = .returned (.bool (mayBe n)) ∧ w' = w := by
  by_cases h1 : 1 ≤ n
  · by_cases h2 : n ≤ 128
    · go_enter Tryz.func230, Tryz.ntmps230
      go_wp2
      go_ret
      exact ⟨by rw [mayBe_yes h1 h2]; simp, rfl⟩
    · go_enter Tryz.func230, Tryz.ntmps230
      go_wp2
      go_ret
      exact ⟨by rw [mayBe_no (by omega)]; simp, rfl⟩
  · go_enter Tryz.func230, Tryz.ntmps230
    go_wp2
    go_ret
    exact ⟨by rw [mayBe_no (by omega)]; simp, rfl⟩

theorem lowest_any (n : Int) (w : World) (h0 : 0 ≤ n) (h1 : n ≤ 64) :
    Calls Tryz.prog 250 #[.int .i64 n] w fun e w' => e = .returned (.int .u64 (low n)) ∧ w' = w := by
  have H : Hid (IntKind.u64.wrap (IntKind.u64.wrap (2 ^ n.toNat) - 1) = low n) := wrap_low n h0 h1
  go_enter Tryz.func250, Tryz.ntmps250
  go_wp2
  go_ret
  exact ⟨ret_int H.out, rfl⟩

def bitsV (n hi lo : Int) : Value := .agg #[.int .i64 n, .int .u64 hi, .int .u64 lo]
theorem ret_bits {n a b c d : Int} (h : a = c) (h2 : b = d) : Ending.returned (.agg #[.int .i64 n, .int .u64 a, .int .u64 b]) = .returned (.agg #[.int .i64 n, .int .u64 c, .int .u64 d]) := by rw [h, h2]

theorem cut_any (n hi lo : Int) (w : World) (h0 : 1 ≤ n) (h1 : n ≤ 128) (a0 : 0 ≤ hi) (a1 : hi < 18446744073709551616) (b0 : 0 ≤ lo) (b1 : lo < 18446744073709551616) :
    Calls Tryz.prog 231 #[.int .i64 n, .int .u64 hi, .int .u64 lo] w fun e w' =>
      e = .returned (.agg #[.int .i64 n, .int .u64 (cHi n hi), .int .u64 (cLo n lo)]) ∧ Below w.heap.size w w' := by
  by_cases h : n ≤ 64
  · go_enter Tryz.func231, Tryz.ntmps231
    go_wp2_with (go_at_call 250; refine (lowest_any _ _ (by omega) (by omega)).mono ?_; rintro e w' ⟨rfl, rfl⟩)
    refine bodyPost_ret (v := .agg #[.int .i64 n, .int .u64 0, .int .u64 (bits .and .u64 lo (low n))]) (by simp [results, Tryz.results231, go_sem]) rfl ⟨ret_bits (cHi_le h).symm (by rw [and_low n lo (by omega) h b0 b1, cLo_le h]), ?_⟩
    exact (Below.refl _ _).alloc (Nat.le_refl _) _
  · go_enter Tryz.func231, Tryz.ntmps231
    go_wp2_with (go_at_call 250; refine (lowest_any _ _ (by omega) (by omega)).mono ?_; rintro e w' ⟨rfl, rfl⟩)
    refine bodyPost_ret (v := .agg #[.int .i64 n, .int .u64 (bits .and .u64 hi (low (n - 64))), .int .u64 lo]) (by simp [results, Tryz.results231, go_sem]) rfl ⟨ret_bits (by rw [and_low (n - 64) hi (by omega) (by omega) a0 a1, cHi_gt (by omega)]) (cLo_gt (by omega)).symm, ?_⟩
    exact (Below.refl _ _).alloc (Nat.le_refl _) _
end Go.Proofs.YteflnicgohjiiaaGreatDoor
/- The walk of bits.Check. -/
namespace Go.Proofs.YteflnicgohjiiaaGreatDoor
open Go.RowKit

theorem hold3 {B : Nat} {w0 W w1 : World} {b : Nat} {x y z : Value} {o1 o2 o3 : Nat} (hb : Below W.heap.size W w1) (hS : W.cell? ⟨b, o1, none⟩ = some x ∧ W.cell? ⟨b, o2, none⟩ = some y ∧ W.cell? ⟨b, o3, none⟩ = some z ∧ Below B w0 W) (hB : B ≤ w0.heap.size) :
    w1.cell? ⟨b, o1, none⟩ = some x ∧ w1.cell? ⟨b, o2, none⟩ = some y ∧ w1.cell? ⟨b, o3, none⟩ = some z ∧ Below B w0 w1 := by
  obtain ⟨h1, h2, h3, h⟩ := hS
  have hlt : b < W.heap.size := by have := World.block_lt_of_cell? W _ h1; exact this
  have hz := h.size
  exact ⟨(hb.cell hlt).trans h1, (hb.cell hlt).trans h2, (hb.cell hlt).trans h3, h.trans (hb.mono (by omega))⟩

def okB (n hi lo : Int) : Bool := mayBe n && (cHi n hi == hi && cLo n lo == lo)

set_option maxHeartbeats 1000000 in
theorem check_may (n hi lo : Int) (w : World) (h0 : 1 ≤ n) (h1 : n ≤ 128) (a0 : 0 ≤ hi) (a1 : hi < 18446744073709551616) (b0 : 0 ≤ lo) (b1 : lo < 18446744073709551616) :
    Calls Tryz.prog 212 #[.agg #[.int .i64 n, .int .u64 hi, .int .u64 lo]] w fun e w' =>
      e = .returned (.bool (cHi n hi == hi && cLo n lo == lo)) ∧ Below w.heap.size w w' := by
  have hm := mayBe_yes h0 h1
  cases e1 : (cHi n hi == hi) <;> cases e2 : (cLo n lo == lo)
  all_goals
    go_enter Tryz.func212, Tryz.ntmps212
    go_wp2
    go_region_held3 (fun w' => w'.cell? ⟨w.heap.size, 0, none⟩ = some (.int .i64 n) ∧ w'.cell? ⟨w.heap.size, 1, none⟩ = some (.int .u64 hi) ∧ w'.cell? ⟨w.heap.size, 2, none⟩ = some (.int .u64 lo) ∧ Below (w.heap.size + 1) (w.alloc (.cells #[.int .i64 n, .int .u64 hi, .int .u64 lo] 86)) w') (first | exact hold3 (by assumption) (by assumption) (by simp) | (refine ⟨?_, ?_, ?_, ?_⟩ <;> first | exact (Below.refl _ _).drew | simp [go_sem]))
      (first
        | (go_at_call 230; refine (widthMayBe_any _ _).mono ?_; rintro e w' ⟨rfl, rfl⟩)
        | (go_at_call 231; refine (cut_any n hi lo _ h0 h1 a0 a1 b0 b1).mono ?_; rintro e w1 ⟨rfl, hb⟩))
  all_goals (go_wp2; go_ret; exact ⟨rfl, (((Below.refl _ _).alloc (Nat.le_refl _) _).drew).trans (hb.mono (by simp))⟩)

end Go.Proofs.YteflnicgohjiiaaGreatDoor
namespace Go.Proofs.YteflnicgohjiiaaGreatDoor
open Go.RowKit
theorem widthMayBe_no (n : Int) (w : World) (h : mayBe n = false) :
    Calls Tryz.prog 230 #[.int .i64 n] w fun e w' => e = .returned (.bool false) ∧ w' = w := by
  have := widthMayBe_any n w
  rw [h] at this
  exact this

theorem check_not (n hi lo : Int) (w : World) (h : ¬ (1 ≤ n ∧ n ≤ 128)) :
    Calls Tryz.prog 212 #[.agg #[.int .i64 n, .int .u64 hi, .int .u64 lo]] w fun e w' =>
      e = .returned (.bool false) ∧ Below w.heap.size w w' := by
  have hm := mayBe_no h
  clear h
  go_enter Tryz.func212, Tryz.ntmps212
  go_wp2
  go_quiet ((go_at_call 230; exact Calls.quiet_of_same (widthMayBe_no _ _ hm)))
  go_wp2
  go_ret
  exact ⟨rfl, below_drewN ((Below.refl _ _).alloc (Nat.le_refl _) _) _⟩

theorem check_any (n hi lo : Int) (w : World) (a0 : 0 ≤ hi) (a1 : hi < 18446744073709551616) (b0 : 0 ≤ lo) (b1 : lo < 18446744073709551616) :
    Calls Tryz.prog 212 #[.agg #[.int .i64 n, .int .u64 hi, .int .u64 lo]] w fun e w' =>
      e = .returned (.bool (okB n hi lo)) ∧ Below w.heap.size w w' := by
  by_cases h : 1 ≤ n ∧ n ≤ 128
  · have e : okB n hi lo = (cHi n hi == hi && cLo n lo == lo) := by unfold okB; rw [mayBe_yes h.1 h.2]; rfl
    rw [e]
    exact check_may n hi lo w h.1 h.2 a0 a1 b0 b1
  · have e : okB n hi lo = false := by unfold okB; rw [mayBe_no h]; rfl
    rw [e]
    exact check_not n hi lo w h
end Go.Proofs.YteflnicgohjiiaaGreatDoor
/- package match: numbers, matches, entries and tables as plain data, and what is asked of them (no walk). -/
namespace Go.Proofs.YteflnicgohjiiaaGreatDoor
open Go.RowKit

structure Nb where
  w : Int
  hi : Int
  lo : Int
structure Mx where
  v : Nb
  m : Nb
  len : Int
structure En where
  ms : List Mx
  prio : Int
  act : ByteArray
  args : List Nb
structure Tb where
  ks : List Nat
  ws : List Int
  size : Int
def Nb.val (b : Nb) : Value := .agg #[.int .i64 b.w, .int .u64 b.hi, .int .u64 b.lo]
def Mx.val (m : Mx) : Value := .agg #[.int .i64 m.v.w, .int .u64 m.v.hi, .int .u64 m.v.lo, .int .i64 m.m.w, .int .u64 m.m.hi, .int .u64 m.m.lo, .int .i64 m.len]
def i64R (n : Int) : Prop := -9223372036854775808 ≤ n ∧ n < 9223372036854775808
def u64R (n : Int) : Prop := 0 ≤ n ∧ n < 18446744073709551616
structure NbR (b : Nb) : Prop where
  w : i64R b.w
  hi : u64R b.hi
  lo : u64R b.lo
structure MxR (x : Mx) : Prop where
  v : NbR x.v
  m : NbR x.m
  len : i64R x.len
def Nb.ok (b : Nb) : Bool := okB b.w b.hi b.lo
def Nb.eq (a b : Nb) : Bool := a.w == b.w && (a.hi == b.hi && a.lo == b.lo)
def Mx.eq (a b : Mx) : Bool := a.v.eq b.v && (a.m.eq b.m && a.len == b.len)
def nb0 : Nb := ⟨0, 0, 0⟩
def wide (b : Nb) (w : Int) : Bool := b.w == w && b.ok
def fromB (a n b : Int) : Bool := decide (a ≤ n) && decide (n ≤ b)
def covB (m b : Nb) : Bool := bits .andNot .u64 b.hi m.hi == 0 && bits .andNot .u64 b.lo m.lo == 0
def aliB (a b m : Nb) : Bool := bits .and .u64 (bits .xor .u64 a.hi b.hi) m.hi == 0 && bits .and .u64 (bits .xor .u64 a.lo b.lo) m.lo == 0
def atmB (a b : Nb) : Bool := decide (a.hi < b.hi) || (a.hi == b.hi && decide (a.lo ≤ b.lo))
def ofB (n hi lo : Int) : Nb := if mayBe n then ⟨n, cHi n hi, cLo n lo⟩ else nb0
def ones : Int := 18446744073709551615
def fstB (w n : Int) : Nb := ⟨w, bits .andNot .u64 (ofB w ones ones).hi (ofB (w - n) ones ones).hi, bits .andNot .u64 (ofB w ones ones).lo (ofB (w - n) ones ones).lo⟩
/- May a match of a key so wide be an entry's? -/
def mayK (k : Nat) (m : Mx) (w : Int) : Bool :=
  match k with
  | 1 => m.m.eq nb0 && m.len == 0
  | 2 => m.m.eq nb0 && (fromB 0 m.len w && covB (fstB w m.len) m.v)
  | 3 => wide m.m w && (covB m.m m.v && m.len == 0)
  | _ => wide m.m w && (atmB m.v m.m && m.len == 0)
def matK (k : Nat) (m : Mx) (key : Nb) : Bool :=
  match k with
  | 1 => key.eq m.v
  | 2 => fromB 0 m.len key.w && aliB key m.v (fstB key.w m.len)
  | 3 => wide m.m key.w && aliB key m.v m.m
  | _ => wide m.m key.w && (atmB m.v key && atmB key m.m)
def Pure (F : Nat) (args : Array Value) (v : Value) : Prop := ∀ w, Calls Tryz.prog F args w fun e w' => e = .returned v ∧ Below w.heap.size w w'
end Go.Proofs.YteflnicgohjiiaaGreatDoor
/- Of every package: cells that stay, lists of numbers that can be read, what stands where. -/
namespace Go.Proofs.YteflnicgohjiiaaGreatDoor
open Go.RowKit

theorem at3 {W : World} {b : Nat} {x y z : Value} {t : TypeId} (h : W.heap[b]? = some (.cells #[x, y, z] t (0, 0))) : W.cell? ⟨b, 0, none⟩ = some x ∧ W.cell? ⟨b, 1, none⟩ = some y ∧ W.cell? ⟨b, 2, none⟩ = some z ∧ ∀ o, W.frozen? ⟨b, o, none⟩ = false := by
  refine ⟨?_, ?_, ?_, fun o => ?_⟩
  all_goals first | (unfold World.cell?; simp only [h]; rfl) | (unfold World.frozen?; simp only [h]; simp)
theorem lt_heap {W : World} {s : Nat} {o : Obj} (h : W.heap[s]? = some o) : s < W.heap.size := (Array.getElem?_eq_some_iff.1 h).1
theorem heap_past {W : World} {b : Nat} {o : Obj} (o' : Obj) (h : W.heap[b]? = some o) : (W.alloc o').heap[b]? = some o := (Below.heap_alloc _ _ _ (lt_heap h)).trans h
theorem heap_below {W W' : World} {b : Nat} {o : Obj} (hb : Below W.heap.size W W') (h : W.heap[b]? = some o) : W'.heap[b]? = some o := (hb.block _ (lt_heap h)).trans h
theorem below1 (w : World) (o : Obj) : Below w.heap.size w (w.alloc o) := (Below.refl _ _).alloc (Nat.le_refl _) _
theorem below2 (w : World) (o o2 : Obj) : Below w.heap.size w ((w.alloc o).alloc o2) := ((Below.refl _ _).alloc (Nat.le_refl _) _).alloc (by simp) _
theorem bstep {w a b : World} (h : Below w.heap.size w a) (k : Below a.heap.size a b) : Below w.heap.size w b := h.trans (k.mono h.size)
theorem at7 {W : World} {b : Nat} {x0 x1 x2 x3 x4 x5 x6 : Value} {t : TypeId} (h : W.heap[b]? = some (.cells #[x0, x1, x2, x3, x4, x5, x6] t (0, 0))) : W.cell? ⟨b, 0, none⟩ = some x0 ∧ W.cell? ⟨b, 1, none⟩ = some x1 ∧ W.cell? ⟨b, 2, none⟩ = some x2 ∧ W.cell? ⟨b, 3, none⟩ = some x3 ∧ W.cell? ⟨b, 4, none⟩ = some x4 ∧ W.cell? ⟨b, 5, none⟩ = some x5 ∧ W.cell? ⟨b, 6, none⟩ = some x6 := by
  refine ⟨?_, ?_, ?_, ?_, ?_, ?_, ?_⟩
  all_goals (unfold World.cell?; simp only [h]; rfl)
theorem heap_snd (w : World) (o : Obj) (cs : Array Value) (t : TypeId) : ((w.alloc o).alloc (.cells cs t)).heap[w.heap.size + 1]? = some (.cells cs t (0, 0)) := by
  have := heap_alloc_new (w.alloc o) (.cells cs t)
  rw [World.size_alloc] at this
  exact this
def RdZ (W : World) (a : Option Addr) (xs : List Int) : Prop :=
  xs = [] ∨ ∃ p off, a = some ⟨p, off, none⟩ ∧ p < W.heap.size ∧ ∀ i (h : i < xs.length), W.cell? ⟨p, off + i, none⟩ = some (.int .i64 xs[i])
theorem RdZ.below {W W' : World} {a : Option Addr} {xs : List Int} (h : RdZ W a xs) (hb : Below W.heap.size W W') : RdZ W' a xs := by
  rcases h with h | ⟨p, off, rfl, hp, hc⟩
  · exact .inl h
  · exact .inr ⟨p, off, rfl, Nat.lt_of_lt_of_le hp hb.size, fun i hi => (hb.cell (p := ⟨p, off + i, none⟩) hp).trans (hc i hi)⟩
theorem RdZ.some {W : World} {a : Option Addr} {xs : List Int} (h : RdZ W a xs) (hx : 0 < xs.length) : ∃ p off, a = some ⟨p, off, none⟩ ∧ p < W.heap.size ∧ ∀ i (h : i < xs.length), W.cell? ⟨p, off + i, none⟩ = some (.int .i64 xs[i]) := by
  rcases h with rfl | h
  · simp at hx
  · exact h
def firstI {α : Type} (p : α → Bool) (l : List α) : Int := match l.findIdx? p with | some i => (i : Int) | none => -1
theorem firstI_hit {α : Type} {p : α → Bool} {l : List α} {k : Nat} (h : k < l.length) (hp : p l[k] = true) (hn : ∀ j (hj : j < k), p (l[j]'(by omega)) = false) : firstI p l = k := by
  have : l.findIdx? p = some k := by
    rw [List.findIdx?_eq_some_iff_getElem]
    exact ⟨h, hp, fun j hj => by simp [hn j hj]⟩
  unfold firstI; rw [this]
theorem firstI_none {α : Type} {p : α → Bool} {l : List α} (hn : ∀ j (hj : j < l.length), p l[j] = false) : firstI p l = -1 := by
  have : l.findIdx? p = none := by
    rw [List.findIdx?_eq_none_iff]
    intro x hx
    obtain ⟨j, hj, rfl⟩ := List.mem_iff_getElem.1 hx
    exact hn j hj
  unfold firstI; rw [this]
theorem firstI_cases {α : Type} (p : α → Bool) (l : List α) : (firstI p l = -1 ∧ ∀ x ∈ l, p x = false) ∨ ∃ k, ∃ h : k < l.length, firstI p l = k ∧ p l[k] = true ∧ ∀ j (hj : j < k), p (l[j]'(by omega)) = false := by
  cases e : l.findIdx? p with
  | none => exact .inl ⟨by unfold firstI; rw [e], fun x hx => by rw [List.findIdx?_eq_none_iff] at e; exact e x hx⟩
  | some k =>
    obtain ⟨h, hp, hn⟩ := List.findIdx?_eq_some_iff_getElem.1 e
    exact .inr ⟨k, h, by unfold firstI; rw [e], hp, fun j hj => by simpa using hn j hj⟩
theorem firstI_any {α : Type} (p : α → Bool) (l : List α) : decide (0 ≤ firstI p l) = l.any p := by
  rcases firstI_cases p l with ⟨e, hn⟩ | ⟨k, h, e, hp, _⟩
  · rw [e]; symm; simp; exact hn
  · rw [e]; symm; simp; exact ⟨_, List.getElem_mem h, hp⟩
theorem firstI_lt {α : Type} (p : α → Bool) (l : List α) : -1 ≤ firstI p l ∧ firstI p l < l.length ∨ firstI p l = -1 := by
  rcases firstI_cases p l with ⟨e, _⟩ | ⟨k, h, e, _⟩
  · exact .inr e
  · left; rw [e]; omega
def RdN (W : World) (a : Option Addr) (l : List Nb) : Prop :=
  l = [] ∨ ∃ p off, a = some ⟨p, off, none⟩ ∧ p < W.heap.size ∧ ∀ i (h : i < l.length), W.cell? ⟨p, off + i * 3, none⟩ = some (.int .i64 l[i].w) ∧ W.cell? ⟨p, off + i * 3 + 1, none⟩ = some (.int .u64 l[i].hi) ∧ W.cell? ⟨p, off + i * 3 + 2, none⟩ = some (.int .u64 l[i].lo)
theorem RdN.below {W W' : World} {a : Option Addr} {l : List Nb} (h : RdN W a l) (hb : Below W.heap.size W W') : RdN W' a l := by
  rcases h with h | ⟨p, off, rfl, hp, hc⟩
  · exact .inl h
  · exact .inr ⟨p, off, rfl, Nat.lt_of_lt_of_le hp hb.size, fun i hi => ⟨(hb.cell (p := ⟨p, _, none⟩) hp).trans (hc i hi).1, (hb.cell (p := ⟨p, _, none⟩) hp).trans (hc i hi).2.1, (hb.cell (p := ⟨p, _, none⟩) hp).trans (hc i hi).2.2⟩⟩
theorem RdN.some {W : World} {a : Option Addr} {l : List Nb} (h : RdN W a l) (hx : 0 < l.length) : ∃ p off, a = Option.some ⟨p, off, none⟩ ∧ p < W.heap.size ∧ ∀ i (h : i < l.length), W.cell? ⟨p, off + i * 3, none⟩ = Option.some (.int .i64 l[i].w) ∧ W.cell? ⟨p, off + i * 3 + 1, none⟩ = Option.some (.int .u64 l[i].hi) ∧ W.cell? ⟨p, off + i * 3 + 2, none⟩ = Option.some (.int .u64 l[i].lo) := by
  rcases h with rfl | h
  · simp at hx
  · exact h
end Go.Proofs.YteflnicgohjiiaaGreatDoor
/- What a call may touch: all blocks but some stay. -/
namespace Go.Proofs.YteflnicgohjiiaaGreatDoor
open Go.RowKit

structure Fr (E : Nat → Prop) (W W' : World) : Prop where
  os : W'.os = W.os
  tape : W'.tape = W.tape
  output : W'.output = W.output
  size : W.heap.size ≤ W'.heap.size
  block : ∀ b, b < W.heap.size → ¬ E b → W'.heap[b]? = W.heap[b]?
theorem Fr.refl (E : Nat → Prop) (W : World) : Fr E W W := ⟨rfl, rfl, rfl, Nat.le_refl _, fun _ _ _ => rfl⟩
theorem Fr.trans {E E' : Nat → Prop} {W W1 W2 : World} (h : Fr E W W1) (k : Fr E' W1 W2) (hE : ∀ b, b < W.heap.size → E' b → E b) : Fr E W W2 :=
  ⟨k.os.trans h.os, k.tape.trans h.tape, k.output.trans h.output, Nat.le_trans h.size k.size, fun b hb hn => (k.block b (Nat.lt_of_lt_of_le hb h.size) (fun e => hn (hE b hb e))).trans (h.block b hb hn)⟩
theorem Fr.ofBelow {E : Nat → Prop} {W W' : World} (h : Below W.heap.size W W') : Fr E W W' := ⟨h.os, h.tape, h.output, h.size, fun b hb _ => h.block b hb⟩
theorem Fr.below {E : Nat → Prop} {B : Nat} {W W' : World} (h : Fr E W W') (hE : ∀ b, E b → B ≤ b) (hB : B ≤ W.heap.size) : Below B W W' :=
  ⟨h.os, h.tape, h.output, h.size, fun b hb => h.block b (by omega) (fun e => by have := hE b e; omega)⟩
theorem Fr.drew {E : Nat → Prop} {W W' : World} (h : Fr E W W') : Fr E W W'.drew := ⟨h.os, h.tape, h.output, h.size, h.block⟩
theorem Fr.drewN {E : Nat → Prop} {W W' : World} (h : Fr E W W') (n : Nat) : Fr E W (W'.drewN n) := ⟨h.os, h.tape, h.output, h.size, h.block⟩
theorem Fr.grown {E : Nat → Prop} {W W' : World} {row : Option Nat} (h : W.grownBy W' row) (hE : ∀ r, row = some r → E r) : Fr E W W' := by
  exact ⟨h.os, h.tape, h.output, h.size, fun b hb hn => h.block b hb (fun e => hn (hE b e.symm))⟩
theorem Fr.set {E : Nat → Prop} {W W' : World} (h : Fr E W W') (p : Addr) (v : Value) (hE : E p.block) : Fr E W (W'.setCell p v) := by
  have hb := (Below.refl 0 W').setCell (p := p) (Nat.zero_le _) v
  exact ⟨hb.os.trans h.os, hb.tape.trans h.tape, hb.output.trans h.output, Nat.le_trans h.size hb.size, fun b hb hn => by rw [Below.heap_setCell _ _ _ _ (fun e => hn (by rw [e]; exact hE))]; exact h.block b hb hn⟩
theorem Fr.alloc {E : Nat → Prop} {W W' : World} (h : Fr E W W') (o : Obj) : Fr E W (W'.alloc o) := h.trans (E' := fun _ => False) (Fr.ofBelow ((Below.refl _ _).alloc (Nat.le_refl _) o)) (fun _ _ e => e.elim)
theorem Fr.cell {E : Nat → Prop} {W W' : World} (h : Fr E W W') {b o : Nat} {v : Value} (hc : W.cell? ⟨b, o, none⟩ = some v) (hn : ¬ E b) : W'.cell? ⟨b, o, none⟩ = some v :=
  (World.cell?_of_block (w := W) (a := ⟨b, o, none⟩) (h.block b (World.block_lt_of_cell? W _ hc) hn)).trans hc
end Go.Proofs.YteflnicgohjiiaaGreatDoor
