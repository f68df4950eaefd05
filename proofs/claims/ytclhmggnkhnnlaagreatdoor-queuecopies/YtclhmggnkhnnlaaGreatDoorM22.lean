/- Pieces of the proof: TwH, TwG, GnF. -/
import Derived.Test.YtclhmggnkhnnlaaGreatDoorM11
import Derived.Test.YtclhmggnkhnnlaaGreatDoorM3
import Derived.Test.YtclhmggnkhnnlaaGreatDoorM4
import Derived.Deep.RegionHeld3
import Derived.Test.YtclhmggnkhnnlaaGreatDoorM9
import Derived.Maps.AppendAt
/- While a struct is laid anew in a drawn region (cut out of TwE; no program). -/
namespace Go.Proofs.YtclhmggnkhnnlaaGreatDoor
open Go.RowKit

theorem own_openQ {W : World} {B e c g n cap : Nat} {xs : List Value} (h : W.ownsRow B e c (.slice (some ⟨g, 0, none⟩) n cap) n xs) : B ≤ g ∧ ∃ cur : Array Value, W.heap[g]? = some (.cells cur e (0, 0)) ∧ n ≤ cap ∧ cap ≤ maxLen ∧ cur.size = cap * c ∧ cur.toList.take (n * c) = xs := by
  rcases h.2 with ⟨h1, _⟩ | ⟨g', cap', cur, h1, h2, h3, h4, h5, h6, h7⟩
  · cases h1
  · injection h1 with e1 e2 e3
    injection e1 with e1
    injection e1 with e1
    subst e1 e3
    exact ⟨h2, cur, h3, h4, h5, h6, h7⟩
theorem own_blk {W W' : World} {B e c g n cap : Nat} {xs : List Value} (h : W.ownsRow B e c (.slice (some ⟨g, 0, none⟩) n cap) n xs) (hb : W'.heap[g]? = W.heap[g]?) : W'.ownsRow B e c (.slice (some ⟨g, 0, none⟩) n cap) n xs := by
  obtain ⟨h1, cur, h2, h3, h4, h5, h6⟩ := own_openQ h
  exact ⟨h.1, .inr ⟨g, cap, cur, rfl, h1, hb.trans h2, h3, h4, h5, h6⟩⟩
theorem cel_of {w : World} {b : Nat} {A : Array Value} {e : TypeId} (h : w.heap[b]? = some (.cells A e (0, 0))) (j : Nat) {u : Value} (hu : A[j]? = some u) : w.cell? ⟨b, j, none⟩ = some u := by unfold World.cell?; simp only [h]; exact hu
theorem setAll_size (b : Nat) : ∀ (cs : List Value) (W : World) (o : Nat), (setAll b W o cs).heap.size = W.heap.size
  | [], _, _ => rfl
  | x :: xs, W, o => (setAll_size b xs (W.setCell ⟨b, o, none⟩ x) (o + 1)).trans (by simp [World.setCell])
def TwX (W : World) (T K : Nat) (A : Array Value) (w' : World) : Prop := Below W.heap.size W w' ∧ w'.heap[W.heap.size]? = some (.cells A T (0, 0)) ∧ (∃ cur : Array Value, w'.heap[W.heap.size + 1]? = some (.cells cur T (0, 0)) ∧ cur.size = K) ∧ W.heap.size + 2 ≤ w'.heap.size
theorem TwX.start {W : World} {T K : Nat} {A Z : Array Value} (hz : Z.size = K) : TwX W T K A ((W.alloc (.cells A T)).alloc (.cells Z T)).drew := by
  refine ⟨(below2 W _ _).drew, ?_, ⟨Z, ?_, hz⟩, by show _ ≤ ((W.alloc _).alloc _).heap.size; simp⟩
  · exact (Below.heap_alloc (W.alloc (.cells A T)) _ _ (by simp)).trans (heap_alloc_new W _)
  · have h := heap_alloc_new (W.alloc (.cells A T)) (.cells Z T)
    rw [World.size_alloc] at h
    exact h
theorem TwX.next {W : World} {T K : Nat} {A : Array Value} {w w' : World} (h : TwX W T K A w) (hb : Below w.heap.size w w') : TwX W T K A w' := by
  obtain ⟨h1, h2, ⟨cur, h3, h4⟩, h5⟩ := h
  exact ⟨h1.trans (hb.mono h1.size), (hb.block _ (by omega)).trans h2, ⟨cur, (hb.block _ (by omega)).trans h3, h4⟩, Nat.le_trans h5 hb.size⟩
theorem TwX.store {W : World} {T K : Nat} {A : Array Value} {w w' : World} {cs : List Value} (h : TwX W T K A w) (hl : cs.length = K) (e : w' = setAll (W.heap.size + 1) w 0 cs) : TwX W T K A w' ∧ w'.heap[W.heap.size + 1]? = some (.cells cs.toArray T (0, 0)) ∧ w'.heap.size = w.heap.size ∧ ∀ b, b < w.heap.size → b ≠ W.heap.size + 1 → w'.heap[b]? = w.heap[b]? := by
  obtain ⟨h1, h2, ⟨cur, h3, h4⟩, h5⟩ := h
  have F := fr_all (W.heap.size + 1) cs w 0
  rw [← e] at F
  have g := got0 h3 (h4.trans hl.symm)
  rw [← e] at g
  have hs : w'.heap.size = w.heap.size := by rw [e]; exact setAll_size _ _ _ _
  have hne : ∀ b, b < w.heap.size → b ≠ W.heap.size + 1 → w'.heap[b]? = w.heap[b]? := fun b hb hn => F.block b hb hn
  have hw := h1.size
  refine ⟨⟨⟨F.os.trans h1.os, F.tape.trans h1.tape, F.output.trans h1.output, by omega, fun b hb => (hne b (by omega) (by omega)).trans (h1.block b hb)⟩, (hne _ (by omega) (by omega)).trans h2, ⟨_, g, by simpa using hl⟩, by omega⟩, g, hs, hne⟩
end Go.Proofs.YtclhmggnkhnnlaaGreatDoor
/- Rows of one's own, with an element behind them (cut out of TwN; no program). -/
namespace Go.Proofs.YtclhmggnkhnnlaaGreatDoor
open Go.RowKit

theorem cells_newD (w : World) (cs : List Value) (t : TypeId) : ∀ j u, cs[j]? = some u → (w.alloc (.cells cs.toArray t)).cell? ((⟨w.heap.size, 0, none⟩ : Addr).add j) = some u := by
  intro j u hj
  rw [add8, Nat.zero_add]
  simp [hj]
theorem own_allocD {W : World} {B c n : Nat} {e : TypeId} {v : Value} {xs : List Value} (h : W.ownsRow B e c v n xs) (o : Obj) : (W.alloc o).ownsRow B e c v n xs := h.alloc o
theorem below_ownD {B c n : Nat} {e : TypeId} {w a b : World} {v : Value} {xs : List Value} (h : Below B w a) (ho : a.ownsRow B e c v n xs) (g : a.grownBy b v.ownBlock) (hB : B ≤ a.heap.size) : Below B w b := h.grown g hB (fun k e => (World.ownsRow.lt ho k e).1)
theorem own_someD {W : World} {B c n : Nat} {e : TypeId} {v : Value} {xs : List Value} (h : W.ownsRow B e c v n xs) (hx : 0 < n) : ∃ g cap, v = .slice (some ⟨g, 0, none⟩) n cap ∧ n ≤ cap ∧ B ≤ g ∧ g < W.heap.size ∧ cap ≤ maxLen := by
  rcases h.2 with ⟨_, hn⟩ | ⟨g, cap, cur, hv, hg, hcur, h1, h2, _⟩
  · omega
  · exact ⟨g, cap, hv, h1, hg, (Array.getElem?_eq_some_iff.1 hcur).1, h2⟩
theorem own_cut {W : World} {B c n m g cap : Nat} {e : TypeId} {xs ys : List Value} (h : W.ownsRow B e c (.slice (some ⟨g, 0, none⟩) (n + m) cap) (n + m) (xs ++ ys)) (hx : xs.length = n * c) : W.ownsRow B e c (.slice (some ⟨g, 0, none⟩) n cap) n xs := by
  refine ⟨hx, .inr ?_⟩
  rcases h.2 with ⟨h1, _⟩ | ⟨g', cap', cur, h1, h2, h3, h4, h5, h6, h7⟩
  · cases h1
  · injection h1 with e1 e2 e3
    injection e1 with e1
    injection e1 with e1
    subst e1 e3
    refine ⟨g, cap, cur, rfl, h2, h3, by omega, h5, h6, ?_⟩
    have h8 := congrArg (List.take (n * c)) h7
    rw [List.take_take, Nat.min_eq_left (Nat.mul_le_mul_right _ (by omega)), ← hx, List.take_left] at h8
    rw [← hx]; exact h8
end Go.Proofs.YtclhmggnkhnnlaaGreatDoor
/- Numbers as they lie (cut out of MtA, GnA, GnM; no program). -/
namespace Go.Proofs.YtclhmggnkhnnlaaGreatDoor
open Go.RowKit

structure Nb where
  w : Int
  hi : Int
  lo : Int
def RdN (W : World) (a : Option Addr) (l : List Nb) : Prop :=
  l = [] ∨ ∃ p off, a = some ⟨p, off, none⟩ ∧ p < W.heap.size ∧ ∀ i (h : i < l.length), W.cell? ⟨p, off + i * 3, none⟩ = some (.int .i64 l[i].w) ∧ W.cell? ⟨p, off + i * 3 + 1, none⟩ = some (.int .u64 l[i].hi) ∧ W.cell? ⟨p, off + i * 3 + 2, none⟩ = some (.int .u64 l[i].lo)
theorem RdN.below {W W' : World} {a : Option Addr} {l : List Nb} (h : RdN W a l) (hb : Below W.heap.size W W') : RdN W' a l := by
  rcases h with h | ⟨p, off, rfl, hp, hc⟩
  · exact .inl h
  · exact .inr ⟨p, off, rfl, Nat.lt_of_lt_of_le hp hb.size, fun i hi => ⟨(hb.cell (p := ⟨p, _, none⟩) hp).trans (hc i hi).1, (hb.cell (p := ⟨p, _, none⟩) hp).trans (hc i hi).2.1, (hb.cell (p := ⟨p, _, none⟩) hp).trans (hc i hi).2.2⟩⟩
theorem RdN.some {W : World} {a : Option Addr} {l : List Nb} (h : RdN W a l) (hx : 0 < l.length) : ∃ p off, a = Option.some ⟨p, off, none⟩ ∧ p < W.heap.size ∧ ∀ i (h : i < l.length), W.cell? ⟨p, off + i * 3, none⟩ = Option.some (.int .i64 l[i].w) ∧ W.cell? ⟨p, off + i * 3 + 1, none⟩ = Option.some (.int .u64 l[i].hi) ∧ W.cell? ⟨p, off + i * 3 + 2, none⟩ = Option.some (.int .u64 l[i].lo) := by
  rcases h with rfl | h
  · simp at hx
  · exact h
def Nb.cells (b : Nb) : List Value := [.int .i64 b.w, .int .u64 b.hi, .int .u64 b.lo]
theorem nb_len (b : Nb) : b.cells.length = 3 := rfl
theorem nb_one (b : Nb) : ∀ u ∈ b.cells, u.oneCell' = true := fun u hu => by
  simp only [Nb.cells, List.mem_cons, List.not_mem_nil, or_false] at hu
  rcases hu with rfl | rfl | rfl <;> rfl
theorem rdN_own {W : World} {B n : Nat} {a : Option Addr} {k cap : Nat} {l : List Nb} (h : W.ownsRow B 92 3 (.slice a k cap) n (flat Nb.cells l)) : k = l.length ∧ RdN W a l ∧ (a = none → cap = 0) ∧ ∀ q, a = some q → B ≤ q.block ∧ q.block < W.heap.size := by
  have hl := h.1
  rw [flat_length nb_len] at hl
  rcases own_form h with ⟨hv, hn⟩ | ⟨g, cap', hv, hg, hlt, hc⟩
  · injection hv with h1 h2 h3
    subst h1 h2 h3 hn
    have h0 : l = [] := List.length_eq_zero_iff.1 (by omega)
    subst h0
    exact ⟨rfl, .inl rfl, fun _ => rfl, fun q e => by cases e⟩
  · injection hv with h1 h2 h3
    subst h1 h2 h3
    refine ⟨by omega, .inr ⟨g, 0, rfl, hlt, fun i hi => ?_⟩, fun e => (by cases e), fun q e => (by cases e; exact ⟨hg, hlt⟩)⟩
    have key := own_cell nb_len h rfl i hi
    exact ⟨key 0 _ rfl, key 1 _ rfl, key 2 _ rfl⟩
end Go.Proofs.YtclhmggnkhnnlaaGreatDoor
