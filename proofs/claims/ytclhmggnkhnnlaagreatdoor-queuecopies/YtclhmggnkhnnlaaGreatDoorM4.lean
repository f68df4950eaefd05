/- Pieces of the proof: QoB, GnB. -/
import Derived.Test.YtclhmggnkhnnlaaGreatDoorM3
import Derived.Maps.AppendAt
import Derived.Laws.AppendOwnNone
import Derived.Test.YtclhmggnkhnnlaaGreatDoorM1
/- Bytes of one's own: appended to, written, read. -/
namespace Go.Proofs.YtclhmggnkhnnlaaGreatDoor
open Go.RowKit

theorem Tryz.info8 : (Tryz.prog.info? 5).map (fun i => (i.zero, i.size, i.bytes)) = some (some (.int .u8 0), 1, 1) := by kernel_rfl
def u8s (xs : List Nat) : List Value := xs.map (fun n => Value.int .u8 (n : Nat))
theorem u8s_length (xs : List Nat) : (u8s xs).length = xs.length := by simp [u8s]
theorem u8s_append (xs ys : List Nat) : u8s (xs ++ ys) = u8s xs ++ u8s ys := by simp [u8s]
theorem u8s_one (xs : List Nat) : ∀ u ∈ u8s xs, u.oneCell' = true := fun u hu => by
  obtain ⟨n, _, rfl⟩ := List.mem_map.1 hu
  rfl
theorem u8s_get {xs : List Nat} {i : Nat} (h : i < xs.length) : (u8s xs)[i]? = some (.int .u8 (xs[i] : Nat)) := by simp [u8s, h]
def Own8 (W : World) (B : Nat) (v : Value) (xs : List Nat) : Prop := W.ownsRow B 5 1 v xs.length (u8s xs)
theorem Own8.nil (W : World) (B : Nat) : Own8 W B (.slice none 0 0) [] := World.ownsRow_nil W B _ _
theorem Own8.shape {W : World} {B : Nat} {v : Value} {xs : List Nat} (h : Own8 W B v xs) : ∃ a cap, v = .slice a xs.length cap ∧ xs.length ≤ cap ∧ (a = none → cap = 0) ∧ ∀ q, a = some q → q.off = 0 ∧ q.spot = none ∧ B ≤ q.block ∧ q.block < W.heap.size := by
  rcases h.2 with ⟨rfl, hn⟩ | ⟨g, cap, cur, rfl, hg, hcur, h1, _⟩
  · exact ⟨none, 0, by rw [hn], by omega, fun _ => rfl, fun q e => by cases e⟩
  · exact ⟨_, cap, rfl, h1, fun e => by (cases e), fun q e => by cases e; exact ⟨rfl, rfl, hg, (Array.getElem?_eq_some_iff.1 hcur).1⟩⟩
theorem Own8.rd {W : World} {B : Nat} {a : Option Addr} {n cap : Nat} {xs : List Nat} (h : Own8 W B (.slice a n cap) xs) : n = xs.length ∧ RdA W a xs := by
  rcases h.2 with ⟨e, hn⟩ | ⟨g, c, cur, e, hg, hcur, h1, h2, h3, h4⟩
  · injection e with e1 e2 e3
    subst e1 e2
    exact ⟨by omega, .inl (by cases xs with | nil => rfl | cons => simp at hn)⟩
  · injection e with e1 e2 e3
    subst e1 e2 e3
    refine ⟨rfl, .inr ⟨g, 0, rfl, (Array.getElem?_eq_some_iff.1 hcur).1, fun i hi => ?_⟩⟩
    have h5 := World.ownsRow.cells h (g := g) rfl i _ (u8s_get hi)
    rw [add8] at h5
    exact h5
theorem Own8.kept {W W' : World} {B : Nat} {v : Value} {xs : List Nat} {row : Option Nat} (h : Own8 W B v xs) (hg : W.grownBy W' row) (hne : v.ownBlock = none ∨ v.ownBlock ≠ row) : Own8 W' B v xs := World.ownsRow.kept h hg hne
theorem Own8.below {W W' : World} {B : Nat} {v : Value} {xs : List Nat} (h : Own8 W B v xs) (hb : Below W.heap.size W W') : Own8 W' B v xs := by
  refine ⟨h.1, ?_⟩
  rcases h.2 with h0 | ⟨gr, cap, cur, rfl, hg, hcur, rest⟩
  · exact .inl h0
  · exact .inr ⟨gr, cap, cur, rfl, hg, (hb.block _ (Array.getElem?_eq_some_iff.1 hcur).1).trans hcur, rest⟩
theorem Own8.drew {W : World} {B : Nat} {v : Value} {xs : List Nat} (h : Own8 W B v xs) : Own8 W.drew B v xs := h
theorem Own8.soft {W : World} {B g n cap : Nat} {xs : List Nat} (h : Own8 W B (.slice (some ⟨g, 0, none⟩) n cap) xs) (o : Nat) : W.frozen? ⟨g, o, none⟩ = false := by
  rcases h.2 with ⟨e, _⟩ | ⟨g', c, cur, e, hg, hcur, _⟩
  · cases e
  · injection e with e1
    injection e1 with e1
    injection e1 with e1
    subst e1
    unfold World.frozen?; simp only [hcur]; simp
theorem Own8.set {W : World} {B g n cap : Nat} {xs : List Nat} (h : Own8 W B (.slice (some ⟨g, 0, none⟩) n cap) xs) (k y : Nat) : Own8 (W.setCell ⟨g, k, none⟩ (.int .u8 (y : Nat))) B (.slice (some ⟨g, 0, none⟩) n cap) (xs.set k y) := by
  rcases h.2 with ⟨e, _⟩ | ⟨g', c, cur, e, hg, hcur, h1, h2, h3, h4⟩
  · cases e
  · injection e with e1 e2 e3
    injection e1 with e1
    injection e1 with e1
    subst e1 e2 e3
    refine ⟨by simp [u8s], .inr ⟨g, cap, _, by simp, hg, heap_setCell_same hcur _, by simpa using h1, h2, by simpa using h3, ?_⟩⟩
    rw [Nat.mul_one] at h4
    simp only [List.length_set, Nat.mul_one, Array.toList_setIfInBounds]
    rw [List.take_set, h4]
    simp [u8s, List.map_set]
theorem rdA_src {W : World} {p off : Nat} {xs : List Nat} (h : ∀ i (h : i < xs.length), W.cell? ⟨p, off + i, none⟩ = some (.int .u8 (xs[i] : Nat))) : ∀ j u, (u8s xs)[j]? = some u → W.cell? ((⟨p, off, none⟩ : Addr).add j) = some u := fun j u hu => by
  obtain ⟨hj, rfl⟩ := List.getElem?_eq_some_iff.1 hu
  have hj' : j < xs.length := by simpa [u8s] using hj
  have : (u8s xs)[j] = Value.int .u8 (xs[j] : Nat) := by simp [u8s]
  rw [this, add8]; exact h j hj'
/- 'append(v, x...)', v of one's own, x bytes that can be read. -/
theorem wpList_app8 {w : World} {ops : Array Oper} {rest : List Oper} {o : Oper} {a : Act} {Q : Exit → Act → World → Prop} (hgd : o.guard = none) (s x : Operand) (ho : o.op = .call { callee := .builtin .append, args := #[s, x], argTypes := #[24, 24] })
    (B : Nat) (v : Value) (xs : List Nat) (hs : a.eval s = v) (hown : Own8 w B v xs) (sa : Option Addr) (m cap : Nat) (ys : List Nat) (hx : a.eval x = .slice sa m cap) (hm : m = ys.length) (hr : RdA w sa ys) (hn : sa = none → cap = 0)
    (hl : xs.length + ys.length ≤ 140737488355328) (hB : B ≤ w.heap.size)
    (h : ∀ v' w', Own8 w' B v' (xs ++ ys) → w.grownBy w' v.ownBlock → (v'.ownBlock = v.ownBlock ∨ v'.ownBlock = some w.heap.size) → wpList Tryz.prog ops Q rest (a.put o.dst v') w') :
    wpList Tryz.prog ops Q (o :: rest) a w := by
  subst hm
  obtain ⟨i0, hi0, hz0, hz1, hz2⟩ := info_parts Tryz.info8
  rcases hr with rfl | ⟨p, off, rfl, _, hc⟩
  · cases sa with
    | none =>
      have hx2 : a.eval x = .slice none 0 0 := by rw [hx, hn rfl]; rfl
      refine wpList_append_own_none hgd s x 24 ho B 5 i0 1 Tryz.underlying24 hi0 v xs.length (u8s xs) hs hown hx2 ?_
      exact h v w (by rw [List.append_nil]; exact hown) ⟨rfl, rfl, rfl, Nat.le_refl _, fun _ _ _ => rfl⟩ (.inl rfl)
    | some q =>
      refine wpList_append_own_at w hgd s x 24 ho B 5 i0 (.int .u8 0) 1 1 Tryz.underlying24 hi0 hz0 hz1 hz2 rfl (by decide) v xs.length (u8s xs) hs hown q 0 cap [] hx rfl (fun _ _ h => by simp at h) (fun _ h => by simp at h) (by unfold maxLen; omega) (by omega) hB ?_
      intro v' w' h1 h2 _ h4
      refine h v' w' ?_ h2 h4
      unfold Own8
      rw [List.append_nil]
      rw [List.append_nil, Nat.add_zero] at h1
      exact h1
  · refine wpList_append_own_at w hgd s x 24 ho B 5 i0 (.int .u8 0) 1 1 Tryz.underlying24 hi0 hz0 hz1 hz2 rfl (by decide) v xs.length (u8s xs) hs hown ⟨p, off, none⟩ ys.length cap (u8s ys) hx (by rw [u8s_length, Nat.mul_one]) (rdA_src hc) (u8s_one ys) (by unfold maxLen; omega) (by omega) hB ?_
    intro v' w' h1 h2 _ h4
    refine h v' w' ?_ h2 h4
    unfold Own8
    rw [List.length_append, u8s_append]
    exact h1
theorem Own8.some8 {W : World} {B : Nat} {v : Value} {xs : List Nat} (h : Own8 W B v xs) (hx : 0 < xs.length) : ∃ g cap, v = .slice (some ⟨g, 0, none⟩) xs.length cap ∧ xs.length ≤ cap ∧ B ≤ g ∧ g < W.heap.size ∧ cap ≤ maxLen := by
  rcases h.2 with ⟨_, hn⟩ | ⟨g, cap, cur, hv, hg, hcur, h1, h2, _⟩
  · omega
  · exact ⟨g, cap, hv, h1, hg, (Array.getElem?_eq_some_iff.1 hcur).1, h2⟩
theorem Own8.cut {W : World} {B g n cap : Nat} {xs : List Nat} (h : Own8 W B (.slice (some ⟨g, 0, none⟩) n cap) xs) (k : Nat) (hk : k ≤ xs.length) : Own8 W B (.slice (some ⟨g, 0, none⟩) k cap) (xs.take k) := by
  rcases h.2 with ⟨e, _⟩ | ⟨g', c, cur, e, hg, hcur, h1, h2, h3, h4⟩
  · cases e
  · injection e with e1 e2 e3
    injection e1 with e1
    injection e1 with e1
    subst e1 e2 e3
    have hlen : (xs.take k).length = k := by simp; omega
    refine ⟨by simp [u8s], .inr ⟨g, cap, cur, by rw [hlen], hg, hcur, by omega, h2, h3, ?_⟩⟩
    rw [hlen, Nat.mul_one]
    rw [Nat.mul_one] at h4
    have e : cur.toList.take k = (cur.toList.take xs.length).take k := by rw [List.take_take, Nat.min_eq_left hk]
    rw [e, h4]
    simp [u8s, List.map_take]
theorem two_rd (W : World) (x y : Nat) (t : TypeId) : RdA (W.alloc (.cells #[.int .u8 (x : Nat), .int .u8 (y : Nat)] t)) (some ⟨W.heap.size, 0, none⟩) [x, y] := by
  have h : (W.alloc (.cells #[.int .u8 (x : Nat), .int .u8 (y : Nat)] t)).heap[W.heap.size]? = some (.cells #[.int .u8 (x : Nat), .int .u8 (y : Nat)] t (0, 0)) := heap_alloc_new W _
  refine .inr ⟨W.heap.size, 0, rfl, by simp, fun i hi => ?_⟩
  unfold World.cell?; simp only [h]
  rcases (by simp at hi; omega : i = 0 ∨ i = 1) with rfl | rfl <;> rfl
theorem two_rdI (W : World) (x y : Nat) (p q : Int) (hp : p = x) (hq : q = y) (t : TypeId) : RdA (W.alloc (.cells #[.int .u8 p, .int .u8 q] t)) (some ⟨W.heap.size, 0, none⟩) [x, y] := by
  subst hp hq; exact two_rd W x y t
theorem one_rd (W : World) (x : Nat) (t : TypeId) : RdA (W.alloc (.cells #[.int .u8 (x : Nat)] t)) (some ⟨W.heap.size, 0, none⟩) [x] := by
  have h : (W.alloc (.cells #[.int .u8 (x : Nat)] t)).heap[W.heap.size]? = some (.cells #[.int .u8 (x : Nat)] t (0, 0)) := heap_alloc_new W _
  refine .inr ⟨W.heap.size, 0, rfl, by simp, fun i hi => ?_⟩
  unfold World.cell?; simp only [h]
  rcases (by simp at hi; omega : i = 0) with rfl
  rfl
theorem below_own {B : Nat} {w a b : World} {v : Value} {xs : List Nat} (h : Below B w a) (ho : Own8 a B v xs) (g : a.grownBy b v.ownBlock) (hB : B ≤ a.heap.size) : Below B w b := h.grown g hB (fun k e => (World.ownsRow.lt ho k e).1)
end Go.Proofs.YtclhmggnkhnnlaaGreatDoor
/- Of every package, naming no number: cells, worlds, first places. (Cut out of GnA in round 17.) -/
namespace Go.Proofs.YtclhmggnkhnnlaaGreatDoor
open Go.RowKit

theorem at3 {W : World} {b : Nat} {x y z : Value} {t : TypeId} (h : W.heap[b]? = some (.cells #[x, y, z] t (0, 0))) : W.cell? ⟨b, 0, none⟩ = some x ∧ W.cell? ⟨b, 1, none⟩ = some y ∧ W.cell? ⟨b, 2, none⟩ = some z ∧ ∀ o, W.frozen? ⟨b, o, none⟩ = false := by
  refine ⟨?_, ?_, ?_, fun o => ?_⟩
  all_goals first | (unfold World.cell?; simp only [h]; rfl) | (unfold World.frozen?; simp only [h]; simp)
theorem lt_heap {W : World} {s : Nat} {o : Obj} (h : W.heap[s]? = some o) : s < W.heap.size := (Array.getElem?_eq_some_iff.1 h).1
theorem heap_past {W : World} {b : Nat} {o : Obj} (o' : Obj) (h : W.heap[b]? = some o) : (W.alloc o').heap[b]? = some o := (Below.heap_alloc _ _ _ (lt_heap h)).trans h
theorem heap_below {W W' : World} {b : Nat} {o : Obj} (hb : Below W.heap.size W W') (h : W.heap[b]? = some o) : W'.heap[b]? = some o := (hb.block _ (lt_heap h)).trans h
theorem below1 (w : World) (o : Obj) : Below w.heap.size w (w.alloc o) := (Below.refl _ _).alloc (Nat.le_refl _) _
theorem below2 (w : World) (o o2 : Obj) : Below w.heap.size w ((w.alloc o).alloc o2) := ((Below.refl _ _).alloc (Nat.le_refl _) _).alloc (by simp) _
theorem bstep {w a b : World} (h : Below w.heap.size w a) (k : Below a.heap.size a b) : Below w.heap.size w b := h.trans (k.mono h.size)
theorem at7 {W : World} {b : Nat} {x0 x1 x2 x3 x4 x5 x6 : Value} {t : TypeId} (h : W.heap[b]? = some (.cells #[x0, x1, x2, x3, x4, x5, x6] t (0, 0))) : W.cell? ⟨b, 0, none⟩ = some x0 ∧ W.cell? ⟨b, 1, none⟩ = some x1 ∧ W.cell? ⟨b, 2, none⟩ = some x2 ∧ W.cell? ⟨b, 3, none⟩ = some x3 ∧ W.cell? ⟨b, 4, none⟩ = some x4 ∧ W.cell? ⟨b, 5, none⟩ = some x5 ∧ W.cell? ⟨b, 6, none⟩ = some x6 := by
  refine ⟨?_, ?_, ?_, ?_, ?_, ?_, ?_⟩
  all_goals (unfold World.cell?; simp only [h]; rfl)
theorem heap_snd (w : World) (o : Obj) (cs : Array Value) (t : TypeId) : ((w.alloc o).alloc (.cells cs t)).heap[w.heap.size + 1]? = some (.cells cs t (0, 0)) := by
  have := heap_alloc_new (w.alloc o) (.cells cs t)
  rw [World.size_alloc] at this
  exact this
def RdZ (W : World) (a : Option Addr) (xs : List Int) : Prop :=
  xs = [] ∨ ∃ p off, a = some ⟨p, off, none⟩ ∧ p < W.heap.size ∧ ∀ i (h : i < xs.length), W.cell? ⟨p, off + i, none⟩ = some (.int .i64 xs[i])
theorem RdZ.below {W W' : World} {a : Option Addr} {xs : List Int} (h : RdZ W a xs) (hb : Below W.heap.size W W') : RdZ W' a xs := by
  rcases h with h | ⟨p, off, rfl, hp, hc⟩
  · exact .inl h
  · exact .inr ⟨p, off, rfl, Nat.lt_of_lt_of_le hp hb.size, fun i hi => (hb.cell (p := ⟨p, off + i, none⟩) hp).trans (hc i hi)⟩
theorem RdZ.some {W : World} {a : Option Addr} {xs : List Int} (h : RdZ W a xs) (hx : 0 < xs.length) : ∃ p off, a = some ⟨p, off, none⟩ ∧ p < W.heap.size ∧ ∀ i (h : i < xs.length), W.cell? ⟨p, off + i, none⟩ = some (.int .i64 xs[i]) := by
  rcases h with rfl | h
  · simp at hx
  · exact h
def firstI {α : Type} (p : α → Bool) (l : List α) : Int := match l.findIdx? p with | some i => (i : Int) | none => -1
theorem firstI_hit {α : Type} {p : α → Bool} {l : List α} {k : Nat} (h : k < l.length) (hp : p l[k] = true) (hn : ∀ j (hj : j < k), p (l[j]'(by omega)) = false) : firstI p l = k := by
  have : l.findIdx? p = some k := by
    rw [List.findIdx?_eq_some_iff_getElem]
    exact ⟨h, hp, fun j hj => by simp [hn j hj]⟩
  unfold firstI; rw [this]
theorem firstI_none {α : Type} {p : α → Bool} {l : List α} (hn : ∀ j (hj : j < l.length), p l[j] = false) : firstI p l = -1 := by
  have : l.findIdx? p = none := by
    rw [List.findIdx?_eq_none_iff]
    intro x hx
    obtain ⟨j, hj, rfl⟩ := List.mem_iff_getElem.1 hx
    exact hn j hj
  unfold firstI; rw [this]
theorem firstI_cases {α : Type} (p : α → Bool) (l : List α) : (firstI p l = -1 ∧ ∀ x ∈ l, p x = false) ∨ ∃ k, ∃ h : k < l.length, firstI p l = k ∧ p l[k] = true ∧ ∀ j (hj : j < k), p (l[j]'(by omega)) = false := by
  cases e : l.findIdx? p with
  | none => exact .inl ⟨by unfold firstI; rw [e], fun x hx => by rw [List.findIdx?_eq_none_iff] at e; exact e x hx⟩
  | some k =>
    obtain ⟨h, hp, hn⟩ := List.findIdx?_eq_some_iff_getElem.1 e
    exact .inr ⟨k, h, by unfold firstI; rw [e], hp, fun j hj => by simpa using hn j hj⟩
theorem firstI_any {α : Type} (p : α → Bool) (l : List α) : decide (0 ≤ firstI p l) = l.any p := by
  rcases firstI_cases p l with ⟨e, hn⟩ | ⟨k, h, e, hp, _⟩
  · rw [e]; symm; simp; exact hn
  · rw [e]; symm; simp; exact ⟨_, List.getElem_mem h, hp⟩
theorem firstI_lt {α : Type} (p : α → Bool) (l : List α) : -1 ≤ firstI p l ∧ firstI p l < l.length ∨ firstI p l = -1 := by
  rcases firstI_cases p l with ⟨e, _⟩ | ⟨k, h, e, _⟩
  · exact .inr e
  · left; rw [e]; omega
end Go.Proofs.YtclhmggnkhnnlaaGreatDoor
