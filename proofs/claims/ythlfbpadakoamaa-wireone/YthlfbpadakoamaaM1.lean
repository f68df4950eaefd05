/- Pieces of the proof: Hide, Rd, RowB, OwnB, Fr, WA, Math. -/
import Derived.Test.YthlfbpadakoamaaProg
import Derived.WalkKit
import Derived.WalkSpells
import Derived.WalkLawsBesides
import Derived.Laws.Pointers
import Derived.Laws.ResultCell
import Derived.Deep.QuietTactic
import Derived.BigQuiet
import Derived.Deep.RegionHeld3
import Derived.Test.YthlfbpadakoamaaRows
import Derived.ProofKit
import Derived.OpenShut
import Derived.ChangeOld
import Derived.ChangeSlices
import Derived.Maps.AppendAt
import Derived.Laws.AppendOwnNone
import Derived.Laws.BitsAllLaws
import Derived.Laws.ShiftsVarLaws
/- A fact that is hidden from the walk. -/
namespace Go.Proofs.Ythlfbpadakoamaa
open Go.RowKit

theorem hide {p : Prop} (h : p) : Hid p := h
theorem unhide {p : Prop} (h : Hid p) : p := h
end Go.Proofs.Ythlfbpadakoamaa
/- Bytes that can be read; no package of the program is named. -/
namespace Go.Proofs.Ythlfbpadakoamaa
open Go.RowKit

theorem bcell {W w1 : World} (hb : Below W.heap.size W w1) : (∀ b o, b < W.heap.size → w1.cell? ⟨b, o, none⟩ = W.cell? ⟨b, o, none⟩) ∧ (∀ b o, b < W.heap.size → w1.frozen? ⟨b, o, none⟩ = W.frozen? ⟨b, o, none⟩) :=
  ⟨fun b o h => hb.cell (p := ⟨b, o, none⟩) h, fun b o h => hb.frozen (p := ⟨b, o, none⟩) h⟩

/- Bytes that can be read. -/
def RdA (W : World) (a : Option Addr) (xs : List Nat) : Prop :=
  xs = [] ∨ ∃ p off, a = some ⟨p, off, none⟩ ∧ p < W.heap.size ∧ ∀ i (h : i < xs.length), W.cell? ⟨p, off + i, none⟩ = some (.int .u8 (xs[i] : Nat))
theorem RdA.below {W W' : World} {a : Option Addr} {xs : List Nat} (h : RdA W a xs) (hb : Below W.heap.size W W') : RdA W' a xs := by
  rcases h with h | ⟨p, off, rfl, hp, hc⟩
  · exact .inl h
  · exact .inr ⟨p, off, rfl, Nat.lt_of_lt_of_le hp hb.size, fun i hi => (hb.cell (p := ⟨p, off + i, none⟩) hp).trans (hc i hi)⟩
theorem RdA.some {W : World} {a : Option Addr} {xs : List Nat} (h : RdA W a xs) (hx : 0 < xs.length) : ∃ p off, a = some ⟨p, off, none⟩ ∧ p < W.heap.size ∧ ∀ i (h : i < xs.length), W.cell? ⟨p, off + i, none⟩ = some (.int .u8 (xs[i] : Nat)) := by
  rcases h with rfl | h
  · simp at hx
  · exact h
theorem below_drewN {B : Nat} {w w' : World} (h : Below B w w') (n : Nat) : Below B w (w'.drewN n) := ⟨h.os, h.tape, h.output, h.size, h.block⟩
end Go.Proofs.Ythlfbpadakoamaa
/- What came in, opened: bytes. -/
namespace Go.Proofs.Ythlfbpadakoamaa
open Go.ChangeShapes Go.WideShapes Go.ChangeAt Go.RowKit

theorem ownD : ownKnob Try.prog.godebug = none := by kernel_rfl
theorem laidOutD : laidOutB Try.prog = true := by kernel_rfl
theorem byteD {x : Int} (h : (Lit.int .u8 x).wf = true) : 0 ≤ x ∧ x < 256 := by
  simp [Lit.wf, IntKind.min, IntKind.max, IntKind.signed, IntKind.bits] at h
  exact ⟨by omega, by omega⟩
theorem word16D {x : Int} (h : (Lit.int .u16 x).wf = true) : 0 ≤ x ∧ x < 65536 := by
  simp [Lit.wf, IntKind.min, IntKind.max, IntKind.signed, IntKind.bits] at h
  exact ⟨by omega, by omega⟩
theorem word32D {x : Int} (h : (Lit.int .u32 x).wf = true) : 0 ≤ x ∧ x < 4294967296 := by
  simp [Lit.wf, IntKind.min, IntKind.max, IntKind.signed, IntKind.bits] at h
  exact ⟨by omega, by omega⟩
theorem cellsB8 : Try.prog.cellsOf 5 = 1 := by kernel_rfl
set_option maxRecDepth 100000 in
theorem place8 {W : World} {base : Nat} {a : Addr} {len cap : Nat} (h : Value.okWide Try.prog W .any base 22 (.slice (some a) len cap)) : a.spot = none ∧ a.block < W.heap.size ∧ len ≤ cap ∧ cap ≤ 9223372036854775807 := by
  simp only [Value.okWide, Try.underlying22, Cell.okWide] at h
  simp only [Cell.ok, Try.underlying22] at h
  obtain ⟨h1, h2, _, h4, row, cells, h5, _⟩ := h
  refine ⟨h4, ?_, h1, ?_⟩
  · unfold World.shape? at h5
    cases hb : W.heap[a.block]? with
    | none => rw [hb] at h5; simp at h5
    | some o => exact (Array.getElem?_eq_some_iff.1 hb).1
  · have : IntKind.i64.max = 9223372036854775807 := by decide
    omega
theorem add_at (b o i : Nat) : (⟨b, o, none⟩ : Addr).add i = ⟨b, o + i, none⟩ := by simp [Addr.add]
set_option maxRecDepth 100000 in
theorem open_bytes {H : Type} {enc : TypeId × Value → H} {W : World} {base fuel : Nat} {base2 : Nat} {a0 : Option Addr} {len cap : Nat} {x : DataW H × List MemPlace} (hok : Value.okWide Try.prog W .any base 22 (.slice a0 len cap)) (h : DataW.trod enc Try.prog W base2 (fun _ => true) true fuel 22 (Value.slice a0 len cap).cells.toList = some x) :
    ∃ xs : List Nat, len = xs.length ∧ (∀ y ∈ xs, y < 256) ∧ RdA W a0 xs ∧ len ≤ cap ∧ cap ≤ 9223372036854775807 ∧ (a0 = none → cap = 0) := by
  rcases open_ints Try.underlying22 Try.underlying5 cellsB8 h with ⟨hcs, _⟩ | ⟨a, len', cap', zs, hcs, _, hl, _, hzl, _, hc, hwf⟩
  · simp [Value.cells] at hcs
    obtain ⟨rfl, rfl, rfl⟩ := hcs
    exact ⟨[], rfl, fun y hy => by simp at hy, .inl rfl, Nat.le_refl _, by decide, fun _ => rfl⟩
  · simp [Value.cells] at hcs
    obtain ⟨rfl, rfl, rfl⟩ := hcs
    obtain ⟨hs, hlt, hlc, hcm⟩ := place8 hok
    obtain ⟨b, off, sp⟩ := a
    obtain rfl : sp = none := hs
    have hzl' : zs.length = cap := by simpa using hzl
    have hlen : len = ((zs.take len).map Int.toNat).length := by simp; omega
    refine ⟨(zs.take len).map Int.toNat, hlen, fun y hy => ?_, .inr ⟨b, off, rfl, hlt, fun i hi => ?_⟩, hlc, hcm, fun e => by cases e⟩
    · obtain ⟨n, hn, rfl⟩ := List.mem_map.1 hy
      have := byteD (hwf n (List.mem_of_mem_take hn)); omega
    · rw [← hlen] at hi
      have h1 := hc i (by omega)
      rw [add_at] at h1
      have hi2 : i < zs.length := by omega
      have h2 : zs.getD i 0 = zs[i] := by rw [List.getD_eq_getElem?_getD, List.getElem?_eq_getElem hi2]; rfl
      have h3 := byteD (hwf zs[i] (List.getElem_mem hi2))
      rw [h1, h2]
      simp only [List.getElem_map, List.getElem_take]
      rw [Int.toNat_of_nonneg h3.1]
theorem okWide_array {P : Program} {w : World} {r : Reach} {base : Nat} {t : TypeId} {v : Value} {n : Nat} {e : TypeId} (ht : P.underlying t = some (.array n e)) (h : Value.okWide P w r base t v) : ∃ cs, v = .agg cs ∧ cs.size = P.cellsOf t := by
  simp only [Value.okWide, ht] at h
  obtain ⟨cs, h1, h2, _⟩ := h
  exact ⟨cs, h1, h2⟩
end Go.Proofs.Ythlfbpadakoamaa
/- Bytes of one's own: appended to, written, read. -/
namespace Go.Proofs.Ythlfbpadakoamaa
open Go.RowKit

theorem Try.info8 : (Try.prog.info? 5).map (fun i => (i.zero, i.size, i.bytes)) = some (some (.int .u8 0), 1, 1) := by kernel_rfl
theorem add8 (p off j : Nat) : (⟨p, off, none⟩ : Addr).add j = ⟨p, off + j, none⟩ := by
  unfold Addr.add; split
  · rename_i h; simp_all
  · rfl
def u8s (xs : List Nat) : List Value := xs.map (fun n => Value.int .u8 (n : Nat))
theorem u8s_length (xs : List Nat) : (u8s xs).length = xs.length := by simp [u8s]
theorem u8s_append (xs ys : List Nat) : u8s (xs ++ ys) = u8s xs ++ u8s ys := by simp [u8s]
theorem u8s_one (xs : List Nat) : ∀ u ∈ u8s xs, u.oneCell' = true := fun u hu => by
  obtain ⟨n, _, rfl⟩ := List.mem_map.1 hu
  rfl
theorem u8s_get {xs : List Nat} {i : Nat} (h : i < xs.length) : (u8s xs)[i]? = some (.int .u8 (xs[i] : Nat)) := by simp [u8s, h]
def Own8 (W : World) (B : Nat) (v : Value) (xs : List Nat) : Prop := W.ownsRow B 5 1 v xs.length (u8s xs)
theorem Own8.nil (W : World) (B : Nat) : Own8 W B (.slice none 0 0) [] := World.ownsRow_nil W B _ _
theorem Own8.shape {W : World} {B : Nat} {v : Value} {xs : List Nat} (h : Own8 W B v xs) : ∃ a cap, v = .slice a xs.length cap ∧ xs.length ≤ cap ∧ (a = none → cap = 0) ∧ ∀ q, a = some q → q.off = 0 ∧ q.spot = none ∧ B ≤ q.block ∧ q.block < W.heap.size := by
  rcases h.2 with ⟨rfl, hn⟩ | ⟨g, cap, cur, rfl, hg, hcur, h1, _⟩
  · exact ⟨none, 0, by rw [hn], by omega, fun _ => rfl, fun q e => by cases e⟩
  · exact ⟨_, cap, rfl, h1, fun e => by (cases e), fun q e => by cases e; exact ⟨rfl, rfl, hg, (Array.getElem?_eq_some_iff.1 hcur).1⟩⟩
theorem Own8.rd {W : World} {B : Nat} {a : Option Addr} {n cap : Nat} {xs : List Nat} (h : Own8 W B (.slice a n cap) xs) : n = xs.length ∧ RdA W a xs := by
  rcases h.2 with ⟨e, hn⟩ | ⟨g, c, cur, e, hg, hcur, h1, h2, h3, h4⟩
  · injection e with e1 e2 e3
    subst e1 e2
    exact ⟨by omega, .inl (by cases xs with | nil => rfl | cons => simp at hn)⟩
  · injection e with e1 e2 e3
    subst e1 e2 e3
    refine ⟨rfl, .inr ⟨g, 0, rfl, (Array.getElem?_eq_some_iff.1 hcur).1, fun i hi => ?_⟩⟩
    have h5 := World.ownsRow.cells h (g := g) rfl i _ (u8s_get hi)
    rw [add8] at h5
    exact h5
theorem Own8.kept {W W' : World} {B : Nat} {v : Value} {xs : List Nat} {row : Option Nat} (h : Own8 W B v xs) (hg : W.grownBy W' row) (hne : v.ownBlock = none ∨ v.ownBlock ≠ row) : Own8 W' B v xs := World.ownsRow.kept h hg hne
theorem Own8.below {W W' : World} {B : Nat} {v : Value} {xs : List Nat} (h : Own8 W B v xs) (hb : Below W.heap.size W W') : Own8 W' B v xs := by
  refine ⟨h.1, ?_⟩
  rcases h.2 with h0 | ⟨gr, cap, cur, rfl, hg, hcur, rest⟩
  · exact .inl h0
  · exact .inr ⟨gr, cap, cur, rfl, hg, (hb.block _ (Array.getElem?_eq_some_iff.1 hcur).1).trans hcur, rest⟩
theorem Own8.drew {W : World} {B : Nat} {v : Value} {xs : List Nat} (h : Own8 W B v xs) : Own8 W.drew B v xs := h
theorem Own8.soft {W : World} {B g n cap : Nat} {xs : List Nat} (h : Own8 W B (.slice (some ⟨g, 0, none⟩) n cap) xs) (o : Nat) : W.frozen? ⟨g, o, none⟩ = false := by
  rcases h.2 with ⟨e, _⟩ | ⟨g', c, cur, e, hg, hcur, _⟩
  · cases e
  · injection e with e1
    injection e1 with e1
    injection e1 with e1
    subst e1
    unfold World.frozen?; simp only [hcur]; simp
theorem heap_setCell_same {W : World} {g k : Nat} {cur : Array Value} {t : TypeId} {fr : Nat × Nat} (h : W.heap[g]? = some (.cells cur t fr)) (v : Value) : (W.setCell ⟨g, k, none⟩ v).heap[g]? = some (.cells (cur.setIfInBounds k v) t fr) := by
  simp [World.setCell, Array.getElem?_modify, h]
theorem Own8.set {W : World} {B g n cap : Nat} {xs : List Nat} (h : Own8 W B (.slice (some ⟨g, 0, none⟩) n cap) xs) (k y : Nat) : Own8 (W.setCell ⟨g, k, none⟩ (.int .u8 (y : Nat))) B (.slice (some ⟨g, 0, none⟩) n cap) (xs.set k y) := by
  rcases h.2 with ⟨e, _⟩ | ⟨g', c, cur, e, hg, hcur, h1, h2, h3, h4⟩
  · cases e
  · injection e with e1 e2 e3
    injection e1 with e1
    injection e1 with e1
    subst e1 e2 e3
    refine ⟨by simp [u8s], .inr ⟨g, cap, _, by simp, hg, heap_setCell_same hcur _, by simpa using h1, h2, by simpa using h3, ?_⟩⟩
    rw [Nat.mul_one] at h4
    simp only [List.length_set, Nat.mul_one, Array.toList_setIfInBounds]
    rw [List.take_set, h4]
    simp [u8s, List.map_set]
theorem rdA_src {W : World} {p off : Nat} {xs : List Nat} (h : ∀ i (h : i < xs.length), W.cell? ⟨p, off + i, none⟩ = some (.int .u8 (xs[i] : Nat))) : ∀ j u, (u8s xs)[j]? = some u → W.cell? ((⟨p, off, none⟩ : Addr).add j) = some u := fun j u hu => by
  obtain ⟨hj, rfl⟩ := List.getElem?_eq_some_iff.1 hu
  have hj' : j < xs.length := by simpa [u8s] using hj
  have : (u8s xs)[j] = Value.int .u8 (xs[j] : Nat) := by simp [u8s]
  rw [this, add8]; exact h j hj'
/- 'append(v, x...)', v of one's own, x bytes that can be read. -/
theorem wpList_app8 {w : World} {ops : Array Oper} {rest : List Oper} {o : Oper} {a : Act} {Q : Exit → Act → World → Prop} (hgd : o.guard = none) (s x : Operand) (ho : o.op = .call { callee := .builtin .append, args := #[s, x], argTypes := #[22, 22] })
    (B : Nat) (v : Value) (xs : List Nat) (hs : a.eval s = v) (hown : Own8 w B v xs) (sa : Option Addr) (m cap : Nat) (ys : List Nat) (hx : a.eval x = .slice sa m cap) (hm : m = ys.length) (hr : RdA w sa ys) (hn : sa = none → cap = 0)
    (hl : xs.length + ys.length ≤ 1000000000) (hB : B ≤ w.heap.size)
    (h : ∀ v' w', Own8 w' B v' (xs ++ ys) → w.grownBy w' v.ownBlock → (v'.ownBlock = v.ownBlock ∨ v'.ownBlock = some w.heap.size) → wpList Try.prog ops Q rest (a.put o.dst v') w') :
    wpList Try.prog ops Q (o :: rest) a w := by
  subst hm
  obtain ⟨i0, hi0, hz0, hz1, hz2⟩ := info_parts Try.info8
  rcases hr with rfl | ⟨p, off, rfl, _, hc⟩
  · cases sa with
    | none =>
      have hx2 : a.eval x = .slice none 0 0 := by rw [hx, hn rfl]; rfl
      refine wpList_append_own_none hgd s x 22 ho B 5 i0 1 Try.underlying22 hi0 v xs.length (u8s xs) hs hown hx2 ?_
      exact h v w (by rw [List.append_nil]; exact hown) ⟨rfl, rfl, rfl, Nat.le_refl _, fun _ _ _ => rfl⟩ (.inl rfl)
    | some q =>
      refine wpList_append_own_at w hgd s x 22 ho B 5 i0 (.int .u8 0) 1 1 Try.underlying22 hi0 hz0 hz1 hz2 rfl (by decide) v xs.length (u8s xs) hs hown q 0 cap [] hx rfl (fun _ _ h => by simp at h) (fun _ h => by simp at h) (by unfold maxLen; omega) (by omega) hB ?_
      intro v' w' h1 h2 _ h4
      refine h v' w' ?_ h2 h4
      unfold Own8
      rw [List.append_nil]
      rw [List.append_nil, Nat.add_zero] at h1
      exact h1
  · refine wpList_append_own_at w hgd s x 22 ho B 5 i0 (.int .u8 0) 1 1 Try.underlying22 hi0 hz0 hz1 hz2 rfl (by decide) v xs.length (u8s xs) hs hown ⟨p, off, none⟩ ys.length cap (u8s ys) hx (by rw [u8s_length, Nat.mul_one]) (rdA_src hc) (u8s_one ys) (by unfold maxLen; omega) (by omega) hB ?_
    intro v' w' h1 h2 _ h4
    refine h v' w' ?_ h2 h4
    unfold Own8
    rw [List.length_append, u8s_append]
    exact h1
theorem Own8.some8 {W : World} {B : Nat} {v : Value} {xs : List Nat} (h : Own8 W B v xs) (hx : 0 < xs.length) : ∃ g cap, v = .slice (some ⟨g, 0, none⟩) xs.length cap ∧ xs.length ≤ cap ∧ B ≤ g ∧ g < W.heap.size ∧ cap ≤ maxLen := by
  rcases h.2 with ⟨_, hn⟩ | ⟨g, cap, cur, hv, hg, hcur, h1, h2, _⟩
  · omega
  · exact ⟨g, cap, hv, h1, hg, (Array.getElem?_eq_some_iff.1 hcur).1, h2⟩
theorem Own8.cut {W : World} {B g n cap : Nat} {xs : List Nat} (h : Own8 W B (.slice (some ⟨g, 0, none⟩) n cap) xs) (k : Nat) (hk : k ≤ xs.length) : Own8 W B (.slice (some ⟨g, 0, none⟩) k cap) (xs.take k) := by
  rcases h.2 with ⟨e, _⟩ | ⟨g', c, cur, e, hg, hcur, h1, h2, h3, h4⟩
  · cases e
  · injection e with e1 e2 e3
    injection e1 with e1
    injection e1 with e1
    subst e1 e2 e3
    have hlen : (xs.take k).length = k := by simp; omega
    refine ⟨by simp [u8s], .inr ⟨g, cap, cur, by rw [hlen], hg, hcur, by omega, h2, h3, ?_⟩⟩
    rw [hlen, Nat.mul_one]
    rw [Nat.mul_one] at h4
    have e : cur.toList.take k = (cur.toList.take xs.length).take k := by rw [List.take_take, Nat.min_eq_left hk]
    rw [e, h4]
    simp [u8s, List.map_take]
theorem two_rd (W : World) (x y : Nat) (t : TypeId) : RdA (W.alloc (.cells #[.int .u8 (x : Nat), .int .u8 (y : Nat)] t)) (some ⟨W.heap.size, 0, none⟩) [x, y] := by
  have h : (W.alloc (.cells #[.int .u8 (x : Nat), .int .u8 (y : Nat)] t)).heap[W.heap.size]? = some (.cells #[.int .u8 (x : Nat), .int .u8 (y : Nat)] t (0, 0)) := heap_alloc_new W _
  refine .inr ⟨W.heap.size, 0, rfl, by simp, fun i hi => ?_⟩
  unfold World.cell?; simp only [h]
  rcases (by simp at hi; omega : i = 0 ∨ i = 1) with rfl | rfl <;> rfl
theorem two_rdI (W : World) (x y : Nat) (p q : Int) (hp : p = x) (hq : q = y) (t : TypeId) : RdA (W.alloc (.cells #[.int .u8 p, .int .u8 q] t)) (some ⟨W.heap.size, 0, none⟩) [x, y] := by
  subst hp hq; exact two_rd W x y t
theorem one_rd (W : World) (x : Nat) (t : TypeId) : RdA (W.alloc (.cells #[.int .u8 (x : Nat)] t)) (some ⟨W.heap.size, 0, none⟩) [x] := by
  have h : (W.alloc (.cells #[.int .u8 (x : Nat)] t)).heap[W.heap.size]? = some (.cells #[.int .u8 (x : Nat)] t (0, 0)) := heap_alloc_new W _
  refine .inr ⟨W.heap.size, 0, rfl, by simp, fun i hi => ?_⟩
  unfold World.cell?; simp only [h]
  rcases (by simp at hi; omega : i = 0) with rfl
  rfl
theorem below_own {B : Nat} {w a b : World} {v : Value} {xs : List Nat} (h : Below B w a) (ho : Own8 a B v xs) (g : a.grownBy b v.ownBlock) (hB : B ≤ a.heap.size) : Below B w b := h.grown g hB (fun k e => (World.ownsRow.lt ho k e).1)
end Go.Proofs.Ythlfbpadakoamaa
/- What a call may touch: all blocks but some stay. -/
namespace Go.Proofs.Ythlfbpadakoamaa
open Go.RowKit

structure Fr (E : Nat → Prop) (W W' : World) : Prop where
  os : W'.os = W.os
  tape : W'.tape = W.tape
  output : W'.output = W.output
  size : W.heap.size ≤ W'.heap.size
  block : ∀ b, b < W.heap.size → ¬ E b → W'.heap[b]? = W.heap[b]?
theorem Fr.refl (E : Nat → Prop) (W : World) : Fr E W W := ⟨rfl, rfl, rfl, Nat.le_refl _, fun _ _ _ => rfl⟩
theorem Fr.trans {E E' : Nat → Prop} {W W1 W2 : World} (h : Fr E W W1) (k : Fr E' W1 W2) (hE : ∀ b, b < W.heap.size → E' b → E b) : Fr E W W2 :=
  ⟨k.os.trans h.os, k.tape.trans h.tape, k.output.trans h.output, Nat.le_trans h.size k.size, fun b hb hn => (k.block b (Nat.lt_of_lt_of_le hb h.size) (fun e => hn (hE b hb e))).trans (h.block b hb hn)⟩
theorem Fr.ofBelow {E : Nat → Prop} {W W' : World} (h : Below W.heap.size W W') : Fr E W W' := ⟨h.os, h.tape, h.output, h.size, fun b hb _ => h.block b hb⟩
theorem Fr.below {E : Nat → Prop} {B : Nat} {W W' : World} (h : Fr E W W') (hE : ∀ b, E b → B ≤ b) (hB : B ≤ W.heap.size) : Below B W W' :=
  ⟨h.os, h.tape, h.output, h.size, fun b hb => h.block b (by omega) (fun e => by have := hE b e; omega)⟩
theorem Fr.drew {E : Nat → Prop} {W W' : World} (h : Fr E W W') : Fr E W W'.drew := ⟨h.os, h.tape, h.output, h.size, h.block⟩
theorem Fr.drewN {E : Nat → Prop} {W W' : World} (h : Fr E W W') (n : Nat) : Fr E W (W'.drewN n) := ⟨h.os, h.tape, h.output, h.size, h.block⟩
theorem Fr.grown {E : Nat → Prop} {W W' : World} {row : Option Nat} (h : W.grownBy W' row) (hE : ∀ r, row = some r → E r) : Fr E W W' := by
  exact ⟨h.os, h.tape, h.output, h.size, fun b hb hn => h.block b hb (fun e => hn (hE b e.symm))⟩
theorem Fr.set {E : Nat → Prop} {W W' : World} (h : Fr E W W') (p : Addr) (v : Value) (hE : E p.block) : Fr E W (W'.setCell p v) := by
  have hb := (Below.refl 0 W').setCell (p := p) (Nat.zero_le _) v
  exact ⟨hb.os.trans h.os, hb.tape.trans h.tape, hb.output.trans h.output, Nat.le_trans h.size hb.size, fun b hb hn => by rw [Below.heap_setCell _ _ _ _ (fun e => hn (by rw [e]; exact hE))]; exact h.block b hb hn⟩
theorem Fr.alloc {E : Nat → Prop} {W W' : World} (h : Fr E W W') (o : Obj) : Fr E W (W'.alloc o) := h.trans (E' := fun _ => False) (Fr.ofBelow ((Below.refl _ _).alloc (Nat.le_refl _) o)) (fun _ _ e => e.elim)
theorem Fr.cell {E : Nat → Prop} {W W' : World} (h : Fr E W W') {b o : Nat} {v : Value} (hc : W.cell? ⟨b, o, none⟩ = some v) (hn : ¬ E b) : W'.cell? ⟨b, o, none⟩ = some v :=
  (World.cell?_of_block (w := W) (a := ⟨b, o, none⟩) (h.block b (World.block_lt_of_cell? W _ hc) hn)).trans hc
end Go.Proofs.Ythlfbpadakoamaa
/- package wire: must, and what a reader takes. -/
namespace Go.Proofs.Ythlfbpadakoamaa
open Go.RowKit

/- The panic that 'must' leaves by. -/
def panW : List PanicEntry := [{ v := .iface 97 (.agg #[]), recovered := false }]
theorem must_yes (w : World) : Calls Try.prog 21 #[.bool true] w fun e w' => e = .returned (.tuple #[]) ∧ w' = w := by
  go_enter Try.func21, Try.ntmps21
  go_wp2
  go_end0
  exact ⟨rfl, rfl⟩
theorem must_no (w : World) : Calls Try.prog 21 #[.bool false] w fun e w' => e = .panicked panW ∧ w' = w := by
  go_enter Try.func21, Try.ntmps21
  go_wp2
  exact ⟨rfl, rfl, rfl⟩
/- A reader at p, in what is left of the bytes at q. -/
structure Rr (w W : World) (p q : Nat) (xs : List Nat) : Prop where
  fr : Fr (· = p) w W
  pq : q ≠ p
  pl : p < w.heap.size
  ql : q < w.heap.size
  cell : ∃ off cap, W.cell? ⟨p, 0, none⟩ = some (.slice (some ⟨q, off, none⟩) xs.length cap) ∧ xs.length ≤ cap ∧ ∀ i (h : i < xs.length), W.cell? ⟨q, off + i, none⟩ = some (.int .u8 (xs[i] : Nat))
  soft : W.frozen? ⟨p, 0, none⟩ = false
  small : xs.length ≤ 65536
  byte : ∀ x ∈ xs, x < 256
theorem cells_drop {W : World} {q off : Nat} {xs : List Nat} (hc : ∀ i (h : i < xs.length), W.cell? ⟨q, off + i, none⟩ = some (.int .u8 (xs[i] : Nat))) (n : Nat) :
    ∀ i (h : i < (xs.drop n).length), W.cell? ⟨q, off + n + i, none⟩ = some (.int .u8 ((xs.drop n)[i] : Nat)) := fun i h => by
  have h2 : n + i < xs.length := by simp at h; omega
  have := hc (n + i) h2
  rw [show off + n + i = off + (n + i) by omega, this]
  simp
/- Bytes at a place. -/
def Bs (W : World) (q off : Nat) (xs : List Nat) : Prop := ∀ i (h : i < xs.length), W.cell? ⟨q, off + i, none⟩ = some (.int .u8 (xs[i] : Nat))
theorem Bs.take {W : World} {q off : Nat} {xs : List Nat} (h : Bs W q off xs) (n : Nat) : Bs W q off (xs.take n) := fun i hi => by
  have h2 : i < xs.length := by simp at hi; omega
  rw [h i h2]; simp
theorem Bs.set {W : World} {p q off : Nat} {xs : List Nat} (h : Bs W q off xs) (hq : q ≠ p) (v : Value) : Bs (W.setCell ⟨p, 0, none⟩ v) q off xs := fun i hi => by
  rw [World.cell?_setCell_far _ _ _ _ (by exact fun e => hq e.symm)]; exact h i hi
theorem Bs.fr {E : Nat → Prop} {W W' : World} {q off : Nat} {xs : List Nat} (h : Bs W q off xs) (hf : Fr E W W') (hq : ¬ E q) : Bs W' q off xs := fun i hi => hf.cell (h i hi) hq
theorem Rr.cut {w W : World} {p q : Nat} {xs : List Nat} (h : Rr w W p q xs) {off : Nat} (n : Nat) (hc : Bs W q off xs) (o' c' m : Nat) (hm : m = xs.length - n) (hcap : m ≤ c') (ho : o' = off + n ∨ m = 0) :
    Rr w (W.setCell ⟨p, 0, none⟩ (.slice (some ⟨q, o', none⟩) m c')) p q (xs.drop n) := by
  obtain ⟨o2, c2, k1, _, _⟩ := h.cell
  have e : (xs.drop n).length = m := by simp; omega
  refine ⟨h.fr.set _ _ rfl, h.pq, h.pl, h.ql, ⟨o', c', by rw [e]; exact World.cell?_setCell_same' _ _ _ (by rw [k1]; rfl), by omega, ?_⟩, by rw [World.frozen?_setCell]; exact h.soft, by have := h.small; omega, fun x hx => h.byte x (List.mem_of_mem_drop hx)⟩
  rcases ho with rfl | h0
  · exact Bs.set (xs := xs.drop n) (cells_drop hc n) h.pq _
  · exact fun i hi => by omega
/- What 'take' hands out. -/
structure Tk (w W : World) (p q : Nat) (xs : List Nat) (n off cap : Nat) : Prop where
  cp : n ≤ cap
  bs : Bs W q off (xs.take n)
  rr : Rr w W p q (xs.drop n)
set_option maxHeartbeats 400000 in
theorem take_yes {w W : World} {p q : Nat} {xs : List Nat} (n : Nat) (h : Rr w W p q xs) (hn : n ≤ xs.length) :
    Calls Try.prog 54 #[.pointer (some ⟨p, 0, none⟩), .int .i64 n] W fun e W' => ∃ off cap, e = .returned (.slice (some ⟨q, off, none⟩) n cap) ∧ Tk w W' p q xs n off cap := by
  have HR := hide h
  obtain ⟨off, cap, hc, hcap, hx⟩ := h.cell
  have hs := h.soft
  have HX : Hid (Bs W q off xs) := hide hx
  have HC := hide hcap
  have HN := hide hn
  have d1 : ((n : Int) ≤ (xs.length : Int)) = True := by simp; omega
  have d2 : ((n : Int) ≤ (cap : Int)) = True := by simp; omega
  have HM := hide (must_yes W)
  clear h hx hcap hn
  go_enter Try.func54, Try.ntmps54
  go_wp2_with fail
  refine HM.out.mono ?_
  rintro e w1 ⟨rfl, rfl⟩
  go_wp2
  all_goals
    go_ret
    refine ⟨_, _, rfl, ?_, (HX.out.take _).set HR.out.pq _, HR.out.cut n HX.out _ _ _ rfl ?_ ?_⟩
  all_goals (have := HN.out; have := HC.out; omega)
theorem take_no {w W : World} {p q : Nat} {xs : List Nat} (n : Nat) (h : Rr w W p q xs) (hn : xs.length < n) :
    Calls Try.prog 54 #[.pointer (some ⟨p, 0, none⟩), .int .i64 n] W fun e W' => e = .panicked panW ∧ W' = W := by
  obtain ⟨off, cap, hc, hcap, hx⟩ := h.cell
  have d1 : ((n : Int) ≤ (xs.length : Int)) = False := by simp; omega
  have HM := hide (must_no W)
  clear h hx hcap hn
  go_enter Try.func54, Try.ntmps54
  go_wp2_with fail
  refine HM.out.mono ?_
  rintro e w1 ⟨rfl, rfl⟩
  go_wp2
  exact ⟨rfl, rfl, rfl⟩
theorem byte_yes {w W : World} {p q x : Nat} {xs : List Nat} (h : Rr w W p q (x :: xs)) :
    Calls Try.prog 22 #[.pointer (some ⟨p, 0, none⟩)] W fun e W' => e = .returned (.int .i64 x) ∧ Rr w W' p q xs := by
  have hb := h.byte x (by simp)
  have HT := hide (take_yes 1 h (by simp))
  have hw : IntKind.i64.wrap (x : Int) = x := by rw [IntKind.wrap_i64]; omega
  clear h hb
  go_enter Try.func22, Try.ntmps22
  go_wp2_with fail
  refine HT.out.mono ?_
  rintro e w1 ⟨off, cap, rfl, hk⟩
  have hc := hk.bs 0 (by simp)
  rw [Nat.add_zero] at hc
  have HK := hide hk
  clear hk
  simp only [List.take_succ_cons, List.getElem_cons_zero] at hc
  go_wp2
  go_ret
  exact ⟨rfl, HK.out.rr⟩
theorem byte_no {w W : World} {p q : Nat} (h : Rr w W p q []) :
    Calls Try.prog 22 #[.pointer (some ⟨p, 0, none⟩)] W fun e W' => e = .panicked panW ∧ W' = W := by
  have HT := hide (take_no 1 h (by simp))
  clear h
  go_enter Try.func22, Try.ntmps22
  go_wp2_with fail
  refine HT.out.mono ?_
  rintro e w1 ⟨rfl, rfl⟩
  go_wp2
  exact ⟨rfl, rfl, rfl⟩
end Go.Proofs.Ythlfbpadakoamaa
/- Plain facts on words and lists of bits: no Go in sight. -/
namespace Go.Proofs.Ythlfbpadakoamaa

def low (n : Int) : Int := 2 ^ n.toNat - 1
def cLo (n lo : Int) : Int := if n ≤ 64 then lo % 2 ^ n.toNat else lo
def cHi (n hi : Int) : Int := if n ≤ 64 then 0 else hi % 2 ^ (n - 64).toNat
theorem cLo_le {n lo : Int} (h : n ≤ 64) : cLo n lo = lo % 2 ^ n.toNat := by unfold cLo; rw [if_pos h]
theorem cLo_gt {n lo : Int} (h : 64 < n) : cLo n lo = lo := by unfold cLo; rw [if_neg (by omega)]
theorem cHi_le {n hi : Int} (h : n ≤ 64) : cHi n hi = 0 := by unfold cHi; rw [if_pos h]
theorem cHi_gt {n hi : Int} (h : 64 < n) : cHi n hi = hi % 2 ^ (n - 64).toNat := by unfold cHi; rw [if_neg (by omega)]
def bitB (hi lo : Int) (i : Nat) : Bool := if i < 64 then lo.toNat.testBit i else hi.toNat.testBit (i - 64)
def bitsTo (hi lo : Int) (k : Nat) : List Bool := (List.range k).map (bitB hi lo)
def valL : List Bool → Nat
  | [] => 0
  | b :: r => b.toNat + 2 * valL r
def numLo (l : List Bool) : Nat := valL (l.take 64)
def numHi (l : List Bool) : Nat := valL ((l.drop 64).take 64)

theorem valL_lt (l : List Bool) : valL l < 2 ^ l.length := by
  induction l with
  | nil => simp [valL]
  | cons b r ih => simp only [valL, List.length_cons, Nat.pow_succ]; cases b <;> simp <;> omega

theorem valL_testBit (l : List Bool) (i : Nat) : (valL l).testBit i = l.getD i false := by
  induction l generalizing i with
  | nil => simp [valL]
  | cons b r ih =>
    cases i with
    | zero => cases b <;> simp [valL, Nat.testBit_zero]
    | succ j =>
      have h := ih j
      simp only [valL, Nat.testBit_succ, List.getD_cons_succ]
      rw [← h]
      congr 1
      cases b <;> simp <;> omega

theorem valL_snoc (l : List Bool) (b : Bool) : valL (l ++ [b]) = valL l + 2 ^ l.length * b.toNat := by
  induction l with
  | nil => simp [valL]
  | cons c r ih => simp only [List.cons_append, valL, ih, List.length_cons, Nat.pow_succ]; rw [Nat.mul_add, Nat.add_assoc, ← Nat.mul_assoc, Nat.mul_comm (2 ^ r.length) 2]

theorem valL_take_succ (l : List Bool) (k : Nat) (h : k < l.length) : valL (l.take (k + 1)) = valL (l.take k) + 2 ^ k * (l[k]).toNat := by
  rw [List.take_succ_eq_append_getElem h, valL_snoc]
  simp [List.length_take, Nat.min_eq_left (Nat.le_of_lt h)]

theorem numLo_lt (l : List Bool) : numLo l < 18446744073709551616 := by
  have h := valL_lt (l.take 64)
  have h2 : (2 : Nat) ^ (l.take 64).length ≤ 2 ^ 64 := Nat.pow_le_pow_right (by decide) (List.length_take_le _ _)
  exact Nat.lt_of_lt_of_le h h2
theorem numHi_lt (l : List Bool) : numHi l < 18446744073709551616 := by
  have h := valL_lt ((l.drop 64).take 64)
  have h2 : (2 : Nat) ^ ((l.drop 64).take 64).length ≤ 2 ^ 64 := Nat.pow_le_pow_right (by decide) (List.length_take_le _ _)
  exact Nat.lt_of_lt_of_le h h2

theorem numLo_nil : numLo [] = 0 := rfl
theorem numHi_nil : numHi [] = 0 := rfl

/- one round of Number -/
theorem numLo_take_set (l : List Bool) (k : Nat) (h : k < l.length) (h64 : k < 64) : numLo (l.take (k + 1)) = numLo (l.take k) + 2 ^ k * (l[k]).toNat := by
  unfold numLo
  rw [List.take_take, List.take_take, Nat.min_eq_right (by omega), Nat.min_eq_right (by omega)]
  exact valL_take_succ l k h
theorem numLo_take_same (l : List Bool) (k : Nat) (h64 : 64 ≤ k) : numLo (l.take (k + 1)) = numLo (l.take k) := by
  unfold numLo
  rw [List.take_take, List.take_take, Nat.min_eq_left (by omega), Nat.min_eq_left (by omega)]
theorem numHi_take_low (l : List Bool) (k : Nat) (h64 : k ≤ 64) : numHi (l.take k) = 0 := by
  unfold numHi
  rw [List.drop_eq_nil_of_le (by simp; omega)]; rfl
theorem numHi_take_set (l : List Bool) (k : Nat) (h : k < l.length) (h64 : 64 ≤ k) (h128 : k < 128) : numHi (l.take (k + 1)) = numHi (l.take k) + 2 ^ (k - 64) * (l[k]).toNat := by
  unfold numHi
  rw [List.drop_take, List.drop_take, List.take_take, List.take_take, Nat.min_eq_right (by omega), Nat.min_eq_right (by omega)]
  have h1 : k - 64 < (l.drop 64).length := by simp; omega
  have h2 := valL_take_succ (l.drop 64) (k - 64) h1
  have h3 : (l.drop 64)[k - 64] = l[k] := by simp [List.getElem_drop]; congr 1; omega
  rw [h3] at h2
  rw [← h2]
  congr 2
  omega
theorem numHi_take_same (l : List Bool) (k : Nat) (h128 : 128 ≤ k) : numHi (l.take (k + 1)) = numHi (l.take k) := by
  unfold numHi
  rw [List.drop_take, List.drop_take, List.take_take, List.take_take, Nat.min_eq_left (by omega), Nat.min_eq_left (by omega)]

/- what Number makes of Bits -/
theorem bitsTo_length (hi lo : Int) (k : Nat) : (bitsTo hi lo k).length = k := by simp [bitsTo]
theorem bitsTo_succ (hi lo : Int) (k : Nat) : bitsTo hi lo (k + 1) = bitsTo hi lo k ++ [bitB hi lo k] := by simp [bitsTo, List.range_succ]
theorem bitsTo_getD (hi lo : Int) (k i : Nat) : (bitsTo hi lo k).getD i false = (decide (i < k) && bitB hi lo i) := by
  by_cases h : i < k
  · simp [bitsTo, List.getD_eq_getElem?_getD, h]
  · simp [bitsTo, List.getD_eq_getElem?_getD, h]

theorem numLo_bits (hi lo : Int) (n : Int) (h0 : 0 ≤ n) (l0 : 0 ≤ lo) (l1 : lo < 18446744073709551616) : ((numLo (bitsTo hi lo n.toNat) : Nat) : Int) = cLo n lo := by
  obtain ⟨n, rfl⟩ := Int.eq_ofNat_of_zero_le h0
  obtain ⟨lo, rfl⟩ := Int.eq_ofNat_of_zero_le l0
  have hlo : lo < 2 ^ 64 := by omega
  have key : numLo (bitsTo hi lo n) = lo % 2 ^ (min n 64) := by
    refine Nat.eq_of_testBit_eq fun j => ?_
    rw [numLo, valL_testBit, Nat.testBit_mod_two_pow]
    have h := bitsTo_getD hi lo n j
    rw [List.getD_eq_getElem?_getD] at h ⊢
    rw [List.getElem?_take]
    by_cases hj : j < 64
    · rw [if_pos hj, h]
      simp only [bitB, if_pos hj, Int.toNat_natCast]
      congr 1
      simp; omega
    · rw [if_neg hj]
      simp; omega
  unfold cLo
  rw [show ((n : Int).toNat) = n from rfl, key]
  by_cases h : (n : Int) ≤ 64
  · rw [if_pos h, Nat.min_eq_left (by omega)]; simp
  · rw [if_neg h, Nat.min_eq_right (by omega), Nat.mod_eq_of_lt hlo]

theorem numHi_bits (hi lo : Int) (n : Int) (h0 : 0 ≤ n) (h128 : n ≤ 128) (l0 : 0 ≤ hi) : ((numHi (bitsTo hi lo n.toNat) : Nat) : Int) = cHi n hi := by
  obtain ⟨n, rfl⟩ := Int.eq_ofNat_of_zero_le h0
  obtain ⟨hi, rfl⟩ := Int.eq_ofNat_of_zero_le l0
  have key : numHi (bitsTo hi lo n) = hi % 2 ^ (n - 64) := by
    refine Nat.eq_of_testBit_eq fun j => ?_
    rw [numHi, valL_testBit, Nat.testBit_mod_two_pow]
    have h := bitsTo_getD hi lo n (64 + j)
    rw [List.getD_eq_getElem?_getD] at h ⊢
    rw [List.getElem?_take, List.getElem?_drop]
    by_cases hj : j < 64
    · rw [if_pos hj, h]
      simp only [bitB, if_neg (show ¬ 64 + j < 64 by omega), Int.toNat_natCast, Nat.add_sub_cancel_left]
      congr 1
      simp; omega
    · rw [if_neg hj]
      simp; omega
  unfold cHi
  rw [show ((n : Int).toNat) = n from rfl, key]
  by_cases h : (n : Int) ≤ 64
  · rw [if_pos h, show n - 64 = 0 by omega]; simp [Nat.mod_one]
  · rw [if_neg h, show ((n : Int) - 64).toNat = n - 64 by omega]; simp

theorem low_bd (n : Int) (h0 : 0 ≤ n) (h1 : n ≤ 64) : 0 ≤ low n ∧ low n < 18446744073709551616 := by
  unfold low
  have h : (2 : Nat) ^ n.toNat ≤ 2 ^ 64 := Nat.pow_le_pow_right (by decide) (by omega)
  have h2 : (0 : Nat) < 2 ^ n.toNat := Nat.pow_pos (by decide)
  have h3 : (2 : Int) ^ n.toNat = ((2 ^ n.toNat : Nat) : Int) := by simp
  rw [h3]
  omega
theorem and_low (n lo : Int) (h0 : 0 ≤ n) (h1 : n ≤ 64) (l0 : 0 ≤ lo) (l1 : lo < 18446744073709551616) : bits .and .u64 lo (low n) = lo % 2 ^ n.toNat := by
  have hb := low_bd n h0 h1
  rw [u64_and lo (low n) l0 l1 hb.1 hb.2]
  obtain ⟨n, rfl⟩ := Int.eq_ofNat_of_zero_le h0
  obtain ⟨lo, rfl⟩ := Int.eq_ofNat_of_zero_le l0
  have e : (low (n : Int)).toNat = 2 ^ n - 1 := by
    unfold low
    have : ((2 : Int) ^ ((n : Int)).toNat - 1) = ((2 ^ n - 1 : Nat) : Int) := by
      rw [Int.ofNat_sub (Nat.one_le_two_pow)]; simp
    rw [this]; rfl
  rw [e, Int.toNat_natCast, Nat.and_two_pow_sub_one_eq_mod]
  simp
theorem wrap_low (n : Int) (h0 : 0 ≤ n) (h1 : n ≤ 64) : IntKind.u64.wrap (IntKind.u64.wrap (2 ^ n.toNat) - 1) = low n := by
  have hb := low_bd n h0 h1
  rw [IntKind.wrap_u64, IntKind.wrap_u64]
  unfold low at hb ⊢
  omega
theorem or_set (x k : Nat) (hx : x < 2 ^ k) (hk : k < 64) : bits .or .u64 (x : Int) (IntKind.u64.wrap (2 ^ k)) = ((x + 2 ^ k : Nat) : Int) := by
  have h1 : (2 : Nat) ^ k < 2 ^ 64 := Nat.pow_lt_pow_right (by decide) hk
  have e : IntKind.u64.wrap (2 ^ k) = ((2 ^ k : Nat) : Int) := by
    rw [IntKind.wrap_u64, show ((2 : Int) ^ k) = ((2 ^ k : Nat) : Int) by simp]
    omega
  rw [e, u64_or_nat x (2 ^ k) (by omega) (by omega)]
  have := nat_join k (2 ^ k) x (Nat.mod_self _) hx
  rw [Nat.or_comm, this, Nat.add_comm]
theorem numLo_take_lt (l : List Bool) (k : Nat) (h : k ≤ 64) : numLo (l.take k) < 2 ^ k := by
  unfold numLo
  rw [List.take_take, Nat.min_eq_right h]
  exact Nat.lt_of_lt_of_le (valL_lt _) (Nat.pow_le_pow_right (by decide) (List.length_take_le _ _))
theorem numHi_take_lt (l : List Bool) (k : Nat) (h : k ≤ 128) : numHi (l.take k) < 2 ^ (k - 64) := by
  unfold numHi
  rw [List.drop_take, List.take_take, Nat.min_eq_right (by omega)]
  exact Nat.lt_of_lt_of_le (valL_lt _) (Nat.pow_le_pow_right (by decide) (List.length_take_le _ _))
theorem lo_set (l : List Bool) (k : Nat) (h : k < l.length) (hb : l[k] = true) (h64 : k < 64) : bits .or .u64 ((numLo (l.take k) : Nat) : Int) (IntKind.u64.wrap (2 ^ k)) = ((numLo (l.take (k + 1)) : Nat) : Int) := by
  rw [or_set _ k (numLo_take_lt l k (by omega)) h64, numLo_take_set l k h h64, hb]; simp
theorem hi_set (l : List Bool) (k : Nat) (h : k < l.length) (hb : l[k] = true) (h64 : 64 ≤ k) (h128 : k < 128) : bits .or .u64 ((numHi (l.take k) : Nat) : Int) (IntKind.u64.wrap (2 ^ (k - 64))) = ((numHi (l.take (k + 1)) : Nat) : Int) := by
  rw [or_set _ (k - 64) (numHi_take_lt l k (by omega)) (by omega), numHi_take_set l k h h64 h128, hb]; simp
theorem and_one (x : Int) (h0 : 0 ≤ x) (h1 : x < 18446744073709551616) : bits .and .u64 x 1 = x % 2 := by
  rw [u64_and x 1 h0 h1 (by decide) (by decide)]
  obtain ⟨x, rfl⟩ := Int.eq_ofNat_of_zero_le h0
  have : (x : Int).toNat &&& (1 : Int).toNat = x % 2 := by simp [Nat.and_one_is_mod]
  rw [this]; simp
theorem bit_at (x : Int) (k : Nat) (h0 : 0 ≤ x) (h1 : x < 18446744073709551616) : (bits .and .u64 (x / 2 ^ k) 1 == 1) = x.toNat.testBit k := by
  obtain ⟨x, rfl⟩ := Int.eq_ofNat_of_zero_le h0
  have e : ((x : Int) / 2 ^ k) = ((x / 2 ^ k : Nat) : Int) := by simp
  have hle : x / 2 ^ k ≤ x := Nat.div_le_self _ _
  rw [e, and_one _ (Int.natCast_nonneg _) (Int.lt_of_le_of_lt (Int.ofNat_le.2 hle) h1)]
  have t : (x / 2 ^ k) % 2 = (x.testBit k).toNat := by rw [Nat.toNat_testBit]
  rw [Int.toNat_natCast]
  cases h : x.testBit k <;> rw [h] at t <;> simp at t <;> simp <;> omega
theorem bit_lo (hi lo : Int) (k : Nat) (hk : (k : Int) < 64) (h0 : 0 ≤ lo) (h1 : lo < 18446744073709551616) : (bits .and .u64 (lo / 2 ^ k) 1 == 1) = bitB hi lo k := by
  rw [bit_at lo k h0 h1, bitB, if_pos (by omega)]
theorem bit_hi (hi lo : Int) (k : Nat) (hk : 64 ≤ (k : Int)) (h0 : 0 ≤ hi) (h1 : hi < 18446744073709551616) : (bits .and .u64 (hi / 2 ^ (k - 64)) 1 == 1) = bitB hi lo k := by
  rw [bit_at hi _ h0 h1, bitB, if_neg (by omega)]
end Go.Proofs.Ythlfbpadakoamaa
