/- Pieces of the proof: Hide, Rd, RowB, OwnB, Fr. -/
import Derived.Test.YtpgkohimcofjnaaGreatDoorProg
import Derived.WalkKit
import Derived.WalkSpells
import Derived.WalkLawsBesides
import Derived.Laws.Pointers
import Derived.Laws.ResultCell
import Derived.Deep.QuietTactic
import Derived.BigQuiet
import Derived.Deep.RegionHeld3
import Derived.Test.YtpgkohimcofjnaaGreatDoorRows
import Derived.ProofKit
import Derived.OpenShut
import Derived.ChangeOld
import Derived.ChangeSlices
import Derived.Maps.AppendAt
import Derived.Laws.AppendOwnNone
/- A fact that is hidden from the walk. -/
namespace Go.Proofs.YtpgkohimcofjnaaGreatDoor
open Go.RowKit

theorem hide {p : Prop} (h : p) : Hid p := h
theorem unhide {p : Prop} (h : Hid p) : p := h
end Go.Proofs.YtpgkohimcofjnaaGreatDoor
/- Bytes that can be read; no package of the program is named. -/
namespace Go.Proofs.YtpgkohimcofjnaaGreatDoor
open Go.RowKit

theorem bcell {W w1 : World} (hb : Below W.heap.size W w1) : (∀ b o, b < W.heap.size → w1.cell? ⟨b, o, none⟩ = W.cell? ⟨b, o, none⟩) ∧ (∀ b o, b < W.heap.size → w1.frozen? ⟨b, o, none⟩ = W.frozen? ⟨b, o, none⟩) :=
  ⟨fun b o h => hb.cell (p := ⟨b, o, none⟩) h, fun b o h => hb.frozen (p := ⟨b, o, none⟩) h⟩

/- Bytes that can be read. -/
def RdA (W : World) (a : Option Addr) (xs : List Nat) : Prop :=
  xs = [] ∨ ∃ p off, a = some ⟨p, off, none⟩ ∧ p < W.heap.size ∧ ∀ i (h : i < xs.length), W.cell? ⟨p, off + i, none⟩ = some (.int .u8 (xs[i] : Nat))
theorem RdA.below {W W' : World} {a : Option Addr} {xs : List Nat} (h : RdA W a xs) (hb : Below W.heap.size W W') : RdA W' a xs := by
  rcases h with h | ⟨p, off, rfl, hp, hc⟩
  · exact .inl h
  · exact .inr ⟨p, off, rfl, Nat.lt_of_lt_of_le hp hb.size, fun i hi => (hb.cell (p := ⟨p, off + i, none⟩) hp).trans (hc i hi)⟩
theorem RdA.some {W : World} {a : Option Addr} {xs : List Nat} (h : RdA W a xs) (hx : 0 < xs.length) : ∃ p off, a = some ⟨p, off, none⟩ ∧ p < W.heap.size ∧ ∀ i (h : i < xs.length), W.cell? ⟨p, off + i, none⟩ = some (.int .u8 (xs[i] : Nat)) := by
  rcases h with rfl | h
  · simp at hx
  · exact h
theorem below_drewN {B : Nat} {w w' : World} (h : Below B w w') (n : Nat) : Below B w (w'.drewN n) := ⟨h.os, h.tape, h.output, h.size, h.block⟩
end Go.Proofs.YtpgkohimcofjnaaGreatDoor
/- What came in, opened: bytes. -/
namespace Go.Proofs.YtpgkohimcofjnaaGreatDoor
open Go.ChangeShapes Go.WideShapes Go.ChangeAt Go.RowKit

theorem ownD : ownKnob Tryz.prog.godebug = none := by kernel_rfl
theorem laidOutD : laidOutB Tryz.prog = true := by kernel_rfl
theorem byteD {x : Int} (h : (Lit.int .u8 x).wf = true) : 0 ≤ x ∧ x < 256 := by
  simp [Lit.wf, IntKind.min, IntKind.max, IntKind.signed, IntKind.bits] at h
  exact ⟨by omega, by omega⟩
theorem word16D {x : Int} (h : (Lit.int .u16 x).wf = true) : 0 ≤ x ∧ x < 65536 := by
  simp [Lit.wf, IntKind.min, IntKind.max, IntKind.signed, IntKind.bits] at h
  exact ⟨by omega, by omega⟩
theorem word32D {x : Int} (h : (Lit.int .u32 x).wf = true) : 0 ≤ x ∧ x < 4294967296 := by
  simp [Lit.wf, IntKind.min, IntKind.max, IntKind.signed, IntKind.bits] at h
  exact ⟨by omega, by omega⟩
theorem cellsB8 : Tryz.prog.cellsOf 5 = 1 := by kernel_rfl
set_option maxRecDepth 100000 in
theorem place8 {W : World} {base : Nat} {a : Addr} {len cap : Nat} (h : Value.okWide Tryz.prog W .any base 22 (.slice (some a) len cap)) : a.spot = none ∧ a.block < W.heap.size ∧ len ≤ cap ∧ cap ≤ 9223372036854775807 := by
  simp only [Value.okWide, Tryz.underlying22, Cell.okWide] at h
  simp only [Cell.ok, Tryz.underlying22] at h
  obtain ⟨h1, h2, _, h4, row, cells, h5, _⟩ := h
  refine ⟨h4, ?_, h1, ?_⟩
  · unfold World.shape? at h5
    cases hb : W.heap[a.block]? with
    | none => rw [hb] at h5; simp at h5
    | some o => exact (Array.getElem?_eq_some_iff.1 hb).1
  · have : IntKind.i64.max = 9223372036854775807 := by decide
    omega
theorem add_at (b o i : Nat) : (⟨b, o, none⟩ : Addr).add i = ⟨b, o + i, none⟩ := by simp [Addr.add]
set_option maxRecDepth 100000 in
theorem open_bytes {H : Type} {enc : TypeId × Value → H} {W : World} {base fuel : Nat} {base2 : Nat} {a0 : Option Addr} {len cap : Nat} {x : DataW H × List MemPlace} (hok : Value.okWide Tryz.prog W .any base 22 (.slice a0 len cap)) (h : DataW.trod enc Tryz.prog W base2 (fun _ => true) true fuel 22 (Value.slice a0 len cap).cells.toList = some x) :
    ∃ xs : List Nat, len = xs.length ∧ (∀ y ∈ xs, y < 256) ∧ RdA W a0 xs ∧ len ≤ cap ∧ cap ≤ 9223372036854775807 ∧ (a0 = none → cap = 0) := by
  rcases open_ints Tryz.underlying22 Tryz.underlying5 cellsB8 h with ⟨hcs, _⟩ | ⟨a, len', cap', zs, hcs, _, hl, _, hzl, _, hc, hwf⟩
  · simp [Value.cells] at hcs
    obtain ⟨rfl, rfl, rfl⟩ := hcs
    exact ⟨[], rfl, fun y hy => by simp at hy, .inl rfl, Nat.le_refl _, by decide, fun _ => rfl⟩
  · simp [Value.cells] at hcs
    obtain ⟨rfl, rfl, rfl⟩ := hcs
    obtain ⟨hs, hlt, hlc, hcm⟩ := place8 hok
    obtain ⟨b, off, sp⟩ := a
    obtain rfl : sp = none := hs
    have hzl' : zs.length = cap := by simpa using hzl
    have hlen : len = ((zs.take len).map Int.toNat).length := by simp; omega
    refine ⟨(zs.take len).map Int.toNat, hlen, fun y hy => ?_, .inr ⟨b, off, rfl, hlt, fun i hi => ?_⟩, hlc, hcm, fun e => by cases e⟩
    · obtain ⟨n, hn, rfl⟩ := List.mem_map.1 hy
      have := byteD (hwf n (List.mem_of_mem_take hn)); omega
    · rw [← hlen] at hi
      have h1 := hc i (by omega)
      rw [add_at] at h1
      have hi2 : i < zs.length := by omega
      have h2 : zs.getD i 0 = zs[i] := by rw [List.getD_eq_getElem?_getD, List.getElem?_eq_getElem hi2]; rfl
      have h3 := byteD (hwf zs[i] (List.getElem_mem hi2))
      rw [h1, h2]
      simp only [List.getElem_map, List.getElem_take]
      rw [Int.toNat_of_nonneg h3.1]
theorem okWide_array {P : Program} {w : World} {r : Reach} {base : Nat} {t : TypeId} {v : Value} {n : Nat} {e : TypeId} (ht : P.underlying t = some (.array n e)) (h : Value.okWide P w r base t v) : ∃ cs, v = .agg cs ∧ cs.size = P.cellsOf t := by
  simp only [Value.okWide, ht] at h
  obtain ⟨cs, h1, h2, _⟩ := h
  exact ⟨cs, h1, h2⟩
end Go.Proofs.YtpgkohimcofjnaaGreatDoor
/- Bytes of one's own: appended to, written, read. -/
namespace Go.Proofs.YtpgkohimcofjnaaGreatDoor
open Go.RowKit

theorem Tryz.info8 : (Tryz.prog.info? 5).map (fun i => (i.zero, i.size, i.bytes)) = some (some (.int .u8 0), 1, 1) := by kernel_rfl
theorem add8 (p off j : Nat) : (⟨p, off, none⟩ : Addr).add j = ⟨p, off + j, none⟩ := by
  unfold Addr.add; split
  · rename_i h; simp_all
  · rfl
def u8s (xs : List Nat) : List Value := xs.map (fun n => Value.int .u8 (n : Nat))
theorem u8s_length (xs : List Nat) : (u8s xs).length = xs.length := by simp [u8s]
theorem u8s_append (xs ys : List Nat) : u8s (xs ++ ys) = u8s xs ++ u8s ys := by simp [u8s]
theorem u8s_one (xs : List Nat) : ∀ u ∈ u8s xs, u.oneCell' = true := fun u hu => by
  obtain ⟨n, _, rfl⟩ := List.mem_map.1 hu
  rfl
theorem u8s_get {xs : List Nat} {i : Nat} (h : i < xs.length) : (u8s xs)[i]? = some (.int .u8 (xs[i] : Nat)) := by simp [u8s, h]
def Own8 (W : World) (B : Nat) (v : Value) (xs : List Nat) : Prop := W.ownsRow B 5 1 v xs.length (u8s xs)
theorem Own8.nil (W : World) (B : Nat) : Own8 W B (.slice none 0 0) [] := World.ownsRow_nil W B _ _
theorem Own8.shape {W : World} {B : Nat} {v : Value} {xs : List Nat} (h : Own8 W B v xs) : ∃ a cap, v = .slice a xs.length cap ∧ xs.length ≤ cap ∧ (a = none → cap = 0) ∧ ∀ q, a = some q → q.off = 0 ∧ q.spot = none ∧ B ≤ q.block ∧ q.block < W.heap.size := by
  rcases h.2 with ⟨rfl, hn⟩ | ⟨g, cap, cur, rfl, hg, hcur, h1, _⟩
  · exact ⟨none, 0, by rw [hn], by omega, fun _ => rfl, fun q e => by cases e⟩
  · exact ⟨_, cap, rfl, h1, fun e => by (cases e), fun q e => by cases e; exact ⟨rfl, rfl, hg, (Array.getElem?_eq_some_iff.1 hcur).1⟩⟩
theorem Own8.rd {W : World} {B : Nat} {a : Option Addr} {n cap : Nat} {xs : List Nat} (h : Own8 W B (.slice a n cap) xs) : n = xs.length ∧ RdA W a xs := by
  rcases h.2 with ⟨e, hn⟩ | ⟨g, c, cur, e, hg, hcur, h1, h2, h3, h4⟩
  · injection e with e1 e2 e3
    subst e1 e2
    exact ⟨by omega, .inl (by cases xs with | nil => rfl | cons => simp at hn)⟩
  · injection e with e1 e2 e3
    subst e1 e2 e3
    refine ⟨rfl, .inr ⟨g, 0, rfl, (Array.getElem?_eq_some_iff.1 hcur).1, fun i hi => ?_⟩⟩
    have h5 := World.ownsRow.cells h (g := g) rfl i _ (u8s_get hi)
    rw [add8] at h5
    exact h5
theorem Own8.kept {W W' : World} {B : Nat} {v : Value} {xs : List Nat} {row : Option Nat} (h : Own8 W B v xs) (hg : W.grownBy W' row) (hne : v.ownBlock = none ∨ v.ownBlock ≠ row) : Own8 W' B v xs := World.ownsRow.kept h hg hne
theorem Own8.below {W W' : World} {B : Nat} {v : Value} {xs : List Nat} (h : Own8 W B v xs) (hb : Below W.heap.size W W') : Own8 W' B v xs := by
  refine ⟨h.1, ?_⟩
  rcases h.2 with h0 | ⟨gr, cap, cur, rfl, hg, hcur, rest⟩
  · exact .inl h0
  · exact .inr ⟨gr, cap, cur, rfl, hg, (hb.block _ (Array.getElem?_eq_some_iff.1 hcur).1).trans hcur, rest⟩
theorem Own8.drew {W : World} {B : Nat} {v : Value} {xs : List Nat} (h : Own8 W B v xs) : Own8 W.drew B v xs := h
theorem Own8.soft {W : World} {B g n cap : Nat} {xs : List Nat} (h : Own8 W B (.slice (some ⟨g, 0, none⟩) n cap) xs) (o : Nat) : W.frozen? ⟨g, o, none⟩ = false := by
  rcases h.2 with ⟨e, _⟩ | ⟨g', c, cur, e, hg, hcur, _⟩
  · cases e
  · injection e with e1
    injection e1 with e1
    injection e1 with e1
    subst e1
    unfold World.frozen?; simp only [hcur]; simp
theorem heap_setCell_same {W : World} {g k : Nat} {cur : Array Value} {t : TypeId} {fr : Nat × Nat} (h : W.heap[g]? = some (.cells cur t fr)) (v : Value) : (W.setCell ⟨g, k, none⟩ v).heap[g]? = some (.cells (cur.setIfInBounds k v) t fr) := by
  simp [World.setCell, Array.getElem?_modify, h]
theorem Own8.set {W : World} {B g n cap : Nat} {xs : List Nat} (h : Own8 W B (.slice (some ⟨g, 0, none⟩) n cap) xs) (k y : Nat) : Own8 (W.setCell ⟨g, k, none⟩ (.int .u8 (y : Nat))) B (.slice (some ⟨g, 0, none⟩) n cap) (xs.set k y) := by
  rcases h.2 with ⟨e, _⟩ | ⟨g', c, cur, e, hg, hcur, h1, h2, h3, h4⟩
  · cases e
  · injection e with e1 e2 e3
    injection e1 with e1
    injection e1 with e1
    subst e1 e2 e3
    refine ⟨by simp [u8s], .inr ⟨g, cap, _, by simp, hg, heap_setCell_same hcur _, by simpa using h1, h2, by simpa using h3, ?_⟩⟩
    rw [Nat.mul_one] at h4
    simp only [List.length_set, Nat.mul_one, Array.toList_setIfInBounds]
    rw [List.take_set, h4]
    simp [u8s, List.map_set]
theorem rdA_src {W : World} {p off : Nat} {xs : List Nat} (h : ∀ i (h : i < xs.length), W.cell? ⟨p, off + i, none⟩ = some (.int .u8 (xs[i] : Nat))) : ∀ j u, (u8s xs)[j]? = some u → W.cell? ((⟨p, off, none⟩ : Addr).add j) = some u := fun j u hu => by
  obtain ⟨hj, rfl⟩ := List.getElem?_eq_some_iff.1 hu
  have hj' : j < xs.length := by simpa [u8s] using hj
  have : (u8s xs)[j] = Value.int .u8 (xs[j] : Nat) := by simp [u8s]
  rw [this, add8]; exact h j hj'
/- 'append(v, x...)', v of one's own, x bytes that can be read. -/
theorem wpList_app8 {w : World} {ops : Array Oper} {rest : List Oper} {o : Oper} {a : Act} {Q : Exit → Act → World → Prop} (hgd : o.guard = none) (s x : Operand) (ho : o.op = .call { callee := .builtin .append, args := #[s, x], argTypes := #[22, 22] })
    (B : Nat) (v : Value) (xs : List Nat) (hs : a.eval s = v) (hown : Own8 w B v xs) (sa : Option Addr) (m cap : Nat) (ys : List Nat) (hx : a.eval x = .slice sa m cap) (hm : m = ys.length) (hr : RdA w sa ys) (hn : sa = none → cap = 0)
    (hl : xs.length + ys.length ≤ 1000000000) (hB : B ≤ w.heap.size)
    (h : ∀ v' w', Own8 w' B v' (xs ++ ys) → w.grownBy w' v.ownBlock → (v'.ownBlock = v.ownBlock ∨ v'.ownBlock = some w.heap.size) → wpList Tryz.prog ops Q rest (a.put o.dst v') w') :
    wpList Tryz.prog ops Q (o :: rest) a w := by
  subst hm
  obtain ⟨i0, hi0, hz0, hz1, hz2⟩ := info_parts Tryz.info8
  rcases hr with rfl | ⟨p, off, rfl, _, hc⟩
  · cases sa with
    | none =>
      have hx2 : a.eval x = .slice none 0 0 := by rw [hx, hn rfl]; rfl
      refine wpList_append_own_none hgd s x 22 ho B 5 i0 1 Tryz.underlying22 hi0 v xs.length (u8s xs) hs hown hx2 ?_
      exact h v w (by rw [List.append_nil]; exact hown) ⟨rfl, rfl, rfl, Nat.le_refl _, fun _ _ _ => rfl⟩ (.inl rfl)
    | some q =>
      refine wpList_append_own_at w hgd s x 22 ho B 5 i0 (.int .u8 0) 1 1 Tryz.underlying22 hi0 hz0 hz1 hz2 rfl (by decide) v xs.length (u8s xs) hs hown q 0 cap [] hx rfl (fun _ _ h => by simp at h) (fun _ h => by simp at h) (by unfold maxLen; omega) (by omega) hB ?_
      intro v' w' h1 h2 _ h4
      refine h v' w' ?_ h2 h4
      unfold Own8
      rw [List.append_nil]
      rw [List.append_nil, Nat.add_zero] at h1
      exact h1
  · refine wpList_append_own_at w hgd s x 22 ho B 5 i0 (.int .u8 0) 1 1 Tryz.underlying22 hi0 hz0 hz1 hz2 rfl (by decide) v xs.length (u8s xs) hs hown ⟨p, off, none⟩ ys.length cap (u8s ys) hx (by rw [u8s_length, Nat.mul_one]) (rdA_src hc) (u8s_one ys) (by unfold maxLen; omega) (by omega) hB ?_
    intro v' w' h1 h2 _ h4
    refine h v' w' ?_ h2 h4
    unfold Own8
    rw [List.length_append, u8s_append]
    exact h1
theorem Own8.some8 {W : World} {B : Nat} {v : Value} {xs : List Nat} (h : Own8 W B v xs) (hx : 0 < xs.length) : ∃ g cap, v = .slice (some ⟨g, 0, none⟩) xs.length cap ∧ xs.length ≤ cap ∧ B ≤ g ∧ g < W.heap.size ∧ cap ≤ maxLen := by
  rcases h.2 with ⟨_, hn⟩ | ⟨g, cap, cur, hv, hg, hcur, h1, h2, _⟩
  · omega
  · exact ⟨g, cap, hv, h1, hg, (Array.getElem?_eq_some_iff.1 hcur).1, h2⟩
theorem Own8.cut {W : World} {B g n cap : Nat} {xs : List Nat} (h : Own8 W B (.slice (some ⟨g, 0, none⟩) n cap) xs) (k : Nat) (hk : k ≤ xs.length) : Own8 W B (.slice (some ⟨g, 0, none⟩) k cap) (xs.take k) := by
  rcases h.2 with ⟨e, _⟩ | ⟨g', c, cur, e, hg, hcur, h1, h2, h3, h4⟩
  · cases e
  · injection e with e1 e2 e3
    injection e1 with e1
    injection e1 with e1
    subst e1 e2 e3
    have hlen : (xs.take k).length = k := by simp; omega
    refine ⟨by simp [u8s], .inr ⟨g, cap, cur, by rw [hlen], hg, hcur, by omega, h2, h3, ?_⟩⟩
    rw [hlen, Nat.mul_one]
    rw [Nat.mul_one] at h4
    have e : cur.toList.take k = (cur.toList.take xs.length).take k := by rw [List.take_take, Nat.min_eq_left hk]
    rw [e, h4]
    simp [u8s, List.map_take]
theorem two_rd (W : World) (x y : Nat) (t : TypeId) : RdA (W.alloc (.cells #[.int .u8 (x : Nat), .int .u8 (y : Nat)] t)) (some ⟨W.heap.size, 0, none⟩) [x, y] := by
  have h : (W.alloc (.cells #[.int .u8 (x : Nat), .int .u8 (y : Nat)] t)).heap[W.heap.size]? = some (.cells #[.int .u8 (x : Nat), .int .u8 (y : Nat)] t (0, 0)) := heap_alloc_new W _
  refine .inr ⟨W.heap.size, 0, rfl, by simp, fun i hi => ?_⟩
  unfold World.cell?; simp only [h]
  rcases (by simp at hi; omega : i = 0 ∨ i = 1) with rfl | rfl <;> rfl
theorem two_rdI (W : World) (x y : Nat) (p q : Int) (hp : p = x) (hq : q = y) (t : TypeId) : RdA (W.alloc (.cells #[.int .u8 p, .int .u8 q] t)) (some ⟨W.heap.size, 0, none⟩) [x, y] := by
  subst hp hq; exact two_rd W x y t
theorem one_rd (W : World) (x : Nat) (t : TypeId) : RdA (W.alloc (.cells #[.int .u8 (x : Nat)] t)) (some ⟨W.heap.size, 0, none⟩) [x] := by
  have h : (W.alloc (.cells #[.int .u8 (x : Nat)] t)).heap[W.heap.size]? = some (.cells #[.int .u8 (x : Nat)] t (0, 0)) := heap_alloc_new W _
  refine .inr ⟨W.heap.size, 0, rfl, by simp, fun i hi => ?_⟩
  unfold World.cell?; simp only [h]
  rcases (by simp at hi; omega : i = 0) with rfl
  rfl
theorem below_own {B : Nat} {w a b : World} {v : Value} {xs : List Nat} (h : Below B w a) (ho : Own8 a B v xs) (g : a.grownBy b v.ownBlock) (hB : B ≤ a.heap.size) : Below B w b := h.grown g hB (fun k e => (World.ownsRow.lt ho k e).1)
end Go.Proofs.YtpgkohimcofjnaaGreatDoor
/- What a call may touch: all blocks but some stay. -/
namespace Go.Proofs.YtpgkohimcofjnaaGreatDoor
open Go.RowKit

structure Fr (E : Nat → Prop) (W W' : World) : Prop where
  os : W'.os = W.os
  tape : W'.tape = W.tape
  output : W'.output = W.output
  size : W.heap.size ≤ W'.heap.size
  block : ∀ b, b < W.heap.size → ¬ E b → W'.heap[b]? = W.heap[b]?
theorem Fr.refl (E : Nat → Prop) (W : World) : Fr E W W := ⟨rfl, rfl, rfl, Nat.le_refl _, fun _ _ _ => rfl⟩
theorem Fr.trans {E E' : Nat → Prop} {W W1 W2 : World} (h : Fr E W W1) (k : Fr E' W1 W2) (hE : ∀ b, b < W.heap.size → E' b → E b) : Fr E W W2 :=
  ⟨k.os.trans h.os, k.tape.trans h.tape, k.output.trans h.output, Nat.le_trans h.size k.size, fun b hb hn => (k.block b (Nat.lt_of_lt_of_le hb h.size) (fun e => hn (hE b hb e))).trans (h.block b hb hn)⟩
theorem Fr.ofBelow {E : Nat → Prop} {W W' : World} (h : Below W.heap.size W W') : Fr E W W' := ⟨h.os, h.tape, h.output, h.size, fun b hb _ => h.block b hb⟩
theorem Fr.below {E : Nat → Prop} {B : Nat} {W W' : World} (h : Fr E W W') (hE : ∀ b, E b → B ≤ b) (hB : B ≤ W.heap.size) : Below B W W' :=
  ⟨h.os, h.tape, h.output, h.size, fun b hb => h.block b (by omega) (fun e => by have := hE b e; omega)⟩
theorem Fr.drew {E : Nat → Prop} {W W' : World} (h : Fr E W W') : Fr E W W'.drew := ⟨h.os, h.tape, h.output, h.size, h.block⟩
theorem Fr.drewN {E : Nat → Prop} {W W' : World} (h : Fr E W W') (n : Nat) : Fr E W (W'.drewN n) := ⟨h.os, h.tape, h.output, h.size, h.block⟩
theorem Fr.grown {E : Nat → Prop} {W W' : World} {row : Option Nat} (h : W.grownBy W' row) (hE : ∀ r, row = some r → E r) : Fr E W W' := by
  exact ⟨h.os, h.tape, h.output, h.size, fun b hb hn => h.block b hb (fun e => hn (hE b e.symm))⟩
theorem Fr.set {E : Nat → Prop} {W W' : World} (h : Fr E W W') (p : Addr) (v : Value) (hE : E p.block) : Fr E W (W'.setCell p v) := by
  have hb := (Below.refl 0 W').setCell (p := p) (Nat.zero_le _) v
  exact ⟨hb.os.trans h.os, hb.tape.trans h.tape, hb.output.trans h.output, Nat.le_trans h.size hb.size, fun b hb hn => by rw [Below.heap_setCell _ _ _ _ (fun e => hn (by rw [e]; exact hE))]; exact h.block b hb hn⟩
theorem Fr.alloc {E : Nat → Prop} {W W' : World} (h : Fr E W W') (o : Obj) : Fr E W (W'.alloc o) := h.trans (E' := fun _ => False) (Fr.ofBelow ((Below.refl _ _).alloc (Nat.le_refl _) o)) (fun _ _ e => e.elim)
theorem Fr.cell {E : Nat → Prop} {W W' : World} (h : Fr E W W') {b o : Nat} {v : Value} (hc : W.cell? ⟨b, o, none⟩ = some v) (hn : ¬ E b) : W'.cell? ⟨b, o, none⟩ = some v :=
  (World.cell?_of_block (w := W) (a := ⟨b, o, none⟩) (h.block b (World.block_lt_of_cell? W _ hc) hn)).trans hc
end Go.Proofs.YtpgkohimcofjnaaGreatDoor
