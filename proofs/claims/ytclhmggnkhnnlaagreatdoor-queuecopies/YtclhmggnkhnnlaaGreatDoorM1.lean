/- Pieces of the proof: Hide, Rd, RowE, RowB, Itm. -/
import Derived.Test.YtclhmggnkhnnlaaGreatDoorProg
import Derived.WalkKit
import Derived.WalkSpells
import Derived.WalkLawsBesides
import Derived.Laws.Pointers
import Derived.Laws.ResultCell
import Derived.Deep.QuietTactic
import Derived.BigQuiet
import Derived.Deep.RegionHeld3
import Derived.Test.YtclhmggnkhnnlaaGreatDoorRows
import Derived.ProofKit
import Derived.OpenShut
import Derived.ChangeOld
import Derived.ChangeSlices
import Derived.SizedLaws
/- A fact that is hidden from the walk. -/
namespace Go.Proofs.YtclhmggnkhnnlaaGreatDoor
open Go.RowKit

theorem hide {p : Prop} (h : p) : Hid p := h
theorem unhide {p : Prop} (h : Hid p) : p := h
end Go.Proofs.YtclhmggnkhnnlaaGreatDoor
/- Bytes that can be read; no package of the program is named. -/
namespace Go.Proofs.YtclhmggnkhnnlaaGreatDoor
open Go.RowKit

theorem bcell {W w1 : World} (hb : Below W.heap.size W w1) : (∀ b o, b < W.heap.size → w1.cell? ⟨b, o, none⟩ = W.cell? ⟨b, o, none⟩) ∧ (∀ b o, b < W.heap.size → w1.frozen? ⟨b, o, none⟩ = W.frozen? ⟨b, o, none⟩) :=
  ⟨fun b o h => hb.cell (p := ⟨b, o, none⟩) h, fun b o h => hb.frozen (p := ⟨b, o, none⟩) h⟩

/- Bytes that can be read. -/
def RdA (W : World) (a : Option Addr) (xs : List Nat) : Prop :=
  xs = [] ∨ ∃ p off, a = some ⟨p, off, none⟩ ∧ p < W.heap.size ∧ ∀ i (h : i < xs.length), W.cell? ⟨p, off + i, none⟩ = some (.int .u8 (xs[i] : Nat))
theorem RdA.below {W W' : World} {a : Option Addr} {xs : List Nat} (h : RdA W a xs) (hb : Below W.heap.size W W') : RdA W' a xs := by
  rcases h with h | ⟨p, off, rfl, hp, hc⟩
  · exact .inl h
  · exact .inr ⟨p, off, rfl, Nat.lt_of_lt_of_le hp hb.size, fun i hi => (hb.cell (p := ⟨p, off + i, none⟩) hp).trans (hc i hi)⟩
theorem RdA.some {W : World} {a : Option Addr} {xs : List Nat} (h : RdA W a xs) (hx : 0 < xs.length) : ∃ p off, a = some ⟨p, off, none⟩ ∧ p < W.heap.size ∧ ∀ i (h : i < xs.length), W.cell? ⟨p, off + i, none⟩ = some (.int .u8 (xs[i] : Nat)) := by
  rcases h with rfl | h
  · simp at hx
  · exact h
theorem below_drewN {B : Nat} {w w' : World} (h : Below B w w') (n : Nat) : Below B w (w'.drewN n) := ⟨h.os, h.tape, h.output, h.size, h.block⟩
end Go.Proofs.YtclhmggnkhnnlaaGreatDoor
/- What came in, opened: a list of anything, if one element can be opened. -/
namespace Go.Proofs.YtclhmggnkhnnlaaGreatDoor
open Go.ChangeShapes Go.WideShapes Go.ChangeAt Go.RowKit

theorem ownE : ownKnob Tryz.prog.godebug = none := by kernel_rfl
theorem laidOutE : laidOutB Tryz.prog = true := by kernel_rfl
theorem byteE {x : Int} (h : (Lit.int .u8 x).wf = true) : 0 ≤ x ∧ x < 256 := by
  simp [Lit.wf, IntKind.min, IntKind.max, IntKind.signed, IntKind.bits] at h
  exact ⟨by omega, by omega⟩
theorem wordE {x : Int} (h : (Lit.int .u64 x).wf = true) : 0 ≤ x ∧ x < 18446744073709551616 := by
  simp [Lit.wf, IntKind.min, IntKind.max, IntKind.signed, IntKind.bits] at h
  exact ⟨by omega, by omega⟩
theorem intE {x : Int} (h : (Lit.int .i64 x).wf = true) : -9223372036854775808 ≤ x ∧ x < 9223372036854775808 := by
  simp [Lit.wf, IntKind.min, IntKind.max, IntKind.signed, IntKind.bits] at h
  exact ⟨by omega, by omega⟩
theorem add_atE (b o i : Nat) : (⟨b, o, none⟩ : Addr).add i = ⟨b, o + i, none⟩ := by simp [Addr.add]
theorem cell_ltE {W : World} {a : Addr} {v : Value} (h : W.cell? a = some v) : a.spot = none ∧ a.block < W.heap.size := by
  unfold World.cell? at h
  cases hb : W.heap[a.block]? with
  | none => rw [hb] at h; simp at h
  | some o =>
    refine ⟨?_, (Array.getElem?_eq_some_iff.1 hb).1⟩
    rw [hb] at h
    cases o with
    | cells c t f =>
      simp only at h
      split at h
      · cases h
      · rename_i hs; simpa using hs
    | _ => simp at h
theorem mem_weightsE {H : Type} {P : Program} {e : TypeId} {d : DataW H} : ∀ {ds : List (DataW H)}, d ∈ ds → ∀ x ∈ d.weights P e, x ∈ DataW.weightsAll P e ds := by
  intro ds
  induction ds with
  | nil => intro h; simp at h
  | cons y r ih =>
    intro h x hx
    rw [DataW.weightsAll]
    rcases List.mem_cons.1 h with rfl | h
    · exact List.mem_append_left _ hx
    · exact List.mem_append_right _ (ih h x hx)
theorem exists_listE {α : Type} (n : Nat) (Q : Nat → α → Prop) (h : ∀ i, i < n → ∃ a, Q i a) : ∃ l : List α, l.length = n ∧ ∀ i (h : i < l.length), Q i l[i] := by
  induction n with
  | zero => exact ⟨[], rfl, fun i h => by simp at h⟩
  | succ n ih =>
    obtain ⟨l, h1, h2⟩ := ih (fun i hi => h i (by omega))
    obtain ⟨a, ha⟩ := h n (by omega)
    refine ⟨l ++ [a], by simp [h1], fun i hi => ?_⟩
    by_cases e : i < l.length
    · rw [List.getElem_append_left e]; exact h2 i e
    · have : i = l.length := by simp at hi; omega
      subst this
      simp only [List.getElem_concat_length]
      rw [h1]; exact ha
/- What a list of elements of c cells is. -/
structure LiE {α : Type} (W : World) (c : Nat) (f : α → List Value) (a : Option Addr) (cap : Nat) (l : List α) : Prop where
  nn : a = none → cap = 0
  le : l.length ≤ cap
  rd : l = [] ∨ ∃ p off, a = some ⟨p, off, none⟩ ∧ p < W.heap.size ∧ ∀ i (h : i < l.length) j u, (f l[i])[j]? = some u → W.cell? ⟨p, off + i * c + j, none⟩ = some u
set_option maxRecDepth 100000 in
theorem open_list {H : Type} {enc : TypeId × Value → H} {W : World} {base fuel : Nat} {t e : TypeId} (ht : Tryz.prog.underlying t = some (.slice e)) {c : Nat} (hc : Tryz.prog.cellsOf e = c) (c0 : 0 < c) {α : Type} (f : α → List Value) (R : α → Prop)
    (one : ∀ {fuel : Nat} {cs : List Value} {x : DataW H × List MemPlace}, DataW.trod enc Tryz.prog W base (fun _ => true) true fuel e cs = some x → (∀ n ∈ x.1.weights Tryz.prog e, n ≤ reachBytes) → ∃ y, cs = f y ∧ R y)
    {v : Value} {x : DataW H × List MemPlace} (h : DataW.trod enc Tryz.prog W base (fun _ => true) true fuel t [v] = some x) (hw : ∀ n ∈ x.1.weights Tryz.prog t, n ≤ reachBytes) :
    ∃ (a : Option Addr) (cap : Nat) (l : List α), v = .slice a l.length cap ∧ LiE W c f a cap l ∧ l.length * Tryz.prog.bytesOf e ≤ reachBytes ∧ ∀ y ∈ l, R y := by
  rcases DataW.trod_slice ht h with ⟨hcs, _⟩ | ⟨a, len, cap, elems, rest, n, _, hcs, hx, _, hl, _, hlen, hel, _⟩
  · simp at hcs
    subst hcs
    exact ⟨none, 0, [], rfl, ⟨fun _ => rfl, Nat.le_refl _, .inl rfl⟩, by simp, fun y hy => by simp at hy⟩
  · simp at hcs
    subst hcs
    have hwx : x.1.weights Tryz.prog t = ((elems.map (·.1)).length + (rest.map (·.1)).length) * Tryz.prog.bytesOf e :: (DataW.weightsAll Tryz.prog e (elems.map (·.1)) ++ DataW.weightsAll Tryz.prog e (rest.map (·.1))) := by
      rw [hx, DataW.weights, ht]
    rw [hc] at hel
    obtain ⟨l, hll, hls⟩ := exists_listE (α := α) len (fun i y => (∀ j u, (f y)[j]? = some u → W.cell? ((a.add (i * c)).add j) = some u) ∧ (f y).length = c ∧ R y) (fun i hi => by
      have hE := hel i hi
      have hi' : i < elems.length := by omega
      rw [List.getElem?_eq_getElem hi', Option.bind_eq_some_iff] at hE
      obtain ⟨cs', hcs', hy⟩ := hE
      obtain ⟨_, hcl, hcg⟩ := World.cells?_some hcs'
      obtain ⟨y, rfl, hR⟩ := one hy (fun m hm => hw m (by
        rw [hwx]
        exact List.mem_cons_of_mem _ (List.mem_append_left _ (mem_weightsE (List.mem_map.2 ⟨_, List.getElem_mem hi', rfl⟩) m hm))))
      exact ⟨y, fun j u hu => by rw [hcg j (by have := (List.getElem?_eq_some_iff.1 hu).1; omega)]; exact hu, hcl, hR⟩)
    have hbytes : l.length * Tryz.prog.bytesOf e ≤ reachBytes := by
      have h1 := hw _ (by rw [hwx]; exact List.mem_cons_self ..)
      simp only [List.length_map] at h1
      refine Nat.le_trans (Nat.mul_le_mul_right _ ?_) h1
      omega
    refine ⟨some a, cap, l, by rw [hll], ⟨fun e => (by cases e), by omega, ?_⟩, hbytes, fun y hy => ?_⟩
    · by_cases h0 : l = []
      · exact .inl h0
      · right
        have hpos : 0 < l.length := List.length_pos_iff.2 h0
        obtain ⟨h1, h2, _⟩ := hls 0 hpos
        have hu : ∃ u, (f l[0])[0]? = some u := ⟨(f l[0])[0], List.getElem?_eq_getElem (by omega)⟩
        obtain ⟨u, hu⟩ := hu
        have hz := cell_ltE (h1 0 u hu)
        obtain ⟨b, off, sp⟩ := a
        have e0 : ((⟨b, off, sp⟩ : Addr).add (0 * c)).add 0 = ⟨b, off, sp⟩ := by simp [Addr.add]
        rw [e0] at hz
        obtain ⟨rfl, hlt⟩ : sp = none ∧ b < W.heap.size := hz
        refine ⟨b, off, rfl, hlt, fun i hi j u hu => ?_⟩
        have := (hls i hi).1 j u hu
        rw [add_atE, add_atE] at this
        exact this
    · obtain ⟨i, hi, rfl⟩ := List.getElem_of_mem hy
      exact (hls i hi).2.2
end Go.Proofs.YtclhmggnkhnnlaaGreatDoor
/- What came in, opened: bytes. -/
namespace Go.Proofs.YtclhmggnkhnnlaaGreatDoor
open Go.ChangeShapes Go.WideShapes Go.ChangeAt Go.RowKit

theorem ownD : ownKnob Tryz.prog.godebug = none := by kernel_rfl
theorem laidOutD : laidOutB Tryz.prog = true := by kernel_rfl
theorem byteD {x : Int} (h : (Lit.int .u8 x).wf = true) : 0 ≤ x ∧ x < 256 := by
  simp [Lit.wf, IntKind.min, IntKind.max, IntKind.signed, IntKind.bits] at h
  exact ⟨by omega, by omega⟩
theorem word16D {x : Int} (h : (Lit.int .u16 x).wf = true) : 0 ≤ x ∧ x < 65536 := by
  simp [Lit.wf, IntKind.min, IntKind.max, IntKind.signed, IntKind.bits] at h
  exact ⟨by omega, by omega⟩
theorem word32D {x : Int} (h : (Lit.int .u32 x).wf = true) : 0 ≤ x ∧ x < 4294967296 := by
  simp [Lit.wf, IntKind.min, IntKind.max, IntKind.signed, IntKind.bits] at h
  exact ⟨by omega, by omega⟩
theorem cellsB8 : Tryz.prog.cellsOf 5 = 1 := by kernel_rfl
set_option maxRecDepth 100000 in
theorem place8 {W : World} {base : Nat} {a : Addr} {len cap : Nat} (h : Value.okWide Tryz.prog W .any base 24 (.slice (some a) len cap)) : a.spot = none ∧ a.block < W.heap.size ∧ len ≤ cap ∧ cap ≤ 9223372036854775807 := by
  simp only [Value.okWide, Tryz.underlying24, Cell.okWide] at h
  simp only [Cell.ok, Tryz.underlying24] at h
  obtain ⟨h1, h2, _, h4, row, cells, h5, _⟩ := h
  refine ⟨h4, ?_, h1, ?_⟩
  · unfold World.shape? at h5
    cases hb : W.heap[a.block]? with
    | none => rw [hb] at h5; simp at h5
    | some o => exact (Array.getElem?_eq_some_iff.1 hb).1
  · have : IntKind.i64.max = 9223372036854775807 := by decide
    omega
theorem add_at (b o i : Nat) : (⟨b, o, none⟩ : Addr).add i = ⟨b, o + i, none⟩ := by simp [Addr.add]
set_option maxRecDepth 100000 in
theorem open_bytes {H : Type} {enc : TypeId × Value → H} {W : World} {base fuel : Nat} {base2 : Nat} {a0 : Option Addr} {len cap : Nat} {x : DataW H × List MemPlace} (hok : Value.okWide Tryz.prog W .any base 24 (.slice a0 len cap)) (h : DataW.trod enc Tryz.prog W base2 (fun _ => true) true fuel 24 (Value.slice a0 len cap).cells.toList = some x) :
    ∃ xs : List Nat, len = xs.length ∧ (∀ y ∈ xs, y < 256) ∧ RdA W a0 xs ∧ len ≤ cap ∧ cap ≤ 9223372036854775807 ∧ (a0 = none → cap = 0) := by
  rcases open_ints Tryz.underlying24 Tryz.underlying5 cellsB8 h with ⟨hcs, _⟩ | ⟨a, len', cap', zs, hcs, _, hl, _, hzl, _, hc, hwf⟩
  · simp [Value.cells] at hcs
    obtain ⟨rfl, rfl, rfl⟩ := hcs
    exact ⟨[], rfl, fun y hy => by simp at hy, .inl rfl, Nat.le_refl _, by decide, fun _ => rfl⟩
  · simp [Value.cells] at hcs
    obtain ⟨rfl, rfl, rfl⟩ := hcs
    obtain ⟨hs, hlt, hlc, hcm⟩ := place8 hok
    obtain ⟨b, off, sp⟩ := a
    obtain rfl : sp = none := hs
    have hzl' : zs.length = cap := by simpa using hzl
    have hlen : len = ((zs.take len).map Int.toNat).length := by simp; omega
    refine ⟨(zs.take len).map Int.toNat, hlen, fun y hy => ?_, .inr ⟨b, off, rfl, hlt, fun i hi => ?_⟩, hlc, hcm, fun e => by cases e⟩
    · obtain ⟨n, hn, rfl⟩ := List.mem_map.1 hy
      have := byteD (hwf n (List.mem_of_mem_take hn)); omega
    · rw [← hlen] at hi
      have h1 := hc i (by omega)
      rw [add_at] at h1
      have hi2 : i < zs.length := by omega
      have h2 : zs.getD i 0 = zs[i] := by rw [List.getD_eq_getElem?_getD, List.getElem?_eq_getElem hi2]; rfl
      have h3 := byteD (hwf zs[i] (List.getElem_mem hi2))
      rw [h1, h2]
      simp only [List.getElem_map, List.getElem_take]
      rw [Int.toNat_of_nonneg h3.1]
theorem okWide_array {P : Program} {w : World} {r : Reach} {base : Nat} {t : TypeId} {v : Value} {n : Nat} {e : TypeId} (ht : P.underlying t = some (.array n e)) (h : Value.okWide P w r base t v) : ∃ cs, v = .agg cs ∧ cs.size = P.cellsOf t := by
  simp only [Value.okWide, ht] at h
  obtain ⟨cs, h1, h2, _⟩ := h
  exact ⟨cs, h1, h2⟩
end Go.Proofs.YtclhmggnkhnnlaaGreatDoor
/- Of every package: a list of lists of bytes that can be read. (Cut out of DkK in round 17.) -/
namespace Go.Proofs.YtclhmggnkhnnlaaGreatDoor
open Go.RowKit

/- A list of lists of bytes that can be read. -/
structure It where
  a : Option Addr
  cap : Nat
  xs : List Nat
structure ItOk (W : World) (it : It) : Prop where
  rd : RdA W it.a it.xs
  le : it.xs.length ≤ it.cap
  nn : it.a = none → it.cap = 0
  ln : it.xs.length ≤ 140737488355328
structure RdL (W : World) (a : Option Addr) (ls : List It) : Prop where
  rd : ls = [] ∨ ∃ p off, a = some ⟨p, off, none⟩ ∧ p < W.heap.size ∧ ∀ i (h : i < ls.length), W.cell? ⟨p, off + i, none⟩ = some (.slice ls[i].a ls[i].xs.length ls[i].cap)
  ok : ∀ it ∈ ls, ItOk W it
theorem RdL.below {W W' : World} {a : Option Addr} {ls : List It} (h : RdL W a ls) (hb : Below W.heap.size W W') : RdL W' a ls := by
  refine ⟨?_, fun it hi => ⟨(h.ok it hi).rd.below hb, (h.ok it hi).le, (h.ok it hi).nn, (h.ok it hi).ln⟩⟩
  rcases h.rd with h | ⟨p, off, rfl, hp, hc⟩
  · exact .inl h
  · exact .inr ⟨p, off, rfl, Nat.lt_of_lt_of_le hp hb.size, fun i hi => (hb.cell (p := ⟨p, off + i, none⟩) hp).trans (hc i hi)⟩
theorem RdL.get {W : World} {a : Option Addr} {ls : List It} (h : RdL W a ls) (h0 : 0 < ls.length) : ∃ p off, a = some ⟨p, off, none⟩ ∧ p < W.heap.size ∧ ∀ i (h : i < ls.length), W.cell? ⟨p, off + i, none⟩ = some (.slice ls[i].a ls[i].xs.length ls[i].cap) := by
  rcases h.rd with rfl | h
  · simp at h0
  · exact h
end Go.Proofs.YtclhmggnkhnnlaaGreatDoor
