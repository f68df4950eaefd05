/- Pieces of the proof: Hide, Rd, RowE. -/
import Derived.Test.YtbemfjdloeipmaaGreatDoorProg
import Derived.WalkKit
import Derived.WalkSpells
import Derived.WalkLawsBesides
import Derived.Laws.Pointers
import Derived.Laws.ResultCell
import Derived.Deep.QuietTactic
import Derived.BigQuiet
import Derived.Deep.RegionHeld3
import Derived.Test.YtbemfjdloeipmaaGreatDoorRows
import Derived.ProofKit
import Derived.OpenShut
import Derived.ChangeOld
import Derived.ChangeSlices
import Derived.SizedLaws
/- A fact that is hidden from the walk. -/
namespace Go.Proofs.YtbemfjdloeipmaaGreatDoor
open Go.RowKit

theorem hide {p : Prop} (h : p) : Hid p := h
theorem unhide {p : Prop} (h : Hid p) : p := h
end Go.Proofs.YtbemfjdloeipmaaGreatDoor
/- Bytes that can be read; no package of the program is named. -/
namespace Go.Proofs.YtbemfjdloeipmaaGreatDoor
open Go.RowKit

theorem bcell {W w1 : World} (hb : Below W.heap.size W w1) : (∀ b o, b < W.heap.size → w1.cell? ⟨b, o, none⟩ = W.cell? ⟨b, o, none⟩) ∧ (∀ b o, b < W.heap.size → w1.frozen? ⟨b, o, none⟩ = W.frozen? ⟨b, o, none⟩) :=
  ⟨fun b o h => hb.cell (p := ⟨b, o, none⟩) h, fun b o h => hb.frozen (p := ⟨b, o, none⟩) h⟩

/- Bytes that can be read. -/
def RdA (W : World) (a : Option Addr) (xs : List Nat) : Prop :=
  xs = [] ∨ ∃ p off, a = some ⟨p, off, none⟩ ∧ p < W.heap.size ∧ ∀ i (h : i < xs.length), W.cell? ⟨p, off + i, none⟩ = some (.int .u8 (xs[i] : Nat))
theorem RdA.below {W W' : World} {a : Option Addr} {xs : List Nat} (h : RdA W a xs) (hb : Below W.heap.size W W') : RdA W' a xs := by
  rcases h with h | ⟨p, off, rfl, hp, hc⟩
  · exact .inl h
  · exact .inr ⟨p, off, rfl, Nat.lt_of_lt_of_le hp hb.size, fun i hi => (hb.cell (p := ⟨p, off + i, none⟩) hp).trans (hc i hi)⟩
theorem RdA.some {W : World} {a : Option Addr} {xs : List Nat} (h : RdA W a xs) (hx : 0 < xs.length) : ∃ p off, a = some ⟨p, off, none⟩ ∧ p < W.heap.size ∧ ∀ i (h : i < xs.length), W.cell? ⟨p, off + i, none⟩ = some (.int .u8 (xs[i] : Nat)) := by
  rcases h with rfl | h
  · simp at hx
  · exact h
theorem below_drewN {B : Nat} {w w' : World} (h : Below B w w') (n : Nat) : Below B w (w'.drewN n) := ⟨h.os, h.tape, h.output, h.size, h.block⟩
end Go.Proofs.YtbemfjdloeipmaaGreatDoor
/- What came in, opened: a list of anything, if one element can be opened. -/
namespace Go.Proofs.YtbemfjdloeipmaaGreatDoor
open Go.ChangeShapes Go.WideShapes Go.ChangeAt Go.RowKit

theorem ownE : ownKnob Tryz.prog.godebug = none := by kernel_rfl
theorem laidOutE : laidOutB Tryz.prog = true := by kernel_rfl
theorem byteE {x : Int} (h : (Lit.int .u8 x).wf = true) : 0 ≤ x ∧ x < 256 := by
  simp [Lit.wf, IntKind.min, IntKind.max, IntKind.signed, IntKind.bits] at h
  exact ⟨by omega, by omega⟩
theorem wordE {x : Int} (h : (Lit.int .u64 x).wf = true) : 0 ≤ x ∧ x < 18446744073709551616 := by
  simp [Lit.wf, IntKind.min, IntKind.max, IntKind.signed, IntKind.bits] at h
  exact ⟨by omega, by omega⟩
theorem intE {x : Int} (h : (Lit.int .i64 x).wf = true) : -9223372036854775808 ≤ x ∧ x < 9223372036854775808 := by
  simp [Lit.wf, IntKind.min, IntKind.max, IntKind.signed, IntKind.bits] at h
  exact ⟨by omega, by omega⟩
theorem add_atE (b o i : Nat) : (⟨b, o, none⟩ : Addr).add i = ⟨b, o + i, none⟩ := by simp [Addr.add]
theorem cell_ltE {W : World} {a : Addr} {v : Value} (h : W.cell? a = some v) : a.spot = none ∧ a.block < W.heap.size := by
  unfold World.cell? at h
  cases hb : W.heap[a.block]? with
  | none => rw [hb] at h; simp at h
  | some o =>
    refine ⟨?_, (Array.getElem?_eq_some_iff.1 hb).1⟩
    rw [hb] at h
    cases o with
    | cells c t f =>
      simp only at h
      split at h
      · cases h
      · rename_i hs; simpa using hs
    | _ => simp at h
theorem mem_weightsE {H : Type} {P : Program} {e : TypeId} {d : DataW H} : ∀ {ds : List (DataW H)}, d ∈ ds → ∀ x ∈ d.weights P e, x ∈ DataW.weightsAll P e ds := by
  intro ds
  induction ds with
  | nil => intro h; simp at h
  | cons y r ih =>
    intro h x hx
    rw [DataW.weightsAll]
    rcases List.mem_cons.1 h with rfl | h
    · exact List.mem_append_left _ hx
    · exact List.mem_append_right _ (ih h x hx)
theorem exists_listE {α : Type} (n : Nat) (Q : Nat → α → Prop) (h : ∀ i, i < n → ∃ a, Q i a) : ∃ l : List α, l.length = n ∧ ∀ i (h : i < l.length), Q i l[i] := by
  induction n with
  | zero => exact ⟨[], rfl, fun i h => by simp at h⟩
  | succ n ih =>
    obtain ⟨l, h1, h2⟩ := ih (fun i hi => h i (by omega))
    obtain ⟨a, ha⟩ := h n (by omega)
    refine ⟨l ++ [a], by simp [h1], fun i hi => ?_⟩
    by_cases e : i < l.length
    · rw [List.getElem_append_left e]; exact h2 i e
    · have : i = l.length := by simp at hi; omega
      subst this
      simp only [List.getElem_concat_length]
      rw [h1]; exact ha
/- What a list of elements of c cells is. -/
structure LiE {α : Type} (W : World) (c : Nat) (f : α → List Value) (a : Option Addr) (cap : Nat) (l : List α) : Prop where
  nn : a = none → cap = 0
  le : l.length ≤ cap
  rd : l = [] ∨ ∃ p off, a = some ⟨p, off, none⟩ ∧ p < W.heap.size ∧ ∀ i (h : i < l.length) j u, (f l[i])[j]? = some u → W.cell? ⟨p, off + i * c + j, none⟩ = some u
set_option maxRecDepth 100000 in
theorem open_list {H : Type} {enc : TypeId × Value → H} {W : World} {base fuel : Nat} {t e : TypeId} (ht : Tryz.prog.underlying t = some (.slice e)) {c : Nat} (hc : Tryz.prog.cellsOf e = c) (c0 : 0 < c) {α : Type} (f : α → List Value) (R : α → Prop)
    (one : ∀ {fuel : Nat} {cs : List Value} {x : DataW H × List MemPlace}, DataW.trod enc Tryz.prog W base (fun _ => true) true fuel e cs = some x → (∀ n ∈ x.1.weights Tryz.prog e, n ≤ reachBytes) → ∃ y, cs = f y ∧ R y)
    {v : Value} {x : DataW H × List MemPlace} (h : DataW.trod enc Tryz.prog W base (fun _ => true) true fuel t [v] = some x) (hw : ∀ n ∈ x.1.weights Tryz.prog t, n ≤ reachBytes) :
    ∃ (a : Option Addr) (cap : Nat) (l : List α), v = .slice a l.length cap ∧ LiE W c f a cap l ∧ l.length * Tryz.prog.bytesOf e ≤ reachBytes ∧ ∀ y ∈ l, R y := by
  rcases DataW.trod_slice ht h with ⟨hcs, _⟩ | ⟨a, len, cap, elems, rest, n, _, hcs, hx, _, hl, _, hlen, hel, _⟩
  · simp at hcs
    subst hcs
    exact ⟨none, 0, [], rfl, ⟨fun _ => rfl, Nat.le_refl _, .inl rfl⟩, by simp, fun y hy => by simp at hy⟩
  · simp at hcs
    subst hcs
    have hwx : x.1.weights Tryz.prog t = ((elems.map (·.1)).length + (rest.map (·.1)).length) * Tryz.prog.bytesOf e :: (DataW.weightsAll Tryz.prog e (elems.map (·.1)) ++ DataW.weightsAll Tryz.prog e (rest.map (·.1))) := by
      rw [hx, DataW.weights, ht]
    rw [hc] at hel
    obtain ⟨l, hll, hls⟩ := exists_listE (α := α) len (fun i y => (∀ j u, (f y)[j]? = some u → W.cell? ((a.add (i * c)).add j) = some u) ∧ (f y).length = c ∧ R y) (fun i hi => by
      have hE := hel i hi
      have hi' : i < elems.length := by omega
      rw [List.getElem?_eq_getElem hi', Option.bind_eq_some_iff] at hE
      obtain ⟨cs', hcs', hy⟩ := hE
      obtain ⟨_, hcl, hcg⟩ := World.cells?_some hcs'
      obtain ⟨y, rfl, hR⟩ := one hy (fun m hm => hw m (by
        rw [hwx]
        exact List.mem_cons_of_mem _ (List.mem_append_left _ (mem_weightsE (List.mem_map.2 ⟨_, List.getElem_mem hi', rfl⟩) m hm))))
      exact ⟨y, fun j u hu => by rw [hcg j (by have := (List.getElem?_eq_some_iff.1 hu).1; omega)]; exact hu, hcl, hR⟩)
    have hbytes : l.length * Tryz.prog.bytesOf e ≤ reachBytes := by
      have h1 := hw _ (by rw [hwx]; exact List.mem_cons_self ..)
      simp only [List.length_map] at h1
      refine Nat.le_trans (Nat.mul_le_mul_right _ ?_) h1
      omega
    refine ⟨some a, cap, l, by rw [hll], ⟨fun e => (by cases e), by omega, ?_⟩, hbytes, fun y hy => ?_⟩
    · by_cases h0 : l = []
      · exact .inl h0
      · right
        have hpos : 0 < l.length := List.length_pos_iff.2 h0
        obtain ⟨h1, h2, _⟩ := hls 0 hpos
        have hu : ∃ u, (f l[0])[0]? = some u := ⟨(f l[0])[0], List.getElem?_eq_getElem (by omega)⟩
        obtain ⟨u, hu⟩ := hu
        have hz := cell_ltE (h1 0 u hu)
        obtain ⟨b, off, sp⟩ := a
        have e0 : ((⟨b, off, sp⟩ : Addr).add (0 * c)).add 0 = ⟨b, off, sp⟩ := by simp [Addr.add]
        rw [e0] at hz
        obtain ⟨rfl, hlt⟩ : sp = none ∧ b < W.heap.size := hz
        refine ⟨b, off, rfl, hlt, fun i hi j u hu => ?_⟩
        have := (hls i hi).1 j u hu
        rw [add_atE, add_atE] at this
        exact this
    · obtain ⟨i, hi, rfl⟩ := List.getElem_of_mem hy
      exact (hls i hi).2.2
end Go.Proofs.YtbemfjdloeipmaaGreatDoor
