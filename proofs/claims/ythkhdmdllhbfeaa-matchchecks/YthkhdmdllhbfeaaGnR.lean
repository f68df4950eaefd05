/- What came in, opened: structs field by field; numbers, and lists of them. -/
import Derived.Test.YthkhdmdllhbfeaaRowE
import Derived.Test.YthkhdmdllhbfeaaGnM
namespace Go.Proofs.Ythkhdmdllhbfeaa
open Go.ChangeShapes Go.WideShapes Go.ChangeAt Go.RowKit

variable {H : Type} {enc : TypeId × Value → H} {W : World} {base : Nat}
theorem open_field {t : TypeId} {fs : Array Field} (ht : Try.prog.underlying t = some (.struct fs)) {fuel : Nat} {cs : List Value} {x : DataW H × List MemPlace} (h : DataW.trod enc Try.prog W base (fun _ => true) true fuel t cs = some x) (hw : ∀ n ∈ x.1.weights Try.prog t, n ≤ reachBytes) (i : Nat) (f : Field) (hf : fs[i]? = some f) :
    ∃ (m : Nat) (y : DataW H × List MemPlace), DataW.trod enc Try.prog W base (fun _ => true) true m f.type ((cs.drop f.offset).take (Try.prog.cellsOf f.type)) = some y ∧ ∀ n ∈ y.1.weights Try.prog f.type, n ≤ reachBytes := by
  obtain ⟨xs, m, _, hx, _, hl, hxs⟩ := DataW.trod_struct ht h
  have hi : i < xs.length := by rw [hl]; exact (Array.getElem?_eq_some_iff.1 hf).1
  have h1 := hxs i f hf
  rw [List.getElem?_eq_getElem hi] at h1
  refine ⟨m, xs[i], h1, fun n hn => hw n ?_⟩
  rw [hx, DataW.weights, ht]
  refine DataW.weights_mem_each (j := i) (t := f.type) (d := xs[i].1) ?_ ?_ n hn
  · rw [List.getElem?_map, Array.getElem?_toList, hf]; rfl
  · rw [List.getElem?_map, List.getElem?_eq_getElem hi]; rfl
theorem field_at {t : TypeId} {fs : Array Field} (ht : Try.prog.underlying t = some (.struct fs)) {fuel : Nat} {cs : List Value} {x : DataW H × List MemPlace} (h : DataW.trod enc Try.prog W base (fun _ => true) true fuel t cs = some x) (hw : ∀ n ∈ x.1.weights Try.prog t, n ≤ reachBytes) (i : Nat) {f : Field} (hf : fs[i]? = some f) {ft : TypeId} {off c : Nat} (e1 : f.type = ft) (e2 : f.offset = off) (e3 : Try.prog.cellsOf ft = c) :
    ∃ (m : Nat) (y : DataW H × List MemPlace), DataW.trod enc Try.prog W base (fun _ => true) true m ft ((cs.drop off).take c) = some y ∧ ∀ n ∈ y.1.weights Try.prog ft, n ≤ reachBytes := by
  subst e1 e2 e3
  exact open_field ht h hw i f hf
theorem len_struct {t : TypeId} {fs : Array Field} (ht : Try.prog.underlying t = some (.struct fs)) {fuel : Nat} {cs : List Value} {x : DataW H × List MemPlace} (h : DataW.trod enc Try.prog W base (fun _ => true) true fuel t cs = some x) : cs.length = Try.prog.cellsOf t := by
  obtain ⟨xs, m, _, hx, hl, _, hxs⟩ := DataW.trod_struct ht h
  exact hl
theorem cellsNb : Try.prog.cellsOf 52 = 3 := by kernel_rfl
theorem cellsIn : Try.prog.cellsOf 3 = 1 := by kernel_rfl
theorem cellsUl : Try.prog.cellsOf 49 = 1 := by kernel_rfl
theorem cellsSt : Try.prog.cellsOf 9 = 1 := by kernel_rfl
theorem cellsSl2 : Try.prog.cellsOf 28 = 1 := by kernel_rfl
theorem cellsSl5 : Try.prog.cellsOf 23 = 1 := by kernel_rfl
theorem three {α : Type} {l : List α} (h : l.length = 3) : ∃ a b c, l = [a, b, c] := by
  rcases l with _ | ⟨a, _ | ⟨b, _ | ⟨c, _ | ⟨d, r⟩⟩⟩⟩
  · cases h
  · cases h
  · cases h
  · exact ⟨a, b, c, rfl⟩
  · simp at h
theorem four {α : Type} {l : List α} (h : l.length = 4) : ∃ a b c d, l = [a, b, c, d] := by
  rcases l with _ | ⟨a, l⟩
  · cases h
  · obtain ⟨b, c, d, rfl⟩ := three (l := l) (by simpa using h)
    exact ⟨a, b, c, d, rfl⟩
theorem seven {α : Type} {l : List α} (h : l.length = 7) : ∃ a b c d e f g, l = [a, b, c, d, e, f, g] := by
  rcases l with _ | ⟨a, _ | ⟨b, _ | ⟨c, l⟩⟩⟩
  · cases h
  · cases h
  · cases h
  · obtain ⟨d, e, f, g, rfl⟩ := four (l := l) (by simpa using h)
    exact ⟨a, b, c, d, e, f, g, rfl⟩
set_option maxRecDepth 100000 in
theorem open_nb {fuel : Nat} {cs : List Value} {x : DataW H × List MemPlace} (h : DataW.trod enc Try.prog W base (fun _ => true) true fuel 52 cs = some x) (hw : ∀ n ∈ x.1.weights Try.prog 52, n ≤ reachBytes) : ∃ y : Nb, cs = y.cells ∧ NbR y := by
  have hl := len_struct Try.underlying52 h
  rw [cellsNb] at hl
  obtain ⟨a, b, c, rfl⟩ := three hl
  obtain ⟨_, y0, h0, _⟩ := field_at Try.underlying52 h hw 0 rfl (ft := 3) (off := 0) rfl rfl cellsIn
  obtain ⟨_, y1, h1, _⟩ := field_at Try.underlying52 h hw 1 rfl (ft := 49) (off := 1) rfl rfl cellsUl
  obtain ⟨_, y2, h2, _⟩ := field_at Try.underlying52 h hw 2 rfl (ft := 49) (off := 2) rfl rfl cellsUl
  obtain ⟨p, q0, _, w0⟩ := DataW.trod_int Try.underlying3 h0
  obtain ⟨q, q1, _, w1⟩ := DataW.trod_int Try.underlying49 h1
  obtain ⟨r, q2, _, w2⟩ := DataW.trod_int Try.underlying49 h2
  simp at q0 q1 q2
  subst q0 q1 q2
  exact ⟨⟨p, q, r⟩, rfl, ⟨intE w0, wordE w1, wordE w2⟩⟩
theorem bytesNb : Try.prog.bytesOf 52 = 24 := by kernel_rfl
theorem bytesIn : Try.prog.bytesOf 3 = 8 := by kernel_rfl
theorem reach_le {n k : Nat} (h : n * k ≤ reachBytes) (hk : 0 < k) : n ≤ 140737488355328 := by
  have h1 : n ≤ n * k := Nat.le_mul_of_pos_right n hk
  unfold reachBytes at h
  omega
theorem rdN_of {a : Option Addr} {cap : Nat} {l : List Nb} (h : LiE W 3 Nb.cells a cap l) : RdN W a l := by
  rcases h.rd with h | ⟨p, off, e, hp, hc⟩
  · exact .inl h
  · exact .inr ⟨p, off, e, hp, fun i hi => ⟨hc i hi 0 _ rfl, hc i hi 1 _ rfl, hc i hi 2 _ rfl⟩⟩
theorem open_nbs {fuel : Nat} {v : Value} {x : DataW H × List MemPlace} (h : DataW.trod enc Try.prog W base (fun _ => true) true fuel 28 [v] = some x) (hw : ∀ n ∈ x.1.weights Try.prog 28, n ≤ reachBytes) : ∃ (a : Option Addr) (cap : Nat) (l : List Nb), v = .slice a l.length cap ∧ RdN W a l ∧ (a = none → cap = 0) ∧ l.length ≤ 140737488355328 ∧ ∀ y ∈ l, NbR y := by
  obtain ⟨a, cap, l, h1, h2, h3, h4⟩ := open_list Try.underlying28 cellsNb (by decide) Nb.cells NbR (fun h hw => open_nb h hw) h hw
  rw [bytesNb] at h3
  exact ⟨a, cap, l, h1, rdN_of h2, h2.nn, reach_le h3 (by decide), h4⟩
end Go.Proofs.Ythkhdmdllhbfeaa
