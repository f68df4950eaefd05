/- What came in, opened: lists of whole numbers. -/
import Derived.Test.YtlplcncdedjkmaaRowB
import Derived.Test.YtlplcncdedjkmaaDkW
namespace Go.Proofs.Ytlplcncdedjkmaa
open Go.ChangeShapes Go.WideShapes Go.ChangeAt Go.RowKit

theorem placeT {W : World} {base : Nat} {t e : TypeId} {a : Addr} {len cap : Nat} (ht : Try.prog.underlying t = some (.slice e)) (h : Value.okWide Try.prog W .any base t (.slice (some a) len cap)) : a.spot = none ∧ a.block < W.heap.size ∧ len ≤ cap ∧ cap ≤ 9223372036854775807 := by
  simp only [Value.okWide, ht, Cell.okWide] at h
  simp only [Cell.ok, ht] at h
  obtain ⟨h1, h2, _, h4, row, cells, h5, _⟩ := h
  refine ⟨h4, ?_, h1, ?_⟩
  · unfold World.shape? at h5
    cases hb : W.heap[a.block]? with
    | none => rw [hb] at h5; simp at h5
    | some o => exact (Array.getElem?_eq_some_iff.1 hb).1
  · have : IntKind.i64.max = 9223372036854775807 := by decide
    omega
theorem open_zs {H : Type} {enc : TypeId × Value → H} {W : World} {base fuel : Nat} {base2 : Nat} {t e : TypeId} {k : IntKind} {a0 : Option Addr} {len cap : Nat} {x : DataW H × List MemPlace} (ht : Try.prog.underlying t = some (.slice e)) (he : Try.prog.underlying e = some (.int k)) (hce : Try.prog.cellsOf e = 1) (hok : Value.okWide Try.prog W .any base t (.slice a0 len cap)) (h : DataW.trod enc Try.prog W base2 (fun _ => true) true fuel t (Value.slice a0 len cap).cells.toList = some x) :
    ∃ zs : List Int, len = zs.length ∧ (∀ z ∈ zs, (Lit.int k z).wf = true) ∧ RdZ k W a0 zs ∧ len ≤ cap ∧ cap ≤ 9223372036854775807 ∧ (a0 = none → cap = 0) := by
  rcases open_ints ht he hce h with ⟨hcs, _⟩ | ⟨a, len', cap', zs, hcs, _, hl, _, hzl, _, hc, hwf⟩
  · simp [Value.cells] at hcs
    obtain ⟨rfl, rfl, rfl⟩ := hcs
    exact ⟨[], rfl, fun y hy => by simp at hy, .inl ⟨rfl, rfl⟩, Nat.le_refl _, by decide, fun _ => rfl⟩
  · simp [Value.cells] at hcs
    obtain ⟨rfl, rfl, rfl⟩ := hcs
    obtain ⟨hs, hlt, hlc, hcm⟩ := placeT ht hok
    obtain ⟨b, off, sp⟩ := a
    obtain rfl : sp = none := hs
    have hzl' : zs.length = cap := by simpa using hzl
    have hlen : len = (zs.take len).length := by simp; omega
    refine ⟨zs.take len, hlen, fun y hy => hwf y (List.mem_of_mem_take hy), .inr ⟨b, off, rfl, hlt, fun i hi => ?_⟩, hlc, hcm, fun e => by cases e⟩
    rw [← hlen] at hi
    have h1 := hc i (by omega)
    rw [add_at] at h1
    have hi2 : i < zs.length := by omega
    have h2 : zs.getD i 0 = zs[i] := by rw [List.getD_eq_getElem?_getD, List.getElem?_eq_getElem hi2]; rfl
    rw [h1, h2]
    simp only [List.getElem_take]
theorem cells16 : Try.prog.cellsOf 36 = 1 := by kernel_rfl
end Go.Proofs.Ytlplcncdedjkmaa
