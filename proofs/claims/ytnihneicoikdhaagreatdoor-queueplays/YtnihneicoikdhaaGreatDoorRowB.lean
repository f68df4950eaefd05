/- What came in, opened: bytes. -/
import Derived.Test.YtnihneicoikdhaaGreatDoorRows
import Derived.Test.YtnihneicoikdhaaGreatDoorRd
import Derived.ProofKit
import Derived.OpenShut
import Derived.ChangeOld
import Derived.ChangeSlices
namespace Go.Proofs.YtnihneicoikdhaaGreatDoor
open Go.ChangeShapes Go.WideShapes Go.ChangeAt Go.RowKit

theorem ownD : ownKnob Tryz.prog.godebug = none := by kernel_rfl
theorem laidOutD : laidOutB Tryz.prog = true := by kernel_rfl
theorem byteD {x : Int} (h : (Lit.int .u8 x).wf = true) : 0 ≤ x ∧ x < 256 := by
  simp [Lit.wf, IntKind.min, IntKind.max, IntKind.signed, IntKind.bits] at h
  exact ⟨by omega, by omega⟩
theorem word16D {x : Int} (h : (Lit.int .u16 x).wf = true) : 0 ≤ x ∧ x < 65536 := by
  simp [Lit.wf, IntKind.min, IntKind.max, IntKind.signed, IntKind.bits] at h
  exact ⟨by omega, by omega⟩
theorem word32D {x : Int} (h : (Lit.int .u32 x).wf = true) : 0 ≤ x ∧ x < 4294967296 := by
  simp [Lit.wf, IntKind.min, IntKind.max, IntKind.signed, IntKind.bits] at h
  exact ⟨by omega, by omega⟩
theorem cellsB8 : Tryz.prog.cellsOf 5 = 1 := by kernel_rfl
set_option maxRecDepth 100000 in
theorem place8 {W : World} {base : Nat} {a : Addr} {len cap : Nat} (h : Value.okWide Tryz.prog W .any base 35 (.slice (some a) len cap)) : a.spot = none ∧ a.block < W.heap.size ∧ len ≤ cap ∧ cap ≤ 9223372036854775807 := by
  simp only [Value.okWide, Tryz.underlying35, Cell.okWide] at h
  simp only [Cell.ok, Tryz.underlying35] at h
  obtain ⟨h1, h2, _, h4, row, cells, h5, _⟩ := h
  refine ⟨h4, ?_, h1, ?_⟩
  · unfold World.shape? at h5
    cases hb : W.heap[a.block]? with
    | none => rw [hb] at h5; simp at h5
    | some o => exact (Array.getElem?_eq_some_iff.1 hb).1
  · have : IntKind.i64.max = 9223372036854775807 := by decide
    omega
theorem add_at (b o i : Nat) : (⟨b, o, none⟩ : Addr).add i = ⟨b, o + i, none⟩ := by simp [Addr.add]
set_option maxRecDepth 100000 in
theorem open_bytes {H : Type} {enc : TypeId × Value → H} {W : World} {base fuel : Nat} {base2 : Nat} {a0 : Option Addr} {len cap : Nat} {x : DataW H × List MemPlace} (hok : Value.okWide Tryz.prog W .any base 35 (.slice a0 len cap)) (h : DataW.trod enc Tryz.prog W base2 (fun _ => true) true fuel 35 (Value.slice a0 len cap).cells.toList = some x) :
    ∃ xs : List Nat, len = xs.length ∧ (∀ y ∈ xs, y < 256) ∧ RdA W a0 xs ∧ len ≤ cap ∧ cap ≤ 9223372036854775807 ∧ (a0 = none → cap = 0) := by
  rcases open_ints Tryz.underlying35 Tryz.underlying5 cellsB8 h with ⟨hcs, _⟩ | ⟨a, len', cap', zs, hcs, _, hl, _, hzl, _, hc, hwf⟩
  · simp [Value.cells] at hcs
    obtain ⟨rfl, rfl, rfl⟩ := hcs
    exact ⟨[], rfl, fun y hy => by simp at hy, .inl rfl, Nat.le_refl _, by decide, fun _ => rfl⟩
  · simp [Value.cells] at hcs
    obtain ⟨rfl, rfl, rfl⟩ := hcs
    obtain ⟨hs, hlt, hlc, hcm⟩ := place8 hok
    obtain ⟨b, off, sp⟩ := a
    obtain rfl : sp = none := hs
    have hzl' : zs.length = cap := by simpa using hzl
    have hlen : len = ((zs.take len).map Int.toNat).length := by simp; omega
    refine ⟨(zs.take len).map Int.toNat, hlen, fun y hy => ?_, .inr ⟨b, off, rfl, hlt, fun i hi => ?_⟩, hlc, hcm, fun e => by cases e⟩
    · obtain ⟨n, hn, rfl⟩ := List.mem_map.1 hy
      have := byteD (hwf n (List.mem_of_mem_take hn)); omega
    · rw [← hlen] at hi
      have h1 := hc i (by omega)
      rw [add_at] at h1
      have hi2 : i < zs.length := by omega
      have h2 : zs.getD i 0 = zs[i] := by rw [List.getD_eq_getElem?_getD, List.getElem?_eq_getElem hi2]; rfl
      have h3 := byteD (hwf zs[i] (List.getElem_mem hi2))
      rw [h1, h2]
      simp only [List.getElem_map, List.getElem_take]
      rw [Int.toNat_of_nonneg h3.1]
theorem okWide_array {P : Program} {w : World} {r : Reach} {base : Nat} {t : TypeId} {v : Value} {n : Nat} {e : TypeId} (ht : P.underlying t = some (.array n e)) (h : Value.okWide P w r base t v) : ∃ cs, v = .agg cs ∧ cs.size = P.cellsOf t := by
  simp only [Value.okWide, ht] at h
  obtain ⟨cs, h1, h2, _⟩ := h
  exact ⟨cs, h1, h2⟩
end Go.Proofs.YtnihneicoikdhaaGreatDoor
