/- What came in, opened: a case. -/
import Derived.Test.YthkhdmdllhbfeaaMwC
namespace Go.Proofs.Ythkhdmdllhbfeaa
open Go.ChangeShapes Go.WideShapes Go.ChangeAt Go.RowKit

theorem eight8 {α : Type} {l : List α} (h : l.length = 8) : ∃ a b c d e f g i, l = [a, b, c, d, e, f, g, i] := by
  rcases l with _ | ⟨a, l⟩
  · cases h
  · obtain ⟨b, c, d, e, f, g, i, rfl⟩ := seven (l := l) (by simpa using h)
    exact ⟨a, b, c, d, e, f, g, i, rfl⟩
set_option maxRecDepth 100000 in
theorem open_case {H : Type} {enc : TypeId × Value → H} {W : World} {base fuel : Nat} {cs : List Value} {x : DataW H × List MemPlace} (h : DataW.trod enc Try.prog W base (fun _ => true) true fuel 32 cs = some x) (hw : ∀ n ∈ x.1.weights Try.prog 32, n ≤ reachBytes) : ∃ (t : TbL) (la : Option Addr) (lc : Nat) (l : List EnL) (y : EnL), cs = (caCells t la lc l y).toList ∧ CaO W t la lc l y := by
  have hl := len_struct Try.underlying32 h
  rw [cellsCa] at hl
  obtain ⟨a, b, c, d, e, f, g, i, rfl⟩ := eight8 hl
  obtain ⟨_, y0, h0, w0⟩ := field_at Try.underlying32 h hw 0 rfl (ft := 25) (off := 0) rfl rfl cellsTb
  obtain ⟨_, y1, h1, w1⟩ := field_at Try.underlying32 h hw 1 rfl (ft := 26) (off := 3) rfl rfl cellsSl3
  obtain ⟨_, y2, h2, w2⟩ := field_at Try.underlying32 h hw 2 rfl (ft := 30) (off := 4) rfl rfl cellsEn
  obtain ⟨t, e0, r0⟩ := open_tb h0 w0
  obtain ⟨la, lc, l, e1, r1, z1, n1⟩ := open_ens h1 w1
  obtain ⟨y, e2, r2⟩ := open_en h2 w2
  simp [EnL.cells] at e0 e2
  obtain ⟨rfl, rfl, rfl⟩ := e0
  obtain ⟨rfl, rfl, rfl, rfl⟩ := e2
  subst e1
  exact ⟨t, la, lc, l, y, rfl, ⟨r0, r1, n1, z1, r2⟩⟩
end Go.Proofs.Ythkhdmdllhbfeaa
