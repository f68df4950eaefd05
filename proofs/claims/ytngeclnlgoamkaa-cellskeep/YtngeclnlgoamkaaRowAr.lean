/- What came in, opened: an array of cells. -/
import Derived.Test.YtngeclnlgoamkaaGnR
import Derived.Test.YtngeclnlgoamkaaCeA
namespace Go.Proofs.Ytngeclnlgoamkaa
open Go.ChangeShapes Go.WideShapes Go.ChangeAt Go.RowKit

variable {H : Type} {enc : TypeId × Value → H} {W : World} {base : Nat}
theorem cellsAr : Try.prog.cellsOf 33 = 7 := by kernel_rfl
theorem cellsDk : Try.prog.cellsOf 29 = 1 := by kernel_rfl
theorem open_zs {fuel : Nat} {v : Value} {x : DataW H × List MemPlace} (h : DataW.trod enc Try.prog W base (fun _ => true) true fuel 31 [v] = some x) (hw : ∀ n ∈ x.1.weights Try.prog 31, n ≤ reachBytes) : ∃ (a : Option Addr) (cap : Nat) (l : List Int), v = .slice a l.length cap ∧ RdZ W a l ∧ (a = none → cap = 0) ∧ l.length ≤ 140737488355328 ∧ ∀ y ∈ l, i64R y := by
  obtain ⟨a, cap, l, h1, h2, h3, h4⟩ := open_list Try.underlying31 cellsIn (by decide) (fun n : Int => [Value.int .i64 n]) i64R (fun h _ => by
    obtain ⟨n, hn, _, wf⟩ := DataW.trod_int Try.underlying3 h
    exact ⟨n, hn, intE wf⟩) h hw
  rw [bytesIn] at h3
  refine ⟨a, cap, l, h1, ?_, h2.nn, reach_le h3 (by decide), h4⟩
  rcases h2.rd with h | ⟨p, off, e, hp, hc⟩
  · exact .inl h
  · exact .inr ⟨p, off, e, hp, fun i hi => by have := hc i hi 0 _ rfl; rw [Nat.mul_one] at this; exact this⟩
set_option maxRecDepth 100000 in
theorem open_ar {fuel : Nat} {cs : List Value} {x : DataW H × List MemPlace} (h : DataW.trod enc Try.prog W base (fun _ => true) true fuel 33 cs = some x) (hw : ∀ n ∈ x.1.weights Try.prog 33, n ≤ reachBytes) : ∃ y : ArL, cs = y.cells ∧ ArR W y ∧ y.a.name.size ≤ 140737488355328 ∧ (y.ca = none → y.cc = 0) ∧ (y.la = none → y.lc = 0) := by
  have hl := len_struct Try.underlying33 h
  rw [cellsAr] at hl
  obtain ⟨a, b, c, d, e, f, g, rfl⟩ := seven hl
  obtain ⟨_, y0, h0, w0⟩ := field_at Try.underlying33 h hw 0 rfl (ft := 9) (off := 0) rfl rfl cellsSt
  obtain ⟨_, y1, h1, _⟩ := field_at Try.underlying33 h hw 1 rfl (ft := 29) (off := 1) rfl rfl cellsDk
  obtain ⟨_, y2, h2, _⟩ := field_at Try.underlying33 h hw 2 rfl (ft := 3) (off := 2) rfl rfl cellsIn
  obtain ⟨_, y3, h3, _⟩ := field_at Try.underlying33 h hw 3 rfl (ft := 3) (off := 3) rfl rfl cellsIn
  obtain ⟨_, y4, h4, _⟩ := field_at Try.underlying33 h hw 4 rfl (ft := 3) (off := 4) rfl rfl cellsIn
  obtain ⟨_, y5, h5, w5⟩ := field_at Try.underlying33 h hw 5 rfl (ft := 30) (off := 5) rfl rfl cellsSl2
  obtain ⟨_, y6, h6, w6⟩ := field_at Try.underlying33 h hw 6 rfl (ft := 31) (off := 6) rfl rfl cellsSl5
  obtain ⟨name, q0, ex0, _⟩ := DataW.trod_string Try.underlying9 h0
  obtain ⟨kind, q1, _, wf1⟩ := DataW.trod_int Try.underlying29 h1
  obtain ⟨aw, q2, _, wf2⟩ := DataW.trod_int Try.underlying3 h2
  obtain ⟨rate, q3, _, wf3⟩ := DataW.trod_int Try.underlying3 h3
  obtain ⟨burst, q4, _, wf4⟩ := DataW.trod_int Try.underlying3 h4
  obtain ⟨ca, cc, cs, e5, r5, z5, b5, m5⟩ := open_nbs h5 w5
  obtain ⟨la, lc, ls, e6, r6, z6, b6, m6⟩ := open_zs h6 w6
  have hs : name.size ≤ 140737488355328 := by
    have := w0 name.data.toList.length (by rw [ex0]; simp only [DataW.weights]; exact List.mem_singleton.2 rfl)
    unfold reachBytes at this
    have e : name.data.toList.length = name.size := Array.length_toList
    omega
  simp at q0 q1 q2 q3 q4
  subst q0 q1 q2 q3 q4 e5 e6
  have hb := byteE wf1
  exact ⟨⟨⟨name, kind, aw, rate, burst, cs, ls⟩, ca, cc, la, lc⟩, rfl, ⟨r5, r6, b5, b6, m5, m6, intE wf2, intE wf3, intE wf4, hb⟩, hs, z5, z6⟩
end Go.Proofs.Ytngeclnlgoamkaa
