/- Rows of package lex: what is laid, read. -/
import Derived.Test.YtfanhdjebmdniaaGreatDoorVR
import Derived.Test.YtfanhdjebmdniaaGreatDoorLI
import Derived.SevenTiedAt
import Derived.Lay
namespace Go.Proofs.YtfanhdjebmdniaaGreatDoor
open Go.ChangeShapes Go.WideShapes Go.ChangeAt Go.ChangeMaps Go.RowKit

theorem table_strN {P : Program} {t e : TypeId} {n i : Nat} {b : ByteArray} (ht : P.underlying t = some (.array n e)) (he : P.underlying e = some .string) (hc : P.cellsOf e = 1) {W : World} {g fuel : Nat} {nm : String} {cs : Array Value} {l : List (DataW Unit)} {p : List MemPlace}
    (hg : P.globalNamed nm = some g) (hv : W.var? P nm = some cs) (hd : DataW.trod (fun _ => ()) P W 0 (fun _ => true) false fuel t cs.toList = some (.agg l, p)) (hi : i < n) (hl : l[i]? = some (.lit (.string b.data.toList))) : W.cell? ⟨g, i, none⟩ = some (.string b) := by
  obtain ⟨xs, m, rfl, hx, hlen, hn, hel⟩ := DataW.trod_array ht hd
  have h15 := hel i hi
  rw [hc] at h15
  obtain ⟨y, ey⟩ := some_atN (l := xs) (i := i) (by omega)
  rw [ey] at h15
  obtain ⟨s, e1, e2, _⟩ := DataW.trod_string he h15
  have hx' := congrArg Prod.fst hx
  simp only [DataW.agg.injEq] at hx'
  have h2 : (xs.map (·.1))[i]? = some y.1 := by rw [List.getElem?_map, ey]; rfl
  rw [← hx', hl, e2] at h2
  have h3 : b.data.toList = s.data.toList := by
    injection h2 with h2; injection h2 with h2; injection h2
  have h4 : b = s := ByteArray.ext (Array.ext' h3)
  subst h4
  rw [World.var?_cell hg hv i, ← Array.getElem?_toList]
  have := congrArg (fun l => l[0]?) e1
  simpa [List.getElem?_take, List.getElem?_drop] using this
theorem gSg : Tryz.prog.globalNamed "pointsman/lex.signs" = some 0 := by kernel_rfl
theorem tSg : (Tryz.prog.globals[0]?).map (·.type) = some 322 := by kernel_rfl
theorem cSg : Tryz.prog.cellsOf 9 = 1 := by kernel_rfl
theorem laidSg : (Rows.laid_pointsman_lex_signs : DataW Unit) = .agg ((List.range 27).map fun i => .lit (.string (sb i).data.toList)) := by kernel_rfl
theorem laidSg_at (i : Nat) (h : i < 27) : ((List.range 27).map fun i => (DataW.lit (.string (sb i).data.toList) : DataW Unit))[i]? = some (.lit (.string (sb i).data.toList)) := by
  simp [h]
def laidB : List (String × DataW Unit) := [("math/bits.deBruijn32tab", Rows.laid_math_bits_deBruijn32tab), ("math/bits.deBruijn64tab", Rows.laid_math_bits_deBruijn64tab), ("internal/strconv.uint64pow10", Rows.laid_internal_strconv_uint64pow10), ("unicode/utf8.acceptRanges", Rows.laid_unicode_utf8_acceptRanges), ("strconv.ErrRange", Rows.laid_strconv_ErrRange), ("strconv.ErrSyntax", Rows.laid_strconv_ErrSyntax), ("pointsman/lex.signs", Rows.laid_pointsman_lex_signs), ("unicode/utf8.first", Rows.laid_unicode_utf8_first)]
theorem door_met (os : Os) (args : Array Value) : laidMetH Tryz.prog laidB ((World.laidAll Tryz.prog os laidB).forCall (fun _ _ => 0) ⟨#[], args, []⟩).memory := by
  rw [MakeChecks.laidMetH_plain _ _ _ (by kernel_rfl)]
  exact laidMet_laidAll _ (by kernel_rfl) (by kernel_rfl)
theorem of_laid {W : World} (h : laidMetH Tryz.prog laidB W) : Ls W := by
  rw [MakeChecks.laidMetH_plain _ _ _ (by kernel_rfl)] at h
  obtain ⟨ps, ⟨g0, t0, cs0, f0, p0, q0, hg0, ht0, hv0, hd0, ⟨g1, t1, cs1, f1, p1, q1, hg1, ht1, hv1, hd1, ⟨g2, t2, cs2, f2, p2, q2, hg2, ht2, hv2, hd2, ⟨g3, t3, cs3, f3, p3, q3, hg3, ht3, hv3, hd3, ⟨g4, t4, cs4, f4, p4, q4, hg4, ht4, hv4, hd4, ⟨g5, t5, cs5, f5, p5, q5, hg5, ht5, hv5, hd5, ⟨g6, t6, cs6, f6, p6, q6, hg6, ht6, hv6, hd6, _, _⟩, _⟩, _⟩, _⟩, _⟩, _⟩, _⟩, _, _⟩ := h
  obtain rfl := Option.some.inj (gTabV.symm.trans hg1)
  obtain rfl := Option.some.inj (tTabV.symm.trans ht1)
  obtain rfl := Option.some.inj (gPow.symm.trans hg2)
  obtain rfl := Option.some.inj (tPowV.symm.trans ht2)
  obtain rfl := Option.some.inj (gErV.symm.trans hg4)
  obtain rfl := Option.some.inj (tErV.symm.trans ht4)
  obtain rfl := Option.some.inj (gEsV.symm.trans hg5)
  obtain rfl := Option.some.inj (tEsV.symm.trans ht5)
  obtain rfl := Option.some.inj (gSg.symm.trans hg6)
  obtain rfl := Option.some.inj (tSg.symm.trans ht6)
  refine ⟨⟨table_atN Tryz.underlying380 Tryz.underlying5 cellsYV hg1 hv1 hd1 (by decide) rfl, ?_, iface_cell Tryz.underlying316 hg5 hv5 hd5, iface_cell Tryz.underlying316 hg4 hv4 hd4⟩, fun j v hj => ?_⟩
  · have := Lib.cells_of_tab (zs := Lib.pow10Tab) Tryz.underlying353 Tryz.underlying64 cU64V cPowV hd2
    unfold Lib.TabIs
    rw [hv2, ← this]
  · have hlt : j < 27 := by have := (List.getElem?_eq_some_iff.1 hj).1; rw [sgL_len] at this; exact this
    rw [sgL_at j hlt] at hj
    injection hj with hj
    subst hj
    rw [laidSg] at hd6
    rw [Nat.zero_add]
    exact table_strN Tryz.underlying322 Tryz.underlying9 cSg hg6 hv6 hd6 hlt (laidSg_at j hlt)
end Go.Proofs.YtfanhdjebmdniaaGreatDoor
