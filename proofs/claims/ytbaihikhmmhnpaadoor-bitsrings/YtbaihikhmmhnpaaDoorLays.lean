/- The laid tables that the laws of bits with a card ask for, and what the walks take of them; a pair of words opened. -/
import Derived.Test.YtbaihikhmmhnpaaDoorRows
import Derived.Test.YtbaihikhmmhnpaaDoorAlive
import Derived.ProofKit
import Derived.LaidMore
import Derived.OpenShut
import Derived.ChangeOld
import Derived.Stop.Joined
namespace Go.Proofs.YtbaihikhmmhnpaaDoor
open Go.ChangeShapes Go.WideShapes Go.ChangeAt Go.RowKit

theorem ownD : ownKnob Tryd.prog.godebug = none := by kernel_rfl
theorem laidOutD : laidOutB Tryd.prog = true := by kernel_rfl
theorem wordD {x : Int} (h : (Lit.int .u64 x).wf = true) : 0 ≤ x ∧ x < 18446744073709551616 := by
  simp [Lit.wf, IntKind.min, IntKind.max, IntKind.signed, IntKind.bits] at h
  exact ⟨by omega, by omega⟩
theorem byteD {x : Int} (h : (Lit.int .u8 x).wf = true) : 0 ≤ x ∧ x < 256 := by
  simp [Lit.wf, IntKind.min, IntKind.max, IntKind.signed, IntKind.bits] at h
  exact ⟨by omega, by omega⟩
theorem cellsU : Tryd.prog.cellsOf 22 = 1 := by kernel_rfl
theorem cellsY : Tryd.prog.cellsOf 5 = 1 := by kernel_rfl
theorem cellsP : Tryd.prog.cellsOf 23 = 2 := by kernel_rfl
theorem some_at {α : Type} {l : List α} {i : Nat} (h : i < l.length) : ∃ x, l[i]? = some x := ⟨l[i], List.getElem?_eq_getElem h⟩
theorem okWide_array {P : Program} {w : World} {r : Reach} {base : Nat} {t : TypeId} {v : Value} {n : Nat} {e : TypeId} (ht : P.underlying t = some (.array n e)) (h : Value.okWide P w r base t v) : ∃ cs, v = .agg cs ∧ cs.size = P.cellsOf t := by
  simp only [Value.okWide, ht] at h
  obtain ⟨cs, h1, h2, _⟩ := h
  exact ⟨cs, h1, h2⟩
theorem twoC {cs : Array Value} (h : cs.size = 2) : ∃ a b, cs = #[a, b] := by
  obtain ⟨l⟩ := cs
  match l, h with
  | [a, b], _ => exact ⟨a, b, rfl⟩
theorem pair_opened {P : Program} {t e : TypeId} (ht : P.underlying t = some (.array 2 e)) (he : P.underlying e = some (.int .u64)) (hc : P.cellsOf e = 1) {H : Type} {enc : TypeId × Value → H} {W : World} {base fuel : Nat} {spare : Nat → Bool} {held : Bool} {a b : Value} {x : DataW H × List MemPlace} (h : DataW.trod enc P W base spare held fuel t [a, b] = some x) :
    ∃ hi lo, a = .int .u64 hi ∧ b = .int .u64 lo ∧ (0 ≤ hi ∧ hi < 18446744073709551616) ∧ (0 ≤ lo ∧ lo < 18446744073709551616) := by
  obtain ⟨xs, n, _, _, _, hl, hf⟩ := DataW.trod_array ht h
  have h0 := hf 0 (by decide)
  have h1 := hf 1 (by decide)
  rw [hc] at h0 h1
  obtain ⟨x0, e0⟩ := some_at (l := xs) (i := 0) (by omega)
  obtain ⟨x1, e1⟩ := some_at (l := xs) (i := 1) (by omega)
  rw [e0] at h0
  rw [e1] at h1
  obtain ⟨p, q0, _, w0⟩ := DataW.trod_int he h0
  obtain ⟨q, q1, _, w1⟩ := DataW.trod_int he h1
  simp at q0 q1
  exact ⟨p, q, q0, q1, wordD w0, wordD w1⟩
theorem pair_cells {H : Type} {enc : TypeId × Value → H} {W : World} {base fuel : Nat} {spare : Nat → Bool} {held : Bool} {a b : Value} {x : DataW H × List MemPlace} (h : DataW.trod enc Tryd.prog W base spare held fuel 23 [a, b] = some x) :
    ∃ hi lo, a = .int .u64 hi ∧ b = .int .u64 lo ∧ (0 ≤ hi ∧ hi < 18446744073709551616) ∧ (0 ≤ lo ∧ lo < 18446744073709551616) := pair_opened Tryd.underlying23 Tryd.underlying22 cellsU h
/- One entry of a table of bytes that reads as a list of numbers. -/
theorem table_at {P : Program} {t e : TypeId} {n i : Nat} {v : Int} (ht : P.underlying t = some (.array n e)) (he : P.underlying e = some (.int .u8)) (hc : P.cellsOf e = 1) {W : World} {g fuel : Nat} {nm : String} {cs : Array Value} {l : List (DataW Unit)} {p : List MemPlace}
    (hg : P.globalNamed nm = some g) (hv : W.var? P nm = some cs) (hd : DataW.trod (fun _ => ()) P W 0 (fun _ => true) false fuel t cs.toList = some (.agg l, p)) (hi : i < n) (hl : l[i]? = some (.lit (.int .u8 v))) : W.cell? ⟨g, i, none⟩ = some (.int .u8 v) := by
  obtain ⟨xs, m, rfl, hx, hlen, hn, hel⟩ := DataW.trod_array ht hd
  have h15 := hel i hi
  rw [hc] at h15
  obtain ⟨y, ey⟩ := some_at (l := xs) (i := i) (by omega)
  rw [ey] at h15
  obtain ⟨k, e1, e2, _⟩ := DataW.trod_int he h15
  have hx' := congrArg Prod.fst hx
  simp only [DataW.agg.injEq] at hx'
  have h2 : (xs.map (·.1))[i]? = some y.1 := by rw [List.getElem?_map, ey]; rfl
  rw [← hx', hl, e2] at h2
  simp at h2
  subst h2
  rw [World.var?_cell hg hv i, ← Array.getElem?_toList]
  have := congrArg (fun l => l[0]?) e1
  simpa [List.getElem?_take, List.getElem?_drop] using this

theorem gTab : Tryd.prog.globalNamed "math/bits.deBruijn64tab" = some 3 := by kernel_rfl
theorem tTab : (Tryd.prog.globals[3]?).map (·.type) = some 105 := by kernel_rfl
def laidB : List (String × DataW Unit) := [("math/bits.deBruijn32tab", Rows.laid_math_bits_deBruijn32tab), ("math/bits.deBruijn64tab", Rows.laid_math_bits_deBruijn64tab), ("internal/strconv.uint64pow10", Rows.laid_internal_strconv_uint64pow10)]
theorem door_met (os : Os) (args : Array Value) : laidMetH Tryd.prog laidB ((World.doorLaid Tryd.prog 24 os).forCall (fun _ _ => 0) ⟨#[], args, []⟩).memory :=
  laidMetH_of_parts3 (fuel := 8) (laidMet_of_run' 8 (by kernel_rfl) (by kernel_rfl)) (by kernel_rfl) (by kernel_rfl)
theorem of_laid {W : World} (h : laidMetH Tryd.prog laidB W) : W.cell? ⟨3, 15, none⟩ = some (.int .u8 4) := by
  rw [MakeChecks.laidMetH_plain _ _ _ (by kernel_rfl)] at h
  obtain ⟨ps, ⟨g0, t0, cs0, f0, p0, q0, hg0, ht0, hv0, hd0, ⟨g1, t1, cs1, f1, p1, q1, hg1, ht1, hv1, hd1, _, _⟩, _⟩, _, _⟩ := h
  obtain rfl := Option.some.inj (gTab.symm.trans hg1)
  obtain rfl := Option.some.inj (tTab.symm.trans ht1)
  exact table_at Tryd.underlying105 Tryd.underlying5 cellsY hg1 hv1 hd1 (by decide) rfl
end Go.Proofs.YtbaihikhmmhnpaaDoor
