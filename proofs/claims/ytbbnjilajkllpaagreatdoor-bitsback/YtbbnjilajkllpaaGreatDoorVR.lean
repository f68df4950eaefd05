/- Rows: a number opened; what is laid, read. -/
import Derived.Test.YtbbnjilajkllpaaGreatDoorRows
import Derived.Test.YtbbnjilajkllpaaGreatDoorUB
import Derived.ProofKit
import Derived.LaidMore
import Derived.LaidLaws
import Derived.SizedLaws
import Derived.OpenShut
import Derived.ChangeOld
import Derived.ChangeSlices
import Derived.ChangeMaps5
import Derived.Stop.Joined
import Derived.Test.YtbbnjilajkllpaaGreatDoorVals
namespace Go.Proofs.YtbbnjilajkllpaaGreatDoor
open Go.ChangeShapes Go.WideShapes Go.ChangeAt Go.RowKit

theorem ownV : ownKnob Tryz.prog.godebug = none := by kernel_rfl
theorem laidOutV : laidOutB Tryz.prog = true := by kernel_rfl
theorem cellsYV : Tryz.prog.cellsOf 5 = 1 := by kernel_rfl
theorem words_ofV {hi lo : Int} (a0 : 0 ≤ hi) (a1 : hi < 18446744073709551616) (b0 : 0 ≤ lo) (b1 : lo < 18446744073709551616) : ∃ v, v < top ∧ hi = wHi v ∧ lo = wLo v := by
  refine ⟨(hi * 18446744073709551616 + lo).toNat, by unfold top; omega, by unfold wHi; omega, by unfold wLo; omega⟩
/- a variable that holds an error. -/
theorem iface_cell {P : Program} {W : World} {g fuel : Nat} {nm name : String} {cs : Array Value} {d : DataW Unit} {p : List MemPlace} {ti : TypeId} {ms : Array (String × TypeId)} (hi : P.underlying ti = some (.interface ms))
    (hg : P.globalNamed nm = some g) (hv : W.var? P nm = some cs) (hd : DataW.trod (fun _ => ()) P W 0 (fun _ => true) false fuel ti cs.toList = some (.iface name d, p)) : ∃ te pe, W.cell? ⟨g, 0, none⟩ = some (.iface te pe) := by
  obtain ⟨_, u, v, hcs, _, _⟩ := iface_of_trod hi hd
  refine ⟨u, v, ?_⟩
  rw [World.var?_cell hg hv 0, ← Array.getElem?_toList, hcs]
  rfl
theorem gTabV : Tryz.prog.globalNamed "math/bits.deBruijn64tab" = some 5 := by kernel_rfl
theorem tTabV : (Tryz.prog.globals[5]?).map (·.type) = some 118 := by kernel_rfl
theorem tPowV : (Tryz.prog.globals[0]?).map (·.type) = some 98 := by kernel_rfl
theorem cPowV : Tryz.prog.cellsOf 98 = 20 := by kernel_rfl
theorem cU64V : Tryz.prog.cellsOf 22 = 1 := by kernel_rfl
theorem gErV : Tryz.prog.globalNamed "strconv.ErrRange" = some 3 := by kernel_rfl
theorem gEsV : Tryz.prog.globalNamed "strconv.ErrSyntax" = some 2 := by kernel_rfl
theorem tErV : (Tryz.prog.globals[3]?).map (·.type) = some 72 := by kernel_rfl
theorem tEsV : (Tryz.prog.globals[2]?).map (·.type) = some 72 := by kernel_rfl
theorem wordN {x : Int} (h : (Lit.int .u64 x).wf = true) : 0 ≤ x ∧ x < 18446744073709551616 := by
  simp [Lit.wf, IntKind.min, IntKind.max, IntKind.signed, IntKind.bits] at h
  exact ⟨by omega, by omega⟩
theorem cellsN3 : Tryz.prog.cellsOf 24 = 3 := by kernel_rfl
theorem cellsNI : Tryz.prog.cellsOf 3 = 1 := by kernel_rfl
theorem cellsNU : Tryz.prog.cellsOf 22 = 1 := by kernel_rfl
theorem threeN {cs : Array Value} (h : cs.size = 3) : ∃ a b c, cs = #[a, b, c] := by
  obtain ⟨l⟩ := cs
  match l, h with
  | [a, b, c], _ => exact ⟨a, b, c, rfl⟩
theorem some_atN {α : Type} {l : List α} {i : Nat} (h : i < l.length) : ∃ x, l[i]? = some x := ⟨_, List.getElem?_eq_getElem h⟩
theorem bits_cells {H : Type} {enc : TypeId × Value → H} {W : World} {base fuel : Nat} {spare : Nat → Bool} {held : Bool} {a b c : Value} {x : DataW H × List MemPlace} (h : DataW.trod enc Tryz.prog W base spare held fuel 24 [a, b, c] = some x) :
    ∃ n hi lo, a = .int .i64 n ∧ b = .int .u64 hi ∧ c = .int .u64 lo ∧ (0 ≤ hi ∧ hi < 18446744073709551616) ∧ (0 ≤ lo ∧ lo < 18446744073709551616) := by
  obtain ⟨xs, n, _, _, _, hl, hf⟩ := DataW.trod_struct Tryz.underlying24 h
  have hl' : xs.length = 3 := hl
  have h0 : DataW.trod enc Tryz.prog W base spare held n 3 (([a, b, c].drop 0).take (Tryz.prog.cellsOf 3)) = xs[0]? := hf 0 _ rfl
  rw [cellsNI] at h0
  replace h0 : DataW.trod enc Tryz.prog W base spare held n 3 [a] = xs[0]? := h0
  have h1 : DataW.trod enc Tryz.prog W base spare held n 22 (([a, b, c].drop 1).take (Tryz.prog.cellsOf 22)) = xs[1]? := hf 1 _ rfl
  rw [cellsNU] at h1
  replace h1 : DataW.trod enc Tryz.prog W base spare held n 22 [b] = xs[1]? := h1
  have h2 : DataW.trod enc Tryz.prog W base spare held n 22 (([a, b, c].drop 2).take (Tryz.prog.cellsOf 22)) = xs[2]? := hf 2 _ rfl
  rw [cellsNU] at h2
  replace h2 : DataW.trod enc Tryz.prog W base spare held n 22 [c] = xs[2]? := h2
  obtain ⟨x0, e0⟩ := some_atN (l := xs) (i := 0) (by omega)
  obtain ⟨x1, e1⟩ := some_atN (l := xs) (i := 1) (by omega)
  obtain ⟨x2, e2⟩ := some_atN (l := xs) (i := 2) (by omega)
  rw [e0] at h0
  rw [e1] at h1
  rw [e2] at h2
  obtain ⟨p, q0, _, w0⟩ := DataW.trod_int Tryz.underlying3 h0
  obtain ⟨q, q1, _, w1⟩ := DataW.trod_int Tryz.underlying22 h1
  obtain ⟨r, q2, _, w2⟩ := DataW.trod_int Tryz.underlying22 h2
  simp at q0 q1 q2
  exact ⟨p, q, r, q0, q1, q2, wordN w1, wordN w2⟩
/- One entry of a table of bytes that reads as a list of numbers. -/
theorem table_atN {P : Program} {t e : TypeId} {n i : Nat} {v : Int} (ht : P.underlying t = some (.array n e)) (he : P.underlying e = some (.int .u8)) (hc : P.cellsOf e = 1) {W : World} {g fuel : Nat} {nm : String} {cs : Array Value} {l : List (DataW Unit)} {p : List MemPlace}
    (hg : P.globalNamed nm = some g) (hv : W.var? P nm = some cs) (hd : DataW.trod (fun _ => ()) P W 0 (fun _ => true) false fuel t cs.toList = some (.agg l, p)) (hi : i < n) (hl : l[i]? = some (.lit (.int .u8 v))) : W.cell? ⟨g, i, none⟩ = some (.int .u8 v) := by
  obtain ⟨xs, m, rfl, hx, hlen, hn, hel⟩ := DataW.trod_array ht hd
  have h15 := hel i hi
  rw [hc] at h15
  obtain ⟨y, ey⟩ := some_atN (l := xs) (i := i) (by omega)
  rw [ey] at h15
  obtain ⟨k, e1, e2, _⟩ := DataW.trod_int he h15
  have hx' := congrArg Prod.fst hx
  simp only [DataW.agg.injEq] at hx'
  have h2 : (xs.map (·.1))[i]? = some y.1 := by rw [List.getElem?_map, ey]; rfl
  rw [← hx', hl, e2] at h2
  simp at h2
  subst h2
  rw [World.var?_cell hg hv i, ← Array.getElem?_toList]
  have := congrArg (fun l => l[0]?) e1
  simpa [List.getElem?_take, List.getElem?_drop] using this

end Go.Proofs.YtbbnjilajkllpaaGreatDoor
