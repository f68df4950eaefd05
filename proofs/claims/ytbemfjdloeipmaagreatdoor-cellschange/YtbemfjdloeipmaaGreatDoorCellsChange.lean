/- Proved: pointsmanlaw14.CellsChange, called with any array, any two numbers and any tick, returns true and leaves its arguments as they were; what is laid is tied to the program's text. -/
import Derived.Test.YtbemfjdloeipmaaGreatDoorCards
import Derived.Test.YtbemfjdloeipmaaGreatDoorTie
import Derived.Test.YtbemfjdloeipmaaGreatDoorM6
import Derived.Test.YtbemfjdloeipmaaGreatDoorM45
import Derived.ProofKit
import Derived.OpenShut
import Derived.ChangeOld
import Derived.LaidMore
import Derived.Stop.Joined
import Derived.SevenTiedAt
namespace Go.Proofs.YtbemfjdloeipmaaGreatDoor
open Go.ChangeShapes Go.WideShapes Go.ChangeAt Go.RowKit

def laidB : List (String × DataW Unit) := [("math/bits.deBruijn32tab", Rows.laid_math_bits_deBruijn32tab), ("math/bits.deBruijn64tab", Rows.laid_math_bits_deBruijn64tab), ("internal/strconv.uint64pow10", Rows.laid_internal_strconv_uint64pow10)]
theorem door_met (os : Os) (args : Array Value) : laidMetH Tryz.prog laidB ((World.doorLaid Tryz.prog 24 os).forCall (fun _ _ => 0) ⟨#[], args, []⟩).memory :=
  laidMetH_of_parts3 (fuel := 8) (laidMet_of_run' 8 (by kernel_rfl) (by kernel_rfl)) (by kernel_rfl) (by kernel_rfl)
theorem cells2 : Tryz.prog.cellsOf 30 = 6 := by kernel_rfl
set_option maxRecDepth 100000 in
theorem bit_of {H : Type} {enc : TypeId × Value → H} {W : World} {base fuel : Nat} {cs : List Value} {x : DataW H × List MemPlace} (h : DataW.trod enc Tryz.prog W base (fun _ => true) true fuel 29 cs = some x) : ∃ y : Nb, cs = y.cells ∧ NbR y := by
  obtain ⟨xs, n, _, _, hl0, hl, hf⟩ := DataW.trod_struct Tryz.underlying29 h
  rw [cellsNb] at hl0
  obtain ⟨a, b, c, rfl⟩ := three hl0
  have hl' : xs.length = 3 := hl
  have h0 : DataW.trod enc Tryz.prog W base (fun _ => true) true n 3 (([a, b, c].drop 0).take (Tryz.prog.cellsOf 3)) = xs[0]? := hf 0 _ rfl
  rw [cellsIn] at h0
  replace h0 : DataW.trod enc Tryz.prog W base (fun _ => true) true n 3 [a] = xs[0]? := h0
  have h1 : DataW.trod enc Tryz.prog W base (fun _ => true) true n 27 (([a, b, c].drop 1).take (Tryz.prog.cellsOf 27)) = xs[1]? := hf 1 _ rfl
  rw [cellsUl] at h1
  replace h1 : DataW.trod enc Tryz.prog W base (fun _ => true) true n 27 [b] = xs[1]? := h1
  have h2 : DataW.trod enc Tryz.prog W base (fun _ => true) true n 27 (([a, b, c].drop 2).take (Tryz.prog.cellsOf 27)) = xs[2]? := hf 2 _ rfl
  rw [cellsUl] at h2
  replace h2 : DataW.trod enc Tryz.prog W base (fun _ => true) true n 27 [c] = xs[2]? := h2
  rw [List.getElem?_eq_getElem (show 0 < xs.length by omega)] at h0
  rw [List.getElem?_eq_getElem (show 1 < xs.length by omega)] at h1
  rw [List.getElem?_eq_getElem (show 2 < xs.length by omega)] at h2
  obtain ⟨p, q0, _, w0⟩ := DataW.trod_int Tryz.underlying3 h0
  obtain ⟨q, q1, _, w1⟩ := DataW.trod_int Tryz.underlying27 h1
  obtain ⟨r, q2, _, w2⟩ := DataW.trod_int Tryz.underlying27 h2
  simp at q0 q1 q2
  subst q0 q1 q2
  exact ⟨⟨p, q, r⟩, rfl, ⟨intE w0, wordE w1, wordE w2⟩⟩
set_option maxRecDepth 100000 in
theorem two_of {H : Type} {enc : TypeId × Value → H} {W : World} {base fuel : Nat} {cs : List Value} {x : DataW H × List MemPlace} (h : DataW.trod enc Tryz.prog W base (fun _ => true) true fuel 30 cs = some x) : ∃ i v : Nb, cs = [.int .i64 i.w, .int .u64 i.hi, .int .u64 i.lo, .int .i64 v.w, .int .u64 v.hi, .int .u64 v.lo] ∧ NbR i ∧ NbR v := by
  obtain ⟨xs, m, _, _, hc, hl, hel⟩ := DataW.trod_array Tryz.underlying30 h
  rw [cells2] at hc
  have e0 := hel 0 (by omega)
  have e1 := hel 1 (by omega)
  rw [cellsNb] at e0 e1
  rw [List.getElem?_eq_getElem (show 0 < xs.length by omega)] at e0
  rw [List.getElem?_eq_getElem (show 1 < xs.length by omega)] at e1
  obtain ⟨i, hi, ri⟩ := bit_of e0
  obtain ⟨v, hv, rv⟩ := bit_of e1
  refine ⟨i, v, ?_, ri, rv⟩
  match cs, hc with
  | [a, b, c, d, e, f], _ =>
    simp [Nb.cells] at hi hv
    obtain ⟨rfl, rfl, rfl⟩ := hi
    obtain ⟨rfl, rfl, rfl⟩ := hv
    rfl
set_option maxRecDepth 100000 in
theorem cellsChange_lifted (os : Os) (started : os.Started) (H : Type) (enc : TypeId × Value → H) :
    ReturnsInHanded {} Tryz.checked os 3 .any (fun w args => (Rows.cellsChangeSpec.pre enc Tryz.prog Tryz.f3 [] false w args ∧ laidMetH Tryz.prog laidB w) ∧ sizedMet enc Tryz.prog Tryz.f3 (OpenSpec.ofChange Rows.cellsChangeSpec) false w args)
      (Rows.cellsChangeSpec.post enc Tryz.prog Tryz.f3 false true false false) := by
  refine returnsInHanded_of_change_and (C := Tryz.checked) (X := fun w _ => laidMetH Tryz.prog laidB w) (fun _ _ _ hh h => h.of_heap hh) ownE started (by kernel_rfl) Tryz.func3
    (ChangeSpec.witness_shaped (enc := enc) (C := Tryz.checked) (os := os) (X := fun w _ => laidMetH Tryz.prog laidB w) false (World.doorLaid Tryz.prog 24 os) #[.agg #[.string ⟨#[]⟩, .int .u8 0, .int .i64 0, .int .i64 0, .int .i64 0, .slice none 0 0, .slice none 0 0], .agg #[.int .i64 0, .int .u64 0, .int .u64 0, .int .i64 0, .int .u64 0, .int .u64 0], .int .i64 0] 8 rfl (World.shaped_of_RefB (by kernel_rfl) (by kernel_rfl)) (by kernel_rfl) (by kernel_rfl) (by kernel_rfl) (door_met os _)) ?_
  intro W base args ds gs before hval0 hW _ hsz _ _
  have hval : ∀ (j : Nat) t v, Tryz.f3.params[j]? = some t → args[j]? = some v → Value.okWide Tryz.prog W .any base t v := hval0
  have hW' := hW
  obtain ⟨p, q, hA0, hV, rfl, hfz, hnd⟩ := hW
  have hA : DataW.TrodAll enc Tryz.prog W 0 (fun _ => true) true Tryz.f3.params.toList args.toList ds p := hA0
  rw [Tryz.params3] at hA hval
  obtain ⟨v0, v1, v2, d0, d1, d2, p0, p1, p2, rfl, rfl, rfl, h0, h1, h2⟩ := trodAll_three hA
  obtain ⟨rfl, rfl⟩ := trodVars_none hV
  have k0 := h0
  have lt0 : ∀ x ∈ p0, x.block < W.heap.size := by obtain ⟨m, hm⟩ := k0; exact DataW.trod_lt m _ _ _ hm
  have k1 := h1
  have lt1 : ∀ x ∈ p1, x.block < W.heap.size := by obtain ⟨m, hm⟩ := k1; exact DataW.trod_lt m _ _ _ hm
  have k2 := h2
  have lt2 : ∀ x ∈ p2, x.block < W.heap.size := by obtain ⟨m, hm⟩ := k2; exact DataW.trod_lt m _ _ _ hm
  have hsz' := hsz
  rw [Tryz.params3] at hsz'
  obtain ⟨cs, rfl, _⟩ := okWide_struct Tryz.underlying26 (hval 0 26 v0 rfl rfl)
  obtain ⟨fuel0, hf0⟩ := h0
  obtain ⟨fuel1, hf1⟩ := h1
  obtain ⟨fuel2, hf2⟩ := h2
  obtain ⟨x, hxc, hx, hn, _, hln⟩ := open_ar hf0 (fun n hn => of_decide_eq_true (List.all_eq_true.1 hsz' n (DataW.weights_mem_each (j := 0) rfl rfl n hn)))
  obtain ⟨i, v, hic, hi, hv⟩ := two_of hf1
  obtain ⟨now, hnc, _, wnow⟩ := DataW.trod_int Tryz.underlying3 hf2
  have e0 : cs = x.cells.toArray := Array.toList_inj.1 hxc
  have hnow := intE wnow
  have e1 : v1 = .agg #[.int .i64 i.w, .int .u64 i.hi, .int .u64 i.lo, .int .i64 v.w, .int .u64 v.hi, .int .u64 v.lo] := by
    have hok := hval 1 30 v1 rfl rfl
    simp only [Value.okWide, Tryz.underlying30] at hok
    obtain ⟨c1, rfl, _⟩ := hok
    have : c1.toList = _ := hic
    rw [show c1 = c1.toList.toArray by simp, this]
  have e2 : v2 = .int .i64 now := by
    obtain ⟨n2, rfl⟩ := okWide_int Tryz.underlying3 (hval 2 3 v2 rfl rfl)
    simp [Value.cells] at hnc
    rw [hnc]
  subst e0 e1 e2
  clear hA0 hval0
  have run : Calls Tryz.prog 3 #[.agg x.cells.toArray, .agg #[.int .i64 i.w, .int .u64 i.hi, .int .u64 i.lo, .int .i64 v.w, .int .u64 v.hi, .int .u64 v.lo], .int .i64 now] W fun e w' => e = .returned (.bool true) ∧ Below W.heap.size W w' := cellsChange_any x i v now W hx hln hi hv hnow.2 hn
  refine run.mono fun e W' ⟨he, bel⟩ => ?_
  subst he
  exact ⟨_, rfl, _, _, _, [], _, [], hW', trodAll_mk1 (shut_bool Tryz.underlying4 _), trodAll_mk3 (Below.trod laidOutE (by kernel_rfl) (of_decide_eq_true (by kernel_rfl)) k0 bel lt0) (Below.trod laidOutE (by kernel_rfl) (of_decide_eq_true (by kernel_rfl)) k1 bel lt1) (Below.trod laidOutE (by kernel_rfl) (of_decide_eq_true (by kernel_rfl)) k2 bel lt2), rfl, bel.frame _, fun h => by cases h⟩
theorem cellsChange_row : Rows.CellsChangeSaid :=
  OpenClaim.holds_of_wide 3 Tryz.f3 rfl rfl rfl rfl rfl rfl rfl ⟨rfl, rfl, rfl, rfl, rfl⟩ rfl rfl rfl rfl rfl (by kernel_rfl) Tryz.func3 (by kernel_rfl)
    (of_decide_eq_true (by kernel_rfl)) (by unfold Func.isWrapper; first | (rw [if_pos (by decide +kernel)]; kernel_rfl) | (rw [if_neg (by decide +kernel)]; exact ⟨rfl, rfl⟩))
    (fun os started H enc _ => cellsChange_lifted os started H enc)
theorem cellsChange_holds : Rows.CellsChangeCardSaid :=
  Claim7.holds_tied_plain_at .later [] [.data, .data, .data] true (true, "e1a4ee659769875bfbfc10f20e896c68690637338f9d0ee40d0acbc530e340a9") false
    cellsChange_row (fun _ h => by cases h) (by kernel_rfl) (fun _ h => by cases h) cellsChange_row_tie rfl ⟨rfl, rfl⟩ (by kernel_rfl) rfl
    (fun f fn hf hfn => by
      obtain rfl : f = 3 := Option.some.inj ((show Tryz.prog.funcNamed "pointsman/pointsmanlaw14.CellsChange" = some 3 by kernel_rfl).symm.trans hf) |>.symm
      obtain rfl : fn = Tryz.f3 := (Option.some.inj (Tryz.func3.symm.trans hfn)).symm
      exact ⟨by kernel_rfl, fun j t ht => by
        rw [Tryz.params3] at ht
        have hm : t ∈ [26, 30, 3] := by simpa using Array.mem_of_getElem? ht
        have hall : ([26, 30, 3].all fun u => !Tryz.prog.wantsStandIn u) = true := by kernel_rfl
        exact (show Tryz.prog.wantsStandIn t = false by simpa using List.all_eq_true.1 hall t hm)⟩)
    (by kernel_rfl)
#print axioms cellsChange_holds
end Go.Proofs.YtbemfjdloeipmaaGreatDoor
