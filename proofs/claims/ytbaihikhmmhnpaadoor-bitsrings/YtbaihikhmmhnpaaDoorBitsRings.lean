/- Proved: pointsmanlaw01.BitsRings, called with any width and any three numbers, returns true and leaves its argument as it was; what is laid is tied to the program's text. -/
import Derived.Test.YtbaihikhmmhnpaaDoorCards
import Derived.Test.YtbaihikhmmhnpaaDoorTie
import Derived.Test.YtbaihikhmmhnpaaDoorLays
import Derived.Test.YtbaihikhmmhnpaaDoorRgE
import Derived.SevenTiedAt
namespace Go.Proofs.YtbaihikhmmhnpaaDoor
open Go.ChangeShapes Go.WideShapes Go.ChangeAt Go.RowKit

theorem cellsT : Tryd.prog.cellsOf 25 = 7 := by kernel_rfl
theorem cellsI : Tryd.prog.cellsOf 3 = 1 := by kernel_rfl
theorem sevenC {cs : Array Value} (h : cs.size = 7) : ∃ a b c d e f g, cs = #[a, b, c, d, e, f, g] := by
  obtain ⟨l⟩ := cs
  match l, h with
  | [a, b, c, d, e, f, g], _ => exact ⟨a, b, c, d, e, f, g, rfl⟩
theorem three_cells {H : Type} {enc : TypeId × Value → H} {W : World} {base fuel : Nat} {spare : Nat → Bool} {held : Bool} {c0 c1 c2 c3 c4 c5 c6 : Value} {x : DataW H × List MemPlace} (h : DataW.trod enc Tryd.prog W base spare held fuel 25 [c0, c1, c2, c3, c4, c5, c6] = some x) :
    ∃ n x0 x1 y0 y1 z0 z1, c0 = .int .i64 n ∧ c1 = .int .u64 x0 ∧ c2 = .int .u64 x1 ∧ c3 = .int .u64 y0 ∧ c4 = .int .u64 y1 ∧ c5 = .int .u64 z0 ∧ c6 = .int .u64 z1 ∧
      (0 ≤ x0 ∧ x0 < 18446744073709551616) ∧ (0 ≤ x1 ∧ x1 < 18446744073709551616) ∧ (0 ≤ y0 ∧ y0 < 18446744073709551616) ∧ (0 ≤ y1 ∧ y1 < 18446744073709551616) ∧ (0 ≤ z0 ∧ z0 < 18446744073709551616) ∧ (0 ≤ z1 ∧ z1 < 18446744073709551616) := by
  obtain ⟨xs, k, _, _, _, hl, hf⟩ := DataW.trod_struct Tryd.underlying25 h
  have hl' : xs.length = 4 := hl
  have h0 : DataW.trod enc Tryd.prog W base spare held k 3 (([c0, c1, c2, c3, c4, c5, c6].drop 0).take (Tryd.prog.cellsOf 3)) = xs[0]? := hf 0 _ rfl
  rw [cellsI] at h0
  replace h0 : DataW.trod enc Tryd.prog W base spare held k 3 [c0] = xs[0]? := h0
  have h1 : DataW.trod enc Tryd.prog W base spare held k 23 (([c0, c1, c2, c3, c4, c5, c6].drop 1).take (Tryd.prog.cellsOf 23)) = xs[1]? := hf 1 _ rfl
  rw [cellsP] at h1
  replace h1 : DataW.trod enc Tryd.prog W base spare held k 23 [c1, c2] = xs[1]? := h1
  have h2 : DataW.trod enc Tryd.prog W base spare held k 23 (([c0, c1, c2, c3, c4, c5, c6].drop 3).take (Tryd.prog.cellsOf 23)) = xs[2]? := hf 2 _ rfl
  rw [cellsP] at h2
  replace h2 : DataW.trod enc Tryd.prog W base spare held k 23 [c3, c4] = xs[2]? := h2
  have h3 : DataW.trod enc Tryd.prog W base spare held k 23 (([c0, c1, c2, c3, c4, c5, c6].drop 5).take (Tryd.prog.cellsOf 23)) = xs[3]? := hf 3 _ rfl
  rw [cellsP] at h3
  replace h3 : DataW.trod enc Tryd.prog W base spare held k 23 [c5, c6] = xs[3]? := h3
  obtain ⟨q0, e0⟩ := some_at (l := xs) (i := 0) (by omega)
  obtain ⟨q1, e1⟩ := some_at (l := xs) (i := 1) (by omega)
  obtain ⟨q2, e2⟩ := some_at (l := xs) (i := 2) (by omega)
  obtain ⟨q3, e3⟩ := some_at (l := xs) (i := 3) (by omega)
  rw [e0] at h0
  rw [e1] at h1
  rw [e2] at h2
  rw [e3] at h3
  obtain ⟨n, p0, _, _⟩ := DataW.trod_int Tryd.underlying3 h0
  obtain ⟨x0, x1, rfl, rfl, r0, r1⟩ := pair_cells h1
  obtain ⟨y0, y1, rfl, rfl, r2, r3⟩ := pair_cells h2
  obtain ⟨z0, z1, rfl, rfl, r4, r5⟩ := pair_cells h3
  simp at p0
  exact ⟨n, x0, x1, y0, y1, z0, z1, p0, rfl, rfl, rfl, rfl, rfl, rfl, r0, r1, r2, r3, r4, r5⟩

set_option maxRecDepth 100000 in
theorem bitsRings_lifted (os : Os) (started : os.Started) (H : Type) (enc : TypeId × Value → H) :
    ReturnsInHanded {} Tryd.checked os 3 .any (fun w args => (Rows.bitsRingsSpec.pre enc Tryd.prog Tryd.f3 [] false w args ∧ laidMetH Tryd.prog laidB w) ∧ sizedMet enc Tryd.prog Tryd.f3 (OpenSpec.ofChange Rows.bitsRingsSpec) false w args)
      (Rows.bitsRingsSpec.post enc Tryd.prog Tryd.f3 false true false false) := by
  refine returnsInHanded_of_change_and (C := Tryd.checked) (X := fun w _ => laidMetH Tryd.prog laidB w) (fun _ _ _ hh h => h.of_heap hh) ownD started (by kernel_rfl) Tryd.func3
    (ChangeSpec.witness_shaped (enc := enc) (C := Tryd.checked) (os := os) (X := fun w _ => laidMetH Tryd.prog laidB w) false (World.doorLaid Tryd.prog 24 os) #[.agg #[.int .i64 0, .int .u64 0, .int .u64 0, .int .u64 0, .int .u64 0, .int .u64 0, .int .u64 0]] 8 rfl (World.shaped_of_RefB (by kernel_rfl) (by kernel_rfl)) (by kernel_rfl) (by kernel_rfl) (by kernel_rfl) (door_met os _)) ?_
  intro W base args ds gs before hval0 hW _ _ hL _
  have hval : ∀ (j : Nat) t v, Tryd.f3.params[j]? = some t → args[j]? = some v → Value.okWide Tryd.prog W .any base t v := hval0
  have hW' := hW
  obtain ⟨p, q, hA0, hV, rfl, hfz, hnd⟩ := hW
  have hA : DataW.TrodAll enc Tryd.prog W 0 (fun _ => true) true Tryd.f3.params.toList args.toList ds p := hA0
  rw [Tryd.params3] at hA hval
  obtain ⟨v0, d0, rfl, rfl, h0⟩ := trodAll_one hA
  obtain ⟨rfl, rfl⟩ := trodVars_none hV
  obtain ⟨cs, rfl, hsz⟩ := okWide_struct Tryd.underlying25 (hval 0 25 v0 rfl rfl)
  obtain ⟨c0, c1, c2, c3, c4, c5, c6, rfl⟩ := sevenC (hsz.trans cellsT)
  have k0 := h0
  have lt0 : ∀ x ∈ p, x.block < W.heap.size := by obtain ⟨m, hm⟩ := k0; exact DataW.trod_lt m _ _ _ hm
  obtain ⟨fuel, hf⟩ := h0
  obtain ⟨n, x0, x1, y0, y1, z0, z1, rfl, rfl, rfl, rfl, rfl, rfl, rfl, r0, r1, r2, r3, r4, r5⟩ := three_cells (by simpa [Value.cells] using hf)
  have hL' := of_laid hL
  clear hA0 hval0
  refine (rg_all n x0 x1 y0 y1 z0 z1 W hL' r0 r1 r2 r3 r4 r5).mono fun e W' ⟨he, bel⟩ => ?_
  subst he
  exact ⟨_, rfl, _, _, _, [], _, [], hW', trodAll_mk1 (shut_bool Tryd.underlying4 _), trodAll_mk1 (Below.trod laidOutD (by kernel_rfl) (of_decide_eq_true (by kernel_rfl)) k0 bel lt0), rfl, bel.frame _, fun h => by cases h⟩
theorem bitsRings_row : Rows.BitsRingsSaid :=
  OpenClaim.holds_of_wide 3 Tryd.f3 rfl rfl rfl rfl rfl rfl rfl ⟨rfl, rfl, rfl, rfl, rfl⟩ rfl rfl rfl rfl rfl (by kernel_rfl) Tryd.func3 (by kernel_rfl)
    (of_decide_eq_true (by kernel_rfl)) (by unfold Func.isWrapper; first | (rw [if_pos (by decide +kernel)]; kernel_rfl) | (rw [if_neg (by decide +kernel)]; exact ⟨rfl, rfl⟩))
    (fun os started H enc _ => bitsRings_lifted os started H enc)
theorem bitsRings_holds : Rows.BitsRingsCardSaid :=
  Claim7.holds_tied_plain_at .later [] [.data, .data, .data] true (true, "e9b4e88c39f9e4cbaf2fb47f98b82576b2b1dde52c42c522f3eec7bf70cbf1f4") false
    bitsRings_row (fun _ h => by cases h) (by kernel_rfl) (fun _ h => by cases h) bitsRings_row_tie rfl ⟨rfl, rfl⟩ (by kernel_rfl) rfl
    (fun f fn hf hfn => by
      obtain rfl : f = 3 := Option.some.inj ((show Tryd.prog.funcNamed "pointsman/pointsmanlaw01.BitsRings" = some 3 by kernel_rfl).symm.trans hf) |>.symm
      obtain rfl : fn = Tryd.f3 := (Option.some.inj (Tryd.func3.symm.trans hfn)).symm
      exact ⟨by kernel_rfl, fun j t ht => by
        rw [Tryd.params3] at ht
        have hm : t ∈ [25] := by simpa using Array.mem_of_getElem? ht
        have hall : ([25].all fun u => !Tryd.prog.wantsStandIn u) = true := by kernel_rfl
        exact (show Tryd.prog.wantsStandIn t = false by simpa using List.all_eq_true.1 hall t hm)⟩)
    (by kernel_rfl)
#print axioms bitsRings_holds
end Go.Proofs.YtbaihikhmmhnpaaDoor
