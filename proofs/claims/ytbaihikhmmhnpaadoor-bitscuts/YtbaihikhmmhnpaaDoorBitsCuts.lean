/- Proved: pointsmanlaw01.BitsCuts, called with any number, any place to cut it and any second number (such that may not be, too), returns true and leaves its arguments as they were; what is laid is tied to the program's text. -/
import Derived.Test.YtbaihikhmmhnpaaDoorCards
import Derived.Test.YtbaihikhmmhnpaaDoorTie
import Derived.Test.YtbaihikhmmhnpaaDoorLays
import Derived.Test.YtbaihikhmmhnpaaDoorCtE
import Derived.SevenTiedAt
namespace Go.Proofs.YtbaihikhmmhnpaaDoor
open Go.ChangeShapes Go.WideShapes Go.ChangeAt Go.RowKit

theorem cellsT : Tryd.prog.cellsOf 36 = 4 := by kernel_rfl
theorem cellsB : Tryd.prog.cellsOf 27 = 3 := by kernel_rfl
theorem cellsI : Tryd.prog.cellsOf 3 = 1 := by kernel_rfl
theorem threeC {cs : Array Value} (h : cs.size = 3) : ∃ a b c, cs = #[a, b, c] := by
  obtain ⟨l⟩ := cs
  match l, h with
  | [a, b, c], _ => exact ⟨a, b, c, rfl⟩
theorem fourC {cs : Array Value} (h : cs.size = 4) : ∃ a b c d, cs = #[a, b, c, d] := by
  obtain ⟨l⟩ := cs
  match l, h with
  | [a, b, c, d], _ => exact ⟨a, b, c, d, rfl⟩
theorem cut_cells {H : Type} {enc : TypeId × Value → H} {W : World} {base fuel : Nat} {spare : Nat → Bool} {held : Bool} {c0 c1 c2 c3 : Value} {x : DataW H × List MemPlace} (h : DataW.trod enc Tryd.prog W base spare held fuel 36 [c0, c1, c2, c3] = some x) :
    ∃ n x0 x1 t, c0 = .int .i64 n ∧ c1 = .int .u64 x0 ∧ c2 = .int .u64 x1 ∧ c3 = .int .i64 t ∧ (0 ≤ x0 ∧ x0 < 18446744073709551616) ∧ (0 ≤ x1 ∧ x1 < 18446744073709551616) := by
  obtain ⟨xs, k, _, _, _, hl, hf⟩ := DataW.trod_struct Tryd.underlying36 h
  have hl' : xs.length = 3 := hl
  have h0 : DataW.trod enc Tryd.prog W base spare held k 3 (([c0, c1, c2, c3].drop 0).take (Tryd.prog.cellsOf 3)) = xs[0]? := hf 0 _ rfl
  rw [cellsI] at h0
  replace h0 : DataW.trod enc Tryd.prog W base spare held k 3 [c0] = xs[0]? := h0
  have h1 : DataW.trod enc Tryd.prog W base spare held k 23 (([c0, c1, c2, c3].drop 1).take (Tryd.prog.cellsOf 23)) = xs[1]? := hf 1 _ rfl
  rw [cellsP] at h1
  replace h1 : DataW.trod enc Tryd.prog W base spare held k 23 [c1, c2] = xs[1]? := h1
  have h2 : DataW.trod enc Tryd.prog W base spare held k 3 (([c0, c1, c2, c3].drop 3).take (Tryd.prog.cellsOf 3)) = xs[2]? := hf 2 _ rfl
  rw [cellsI] at h2
  replace h2 : DataW.trod enc Tryd.prog W base spare held k 3 [c3] = xs[2]? := h2
  obtain ⟨q0, e0⟩ := some_at (l := xs) (i := 0) (by omega)
  obtain ⟨q1, e1⟩ := some_at (l := xs) (i := 1) (by omega)
  obtain ⟨q2, e2⟩ := some_at (l := xs) (i := 2) (by omega)
  rw [e0] at h0
  rw [e1] at h1
  rw [e2] at h2
  obtain ⟨n, p0, _, _⟩ := DataW.trod_int Tryd.underlying3 h0
  obtain ⟨x0, x1, rfl, rfl, r0, r1⟩ := pair_cells h1
  obtain ⟨t, p2, _, _⟩ := DataW.trod_int Tryd.underlying3 h2
  simp at p0 p2
  exact ⟨n, x0, x1, t, p0, rfl, rfl, p2, r0, r1⟩
theorem bits_cells {H : Type} {enc : TypeId × Value → H} {W : World} {base fuel : Nat} {spare : Nat → Bool} {held : Bool} {a b c : Value} {x : DataW H × List MemPlace} (h : DataW.trod enc Tryd.prog W base spare held fuel 27 [a, b, c] = some x) :
    ∃ n hi lo, a = .int .i64 n ∧ b = .int .u64 hi ∧ c = .int .u64 lo ∧ (0 ≤ hi ∧ hi < 18446744073709551616) ∧ (0 ≤ lo ∧ lo < 18446744073709551616) := by
  obtain ⟨xs, n, _, _, _, hl, hf⟩ := DataW.trod_struct Tryd.underlying27 h
  have hl' : xs.length = 3 := hl
  have h0 : DataW.trod enc Tryd.prog W base spare held n 3 (([a, b, c].drop 0).take (Tryd.prog.cellsOf 3)) = xs[0]? := hf 0 _ rfl
  rw [cellsI] at h0
  replace h0 : DataW.trod enc Tryd.prog W base spare held n 3 [a] = xs[0]? := h0
  have h1 : DataW.trod enc Tryd.prog W base spare held n 22 (([a, b, c].drop 1).take (Tryd.prog.cellsOf 22)) = xs[1]? := hf 1 _ rfl
  rw [cellsU] at h1
  replace h1 : DataW.trod enc Tryd.prog W base spare held n 22 [b] = xs[1]? := h1
  have h2 : DataW.trod enc Tryd.prog W base spare held n 22 (([a, b, c].drop 2).take (Tryd.prog.cellsOf 22)) = xs[2]? := hf 2 _ rfl
  rw [cellsU] at h2
  replace h2 : DataW.trod enc Tryd.prog W base spare held n 22 [c] = xs[2]? := h2
  obtain ⟨x0, e0⟩ := some_at (l := xs) (i := 0) (by omega)
  obtain ⟨x1, e1⟩ := some_at (l := xs) (i := 1) (by omega)
  obtain ⟨x2, e2⟩ := some_at (l := xs) (i := 2) (by omega)
  rw [e0] at h0
  rw [e1] at h1
  rw [e2] at h2
  obtain ⟨p, q0, _, w0⟩ := DataW.trod_int Tryd.underlying3 h0
  obtain ⟨q, q1, _, w1⟩ := DataW.trod_int Tryd.underlying22 h1
  obtain ⟨r, q2, _, w2⟩ := DataW.trod_int Tryd.underlying22 h2
  simp at q0 q1 q2
  exact ⟨p, q, r, q0, q1, q2, wordD w1, wordD w2⟩

set_option maxRecDepth 100000 in
theorem bitsCuts_lifted (os : Os) (started : os.Started) (H : Type) (enc : TypeId × Value → H) :
    ReturnsInHanded {} Tryd.checked os 4 .any (fun w args => (Rows.bitsCutsSpec.pre enc Tryd.prog Tryd.f4 [] false w args ∧ laidMetH Tryd.prog laidB w) ∧ sizedMet enc Tryd.prog Tryd.f4 (OpenSpec.ofChange Rows.bitsCutsSpec) false w args)
      (Rows.bitsCutsSpec.post enc Tryd.prog Tryd.f4 false true false false) := by
  refine returnsInHanded_of_change_and (C := Tryd.checked) (X := fun w _ => laidMetH Tryd.prog laidB w) (fun _ _ _ hh h => h.of_heap hh) ownD started (by kernel_rfl) Tryd.func4
    (ChangeSpec.witness_shaped (enc := enc) (C := Tryd.checked) (os := os) (X := fun w _ => laidMetH Tryd.prog laidB w) false (World.doorLaid Tryd.prog 24 os) #[.agg #[.int .i64 0, .int .u64 0, .int .u64 0, .int .i64 0], .agg #[.int .i64 0, .int .u64 0, .int .u64 0]] 8 rfl (World.shaped_of_RefB (by kernel_rfl) (by kernel_rfl)) (by kernel_rfl) (by kernel_rfl) (by kernel_rfl) (door_met os _)) ?_
  intro W base args ds gs before hval0 hW _ _ hL _
  have hval : ∀ (j : Nat) t v, Tryd.f4.params[j]? = some t → args[j]? = some v → Value.okWide Tryd.prog W .any base t v := hval0
  have hW' := hW
  obtain ⟨p, q, hA0, hV, rfl, hfz, hnd⟩ := hW
  have hA : DataW.TrodAll enc Tryd.prog W 0 (fun _ => true) true Tryd.f4.params.toList args.toList ds p := hA0
  rw [Tryd.params4] at hA hval
  obtain ⟨v0, v1, d0, d1, p0, p1, rfl, rfl, rfl, h0, h1⟩ := trodAll_two hA
  obtain ⟨rfl, rfl⟩ := trodVars_none hV
  obtain ⟨cs, rfl, hsz⟩ := okWide_struct Tryd.underlying36 (hval 0 36 v0 rfl rfl)
  obtain ⟨c0, c1, c2, c3, rfl⟩ := fourC (hsz.trans cellsT)
  obtain ⟨cs, rfl, hsz⟩ := okWide_struct Tryd.underlying27 (hval 1 27 v1 rfl rfl)
  obtain ⟨c4, c5, c6, rfl⟩ := threeC (hsz.trans cellsB)
  have k0 := h0
  have k1 := h1
  have lt0 : ∀ x ∈ p0, x.block < W.heap.size := by obtain ⟨m, hm⟩ := k0; exact DataW.trod_lt m _ _ _ hm
  have lt1 : ∀ x ∈ p1, x.block < W.heap.size := by obtain ⟨m, hm⟩ := k1; exact DataW.trod_lt m _ _ _ hm
  obtain ⟨fuel, hf⟩ := h0
  obtain ⟨n, x0, x1, t, rfl, rfl, rfl, rfl, r0, r1⟩ := cut_cells (by simpa [Value.cells] using hf)
  obtain ⟨fuel2, hf2⟩ := h1
  obtain ⟨m, yh, yl, rfl, rfl, rfl, r2, r3⟩ := bits_cells (by simpa [Value.cells] using hf2)
  have hL' := of_laid hL
  clear hA0 hval0
  refine (ct_all n x0 x1 t m yh yl W hL' r0 r1 r2 r3).mono fun e W' ⟨he, bel⟩ => ?_
  subst he
  exact ⟨_, rfl, _, _, _, [], _, [], hW', trodAll_mk1 (shut_bool Tryd.underlying4 _), trodAll_mk2 (Below.trod laidOutD (by kernel_rfl) (of_decide_eq_true (by kernel_rfl)) k0 bel lt0) (Below.trod laidOutD (by kernel_rfl) (of_decide_eq_true (by kernel_rfl)) k1 bel lt1), rfl, bel.frame _, fun h => by cases h⟩
theorem bitsCuts_row : Rows.BitsCutsSaid :=
  OpenClaim.holds_of_wide 4 Tryd.f4 rfl rfl rfl rfl rfl rfl rfl ⟨rfl, rfl, rfl, rfl, rfl⟩ rfl rfl rfl rfl rfl (by kernel_rfl) Tryd.func4 (by kernel_rfl)
    (of_decide_eq_true (by kernel_rfl)) (by unfold Func.isWrapper; first | (rw [if_pos (by decide +kernel)]; kernel_rfl) | (rw [if_neg (by decide +kernel)]; exact ⟨rfl, rfl⟩))
    (fun os started H enc _ => bitsCuts_lifted os started H enc)
theorem bitsCuts_holds : Rows.BitsCutsCardSaid :=
  Claim7.holds_tied_plain_at .later [] [.data, .data, .data] true (true, "e9b4e88c39f9e4cbaf2fb47f98b82576b2b1dde52c42c522f3eec7bf70cbf1f4") false
    bitsCuts_row (fun _ h => by cases h) (by kernel_rfl) (fun _ h => by cases h) bitsCuts_row_tie rfl ⟨rfl, rfl⟩ (by kernel_rfl) rfl
    (fun f fn hf hfn => by
      obtain rfl : f = 4 := Option.some.inj ((show Tryd.prog.funcNamed "pointsman/pointsmanlaw01.BitsCuts" = some 4 by kernel_rfl).symm.trans hf) |>.symm
      obtain rfl : fn = Tryd.f4 := (Option.some.inj (Tryd.func4.symm.trans hfn)).symm
      exact ⟨by kernel_rfl, fun j t ht => by
        rw [Tryd.params4] at ht
        have hm : t ∈ [36, 27] := by simpa using Array.mem_of_getElem? ht
        have hall : ([36, 27].all fun u => !Tryd.prog.wantsStandIn u) = true := by kernel_rfl
        exact (show Tryd.prog.wantsStandIn t = false by simpa using List.all_eq_true.1 hall t hm)⟩)
    (by kernel_rfl)
#print axioms bitsCuts_holds
end Go.Proofs.YtbaihikhmmhnpaaDoor
