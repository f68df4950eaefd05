/- Proved: pointsmanlaw01.BitsBytes, called with any number, any width and any bytes, returns true and leaves them as they were; what is laid is tied to the program's text. -/
import Derived.Test.YtcjcgepmaiilbaaGreatDoorCards
import Derived.Test.YtcjcgepmaiilbaaGreatDoorTie
import Derived.Test.YtcjcgepmaiilbaaGreatDoorRowB
import Derived.Test.YtcjcgepmaiilbaaGreatDoorNL
import Derived.LaidMore
import Derived.Stop.Joined
import Derived.SevenTiedAt
namespace Go.Proofs.YtcjcgepmaiilbaaGreatDoor
open Go.ChangeShapes Go.WideShapes Go.ChangeAt Go.RowKit

def laidB : List (String × DataW Unit) := [("math/bits.deBruijn32tab", Rows.laid_math_bits_deBruijn32tab), ("math/bits.deBruijn64tab", Rows.laid_math_bits_deBruijn64tab), ("internal/strconv.uint64pow10", Rows.laid_internal_strconv_uint64pow10)]
theorem door_met (os : Os) (args : Array Value) : laidMetH Tryz.prog laidB ((World.doorLaid Tryz.prog 24 os).forCall (fun _ _ => 0) ⟨#[], args, []⟩).memory :=
  laidMetH_of_parts3 (fuel := 8) (laidMet_of_run' 8 (by kernel_rfl) (by kernel_rfl)) (by kernel_rfl) (by kernel_rfl)
theorem wordN {x : Int} (h : (Lit.int .u64 x).wf = true) : 0 ≤ x ∧ x < 18446744073709551616 := by
  simp [Lit.wf, IntKind.min, IntKind.max, IntKind.signed, IntKind.bits] at h
  exact ⟨by omega, by omega⟩
theorem cellsN3 : Tryz.prog.cellsOf 24 = 3 := by kernel_rfl
theorem cellsNI : Tryz.prog.cellsOf 3 = 1 := by kernel_rfl
theorem cellsNU : Tryz.prog.cellsOf 22 = 1 := by kernel_rfl
theorem threeN {cs : Array Value} (h : cs.size = 3) : ∃ a b c, cs = #[a, b, c] := by
  obtain ⟨l⟩ := cs
  match l, h with
  | [a, b, c], _ => exact ⟨a, b, c, rfl⟩
theorem some_atN {α : Type} {l : List α} {i : Nat} (h : i < l.length) : ∃ x, l[i]? = some x := ⟨_, List.getElem?_eq_getElem h⟩
theorem bits_cells {H : Type} {enc : TypeId × Value → H} {W : World} {base fuel : Nat} {spare : Nat → Bool} {held : Bool} {a b c : Value} {x : DataW H × List MemPlace} (h : DataW.trod enc Tryz.prog W base spare held fuel 24 [a, b, c] = some x) :
    ∃ n hi lo, a = .int .i64 n ∧ b = .int .u64 hi ∧ c = .int .u64 lo ∧ (0 ≤ hi ∧ hi < 18446744073709551616) ∧ (0 ≤ lo ∧ lo < 18446744073709551616) := by
  obtain ⟨xs, n, _, _, _, hl, hf⟩ := DataW.trod_struct Tryz.underlying24 h
  have hl' : xs.length = 3 := hl
  have h0 : DataW.trod enc Tryz.prog W base spare held n 3 (([a, b, c].drop 0).take (Tryz.prog.cellsOf 3)) = xs[0]? := hf 0 _ rfl
  rw [cellsNI] at h0
  replace h0 : DataW.trod enc Tryz.prog W base spare held n 3 [a] = xs[0]? := h0
  have h1 : DataW.trod enc Tryz.prog W base spare held n 22 (([a, b, c].drop 1).take (Tryz.prog.cellsOf 22)) = xs[1]? := hf 1 _ rfl
  rw [cellsNU] at h1
  replace h1 : DataW.trod enc Tryz.prog W base spare held n 22 [b] = xs[1]? := h1
  have h2 : DataW.trod enc Tryz.prog W base spare held n 22 (([a, b, c].drop 2).take (Tryz.prog.cellsOf 22)) = xs[2]? := hf 2 _ rfl
  rw [cellsNU] at h2
  replace h2 : DataW.trod enc Tryz.prog W base spare held n 22 [c] = xs[2]? := h2
  obtain ⟨x0, e0⟩ := some_atN (l := xs) (i := 0) (by omega)
  obtain ⟨x1, e1⟩ := some_atN (l := xs) (i := 1) (by omega)
  obtain ⟨x2, e2⟩ := some_atN (l := xs) (i := 2) (by omega)
  rw [e0] at h0
  rw [e1] at h1
  rw [e2] at h2
  obtain ⟨p, q0, _, w0⟩ := DataW.trod_int Tryz.underlying3 h0
  obtain ⟨q, q1, _, w1⟩ := DataW.trod_int Tryz.underlying22 h1
  obtain ⟨r, q2, _, w2⟩ := DataW.trod_int Tryz.underlying22 h2
  simp at q0 q1 q2
  exact ⟨p, q, r, q0, q1, q2, wordN w1, wordN w2⟩
set_option maxRecDepth 100000 in
theorem bitsBytes_lifted (os : Os) (started : os.Started) (H : Type) (enc : TypeId × Value → H) :
    ReturnsInHanded {} Tryz.checked os 3 .any (fun w args => (Rows.bitsBytesSpec.pre enc Tryz.prog Tryz.f3 [] false w args ∧ laidMetH Tryz.prog laidB w) ∧ sizedMet enc Tryz.prog Tryz.f3 (OpenSpec.ofChange Rows.bitsBytesSpec) false w args)
      (Rows.bitsBytesSpec.post enc Tryz.prog Tryz.f3 false true false false) := by
  refine returnsInHanded_of_change_and (C := Tryz.checked) (X := fun w _ => laidMetH Tryz.prog laidB w) (fun _ _ _ hh h => h.of_heap hh) ownD started (by kernel_rfl) Tryz.func3
    (ChangeSpec.witness_shaped (enc := enc) (C := Tryz.checked) (os := os) (X := fun w _ => laidMetH Tryz.prog laidB w) false (World.doorLaid Tryz.prog 24 os) #[.agg #[.int .i64 0, .int .u64 0, .int .u64 0], .int .i64 0, .slice none 0 0] 8 rfl (World.shaped_of_RefB (by kernel_rfl) (by kernel_rfl)) (by kernel_rfl) (by kernel_rfl) (by kernel_rfl) (door_met os _)) ?_
  intro W base args ds gs before hval0 hW _ _ hL _
  have hval : ∀ (j : Nat) t v, Tryz.f3.params[j]? = some t → args[j]? = some v → Value.okWide Tryz.prog W .any base t v := hval0
  have hW' := hW
  obtain ⟨p, q, hA0, hV, rfl, hfz, hnd⟩ := hW
  have hA : DataW.TrodAll enc Tryz.prog W 0 (fun _ => true) true Tryz.f3.params.toList args.toList ds p := hA0
  rw [Tryz.params3] at hA hval
  obtain ⟨v0, v1, v2, d0, d1, d2, p0, p1, p2, rfl, rfl, rfl, h0, h1, h2⟩ := trodAll_three hA
  obtain ⟨rfl, rfl⟩ := trodVars_none hV
  have k0 := h0
  have lt0 : ∀ x ∈ p0, x.block < W.heap.size := by obtain ⟨m, hm⟩ := k0; exact DataW.trod_lt m _ _ _ hm
  have k2 := h2
  have lt2 : ∀ x ∈ p2, x.block < W.heap.size := by obtain ⟨m, hm⟩ := k2; exact DataW.trod_lt m _ _ _ hm
  obtain ⟨cs, rfl, hsz⟩ := okWide_struct Tryz.underlying24 (hval 0 24 v0 rfl rfl)
  obtain ⟨c0, c1, c2, rfl⟩ := threeN (hsz.trans cellsN3)
  obtain ⟨fuel, hf⟩ := h0
  obtain ⟨n, hi, lo, rfl, rfl, rfl, r0, r1⟩ := bits_cells (by simpa [Value.cells] using hf)
  obtain ⟨m, rfl, rfl, rfl, w1⟩ := open_int Tryz.underlying3 (hval 1 3 v1 rfl rfl) h1
  obtain ⟨a0, len0, cap0, rfl⟩ := okWide_slice Tryz.underlying25 (hval 2 25 v2 rfl rfl)
  obtain ⟨fuel2, hf2⟩ := h2
  obtain ⟨xs0, hlen0, hxs0, hrd0, hlc0, hcm0, _⟩ := open_bytes (hval 2 25 _ rfl rfl) hf2
  clear hA0 hval0
  have run : Calls Tryz.prog 3 #[.agg #[.int .i64 n, .int .u64 hi, .int .u64 lo], .int .i64 m, .slice a0 len0 cap0] W fun e w' => e = .returned (.bool true) ∧ Below W.heap.size W w' := by
    subst hlen0
    by_cases h : xs0.length ≤ 1048576
    · obtain ⟨u, hu, e1, e2⟩ := words_of r0.1 r0.2 r1.1 r1.2
      rw [e1, e2]
      exact bytes_walk n u m a0 cap0 xs0 W hu hxs0 h hrd0
    · exact bytes_long n hi lo m a0 xs0.length cap0 W (by omega) (by omega)
  refine run.mono fun e W' ⟨he, bel⟩ => ?_
  subst he
  exact ⟨_, rfl, _, _, _, [], _, [], hW', trodAll_mk1 (shut_bool Tryz.underlying4 _), trodAll_mk3 (Below.trod laidOutD (by kernel_rfl) (of_decide_eq_true (by kernel_rfl)) k0 bel lt0) (shut_int Tryz.underlying3 w1) (Below.trod laidOutD (by kernel_rfl) (of_decide_eq_true (by kernel_rfl)) k2 bel lt2), rfl, bel.frame _, fun h => by cases h⟩
theorem bitsBytes_row : Rows.BitsBytesSaid :=
  OpenClaim.holds_of_wide 3 Tryz.f3 rfl rfl rfl rfl rfl rfl rfl ⟨rfl, rfl, rfl, rfl, rfl⟩ rfl rfl rfl rfl rfl (by kernel_rfl) Tryz.func3 (by kernel_rfl)
    (of_decide_eq_true (by kernel_rfl)) (by unfold Func.isWrapper; first | (rw [if_pos (by decide +kernel)]; kernel_rfl) | (rw [if_neg (by decide +kernel)]; exact ⟨rfl, rfl⟩))
    (fun os started H enc _ => bitsBytes_lifted os started H enc)
theorem bitsBytes_holds : Rows.BitsBytesCardSaid :=
  Claim7.holds_tied_plain_at .later [] [.data, .data, .data] true (true, "27f411897b661db09fe9d0388ce8ce7489c683f96141aaa09c0509629578249c") false
    bitsBytes_row (fun _ h => by cases h) (by kernel_rfl) (fun _ h => by cases h) bitsBytes_row_tie rfl ⟨rfl, rfl⟩ (by kernel_rfl) rfl
    (fun f fn hf hfn => by
      obtain rfl : f = 3 := Option.some.inj ((show Tryz.prog.funcNamed "pointsman/pointsmanlaw01.BitsBytes" = some 3 by kernel_rfl).symm.trans hf) |>.symm
      obtain rfl : fn = Tryz.f3 := (Option.some.inj (Tryz.func3.symm.trans hfn)).symm
      exact ⟨by kernel_rfl, fun j t ht => by
        rw [Tryz.params3] at ht
        have hm : t ∈ [24, 3, 25] := by simpa using Array.mem_of_getElem? ht
        have hall : ([24, 3, 25].all fun u => !Tryz.prog.wantsStandIn u) = true := by kernel_rfl
        exact (show Tryz.prog.wantsStandIn t = false by simpa using List.all_eq_true.1 hall t hm)⟩)
    (by kernel_rfl)
#print axioms bitsBytes_holds
end Go.Proofs.YtcjcgepmaiilbaaGreatDoor
