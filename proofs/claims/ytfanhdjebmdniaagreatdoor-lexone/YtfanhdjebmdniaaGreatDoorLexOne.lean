/- Proved: pointsmanlaw07.LexOne, called with any whole number, any number and any count of lines, returns true and leaves them as they were; what is laid is tied to the program's text. -/
import Derived.Test.YtfanhdjebmdniaaGreatDoorCards
import Derived.Test.YtfanhdjebmdniaaGreatDoorTie
import Derived.Test.YtfanhdjebmdniaaGreatDoorLX
import Derived.Test.YtfanhdjebmdniaaGreatDoorLZb
import Derived.SevenTiedAt
namespace Go.Proofs.YtfanhdjebmdniaaGreatDoor
open Go.ChangeShapes Go.WideShapes Go.ChangeAt Go.ChangeMaps Go.RowKit

theorem byteZ {x : Int} (h : (Lit.int .u8 x).wf = true) : 0 ≤ x ∧ x < 256 := by
  simp [Lit.wf, IntKind.min, IntKind.max, IntKind.signed, IntKind.bits] at h
  exact ⟨by omega, by omega⟩
theorem u32Z {x : Int} (h : (Lit.int .u32 x).wf = true) : 0 ≤ x ∧ x < 4294967296 := by
  simp [Lit.wf, IntKind.min, IntKind.max, IntKind.signed, IntKind.bits] at h
  exact ⟨by omega, by omega⟩
set_option maxRecDepth 100000 in
theorem lexOne_lifted (os : Os) (started : os.Started) (H : Type) (enc : TypeId × Value → H) :
    ReturnsInHanded {} Tryz.checked os 5 .any (fun w args => (Rows.lexOneSpec.pre enc Tryz.prog Tryz.f5 [] false w args ∧ laidMetH Tryz.prog laidB w) ∧ sizedMet enc Tryz.prog Tryz.f5 (OpenSpec.ofChange Rows.lexOneSpec) false w args)
      (Rows.lexOneSpec.post enc Tryz.prog Tryz.f5 false true false false) := by
  refine returnsInHanded_of_change_and (C := Tryz.checked) (X := fun w _ => laidMetH Tryz.prog laidB w) (fun _ _ _ hh h => h.of_heap hh) ownV started (by kernel_rfl) Tryz.func5
    (ChangeSpec.witness_shaped (enc := enc) (C := Tryz.checked) (os := os) (X := fun w _ => laidMetH Tryz.prog laidB w) false (World.laidAll Tryz.prog os laidB) #[.int .u32 0, .agg #[.int .i64 0, .int .u64 0, .int .u64 0], .int .u8 0] 8 (World.laidAll_os _ _ _) (World.shaped_of_ZipB (by kernel_rfl) (by kernel_rfl)) (by kernel_rfl) (by kernel_rfl) (by kernel_rfl) (door_met os _)) ?_
  intro W base args ds gs before hval0 hW _ _ hL _
  have hval : ∀ (j : Nat) t v, Tryz.f5.params[j]? = some t → args[j]? = some v → Value.okWide Tryz.prog W .any base t v := hval0
  have hW' := hW
  obtain ⟨p, q, hA0, hV, rfl, hfz, hnd⟩ := hW
  have hA : DataW.TrodAll enc Tryz.prog W 0 (fun _ => true) true Tryz.f5.params.toList args.toList ds p := hA0
  rw [Tryz.params5] at hA hval
  obtain ⟨v0, v1, v2, d0, d1, d2, p0, p1, p2, rfl, rfl, rfl, h0, h1, h2⟩ := trodAll_three hA
  obtain ⟨rfl, rfl⟩ := trodVars_none hV
  have k1 := h1
  have lt1 : ∀ x ∈ p1, x.block < W.heap.size := by obtain ⟨m, hm⟩ := k1; exact DataW.trod_lt m _ _ _ hm
  obtain ⟨nc, rfl, rfl, rfl, w0⟩ := open_int Tryz.underlying70 (hval 0 70 v0 rfl rfl) h0
  obtain ⟨cs, rfl, hsz⟩ := okWide_struct Tryz.underlying66 (hval 1 66 v1 rfl rfl)
  obtain ⟨c0, c1, c2, rfl⟩ := threeN (hsz.trans cellsN3)
  obtain ⟨fuel, hf⟩ := h1
  obtain ⟨m, hi, lo, rfl, rfl, rfl, r0, r1⟩ := bits_cells (by simpa [Value.cells] using hf)
  obtain ⟨kc, rfl, rfl, rfl, w2⟩ := open_int Tryz.underlying5 (hval 2 5 v2 rfl rfl) h2
  have hb := byteZ w2
  have hn := u32Z w0
  obtain ⟨k, rfl⟩ : ∃ k : Nat, kc = (k : Int) := ⟨kc.toNat, by omega⟩
  obtain ⟨n, rfl⟩ : ∃ n : Nat, nc = (n : Int) := ⟨nc.toNat, by omega⟩
  have hL' := of_laid hL
  clear hA0 hval0
  have run : Calls Tryz.prog 5 #[.int .u32 (n : Int), .agg #[.int .i64 m, .int .u64 hi, .int .u64 lo], .int .u8 (k : Int)] W fun e w' => e = .returned (.bool true) ∧ Below W.heap.size W w' := by
    obtain ⟨u, hu, e1, e2⟩ := words_ofV r0.1 r0.2 r1.1 r1.2
    rw [e1, e2]
    exact one_any n k m u W hL' hu (by omega) (by omega)
  refine run.mono fun e W' ⟨he, bel⟩ => ?_
  subst he
  exact ⟨_, rfl, _, _, _, [], _, [], hW', trodAll_mk1 (shut_bool Tryz.underlying4 _), trodAll_mk3 (shut_int Tryz.underlying70 w0) (Below.trod laidOutV (by kernel_rfl) (of_decide_eq_true (by kernel_rfl)) k1 bel lt1) (shut_int Tryz.underlying5 w2), rfl, bel.frame _, fun h => by cases h⟩
/- What the row says of the program's text, piece by piece: in one piece it takes much memory. -/
theorem lexOne_j0 : Tryz.pinned.checked.prog.funcNamed Rows.lexOneRow.func = some 5 := by kernel_rfl
theorem lexOne_j1 : (Rows.lexOneRow.unfollowed == Tryz.pinned.checked.prog.unfollowed 5) = true := by kernel_rfl
theorem lexOne_j2 : (Rows.lexOneRow.recurses == Tryz.pinned.checked.prog.recurses 5) = true := by kernel_rfl
theorem lexOne_j3 : (Rows.lexOneRow.named == Tryz.pinned.checked.prog.varsNamed 5) = true := by kernel_rfl
theorem lexOne_j4 : (Rows.lexOneRow.inPlace == Tryz.pinned.checked.prog.inPlace 5) = true := by kernel_rfl
theorem lexOne_j5 : laidOutB Tryz.pinned.checked.prog = true := by kernel_rfl
theorem lexOne_j6 : mapsRowed Tryz.pinned.checked.prog = true := by kernel_rfl
theorem lexOne_joined : joinedFacts Tryz.pinned.checked.prog 5 Tryz.f5 Rows.lexOneSpec Rows.lexOneRow = true := by
  unfold joinedFacts
  rw [lexOne_j1, lexOne_j2, lexOne_j3, lexOne_j4, lexOne_j5, lexOne_j6]
  kernel_rfl
theorem lexOne_row : Rows.LexOneSaid :=
  OpenClaim.holds_of_wide 5 Tryz.f5 rfl rfl rfl rfl rfl rfl rfl ⟨rfl, rfl, rfl, rfl, rfl⟩ rfl rfl rfl rfl rfl lexOne_j0 Tryz.func5 lexOne_joined
    (of_decide_eq_true (by kernel_rfl)) (by unfold Func.isWrapper; first | (rw [if_pos (by decide +kernel)]; kernel_rfl) | (rw [if_neg (by decide +kernel)]; exact ⟨rfl, rfl⟩))
    (fun os started H enc _ => lexOne_lifted os started H enc)
theorem lexOne_holds : Rows.LexOneCardSaid :=
  Claim7.holds_tied_plain_at .later [] [.data, .data, .data, .data, .sentinel, .sentinel, .data, .pinned] true (true, "b736f061c4e75e4cfc81ef25994abd28f7ae7d2cc96b94f8a2bc0b9e99a9e6fd") true
    lexOne_row (fun _ h => by cases h) (by kernel_rfl) (fun _ h => by cases h) lexOne_row_tie rfl ⟨rfl, rfl⟩ (by kernel_rfl) rfl
    (fun f fn hf hfn => by
      obtain rfl : f = 5 := Option.some.inj ((show Tryz.prog.funcNamed "pointsman/pointsmanlaw07.LexOne" = some 5 by kernel_rfl).symm.trans hf) |>.symm
      obtain rfl : fn = Tryz.f5 := (Option.some.inj (Tryz.func5.symm.trans hfn)).symm
      exact ⟨by kernel_rfl, fun j t ht => by
        rw [Tryz.params5] at ht
        have hm : t ∈ [70, 66, 5] := by simpa using Array.mem_of_getElem? ht
        have hall : ([70, 66, 5].all fun u => !Tryz.prog.wantsStandIn u) = true := by kernel_rfl
        exact (show Tryz.prog.wantsStandIn t = false by simpa using List.all_eq_true.1 hall t hm)⟩)
    (by kernel_rfl)
#print axioms lexOne_holds
end Go.Proofs.YtfanhdjebmdniaaGreatDoor
