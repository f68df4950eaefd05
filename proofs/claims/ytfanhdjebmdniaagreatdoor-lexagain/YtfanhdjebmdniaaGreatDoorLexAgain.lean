/- Proved: pointsmanlaw07.LexAgain, called with any text, returns true and leaves it as it was; what is laid is tied to the program's text. -/
import Derived.Test.YtfanhdjebmdniaaGreatDoorCards
import Derived.Test.YtfanhdjebmdniaaGreatDoorTie
import Derived.Test.YtfanhdjebmdniaaGreatDoorLX
import Derived.Test.YtfanhdjebmdniaaGreatDoorLAc
import Derived.SevenTiedAt
namespace Go.Proofs.YtfanhdjebmdniaaGreatDoor
open Go.ChangeShapes Go.WideShapes Go.ChangeAt Go.ChangeMaps Go.RowKit

set_option maxRecDepth 100000 in
theorem lexAgain_lifted (os : Os) (started : os.Started) (H : Type) (enc : TypeId × Value → H) :
    ReturnsInHanded {} Tryz.checked os 4 .any (fun w args => (Rows.lexAgainSpec.pre enc Tryz.prog Tryz.f4 [] false w args ∧ laidMetH Tryz.prog laidB w) ∧ sizedMet enc Tryz.prog Tryz.f4 (OpenSpec.ofChange Rows.lexAgainSpec) false w args)
      (Rows.lexAgainSpec.post enc Tryz.prog Tryz.f4 false true false false) := by
  refine returnsInHanded_of_change_and (C := Tryz.checked) (X := fun w _ => laidMetH Tryz.prog laidB w) (fun _ _ _ hh h => h.of_heap hh) ownV started (by kernel_rfl) Tryz.func4
    (ChangeSpec.witness_shaped (enc := enc) (C := Tryz.checked) (os := os) (X := fun w _ => laidMetH Tryz.prog laidB w) false (World.laidAll Tryz.prog os laidB) #[.string ⟨#[]⟩] 8 (World.laidAll_os _ _ _) (World.shaped_of_ZipB (by kernel_rfl) (by kernel_rfl)) (by kernel_rfl) (by kernel_rfl) (by kernel_rfl) (door_met os _)) ?_
  intro W base args ds gs before hval0 hW _ hsiz hL _
  have hval : ∀ (j : Nat) t v, Tryz.f4.params[j]? = some t → args[j]? = some v → Value.okWide Tryz.prog W .any base t v := hval0
  have hW' := hW
  obtain ⟨p, q, hA0, hV, rfl, hfz, hnd⟩ := hW
  have hA : DataW.TrodAll enc Tryz.prog W 0 (fun _ => true) true Tryz.f4.params.toList args.toList ds p := hA0
  rw [Tryz.params4] at hA hval
  obtain ⟨v0, d0, rfl, rfl, h0⟩ := trodAll_one hA
  obtain ⟨rfl, rfl⟩ := trodVars_none hV
  obtain ⟨s, rfl, rfl, rfl, hs⟩ := open_string Tryz.underlying9 (hval 0 9 v0 rfl rfl) h0
  rw [Tryz.params4] at hsiz
  have hlen0 : s.data.toList.length ≤ reachBytes := sized_string hsiz (j := 0) (t := 9) rfl rfl
  have hL' := of_laid hL
  clear hA0 hval0
  have run : Calls Tryz.prog 4 #[.string s] W fun e w' => e = .returned (.bool true) ∧ Below W.heap.size W w' := by
    rw [txt_of s]
    have := reachBytes_lt
    exact again_any s.data.toList W hL' (by omega)
  refine run.mono fun e W' ⟨he, bel⟩ => ?_
  subst he
  exact ⟨_, rfl, _, _, _, [], _, [], hW', trodAll_mk1 (shut_bool Tryz.underlying4 _), trodAll_mk1 (shut_string Tryz.underlying9 hs), rfl, bel.frame _, fun h => by cases h⟩
/- What the row says of the program's text, piece by piece: in one piece it takes much memory. -/
theorem lexAgain_j0 : Tryz.pinned.checked.prog.funcNamed Rows.lexAgainRow.func = some 4 := by kernel_rfl
theorem lexAgain_j1 : (Rows.lexAgainRow.unfollowed == Tryz.pinned.checked.prog.unfollowed 4) = true := by kernel_rfl
theorem lexAgain_j2 : (Rows.lexAgainRow.recurses == Tryz.pinned.checked.prog.recurses 4) = true := by kernel_rfl
theorem lexAgain_j3 : (Rows.lexAgainRow.named == Tryz.pinned.checked.prog.varsNamed 4) = true := by kernel_rfl
theorem lexAgain_j4 : (Rows.lexAgainRow.inPlace == Tryz.pinned.checked.prog.inPlace 4) = true := by kernel_rfl
theorem lexAgain_j5 : laidOutB Tryz.pinned.checked.prog = true := by kernel_rfl
theorem lexAgain_j6 : mapsRowed Tryz.pinned.checked.prog = true := by kernel_rfl
theorem lexAgain_joined : joinedFacts Tryz.pinned.checked.prog 4 Tryz.f4 Rows.lexAgainSpec Rows.lexAgainRow = true := by
  unfold joinedFacts
  rw [lexAgain_j1, lexAgain_j2, lexAgain_j3, lexAgain_j4, lexAgain_j5, lexAgain_j6]
  kernel_rfl
theorem lexAgain_row : Rows.LexAgainSaid :=
  OpenClaim.holds_of_wide 4 Tryz.f4 rfl rfl rfl rfl rfl rfl rfl ⟨rfl, rfl, rfl, rfl, rfl⟩ rfl rfl rfl rfl rfl lexAgain_j0 Tryz.func4 lexAgain_joined
    (of_decide_eq_true (by kernel_rfl)) (by unfold Func.isWrapper; first | (rw [if_pos (by decide +kernel)]; kernel_rfl) | (rw [if_neg (by decide +kernel)]; exact ⟨rfl, rfl⟩))
    (fun os started H enc _ => lexAgain_lifted os started H enc)
theorem lexAgain_holds : Rows.LexAgainCardSaid :=
  Claim7.holds_tied_plain_at .later [] [.data, .data, .data, .data, .sentinel, .sentinel, .data, .pinned] true (true, "b736f061c4e75e4cfc81ef25994abd28f7ae7d2cc96b94f8a2bc0b9e99a9e6fd") true
    lexAgain_row (fun _ h => by cases h) (by kernel_rfl) (fun _ h => by cases h) lexAgain_row_tie rfl ⟨rfl, rfl⟩ (by kernel_rfl) rfl
    (fun f fn hf hfn => by
      obtain rfl : f = 4 := Option.some.inj ((show Tryz.prog.funcNamed "pointsman/pointsmanlaw07.LexAgain" = some 4 by kernel_rfl).symm.trans hf) |>.symm
      obtain rfl : fn = Tryz.f4 := (Option.some.inj (Tryz.func4.symm.trans hfn)).symm
      exact ⟨by kernel_rfl, fun j t ht => by
        rw [Tryz.params4] at ht
        have hm : t ∈ [9] := by simpa using Array.mem_of_getElem? ht
        have hall : ([9].all fun u => !Tryz.prog.wantsStandIn u) = true := by kernel_rfl
        exact (show Tryz.prog.wantsStandIn t = false by simpa using List.all_eq_true.1 hall t hm)⟩)
    (by kernel_rfl)
#print axioms lexAgain_holds
end Go.Proofs.YtfanhdjebmdniaaGreatDoor
