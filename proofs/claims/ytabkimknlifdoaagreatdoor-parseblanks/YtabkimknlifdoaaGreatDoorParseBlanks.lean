/- Proved: pointsmanlaw08.ParseBlanks, called with any text, returns true and leaves it as it was; what is laid is tied to the program's text. -/
import Derived.Test.YtabkimknlifdoaaGreatDoorCards
import Derived.Test.YtabkimknlifdoaaGreatDoorTie
import Derived.Test.YtabkimknlifdoaaGreatDoorM8
import Derived.Test.YtabkimknlifdoaaGreatDoorM43
import Derived.SevenTiedAt
namespace Go.Proofs.YtabkimknlifdoaaGreatDoor
open Go.ChangeShapes Go.WideShapes Go.ChangeAt Go.ChangeMaps Go.RowKit

set_option maxRecDepth 100000 in
theorem parseBlanks_lifted (os : Os) (started : os.Started) (H : Type) (enc : TypeId × Value → H) :
    ReturnsInHanded {} Tryz.checked os 3 .any (fun w args => (Rows.parseBlanksSpec.pre enc Tryz.prog Tryz.f3 [] false w args ∧ laidMetH Tryz.prog laidP w) ∧ sizedMet enc Tryz.prog Tryz.f3 (OpenSpec.ofChange Rows.parseBlanksSpec) false w args)
      (Rows.parseBlanksSpec.post enc Tryz.prog Tryz.f3 false true false false) := by
  refine returnsInHanded_of_change_and (C := Tryz.checked) (X := fun w _ => laidMetH Tryz.prog laidP w) (fun _ _ _ hh h => h.of_heap hh) ownV started (by kernel_rfl) Tryz.func3
    (ChangeSpec.witness_shaped (enc := enc) (C := Tryz.checked) (os := os) (X := fun w _ => laidMetH Tryz.prog laidP w) false (World.laidAll Tryz.prog os laidP) #[.string ⟨#[]⟩] 8 (World.laidAll_os _ _ _) (World.shaped_of_ZipB (by kernel_rfl) (by kernel_rfl)) (by kernel_rfl) (by kernel_rfl) (by kernel_rfl) (door_metP os _)) ?_
  intro W base args ds gs before hval0 hW _ hsiz hL _
  have hval : ∀ (j : Nat) t v, Tryz.f3.params[j]? = some t → args[j]? = some v → Value.okWide Tryz.prog W .any base t v := hval0
  have hW' := hW
  obtain ⟨p, q, hA0, hV, rfl, hfz, hnd⟩ := hW
  have hA : DataW.TrodAll enc Tryz.prog W 0 (fun _ => true) true Tryz.f3.params.toList args.toList ds p := hA0
  rw [Tryz.params3] at hA hval
  obtain ⟨v0, d0, rfl, rfl, h0⟩ := trodAll_one hA
  obtain ⟨rfl, rfl⟩ := trodVars_none hV
  obtain ⟨s, rfl, rfl, rfl, hs⟩ := open_string Tryz.underlying9 (hval 0 9 v0 rfl rfl) h0
  rw [Tryz.params3] at hsiz
  have hlen0 : s.data.toList.length ≤ reachBytes := sized_string hsiz (j := 0) (t := 9) rfl rfl
  obtain ⟨hLs, bt, hTw⟩ := of_laidP hL
  clear hA0 hval0
  have run : Calls Tryz.prog 3 #[.string s] W fun e w' => e = .returned (.bool true) ∧ Below W.heap.size W w' := by
    rw [txt_of s]
    have := reachBytes_lt
    exact blanks_any s.data.toList W hLs hTw (by omega)
  refine run.mono fun e W' ⟨he, bel⟩ => ?_
  subst he
  exact ⟨_, rfl, _, _, _, [], _, [], hW', trodAll_mk1 (shut_bool Tryz.underlying4 _), trodAll_mk1 (shut_string Tryz.underlying9 hs), rfl, bel.frame _, fun h => by cases h⟩
/- What the row says of the program's text, piece by piece: in one piece it takes much memory. -/
theorem parseBlanks_j0 : Tryz.pinned.checked.prog.funcNamed Rows.parseBlanksRow.func = some 3 := by kernel_rfl
theorem parseBlanks_j1 : (Rows.parseBlanksRow.unfollowed == Tryz.pinned.checked.prog.unfollowed 3) = true := by kernel_rfl
theorem parseBlanks_j2 : (Rows.parseBlanksRow.recurses == Tryz.pinned.checked.prog.recurses 3) = true := by kernel_rfl
theorem parseBlanks_j3 : (Rows.parseBlanksRow.named == Tryz.pinned.checked.prog.varsNamed 3) = true := by kernel_rfl
theorem parseBlanks_j4 : (Rows.parseBlanksRow.inPlace == Tryz.pinned.checked.prog.inPlace 3) = true := by kernel_rfl
theorem parseBlanks_j5 : laidOutB Tryz.pinned.checked.prog = true := by kernel_rfl
theorem parseBlanks_j6 : mapsRowed Tryz.pinned.checked.prog = true := by kernel_rfl
theorem parseBlanks_joined : joinedFacts Tryz.pinned.checked.prog 3 Tryz.f3 Rows.parseBlanksSpec Rows.parseBlanksRow = true := by
  unfold joinedFacts
  rw [parseBlanks_j1, parseBlanks_j2, parseBlanks_j3, parseBlanks_j4, parseBlanks_j5, parseBlanks_j6]
  kernel_rfl
theorem parseBlanks_row : Rows.ParseBlanksSaid :=
  OpenClaim.holds_of_wide 3 Tryz.f3 rfl rfl rfl rfl rfl rfl rfl ⟨rfl, rfl, rfl, rfl, rfl⟩ rfl rfl rfl rfl rfl parseBlanks_j0 Tryz.func3 parseBlanks_joined
    (of_decide_eq_true (by kernel_rfl)) (by unfold Func.isWrapper; first | (rw [if_pos (by decide +kernel)]; kernel_rfl) | (rw [if_neg (by decide +kernel)]; exact ⟨rfl, rfl⟩))
    (fun os started H enc _ => parseBlanks_lifted os started H enc)
theorem parseBlanks_holds : Rows.ParseBlanksCardSaid :=
  Claim7.holds_tied_plain_at .later [] [.data, .data, .data, .data, .sentinel, .sentinel, .data, .data, .pinned] true (true, "a167c2438d569f889344da300d9d89a3922bcf3203704e7ba174d3dc8e49f18b") true
    parseBlanks_row (fun _ h => by cases h) (by kernel_rfl) (fun _ h => by cases h) parseBlanks_row_tie rfl ⟨rfl, rfl⟩ (by kernel_rfl) rfl
    (fun f fn hf hfn => by
      obtain rfl : f = 3 := Option.some.inj ((show Tryz.prog.funcNamed "pointsman/pointsmanlaw08.ParseBlanks" = some 3 by kernel_rfl).symm.trans hf) |>.symm
      obtain rfl : fn = Tryz.f3 := (Option.some.inj (Tryz.func3.symm.trans hfn)).symm
      exact ⟨by kernel_rfl, fun j t ht => by
        rw [Tryz.params3] at ht
        have hm : t ∈ [9] := by simpa using Array.mem_of_getElem? ht
        have hall : ([9].all fun u => !Tryz.prog.wantsStandIn u) = true := by kernel_rfl
        exact (show Tryz.prog.wantsStandIn t = false by simpa using List.all_eq_true.1 hall t hm)⟩)
    (by kernel_rfl)
#print axioms parseBlanks_holds
end Go.Proofs.YtabkimknlifdoaaGreatDoor
