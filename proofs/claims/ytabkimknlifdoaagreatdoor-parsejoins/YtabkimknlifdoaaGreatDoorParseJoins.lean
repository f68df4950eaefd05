/- Proved: pointsmanlaw08.ParseJoins, called with any two texts, returns true and leaves them as they were; what is laid is tied to the program's text. -/
import Derived.Test.YtabkimknlifdoaaGreatDoorCards
import Derived.Test.YtabkimknlifdoaaGreatDoorTie
import Derived.Test.YtabkimknlifdoaaGreatDoorJ8
import Derived.Test.YtabkimknlifdoaaGreatDoorJ44
import Derived.SevenTiedAt
namespace Go.Proofs.YtabkimknlifdoaaGreatDoor
open Go.ChangeShapes Go.WideShapes Go.ChangeAt Go.ChangeMaps Go.RowKit

set_option maxRecDepth 100000 in
theorem parseJoins_lifted (os : Os) (started : os.Started) (H : Type) (enc : TypeId × Value → H) :
    ReturnsInHanded {} Tryz.checked os 4 .any (fun w args => (Rows.parseJoinsSpec.pre enc Tryz.prog Tryz.f4 [] false w args ∧ laidMetH Tryz.prog laidP w) ∧ sizedMet enc Tryz.prog Tryz.f4 (OpenSpec.ofChange Rows.parseJoinsSpec) false w args)
      (Rows.parseJoinsSpec.post enc Tryz.prog Tryz.f4 false true false false) := by
  refine returnsInHanded_of_change_and (C := Tryz.checked) (X := fun w _ => laidMetH Tryz.prog laidP w) (fun _ _ _ hh h => h.of_heap hh) ownV started (by kernel_rfl) Tryz.func4
    (ChangeSpec.witness_shaped (enc := enc) (C := Tryz.checked) (os := os) (X := fun w _ => laidMetH Tryz.prog laidP w) false (World.laidAll Tryz.prog os laidP) #[.string ⟨#[]⟩, .string ⟨#[]⟩] 8 (World.laidAll_os _ _ _) (World.shaped_of_ZipB (by kernel_rfl) (by kernel_rfl)) (by kernel_rfl) (by kernel_rfl) (by kernel_rfl) (door_metP os _)) ?_
  intro W base args ds gs before hval0 hW _ hsiz hL _
  have hval : ∀ (j : Nat) t v, Tryz.f4.params[j]? = some t → args[j]? = some v → Value.okWide Tryz.prog W .any base t v := hval0
  have hW' := hW
  obtain ⟨p, q, hA0, hV, rfl, hfz, hnd⟩ := hW
  have hA : DataW.TrodAll enc Tryz.prog W 0 (fun _ => true) true Tryz.f4.params.toList args.toList ds p := hA0
  rw [Tryz.params4] at hA hval
  obtain ⟨v0, v1, d0, d1, p0, p1, rfl, rfl, rfl, h0, h1⟩ := trodAll_two hA
  obtain ⟨rfl, rfl⟩ := trodVars_none hV
  obtain ⟨s, rfl, rfl, rfl, hs⟩ := open_string Tryz.underlying9 (hval 0 9 v0 rfl rfl) h0
  obtain ⟨r, rfl, rfl, rfl, hr⟩ := open_string Tryz.underlying9 (hval 1 9 v1 rfl rfl) h1
  rw [Tryz.params4] at hsiz
  have hlen0 : s.data.toList.length ≤ reachBytes := sized_string hsiz (j := 0) (t := 9) rfl rfl
  have hlen1 : r.data.toList.length ≤ reachBytes := sized_string hsiz (j := 1) (t := 9) rfl rfl
  obtain ⟨hLs, bt, hTw⟩ := of_laidP hL
  clear hA0 hval0
  have run : Calls Tryz.prog 4 #[.string s, .string r] W fun e w' => e = .returned (.bool true) ∧ Below W.heap.size W w' := by
    rw [txt_of s, txt_of r]
    have := reachBytes_lt
    exact joins_any s.data.toList r.data.toList W hLs hTw (by omega) (by omega)
  refine run.mono fun e W' ⟨he, bel⟩ => ?_
  subst he
  exact ⟨_, rfl, _, _, _, [], _, [], hW', trodAll_mk1 (shut_bool Tryz.underlying4 _), trodAll_mk2 (shut_string Tryz.underlying9 hs) (shut_string Tryz.underlying9 hr), rfl, bel.frame _, fun h => by cases h⟩
/- What the row says of the program's text, piece by piece: in one piece it takes much memory. -/
theorem parseJoins_j0 : Tryz.pinned.checked.prog.funcNamed Rows.parseJoinsRow.func = some 4 := by kernel_rfl
theorem parseJoins_j1 : (Rows.parseJoinsRow.unfollowed == Tryz.pinned.checked.prog.unfollowed 4) = true := by kernel_rfl
theorem parseJoins_j2 : (Rows.parseJoinsRow.recurses == Tryz.pinned.checked.prog.recurses 4) = true := by kernel_rfl
theorem parseJoins_j3 : (Rows.parseJoinsRow.named == Tryz.pinned.checked.prog.varsNamed 4) = true := by kernel_rfl
theorem parseJoins_j4 : (Rows.parseJoinsRow.inPlace == Tryz.pinned.checked.prog.inPlace 4) = true := by kernel_rfl
theorem parseJoins_j5 : laidOutB Tryz.pinned.checked.prog = true := by kernel_rfl
theorem parseJoins_j6 : mapsRowed Tryz.pinned.checked.prog = true := by kernel_rfl
theorem parseJoins_joined : joinedFacts Tryz.pinned.checked.prog 4 Tryz.f4 Rows.parseJoinsSpec Rows.parseJoinsRow = true := by
  unfold joinedFacts
  rw [parseJoins_j1, parseJoins_j2, parseJoins_j3, parseJoins_j4, parseJoins_j5, parseJoins_j6]
  kernel_rfl
theorem parseJoins_row : Rows.ParseJoinsSaid :=
  OpenClaim.holds_of_wide 4 Tryz.f4 rfl rfl rfl rfl rfl rfl rfl ⟨rfl, rfl, rfl, rfl, rfl⟩ rfl rfl rfl rfl rfl parseJoins_j0 Tryz.func4 parseJoins_joined
    (of_decide_eq_true (by kernel_rfl)) (by unfold Func.isWrapper; first | (rw [if_pos (by decide +kernel)]; kernel_rfl) | (rw [if_neg (by decide +kernel)]; exact ⟨rfl, rfl⟩))
    (fun os started H enc _ => parseJoins_lifted os started H enc)
theorem parseJoins_holds : Rows.ParseJoinsCardSaid :=
  Claim7.holds_tied_plain_at .later [] [.data, .data, .data, .data, .sentinel, .sentinel, .data, .data, .pinned] true (true, "a167c2438d569f889344da300d9d89a3922bcf3203704e7ba174d3dc8e49f18b") true
    parseJoins_row (fun _ h => by cases h) (by kernel_rfl) (fun _ h => by cases h) parseJoins_row_tie rfl ⟨rfl, rfl⟩ (by kernel_rfl) rfl
    (fun f fn hf hfn => by
      obtain rfl : f = 4 := Option.some.inj ((show Tryz.prog.funcNamed "pointsman/pointsmanlaw08.ParseJoins" = some 4 by kernel_rfl).symm.trans hf) |>.symm
      obtain rfl : fn = Tryz.f4 := (Option.some.inj (Tryz.func4.symm.trans hfn)).symm
      exact ⟨by kernel_rfl, fun j t ht => by
        rw [Tryz.params4] at ht
        have hm : t ∈ [9, 9] := by simpa using Array.mem_of_getElem? ht
        have hall : ([9, 9].all fun u => !Tryz.prog.wantsStandIn u) = true := by kernel_rfl
        exact (show Tryz.prog.wantsStandIn t = false by simpa using List.all_eq_true.1 hall t hm)⟩)
    (by kernel_rfl)
#print axioms parseJoins_holds
end Go.Proofs.YtabkimknlifdoaaGreatDoor
