/- Proved: pointsmanlaw07.LexJoins, called with any two texts, returns true and leaves them as they were; what is laid is tied to the program's text. -/
import Derived.Test.YtfanhdjebmdniaaGreatDoorCards
import Derived.Test.YtfanhdjebmdniaaGreatDoorTie
import Derived.Test.YtfanhdjebmdniaaGreatDoorLX
import Derived.Test.YtfanhdjebmdniaaGreatDoorLV
import Derived.SevenTiedAt
namespace Go.Proofs.YtfanhdjebmdniaaGreatDoor
open Go.ChangeShapes Go.WideShapes Go.ChangeAt Go.ChangeMaps Go.RowKit

theorem joins_any (a b : List UInt8) (w : World) (hL : Ls w) (ha : a.length ≤ 9223372036854775807) (hb : b.length ≤ 9223372036854775807) :
    Calls Tryz.prog 6 #[.string (txt a), .string (txt b)] w fun e w' => e = .returned (.bool true) ∧ Below w.heap.size w w' := by
  by_cases h : a.length + b.length ≤ 65535
  · cases h1 : toks a with
    | error k => exact joins_err1 a b k w hL h h1
    | ok xs =>
      cases h2 : toks b with
      | error k => exact joins_err2 a b xs k w hL h h1 h2
      | ok ys => exact joins_ok a b xs ys w hL h h1 h2
  · exact joins_long a b w hL ha hb (by omega)
set_option maxRecDepth 100000 in
theorem lexJoins_lifted (os : Os) (started : os.Started) (H : Type) (enc : TypeId × Value → H) :
    ReturnsInHanded {} Tryz.checked os 6 .any (fun w args => (Rows.lexJoinsSpec.pre enc Tryz.prog Tryz.f6 [] false w args ∧ laidMetH Tryz.prog laidB w) ∧ sizedMet enc Tryz.prog Tryz.f6 (OpenSpec.ofChange Rows.lexJoinsSpec) false w args)
      (Rows.lexJoinsSpec.post enc Tryz.prog Tryz.f6 false true false false) := by
  refine returnsInHanded_of_change_and (C := Tryz.checked) (X := fun w _ => laidMetH Tryz.prog laidB w) (fun _ _ _ hh h => h.of_heap hh) ownV started (by kernel_rfl) Tryz.func6
    (ChangeSpec.witness_shaped (enc := enc) (C := Tryz.checked) (os := os) (X := fun w _ => laidMetH Tryz.prog laidB w) false (World.laidAll Tryz.prog os laidB) #[.string ⟨#[]⟩, .string ⟨#[]⟩] 8 (World.laidAll_os _ _ _) (World.shaped_of_ZipB (by kernel_rfl) (by kernel_rfl)) (by kernel_rfl) (by kernel_rfl) (by kernel_rfl) (door_met os _)) ?_
  intro W base args ds gs before hval0 hW _ hsiz hL _
  have hval : ∀ (j : Nat) t v, Tryz.f6.params[j]? = some t → args[j]? = some v → Value.okWide Tryz.prog W .any base t v := hval0
  have hW' := hW
  obtain ⟨p, q, hA0, hV, rfl, hfz, hnd⟩ := hW
  have hA : DataW.TrodAll enc Tryz.prog W 0 (fun _ => true) true Tryz.f6.params.toList args.toList ds p := hA0
  rw [Tryz.params6] at hA hval
  obtain ⟨v0, v1, d0, d1, p0, p1, rfl, rfl, rfl, h0, h1⟩ := trodAll_two hA
  obtain ⟨rfl, rfl⟩ := trodVars_none hV
  obtain ⟨s, rfl, rfl, rfl, hs⟩ := open_string Tryz.underlying9 (hval 0 9 v0 rfl rfl) h0
  obtain ⟨r, rfl, rfl, rfl, hr⟩ := open_string Tryz.underlying9 (hval 1 9 v1 rfl rfl) h1
  rw [Tryz.params6] at hsiz
  have hlen0 : s.data.toList.length ≤ reachBytes := sized_string hsiz (j := 0) (t := 9) rfl rfl
  have hlen1 : r.data.toList.length ≤ reachBytes := sized_string hsiz (j := 1) (t := 9) rfl rfl
  have hL' := of_laid hL
  clear hA0 hval0
  have run : Calls Tryz.prog 6 #[.string s, .string r] W fun e w' => e = .returned (.bool true) ∧ Below W.heap.size W w' := by
    rw [txt_of s, txt_of r]
    have := reachBytes_lt
    exact joins_any s.data.toList r.data.toList W hL' (by omega) (by omega)
  refine run.mono fun e W' ⟨he, bel⟩ => ?_
  subst he
  exact ⟨_, rfl, _, _, _, [], _, [], hW', trodAll_mk1 (shut_bool Tryz.underlying4 _), trodAll_mk2 (shut_string Tryz.underlying9 hs) (shut_string Tryz.underlying9 hr), rfl, bel.frame _, fun h => by cases h⟩
/- What the row says of the program's text, piece by piece: in one piece it takes much memory. -/
theorem lexJoins_j0 : Tryz.pinned.checked.prog.funcNamed Rows.lexJoinsRow.func = some 6 := by kernel_rfl
theorem lexJoins_j1 : (Rows.lexJoinsRow.unfollowed == Tryz.pinned.checked.prog.unfollowed 6) = true := by kernel_rfl
theorem lexJoins_j2 : (Rows.lexJoinsRow.recurses == Tryz.pinned.checked.prog.recurses 6) = true := by kernel_rfl
theorem lexJoins_j3 : (Rows.lexJoinsRow.named == Tryz.pinned.checked.prog.varsNamed 6) = true := by kernel_rfl
theorem lexJoins_j4 : (Rows.lexJoinsRow.inPlace == Tryz.pinned.checked.prog.inPlace 6) = true := by kernel_rfl
theorem lexJoins_j5 : laidOutB Tryz.pinned.checked.prog = true := by kernel_rfl
theorem lexJoins_j6 : mapsRowed Tryz.pinned.checked.prog = true := by kernel_rfl
theorem lexJoins_joined : joinedFacts Tryz.pinned.checked.prog 6 Tryz.f6 Rows.lexJoinsSpec Rows.lexJoinsRow = true := by
  unfold joinedFacts
  rw [lexJoins_j1, lexJoins_j2, lexJoins_j3, lexJoins_j4, lexJoins_j5, lexJoins_j6]
  kernel_rfl
theorem lexJoins_row : Rows.LexJoinsSaid :=
  OpenClaim.holds_of_wide 6 Tryz.f6 rfl rfl rfl rfl rfl rfl rfl ⟨rfl, rfl, rfl, rfl, rfl⟩ rfl rfl rfl rfl rfl lexJoins_j0 Tryz.func6 lexJoins_joined
    (of_decide_eq_true (by kernel_rfl)) (by unfold Func.isWrapper; first | (rw [if_pos (by decide +kernel)]; kernel_rfl) | (rw [if_neg (by decide +kernel)]; exact ⟨rfl, rfl⟩))
    (fun os started H enc _ => lexJoins_lifted os started H enc)
theorem lexJoins_holds : Rows.LexJoinsCardSaid :=
  Claim7.holds_tied_plain_at .later [] [.data, .data, .data, .data, .sentinel, .sentinel, .data, .pinned] true (true, "b736f061c4e75e4cfc81ef25994abd28f7ae7d2cc96b94f8a2bc0b9e99a9e6fd") true
    lexJoins_row (fun _ h => by cases h) (by kernel_rfl) (fun _ h => by cases h) lexJoins_row_tie rfl ⟨rfl, rfl⟩ (by kernel_rfl) rfl
    (fun f fn hf hfn => by
      obtain rfl : f = 6 := Option.some.inj ((show Tryz.prog.funcNamed "pointsman/pointsmanlaw07.LexJoins" = some 6 by kernel_rfl).symm.trans hf) |>.symm
      obtain rfl : fn = Tryz.f6 := (Option.some.inj (Tryz.func6.symm.trans hfn)).symm
      exact ⟨by kernel_rfl, fun j t ht => by
        rw [Tryz.params6] at ht
        have hm : t ∈ [9, 9] := by simpa using Array.mem_of_getElem? ht
        have hall : ([9, 9].all fun u => !Tryz.prog.wantsStandIn u) = true := by kernel_rfl
        exact (show Tryz.prog.wantsStandIn t = false by simpa using List.all_eq_true.1 hall t hm)⟩)
    (by kernel_rfl)
#print axioms lexJoins_holds
end Go.Proofs.YtfanhdjebmdniaaGreatDoor
