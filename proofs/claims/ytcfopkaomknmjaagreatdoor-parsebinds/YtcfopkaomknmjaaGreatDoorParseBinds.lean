/- Proved: pointsmanlaw08.ParseBinds, called with any two numbers of a byte, returns true and leaves them as they were; what is laid is tied to the program's text. -/
import Derived.Test.YtcfopkaomknmjaaGreatDoorCards
import Derived.Test.YtcfopkaomknmjaaGreatDoorTie
import Derived.Test.YtcfopkaomknmjaaGreatDoorM11
import Derived.Test.YtcfopkaomknmjaaGreatDoorM37
import Derived.SevenTiedAt
namespace Go.Proofs.YtcfopkaomknmjaaGreatDoor
open Go.ChangeShapes Go.WideShapes Go.ChangeAt Go.ChangeMaps Go.RowKit

theorem byteZ {x : Int} (h : (Lit.int .u8 x).wf = true) : 0 ≤ x ∧ x < 256 := by
  simp [Lit.wf, IntKind.min, IntKind.max, IntKind.signed, IntKind.bits] at h
  exact ⟨by omega, by omega⟩
set_option maxRecDepth 100000 in
theorem parseBinds_lifted (os : Os) (started : os.Started) (H : Type) (enc : TypeId × Value → H) :
    ReturnsInHanded {} Tryz.checked os 7 .any (fun w args => (Rows.parseBindsSpec.pre enc Tryz.prog Tryz.f7 [] false w args ∧ laidMetH Tryz.prog laidP w) ∧ sizedMet enc Tryz.prog Tryz.f7 (OpenSpec.ofChange Rows.parseBindsSpec) false w args)
      (Rows.parseBindsSpec.post enc Tryz.prog Tryz.f7 false true false false) := by
  refine returnsInHanded_of_change_and (C := Tryz.checked) (X := fun w _ => laidMetH Tryz.prog laidP w) (fun _ _ _ hh h => h.of_heap hh) ownV started (by kernel_rfl) Tryz.func7
    (ChangeSpec.witness_shaped (enc := enc) (C := Tryz.checked) (os := os) (X := fun w _ => laidMetH Tryz.prog laidP w) false (World.laidAll Tryz.prog os laidP) #[.int .u8 0, .int .u8 0] 8 (World.laidAll_os _ _ _) (World.shaped_of_ZipB (by kernel_rfl) (by kernel_rfl)) (by kernel_rfl) (by kernel_rfl) (by kernel_rfl) (door_metP os _)) ?_
  intro W base args ds gs before hval0 hW _ _ hL _
  have hval : ∀ (j : Nat) t v, Tryz.f7.params[j]? = some t → args[j]? = some v → Value.okWide Tryz.prog W .any base t v := hval0
  have hW' := hW
  obtain ⟨p, q, hA0, hV, rfl, hfz, hnd⟩ := hW
  have hA : DataW.TrodAll enc Tryz.prog W 0 (fun _ => true) true Tryz.f7.params.toList args.toList ds p := hA0
  rw [Tryz.params7] at hA hval
  obtain ⟨v0, v1, d0, d1, p0, p1, rfl, rfl, rfl, h0, h1⟩ := trodAll_two hA
  obtain ⟨rfl, rfl⟩ := trodVars_none hV
  obtain ⟨ac, rfl, rfl, rfl, w0⟩ := open_int Tryz.underlying5 (hval 0 5 v0 rfl rfl) h0
  obtain ⟨bc, rfl, rfl, rfl, w1⟩ := open_int Tryz.underlying5 (hval 1 5 v1 rfl rfl) h1
  have ha := byteZ w0
  have hb := byteZ w1
  obtain ⟨a, rfl⟩ : ∃ k : Nat, ac = (k : Int) := ⟨ac.toNat, by omega⟩
  obtain ⟨b, rfl⟩ : ∃ k : Nat, bc = (k : Int) := ⟨bc.toNat, by omega⟩
  obtain ⟨hLs, bt, hTw⟩ := of_laidP hL
  clear hA0 hval0
  have run : Calls Tryz.prog 7 #[.int .u8 (a : Int), .int .u8 (b : Int)] W fun e w' => e = .returned (.bool true) ∧ Below W.heap.size W w' :=
    binds_any W a b (by omega) (by omega) hLs hTw
  refine run.mono fun e W' ⟨he, bel⟩ => ?_
  subst he
  exact ⟨_, rfl, _, _, _, [], _, [], hW', trodAll_mk1 (shut_bool Tryz.underlying4 _), trodAll_mk2 (shut_int Tryz.underlying5 w0) (shut_int Tryz.underlying5 w1), rfl, bel.frame _, fun h => by cases h⟩
/- What the row says of the program's text, piece by piece: in one piece it takes much memory. -/
theorem parseBinds_j0 : Tryz.pinned.checked.prog.funcNamed Rows.parseBindsRow.func = some 7 := by kernel_rfl
theorem parseBinds_j1 : (Rows.parseBindsRow.unfollowed == Tryz.pinned.checked.prog.unfollowed 7) = true := by kernel_rfl
theorem parseBinds_j2 : (Rows.parseBindsRow.recurses == Tryz.pinned.checked.prog.recurses 7) = true := by kernel_rfl
theorem parseBinds_j3 : (Rows.parseBindsRow.named == Tryz.pinned.checked.prog.varsNamed 7) = true := by kernel_rfl
theorem parseBinds_j4 : (Rows.parseBindsRow.inPlace == Tryz.pinned.checked.prog.inPlace 7) = true := by kernel_rfl
theorem parseBinds_j5 : laidOutB Tryz.pinned.checked.prog = true := by kernel_rfl
theorem parseBinds_j6 : mapsRowed Tryz.pinned.checked.prog = true := by kernel_rfl
theorem parseBinds_joined : joinedFacts Tryz.pinned.checked.prog 7 Tryz.f7 Rows.parseBindsSpec Rows.parseBindsRow = true := by
  unfold joinedFacts
  rw [parseBinds_j1, parseBinds_j2, parseBinds_j3, parseBinds_j4, parseBinds_j5, parseBinds_j6]
  kernel_rfl
theorem parseBinds_row : Rows.ParseBindsSaid :=
  OpenClaim.holds_of_wide 7 Tryz.f7 rfl rfl rfl rfl rfl rfl rfl ⟨rfl, rfl, rfl, rfl, rfl⟩ rfl rfl rfl rfl rfl parseBinds_j0 Tryz.func7 parseBinds_joined
    (of_decide_eq_true (by kernel_rfl)) (by unfold Func.isWrapper; first | (rw [if_pos (by decide +kernel)]; kernel_rfl) | (rw [if_neg (by decide +kernel)]; exact ⟨rfl, rfl⟩))
    (fun os started H enc _ => parseBinds_lifted os started H enc)
theorem parseBinds_holds : Rows.ParseBindsCardSaid :=
  Claim7.holds_tied_plain_at .later [] [.data, .data, .data, .data, .sentinel, .sentinel, .data, .data, .pinned] true (true, "a167c2438d569f889344da300d9d89a3922bcf3203704e7ba174d3dc8e49f18b") true
    parseBinds_row (fun _ h => by cases h) (by kernel_rfl) (fun _ h => by cases h) parseBinds_row_tie rfl ⟨rfl, rfl⟩ (by kernel_rfl) rfl
    (fun f fn hf hfn => by
      obtain rfl : f = 7 := Option.some.inj ((show Tryz.prog.funcNamed "pointsman/pointsmanlaw08.ParseBinds" = some 7 by kernel_rfl).symm.trans hf) |>.symm
      obtain rfl : fn = Tryz.f7 := (Option.some.inj (Tryz.func7.symm.trans hfn)).symm
      exact ⟨by kernel_rfl, fun j t ht => by
        rw [Tryz.params7] at ht
        have hm : t ∈ [5, 5] := by simpa using Array.mem_of_getElem? ht
        have hall : ([5, 5].all fun u => !Tryz.prog.wantsStandIn u) = true := by kernel_rfl
        exact (show Tryz.prog.wantsStandIn t = false by simpa using List.all_eq_true.1 hall t hm)⟩)
    (by kernel_rfl)
#print axioms parseBinds_holds
end Go.Proofs.YtcfopkaomknmjaaGreatDoor
