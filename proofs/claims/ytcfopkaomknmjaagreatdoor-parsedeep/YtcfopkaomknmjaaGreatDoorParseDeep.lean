/- Proved: pointsmanlaw08.ParseDeep, called with any number of two bytes and any two numbers of a byte, returns true and leaves them as they were; what is laid is tied to the program's text. -/
import Derived.Test.YtcfopkaomknmjaaGreatDoorCards
import Derived.Test.YtcfopkaomknmjaaGreatDoorTie
import Derived.Test.YtcfopkaomknmjaaGreatDoorM11
import Derived.Test.YtcfopkaomknmjaaGreatDoorM36
import Derived.SevenTiedAt
namespace Go.Proofs.YtcfopkaomknmjaaGreatDoor
open Go.ChangeShapes Go.WideShapes Go.ChangeAt Go.ChangeMaps Go.RowKit

theorem wordZ {x : Int} (h : (Lit.int .u16 x).wf = true) : 0 ≤ x ∧ x < 65536 := by
  simp [Lit.wf, IntKind.min, IntKind.max, IntKind.signed, IntKind.bits] at h
  exact ⟨by omega, by omega⟩
theorem byteZ {x : Int} (h : (Lit.int .u8 x).wf = true) : 0 ≤ x ∧ x < 256 := by
  simp [Lit.wf, IntKind.min, IntKind.max, IntKind.signed, IntKind.bits] at h
  exact ⟨by omega, by omega⟩
set_option maxRecDepth 100000 in
theorem parseDeep_lifted (os : Os) (started : os.Started) (H : Type) (enc : TypeId × Value → H) :
    ReturnsInHanded {} Tryz.checked os 6 .any (fun w args => (Rows.parseDeepSpec.pre enc Tryz.prog Tryz.f6 [] false w args ∧ laidMetH Tryz.prog laidP w) ∧ sizedMet enc Tryz.prog Tryz.f6 (OpenSpec.ofChange Rows.parseDeepSpec) false w args)
      (Rows.parseDeepSpec.post enc Tryz.prog Tryz.f6 false true false false) := by
  refine returnsInHanded_of_change_and (C := Tryz.checked) (X := fun w _ => laidMetH Tryz.prog laidP w) (fun _ _ _ hh h => h.of_heap hh) ownV started (by kernel_rfl) Tryz.func6
    (ChangeSpec.witness_shaped (enc := enc) (C := Tryz.checked) (os := os) (X := fun w _ => laidMetH Tryz.prog laidP w) false (World.laidAll Tryz.prog os laidP) #[.int .u16 0, .int .u8 0, .int .u8 0] 8 (World.laidAll_os _ _ _) (World.shaped_of_ZipB (by kernel_rfl) (by kernel_rfl)) (by kernel_rfl) (by kernel_rfl) (by kernel_rfl) (door_metP os _)) ?_
  intro W base args ds gs before hval0 hW _ _ hL _
  have hval : ∀ (j : Nat) t v, Tryz.f6.params[j]? = some t → args[j]? = some v → Value.okWide Tryz.prog W .any base t v := hval0
  have hW' := hW
  obtain ⟨p, q, hA0, hV, rfl, hfz, hnd⟩ := hW
  have hA : DataW.TrodAll enc Tryz.prog W 0 (fun _ => true) true Tryz.f6.params.toList args.toList ds p := hA0
  rw [Tryz.params6] at hA hval
  obtain ⟨v0, v1, v2, d0, d1, d2, p0, p1, p2, rfl, rfl, rfl, h0, h1, h2⟩ := trodAll_three hA
  obtain ⟨rfl, rfl⟩ := trodVars_none hV
  obtain ⟨ac, rfl, rfl, rfl, w0⟩ := open_int Tryz.underlying42 (hval 0 42 v0 rfl rfl) h0
  obtain ⟨bc, rfl, rfl, rfl, w1⟩ := open_int Tryz.underlying5 (hval 1 5 v1 rfl rfl) h1
  obtain ⟨cc, rfl, rfl, rfl, w2⟩ := open_int Tryz.underlying5 (hval 2 5 v2 rfl rfl) h2
  have ha := wordZ w0
  have hb := byteZ w1
  have hc := byteZ w2
  obtain ⟨a, rfl⟩ : ∃ k : Nat, ac = (k : Int) := ⟨ac.toNat, by omega⟩
  obtain ⟨b, rfl⟩ : ∃ k : Nat, bc = (k : Int) := ⟨bc.toNat, by omega⟩
  obtain ⟨c, rfl⟩ : ∃ k : Nat, cc = (k : Int) := ⟨cc.toNat, by omega⟩
  obtain ⟨hLs, bt, hTw⟩ := of_laidP hL
  clear hA0 hval0
  have run : Calls Tryz.prog 6 #[.int .u16 (a : Int), .int .u8 (b : Int), .int .u8 (c : Int)] W fun e w' => e = .returned (.bool true) ∧ Below W.heap.size W w' :=
    deep_any W a b c (by omega) (by omega) (by omega) hLs hTw
  refine run.mono fun e W' ⟨he, bel⟩ => ?_
  subst he
  exact ⟨_, rfl, _, _, _, [], _, [], hW', trodAll_mk1 (shut_bool Tryz.underlying4 _), trodAll_mk3 (shut_int Tryz.underlying42 w0) (shut_int Tryz.underlying5 w1) (shut_int Tryz.underlying5 w2), rfl, bel.frame _, fun h => by cases h⟩
/- What the row says of the program's text, piece by piece: in one piece it takes much memory. -/
theorem parseDeep_j0 : Tryz.pinned.checked.prog.funcNamed Rows.parseDeepRow.func = some 6 := by kernel_rfl
theorem parseDeep_j1 : (Rows.parseDeepRow.unfollowed == Tryz.pinned.checked.prog.unfollowed 6) = true := by kernel_rfl
theorem parseDeep_j2 : (Rows.parseDeepRow.recurses == Tryz.pinned.checked.prog.recurses 6) = true := by kernel_rfl
theorem parseDeep_j3 : (Rows.parseDeepRow.named == Tryz.pinned.checked.prog.varsNamed 6) = true := by kernel_rfl
theorem parseDeep_j4 : (Rows.parseDeepRow.inPlace == Tryz.pinned.checked.prog.inPlace 6) = true := by kernel_rfl
theorem parseDeep_j5 : laidOutB Tryz.pinned.checked.prog = true := by kernel_rfl
theorem parseDeep_j6 : mapsRowed Tryz.pinned.checked.prog = true := by kernel_rfl
theorem parseDeep_joined : joinedFacts Tryz.pinned.checked.prog 6 Tryz.f6 Rows.parseDeepSpec Rows.parseDeepRow = true := by
  unfold joinedFacts
  rw [parseDeep_j1, parseDeep_j2, parseDeep_j3, parseDeep_j4, parseDeep_j5, parseDeep_j6]
  kernel_rfl
theorem parseDeep_row : Rows.ParseDeepSaid :=
  OpenClaim.holds_of_wide 6 Tryz.f6 rfl rfl rfl rfl rfl rfl rfl ⟨rfl, rfl, rfl, rfl, rfl⟩ rfl rfl rfl rfl rfl parseDeep_j0 Tryz.func6 parseDeep_joined
    (of_decide_eq_true (by kernel_rfl)) (by unfold Func.isWrapper; first | (rw [if_pos (by decide +kernel)]; kernel_rfl) | (rw [if_neg (by decide +kernel)]; exact ⟨rfl, rfl⟩))
    (fun os started H enc _ => parseDeep_lifted os started H enc)
theorem parseDeep_holds : Rows.ParseDeepCardSaid :=
  Claim7.holds_tied_plain_at .later [] [.data, .data, .data, .data, .sentinel, .sentinel, .data, .data, .pinned] true (true, "a167c2438d569f889344da300d9d89a3922bcf3203704e7ba174d3dc8e49f18b") true
    parseDeep_row (fun _ h => by cases h) (by kernel_rfl) (fun _ h => by cases h) parseDeep_row_tie rfl ⟨rfl, rfl⟩ (by kernel_rfl) rfl
    (fun f fn hf hfn => by
      obtain rfl : f = 6 := Option.some.inj ((show Tryz.prog.funcNamed "pointsman/pointsmanlaw08.ParseDeep" = some 6 by kernel_rfl).symm.trans hf) |>.symm
      obtain rfl : fn = Tryz.f6 := (Option.some.inj (Tryz.func6.symm.trans hfn)).symm
      exact ⟨by kernel_rfl, fun j t ht => by
        rw [Tryz.params6] at ht
        have hm : t ∈ [42, 5, 5] := by simpa using Array.mem_of_getElem? ht
        have hall : ([42, 5, 5].all fun u => !Tryz.prog.wantsStandIn u) = true := by kernel_rfl
        exact (show Tryz.prog.wantsStandIn t = false by simpa using List.all_eq_true.1 hall t hm)⟩)
    (by kernel_rfl)
#print axioms parseDeep_holds
end Go.Proofs.YtcfopkaomknmjaaGreatDoor
