/- Proved: pointsmanlaw13.MatchChanges, called with any table, any entries and any one more, returns true and leaves its argument as it was; what is laid is tied to the program's text. -/
import Derived.Test.YteflnicgohjiiaaGreatDoorCards
import Derived.Test.YteflnicgohjiiaaGreatDoorTie
import Derived.Test.YteflnicgohjiiaaGreatDoorM19
import Derived.Test.YteflnicgohjiiaaGreatDoorM47
import Derived.ProofKit
import Derived.OpenShut
import Derived.ChangeOld
import Derived.LaidMore
import Derived.LaidLaws
import Derived.ChangeMaps5
import Derived.Stop.Joined
import Derived.SevenTiedAt
namespace Go.Proofs.YteflnicgohjiiaaGreatDoor
open Go.ChangeShapes Go.WideShapes Go.ChangeAt Go.ChangeMaps Go.RowKit

def laidB : List (String × DataW Unit) := [("math/bits.deBruijn32tab", Rows.laid_math_bits_deBruijn32tab), ("math/bits.deBruijn64tab", Rows.laid_math_bits_deBruijn64tab), ("internal/strconv.uint64pow10", Rows.laid_internal_strconv_uint64pow10)]
theorem door_met (os : Os) (args : Array Value) : laidMetH Tryz.prog laidB ((World.doorLaid Tryz.prog 24 os).forCall (fun _ _ => 0) ⟨#[], args, []⟩).memory :=
  laidMetH_of_parts3 (fuel := 8) (laidMet_of_run' 8 (by kernel_rfl) (by kernel_rfl)) (by kernel_rfl) (by kernel_rfl)
theorem tPowV : (Tryz.prog.globals[0]?).map (·.type) = some 351 := by kernel_rfl
theorem cPowV : Tryz.prog.cellsOf 351 = 20 := by kernel_rfl
theorem cU64V : Tryz.prog.cellsOf 83 = 1 := by kernel_rfl
theorem of_laid {W : World} (h : laidMetH Tryz.prog laidB W) : Lp W := by
  rw [MakeChecks.laidMetH_plain _ _ _ (by kernel_rfl)] at h
  obtain ⟨ps, ⟨g0, t0, cs0, f0, p0, q0, hg0, ht0, hv0, hd0, ⟨g1, t1, cs1, f1, p1, q1, hg1, ht1, hv1, hd1, ⟨g2, t2, cs2, f2, p2, q2, hg2, ht2, hv2, hd2, _, _⟩, _⟩, _⟩, _, _⟩ := h
  obtain rfl := Option.some.inj (gPowW.symm.trans hg2)
  obtain rfl := Option.some.inj (tPowV.symm.trans ht2)
  refine ⟨?_⟩
  have := Lib.cells_of_tab (zs := Lib.pow10Tab) Tryz.underlying351 Tryz.underlying83 cU64V cPowV hd2
  unfold Lib.TabIs
  rw [hv2, ← this]
set_option maxRecDepth 100000 in
theorem case_cap {H : Type} {enc : TypeId × Value → H} {W : World} {base fuel : Nat} {x : DataW H × List MemPlace} {t : TbL} {la : Option Addr} {lc : Nat} {l : List EnL} {y : EnL} (h : DataW.trod enc Tryz.prog W base (fun _ => true) true fuel 32 (caCells t la lc l y).toList = some x) (hw : ∀ n ∈ x.1.weights Tryz.prog 32, n ≤ reachBytes) : l.length ≤ lc := by
  obtain ⟨_, y1, h1, w1⟩ := field_at Tryz.underlying32 h hw 1 rfl (ft := 26) (off := 3) rfl rfl cellsSl3
  obtain ⟨a', cap', m, e, h2, _, _⟩ := open_list Tryz.underlying26 cellsEn (by decide) EnL.cells (EnO W) (fun h hw => open_en h hw) (v := .slice la l.length lc) h1 w1
  injection e with e1 e2 e3
  rw [e2, e3]; exact h2.le
set_option maxRecDepth 100000 in
theorem matchChanges_lifted (os : Os) (started : os.Started) (H : Type) (enc : TypeId × Value → H) :
    ReturnsInHanded {} Tryz.checked os 3 .any (fun w args => (Rows.matchChangesSpec.pre enc Tryz.prog Tryz.f3 [] false w args ∧ laidMetH Tryz.prog laidB w) ∧ sizedMet enc Tryz.prog Tryz.f3 (OpenSpec.ofChange Rows.matchChangesSpec) false w args)
      (Rows.matchChangesSpec.post enc Tryz.prog Tryz.f3 false true false false) := by
  refine returnsInHanded_of_change_and (C := Tryz.checked) (X := fun w _ => laidMetH Tryz.prog laidB w) (fun _ _ _ hh h => h.of_heap hh) ownE started (by kernel_rfl) Tryz.func3
    (ChangeSpec.witness_shaped (enc := enc) (C := Tryz.checked) (os := os) (X := fun w _ => laidMetH Tryz.prog laidB w) false (World.doorLaid Tryz.prog 24 os) #[.agg #[.slice none 0 0, .slice none 0 0, .int .i64 0, .slice none 0 0, .slice none 0 0, .int .i64 0, .string ⟨#[]⟩, .slice none 0 0]] 16 rfl (World.shaped_of_RefB (by kernel_rfl) (by kernel_rfl)) (by kernel_rfl) (by kernel_rfl) (by kernel_rfl) (door_met os _)) ?_
  intro W base args ds gs before hval0 hW _ hsz hLd _
  have hval : ∀ (j : Nat) t v, Tryz.f3.params[j]? = some t → args[j]? = some v → Value.okWide Tryz.prog W .any base t v := hval0
  have hW' := hW
  obtain ⟨p, q, hA0, hV, rfl, hfz, hnd⟩ := hW
  have hA : DataW.TrodAll enc Tryz.prog W 0 (fun _ => true) true Tryz.f3.params.toList args.toList ds p := hA0
  rw [Tryz.params3] at hA hval
  obtain ⟨v0, d0, rfl, rfl, h0⟩ := trodAll_one hA
  obtain ⟨rfl, rfl⟩ := trodVars_none hV
  have k0 := h0
  have lt0 : ∀ x ∈ p, x.block < W.heap.size := by obtain ⟨m, hm⟩ := k0; exact DataW.trod_lt m _ _ _ hm
  have hsz' := hsz
  rw [Tryz.params3] at hsz'
  obtain ⟨cs, rfl, _⟩ := okWide_struct Tryz.underlying32 (hval 0 32 v0 rfl rfl)
  obtain ⟨fuel0, hf0⟩ := h0
  obtain ⟨tb, la, lc, l, y, hcs, hca⟩ := open_case hf0 (fun n hn => of_decide_eq_true (List.all_eq_true.1 hsz' n (DataW.weights_mem_each (j := 0) rfl rfl n hn)))
  have hcs' : cs = caCells tb la lc l y := Array.toList_inj.1 hcs
  subst hcs'
  have hcap := case_cap hf0 (fun n hn => of_decide_eq_true (List.all_eq_true.1 hsz' n (DataW.weights_mem_each (j := 0) rfl rfl n hn)))
  clear hA0 hval0
  have run : Calls Tryz.prog 3 #[.agg (caCells tb la lc l y)] W fun e w' => e = .returned (.bool true) ∧ Below W.heap.size W w' := matchChanges_any tb la lc l y W hca hcap (of_laid hLd)
  refine run.mono fun e W' ⟨he, bel⟩ => ?_
  subst he
  exact ⟨_, rfl, _, _, _, [], _, [], hW', trodAll_mk1 (shut_bool Tryz.underlying4 _), trodAll_mk1 (Below.trod laidOutE (by kernel_rfl) (of_decide_eq_true (by kernel_rfl)) k0 bel lt0), rfl, bel.frame _, fun h => by cases h⟩
theorem matchChanges_row : Rows.MatchChangesSaid :=
  OpenClaim.holds_of_wide 3 Tryz.f3 rfl rfl rfl rfl rfl rfl rfl ⟨rfl, rfl, rfl, rfl, rfl⟩ rfl rfl rfl rfl rfl (by kernel_rfl) Tryz.func3 (by kernel_rfl)
    (of_decide_eq_true (by kernel_rfl)) (by unfold Func.isWrapper; first | (rw [if_pos (by decide +kernel)]; kernel_rfl) | (rw [if_neg (by decide +kernel)]; exact ⟨rfl, rfl⟩))
    (fun os started H enc _ => matchChanges_lifted os started H enc)
theorem matchChanges_holds : Rows.MatchChangesCardSaid :=
  Claim7.holds_tied_plain_at .later [] [.data, .data, .data] true (true, "bdf35f88111e86b07e7dcfc3173a5566232d256c41990fd676c43068df8b04c0") false
    matchChanges_row (fun _ h => by cases h) (by kernel_rfl) (fun _ h => by cases h) matchChanges_row_tie rfl ⟨rfl, rfl⟩ (by kernel_rfl) rfl
    (fun f fn hf hfn => by
      obtain rfl : f = 3 := Option.some.inj ((show Tryz.prog.funcNamed "pointsman/pointsmanlaw13.MatchChanges" = some 3 by kernel_rfl).symm.trans hf) |>.symm
      obtain rfl : fn = Tryz.f3 := (Option.some.inj (Tryz.func3.symm.trans hfn)).symm
      exact ⟨by kernel_rfl, fun j t ht => by
        rw [Tryz.params3] at ht
        have hm : t ∈ [32] := by simpa using Array.mem_of_getElem? ht
        have hall : ([32].all fun u => !Tryz.prog.wantsStandIn u) = true := by kernel_rfl
        exact (show Tryz.prog.wantsStandIn t = false by simpa using List.all_eq_true.1 hall t hm)⟩)
    (by kernel_rfl)
#print axioms matchChanges_holds
end Go.Proofs.YteflnicgohjiiaaGreatDoor
