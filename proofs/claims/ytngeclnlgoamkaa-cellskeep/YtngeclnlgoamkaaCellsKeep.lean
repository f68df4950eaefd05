/- Proved: pointsmanlaw14.CellsKeep, called with any array and any two numbers, returns true and leaves its arguments as they were; no condition. -/
import Derived.Test.YtngeclnlgoamkaaRowAr
import Derived.Test.YtngeclnlgoamkaaCeZb
namespace Go.Proofs.Ytngeclnlgoamkaa
open Go.ChangeShapes Go.WideShapes Go.ChangeAt Go.RowKit

theorem cellsKeep_any (x : ArL) (i v : Nb) (w : World) (hx : ArR w x) (hi : NbR i) (hv : NbR v) (hn : x.a.name.size ≤ 140737488355328) :
    Calls Try.prog 4 #[x.val, i.val, v.val] w fun e w' => e = .returned (.bool true) ∧ Below w.heap.size w w' := by
  by_cases hsz : arSz x.a ≤ 50000
  · by_cases hc : writeC x.a i v = 0
    · exact keep_a x i v w hx hi hv hn hsz hc
    · by_cases hd : countC x.a i = 0
      · exact keep_b x i v w hx hi hv hn hsz _ rfl hc hd
      · exact keep_c x i v w hx hi hv hn hsz _ rfl hc _ rfl hd
  · exact keep_great x i v w hx hn hsz
set_option maxRecDepth 100000 in
theorem cellsKeep_lifted (os : Os) (started : os.Started) (H : Type) (enc : TypeId × Value → H) :
    ReturnsInHanded {} Try.checked os 4 .any (Rows.cellsKeepSpec.pre6 enc Try.prog Try.f4 Rows.cellsKeepRow.domain false) (Rows.cellsKeepSpec.post enc Try.prog Try.f4 false true false false) := by
  refine returnsInHanded_of_change_sized (C := Try.checked) ownE started (by kernel_rfl) Try.func4
    (ChangeSpec.witness6 (enc := enc) (C := Try.checked) false ⟨#[], #[.agg #[.string ⟨#[]⟩, .int .u8 0, .int .i64 0, .int .i64 0, .int .i64 0, .slice none 0 0, .slice none 0 0], .agg #[.int .i64 0, .int .u64 0, .int .u64 0], .agg #[.int .i64 0, .int .u64 0, .int .u64 0]], []⟩ 16 (by kernel_rfl) (by kernel_rfl) (by kernel_rfl) (by kernel_rfl)) ?_
  intro W base args ds gs before hval0 hW hcnd hsz _
  have hval : ∀ (j : Nat) t v, Try.f4.params[j]? = some t → args[j]? = some v → Value.okWide Try.prog W .any base t v := hval0
  have hW' := hW
  obtain ⟨p, q, hA0, hV, rfl, hfz, hnd⟩ := hW
  have hA : DataW.TrodAll enc Try.prog W 0 (fun _ => true) true Try.f4.params.toList args.toList ds p := hA0
  rw [Try.params4] at hA hval
  obtain ⟨v0, v1, v2, d0, d1, d2, p0, p1, p2, rfl, rfl, rfl, h0, h1, h2⟩ := trodAll_three hA
  obtain ⟨rfl, rfl⟩ := trodVars_none hV
  have k0 := h0
  have lt0 : ∀ x ∈ p0, x.block < W.heap.size := by obtain ⟨m, hm⟩ := k0; exact DataW.trod_lt m _ _ _ hm
  have k1 := h1
  have lt1 : ∀ x ∈ p1, x.block < W.heap.size := by obtain ⟨m, hm⟩ := k1; exact DataW.trod_lt m _ _ _ hm
  have k2 := h2
  have lt2 : ∀ x ∈ p2, x.block < W.heap.size := by obtain ⟨m, hm⟩ := k2; exact DataW.trod_lt m _ _ _ hm
  have hsz' := hsz
  rw [Try.params4] at hsz'
  obtain ⟨cs, rfl, _⟩ := okWide_struct Try.underlying33 (hval 0 33 v0 rfl rfl)
  obtain ⟨ci, rfl, _⟩ := okWide_struct Try.underlying24 (hval 1 24 v1 rfl rfl)
  obtain ⟨cv, rfl, _⟩ := okWide_struct Try.underlying24 (hval 2 24 v2 rfl rfl)
  obtain ⟨fuel0, hf0⟩ := h0
  obtain ⟨fuel1, hf1⟩ := h1
  obtain ⟨fuel2, hf2⟩ := h2
  obtain ⟨x, hxc, hx, hn, _, _⟩ := open_ar hf0 (fun n hn => of_decide_eq_true (List.all_eq_true.1 hsz' n (DataW.weights_mem_each (j := 0) rfl rfl n hn)))
  obtain ⟨i, hic, hi⟩ := open_nb hf1 (fun n hn => of_decide_eq_true (List.all_eq_true.1 hsz' n (DataW.weights_mem_each (j := 1) rfl rfl n hn)))
  obtain ⟨v, hvc, hv⟩ := open_nb hf2 (fun n hn => of_decide_eq_true (List.all_eq_true.1 hsz' n (DataW.weights_mem_each (j := 2) rfl rfl n hn)))
  have e0 : cs = x.cells.toArray := Array.toList_inj.1 hxc
  have e1 : ci = i.cells.toArray := Array.toList_inj.1 hic
  have e2 : cv = v.cells.toArray := Array.toList_inj.1 hvc
  subst e0 e1 e2
  clear hA0 hval0
  have run : Calls Try.prog 4 #[.agg x.cells.toArray, .agg i.cells.toArray, .agg v.cells.toArray] W fun e w' => e = .returned (.bool true) ∧ Below W.heap.size W w' := cellsKeep_any x i v W hx hi hv hn
  refine run.mono fun e W' ⟨he, bel⟩ => ?_
  subst he
  exact ⟨_, rfl, _, _, _, [], _, [], hW', trodAll_mk1 (shut_bool Try.underlying4 _), trodAll_mk3 (Below.trod laidOutE (by kernel_rfl) (of_decide_eq_true (by kernel_rfl)) k0 bel lt0) (Below.trod laidOutE (by kernel_rfl) (of_decide_eq_true (by kernel_rfl)) k1 bel lt1) (Below.trod laidOutE (by kernel_rfl) (of_decide_eq_true (by kernel_rfl)) k2 bel lt2), rfl, bel.frame _, fun h => by cases h⟩
theorem cellsKeep_holds : Rows.CellsKeepSaid :=
  OpenClaim.holds_of_wide 4 Try.f4 rfl rfl rfl rfl rfl rfl rfl ⟨rfl, rfl, rfl, rfl, rfl⟩ rfl rfl rfl rfl rfl (by kernel_rfl) Try.func4 (by kernel_rfl)
    (of_decide_eq_true (by kernel_rfl)) (by unfold Func.isWrapper; first | (rw [if_pos (by decide +kernel)]; kernel_rfl) | (rw [if_neg (by decide +kernel)]; exact ⟨rfl, rfl⟩))
    (fun os started H enc _ => cellsKeep_lifted os started H enc)
#print axioms cellsKeep_holds
end Go.Proofs.Ytngeclnlgoamkaa
