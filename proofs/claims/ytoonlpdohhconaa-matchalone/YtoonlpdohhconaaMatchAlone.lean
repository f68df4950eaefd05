/- Proved: pointsmanlaw13.MatchAlone, called with any table, any entries, any one more and any keys, returns true and leaves its arguments as they were; no condition. -/
import Derived.Test.YtoonlpdohhconaaRowCa
import Derived.Test.YtoonlpdohhconaaMvE
namespace Go.Proofs.Ytoonlpdohhconaa
open Go.ChangeShapes Go.WideShapes Go.ChangeAt Go.RowKit

set_option maxRecDepth 100000 in
theorem open_case2 {H : Type} {enc : TypeId × Value → H} {W : World} {base fuel : Nat} {cs : List Value} {x : DataW H × List MemPlace} (h : DataW.trod enc Try.prog W base (fun _ => true) true fuel 32 cs = some x) (hw : ∀ n ∈ x.1.weights Try.prog 32, n ≤ reachBytes) : ∃ (t : TbL) (la : Option Addr) (lc : Nat) (l : List EnL) (y : EnL), cs = (caCells t la lc l y).toList ∧ CaO W t la lc l y ∧ l.length ≤ lc := by
  have hl := len_struct Try.underlying32 h
  rw [cellsCa] at hl
  obtain ⟨a, b, c, d, e, f, g, i, rfl⟩ := eight8 hl
  obtain ⟨_, y0, h0, w0⟩ := field_at Try.underlying32 h hw 0 rfl (ft := 25) (off := 0) rfl rfl cellsTb
  obtain ⟨_, y1, h1, w1⟩ := field_at Try.underlying32 h hw 1 rfl (ft := 26) (off := 3) rfl rfl cellsSl3
  obtain ⟨_, y2, h2, w2⟩ := field_at Try.underlying32 h hw 2 rfl (ft := 30) (off := 4) rfl rfl cellsEn
  obtain ⟨t, e0, r0⟩ := open_tb h0 w0
  obtain ⟨la, lc, l, e1, r1, z1, n1⟩ := open_ens h1 w1
  obtain ⟨y, e2, r2⟩ := open_en h2 w2
  simp [EnL.cells] at e0 e2
  obtain ⟨rfl, rfl, rfl⟩ := e0
  obtain ⟨rfl, rfl, rfl, rfl⟩ := e2
  have hc := open_ens_cap h1 w1 e1
  subst e1
  exact ⟨t, la, lc, l, y, rfl, ⟨r0, r1, n1, z1, r2⟩, hc⟩
set_option maxRecDepth 100000 in
theorem matchAlone_lifted (os : Os) (started : os.Started) (H : Type) (enc : TypeId × Value → H) :
    ReturnsInHanded {} Try.checked os 6 .any (Rows.matchAloneSpec.pre6 enc Try.prog Try.f6 Rows.matchAloneRow.domain false) (Rows.matchAloneSpec.post enc Try.prog Try.f6 false true false false) := by
  refine returnsInHanded_of_change_sized (C := Try.checked) ownE started (by kernel_rfl) Try.func6
    (ChangeSpec.witness6 (enc := enc) (C := Try.checked) false ⟨#[], #[.agg #[.slice none 0 0, .slice none 0 0, .int .i64 0, .slice none 0 0, .slice none 0 0, .int .i64 0, .string ⟨#[]⟩, .slice none 0 0], .slice none 0 0], []⟩ 16 (by kernel_rfl) (by kernel_rfl) (by kernel_rfl) (by kernel_rfl)) ?_
  intro W base args ds gs before hval0 hW hcnd hsz _
  have hval : ∀ (j : Nat) t v, Try.f6.params[j]? = some t → args[j]? = some v → Value.okWide Try.prog W .any base t v := hval0
  have hW' := hW
  obtain ⟨p, q, hA0, hV, rfl, hfz, hnd⟩ := hW
  have hA : DataW.TrodAll enc Try.prog W 0 (fun _ => true) true Try.f6.params.toList args.toList ds p := hA0
  rw [Try.params6] at hA hval
  obtain ⟨v0, v1, d0, d1, p0, p1, rfl, rfl, rfl, h0, h1⟩ := trodAll_two hA
  obtain ⟨rfl, rfl⟩ := trodVars_none hV
  have k0 := h0
  have lt0 : ∀ x ∈ p0, x.block < W.heap.size := by obtain ⟨m, hm⟩ := k0; exact DataW.trod_lt m _ _ _ hm
  have k1 := h1
  have lt1 : ∀ x ∈ p1, x.block < W.heap.size := by obtain ⟨m, hm⟩ := k1; exact DataW.trod_lt m _ _ _ hm
  have hsz' := hsz
  rw [Try.params6] at hsz'
  obtain ⟨cs, rfl, _⟩ := okWide_struct Try.underlying32 (hval 0 32 v0 rfl rfl)
  obtain ⟨fuel0, hf0⟩ := h0
  obtain ⟨tb, la, lc, l, y, hcs, hca, hcap⟩ := open_case2 hf0 (fun n hn => of_decide_eq_true (List.all_eq_true.1 hsz' n (DataW.weights_mem_each (j := 0) rfl rfl n hn)))
  have hcs' : cs = caCells tb la lc l y := Array.toList_inj.1 hcs
  subst hcs'
  obtain ⟨a0, len0, cap0, rfl⟩ := okWide_slice Try.underlying28 (hval 1 28 v1 rfl rfl)
  obtain ⟨fuel1, hf1⟩ := h1
  obtain ⟨ka, kc, keys, hks, hrk, _, _, hkr⟩ := open_nbs hf1 (fun n hn => of_decide_eq_true (List.all_eq_true.1 hsz' n (DataW.weights_mem_each (j := 1) rfl rfl n hn)))
  injection hks with e1 e2 e3
  subst e1 e2 e3
  clear hA0 hval0
  have run : Calls Try.prog 6 #[.agg (caCells tb la lc l y), .slice a0 keys.length cap0] W fun e w' => e = .returned (.bool true) ∧ Below W.heap.size W w' := matchAlone_any tb la lc l y a0 cap0 keys W hca hcap hrk hkr
  refine run.mono fun e W' ⟨he, bel⟩ => ?_
  subst he
  exact ⟨_, rfl, _, _, _, [], _, [], hW', trodAll_mk1 (shut_bool Try.underlying4 _), trodAll_mk2 (Below.trod laidOutE (by kernel_rfl) (of_decide_eq_true (by kernel_rfl)) k0 bel lt0) (Below.trod laidOutE (by kernel_rfl) (of_decide_eq_true (by kernel_rfl)) k1 bel lt1), rfl, bel.frame _, fun h => by cases h⟩
theorem matchAlone_holds : Rows.MatchAloneSaid :=
  OpenClaim.holds_of_wide 6 Try.f6 rfl rfl rfl rfl rfl rfl rfl ⟨rfl, rfl, rfl, rfl, rfl⟩ rfl rfl rfl rfl rfl (by kernel_rfl) Try.func6 (by kernel_rfl)
    (of_decide_eq_true (by kernel_rfl)) (by unfold Func.isWrapper; first | (rw [if_pos (by decide +kernel)]; kernel_rfl) | (rw [if_neg (by decide +kernel)]; exact ⟨rfl, rfl⟩))
    (fun os started H enc _ => matchAlone_lifted os started H enc)
#print axioms matchAlone_holds
end Go.Proofs.Ytoonlpdohhconaa
