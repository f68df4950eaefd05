/- Proved: pointsmanlaw05.JournalHolds, called with any records, each with a failure of the power or not, returns true and leaves its arguments as they were; no condition. -/
import Derived.Test.YtannocdcohofbaaJRow
import Derived.Test.YtannocdcohofbaaJHo
namespace Go.Proofs.Ytannocdcohofbaa
open Go.ChangeShapes Go.WideShapes Go.ChangeAt Go.RowKit

theorem wordID {x : Int} (h : (Lit.int .i64 x).wf = true) : -9223372036854775808 ≤ x ∧ x < 9223372036854775808 := by
  simp [Lit.wf, IntKind.min, IntKind.max, IntKind.signed, IntKind.bits] at h
  exact ⟨by omega, by omega⟩
theorem cellsI : Try.prog.cellsOf 3 = 1 := by kernel_rfl
theorem cellsT : Try.prog.cellsOf 62 = 2 := by kernel_rfl
theorem bytesT : Try.prog.bytesOf 62 = 32 := by kernel_rfl
theorem cells_two {W : World} {base : Nat} {a : Addr} {cs : List Value} (h : W.cells? base a 2 = some cs) : ∃ u v, cs = [u, v] ∧ W.cell? a = some u ∧ W.cell? (a.add 1) = some v := by
  unfold World.cells? at h
  split at h
  · simp only [List.range_succ, List.range_zero, List.nil_append, List.cons_append, List.mapM_cons, List.mapM_nil] at h
    cases h0 : W.cell? (a.add 0) with
    | none => simp [h0] at h
    | some u =>
      cases h1 : W.cell? (a.add 1) with
      | none => simp [h0, h1] at h
      | some v =>
        simp [h0, h1] at h
        refine ⟨u, v, h.symm, ?_, rfl⟩
        have e : a.add 0 = a := by simp [Addr.add]
        rw [← e]; exact h0
  · cases h
set_option maxRecDepth 100000 in
theorem open_turns {H : Type} {enc : TypeId × Value → H} {W : World} {base fuel : Nat} {base2 : Nat} {a0 : Option Addr} {len cap : Nat} {x : DataW H × List MemPlace} (hok : Value.okWide Try.prog W .any base 60 (.slice a0 len cap)) (h : DataW.trod enc Try.prog W base2 (fun _ => true) true fuel 60 (Value.slice a0 len cap).cells.toList = some x) (hw : ∀ n ∈ x.1.weights Try.prog 60, n ≤ reachBytes) :
    ∃ ts : List Trn, len = ts.length ∧ RdT W a0 ts ∧ len ≤ 140737488355328 := by
  rcases DataW.trod_slice Try.underlying60 h with ⟨hcs, _⟩ | ⟨a, len', cap', elems, rest, n, _, hcs, hx, _, hl, _, hlen, hel, _⟩
  · simp [Value.cells] at hcs
    obtain ⟨rfl, rfl, rfl⟩ := hcs
    exact ⟨[], rfl, ⟨.inl rfl, fun it hi => by simp at hi⟩, by omega⟩
  · simp [Value.cells] at hcs
    obtain ⟨rfl, rfl, rfl⟩ := hcs
    obtain ⟨hs, hlt, hlc, hcm⟩ := placeT Try.underlying60 hok
    obtain ⟨b, off, sp⟩ := a
    obtain rfl : sp = none := hs
    have hwx : x.1.weights Try.prog 60 = ((elems.map (·.1)).length + (rest.map (·.1)).length) * Try.prog.bytesOf 62 :: (DataW.weightsAll Try.prog 62 (elems.map (·.1)) ++ DataW.weightsAll Try.prog 62 (rest.map (·.1))) := by
      rw [hx, DataW.weights, Try.underlying60]
    have hlen2 : len ≤ 140737488355328 := by
      have := hw _ (by rw [hwx]; exact List.mem_cons_self ..)
      rw [bytesT, List.length_map, hlen] at this
      unfold reachBytes at this
      omega
    obtain ⟨ts, hll, hls⟩ := exists_list (α := Trn) len (fun i t => W.cell? ⟨b, off + i * 2, none⟩ = some (.slice t.it.a t.it.xs.length t.it.cap) ∧ W.cell? ⟨b, off + i * 2 + 1, none⟩ = some (.int .i64 t.fail) ∧ TrnOk W t) (fun i hi => by
      have hE := hel i hi
      rw [cellsT] at hE
      have hi' : i < elems.length := by omega
      rw [List.getElem?_eq_getElem hi', Option.bind_eq_some_iff] at hE
      obtain ⟨cs', hcs', hy⟩ := hE
      obtain ⟨u, v, rfl, hcu, hcv⟩ := cells_two hcs'
      obtain ⟨y0, y1, n', hye, _, ht0, ht1⟩ := trod_struct2 Try.underlying62 hy
      rw [add_at] at hcu hcv
      rw [add_at] at hcv
      simp only [List.drop_zero, List.drop_succ_cons] at ht0 ht1
      rw [cellsS] at ht0
      rw [cellsI] at ht1
      have ht0' : DataW.trod enc Try.prog W base2 (fun _ => true) true n' 31 [u] = some y0 := ht0
      have ht1' : DataW.trod enc Try.prog W base2 (fun _ => true) true n' 3 [v] = some y1 := ht1
      obtain ⟨it, h1, h2, h3, h4⟩ := open_it ht0' (fun m hm => hw m (by
        rw [hwx]
        refine List.mem_cons_of_mem _ (List.mem_append_left _ (mem_weightsAll (List.mem_map.2 ⟨_, List.getElem_mem hi', rfl⟩) m ?_))
        rw [hye, DataW.weights, Try.underlying62]
        exact List.mem_append_left _ hm))
      obtain ⟨z, hz, _, hzw⟩ := DataW.trod_int Try.underlying3 ht1'
      obtain rfl : v = .int .i64 z := by simpa using hz
      subst h1
      exact ⟨⟨it, z⟩, hcu, hcv, ⟨h2, h4, (wordID hzw).1, (wordID hzw).2⟩⟩)
    refine ⟨ts, hll.symm, ⟨.inr ⟨b, off, rfl, hlt, fun i hi => ⟨(hls i hi).1, (hls i hi).2.1⟩⟩, fun t ht => ?_⟩, hlen2⟩
    obtain ⟨i, hi2, rfl⟩ := List.getElem_of_mem ht
    exact (hls i hi2).2.2
set_option maxRecDepth 100000 in
theorem journalHolds_lifted (os : Os) (started : os.Started) (H : Type) (enc : TypeId × Value → H) :
    ReturnsInHanded {} Try.checked os 5 .any (Rows.journalHoldsSpec.pre6 enc Try.prog Try.f5 Rows.journalHoldsRow.domain false) (Rows.journalHoldsSpec.post enc Try.prog Try.f5 false true false false) := by
  refine returnsInHanded_of_change_sized (C := Try.checked) ownD started (by kernel_rfl) Try.func5
    (ChangeSpec.witness6 (enc := enc) (C := Try.checked) false ⟨#[], #[.slice none 0 0], []⟩ 8 (by kernel_rfl) (by kernel_rfl) (by kernel_rfl) (by kernel_rfl)) ?_
  intro W base args ds gs before hval0 hW hcnd hsz _
  have hval : ∀ (j : Nat) t v, Try.f5.params[j]? = some t → args[j]? = some v → Value.okWide Try.prog W .any base t v := hval0
  have hW' := hW
  obtain ⟨p, q, hA0, hV, rfl, hfz, hnd⟩ := hW
  have hA : DataW.TrodAll enc Try.prog W 0 (fun _ => true) true Try.f5.params.toList args.toList ds p := hA0
  rw [Try.params5] at hA hval
  obtain ⟨v0, d0, rfl, rfl, h0⟩ := trodAll_one hA
  obtain ⟨rfl, rfl⟩ := trodVars_none hV
  have k0 := h0
  have lt0 : ∀ x ∈ p, x.block < W.heap.size := by obtain ⟨m, hm⟩ := k0; exact DataW.trod_lt m _ _ _ hm
  have hsz' := hsz
  rw [Try.params5] at hsz'
  obtain ⟨a0, len0, cap0, rfl⟩ := okWide_slice Try.underlying60 (hval 0 60 v0 rfl rfl)
  obtain ⟨fuel0, hf0⟩ := h0
  obtain ⟨ts, hlen0, hrd0, hll⟩ := open_turns (hval 0 60 _ rfl rfl) hf0 (fun n hn => of_decide_eq_true (List.all_eq_true.1 hsz' n (DataW.weights_mem_each (j := 0) rfl rfl n hn)))
  clear hA0 hval0
  have run : Calls Try.prog 5 #[.slice a0 len0 cap0] W fun e w' => e = .returned (.bool true) ∧ Below W.heap.size W w' := by
    subst hlen0
    exact holds_yes a0 cap0 ts W hll hrd0
  refine run.mono fun e W' ⟨he, bel⟩ => ?_
  subst he
  exact ⟨_, rfl, _, _, _, [], _, [], hW', trodAll_mk1 (shut_bool Try.underlying4 _), trodAll_mk1 (Below.trod laidOutD (by kernel_rfl) (of_decide_eq_true (by kernel_rfl)) k0 bel lt0), rfl, bel.frame _, fun h => by cases h⟩
theorem journalHolds_holds : Rows.JournalHoldsSaid :=
  OpenClaim.holds_of_wide 5 Try.f5 rfl rfl rfl rfl rfl rfl rfl ⟨rfl, rfl, rfl, rfl, rfl⟩ rfl rfl rfl rfl rfl (by kernel_rfl) Try.func5 (by kernel_rfl)
    (of_decide_eq_true (by kernel_rfl)) (by unfold Func.isWrapper; first | (rw [if_pos (by decide +kernel)]; kernel_rfl) | (rw [if_neg (by decide +kernel)]; exact ⟨rfl, rfl⟩))
    (fun os started H enc _ => journalHolds_lifted os started H enc)
#print axioms journalHolds_holds
end Go.Proofs.Ytannocdcohofbaa
