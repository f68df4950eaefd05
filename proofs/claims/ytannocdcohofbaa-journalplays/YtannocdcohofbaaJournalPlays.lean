/- Proved: pointsmanlaw05.JournalPlays, called with any room and any operations, returns true and leaves its arguments as they were; no condition. -/
import Derived.Test.YtannocdcohofbaaJRow
import Derived.Test.YtannocdcohofbaaJPw
import Derived.Deep.Strs
namespace Go.Proofs.Ytannocdcohofbaa
open Go.ChangeShapes Go.WideShapes Go.ChangeAt Go.RowKit

theorem wordID {x : Int} (h : (Lit.int .i64 x).wf = true) : -9223372036854775808 ≤ x ∧ x < 9223372036854775808 := by
  simp [Lit.wf, IntKind.min, IntKind.max, IntKind.signed, IntKind.bits] at h
  exact ⟨by omega, by omega⟩
theorem cellsI : Try.prog.cellsOf 3 = 1 := by kernel_rfl
theorem cellsT : Try.prog.cellsOf 37 = 3 := by kernel_rfl
theorem cells_three {W : World} {base : Nat} {a : Addr} {cs : List Value} (h : W.cells? base a 3 = some cs) : ∃ u v x, cs = [u, v, x] ∧ W.cell? a = some u ∧ W.cell? (a.add 1) = some v ∧ W.cell? (a.add 2) = some x := by
  unfold World.cells? at h
  split at h
  · simp only [List.range_succ, List.range_zero, List.nil_append, List.cons_append, List.mapM_cons, List.mapM_nil] at h
    cases h0 : W.cell? (a.add 0) with
    | none => simp [h0] at h
    | some u =>
      cases h1 : W.cell? (a.add 1) with
      | none => simp [h0, h1] at h
      | some v =>
        cases h2 : W.cell? (a.add 2) with
        | none => simp [h0, h1, h2] at h
        | some x =>
          simp [h0, h1, h2] at h
          refine ⟨u, v, x, h.symm, ?_, rfl, rfl⟩
          have e : a.add 0 = a := by simp [Addr.add]
          rw [← e]; exact h0
  · cases h
set_option maxRecDepth 100000 in
theorem open_sops {H : Type} {enc : TypeId × Value → H} {W : World} {base fuel : Nat} {base2 : Nat} {a0 : Option Addr} {len cap : Nat} {x : DataW H × List MemPlace} (hok : Value.okWide Try.prog W .any base 22 (.slice a0 len cap)) (h : DataW.trod enc Try.prog W base2 (fun _ => true) true fuel 22 (Value.slice a0 len cap).cells.toList = some x) (hw : ∀ n ∈ x.1.weights Try.prog 22, n ≤ reachBytes) :
    ∃ os : List Sop, len = os.length ∧ RdO W a0 os ∧ ∀ o ∈ os, ∀ y ∈ o.xs, y < 256 := by
  rcases DataW.trod_slice Try.underlying22 h with ⟨hcs, _⟩ | ⟨a, len', cap', elems, rest, n, _, hcs, hx, _, hl, _, hlen, hel, _⟩
  · simp [Value.cells] at hcs
    obtain ⟨rfl, rfl, rfl⟩ := hcs
    exact ⟨[], rfl, ⟨.inl rfl, fun it hi => by simp at hi⟩, fun it hi => by simp at hi⟩
  · simp [Value.cells] at hcs
    obtain ⟨rfl, rfl, rfl⟩ := hcs
    obtain ⟨hs, hlt, hlc, hcm⟩ := placeT Try.underlying22 hok
    obtain ⟨b, off, sp⟩ := a
    obtain rfl : sp = none := hs
    have hwx : x.1.weights Try.prog 22 = ((elems.map (·.1)).length + (rest.map (·.1)).length) * Try.prog.bytesOf 37 :: (DataW.weightsAll Try.prog 37 (elems.map (·.1)) ++ DataW.weightsAll Try.prog 37 (rest.map (·.1))) := by
      rw [hx, DataW.weights, Try.underlying22]
    obtain ⟨os, hll, hls⟩ := exists_list (α := Sop) len (fun i o => W.cell? ⟨b, off + i * 3, none⟩ = some (.int .u8 (o.k : Nat)) ∧ W.cell? ⟨b, off + i * 3 + 1, none⟩ = some (.int .i64 o.n) ∧ W.cell? ⟨b, off + i * 3 + 2, none⟩ = some (.slice o.a o.xs.length o.cap) ∧ SopOk W o ∧ ∀ y ∈ o.xs, y < 256) (fun i hi => by
      have hE := hel i hi
      rw [cellsT] at hE
      have hi' : i < elems.length := by omega
      rw [List.getElem?_eq_getElem hi', Option.bind_eq_some_iff] at hE
      obtain ⟨cs', hcs', hy⟩ := hE
      obtain ⟨u, v, t, rfl, hcu, hcv, hct⟩ := cells_three hcs'
      obtain ⟨y0, y1, y2, n', hye, _, ht0, ht1, ht2⟩ := Go.Deep.trod_struct3 Try.underlying37 hy
      rw [add_at] at hcu hcv hct
      rw [add_at] at hcv hct
      simp only [List.drop_zero, List.drop_succ_cons] at ht0 ht1 ht2
      rw [cellsB8] at ht0
      rw [cellsI] at ht1
      rw [cellsS] at ht2
      have ht0' : DataW.trod enc Try.prog W base2 (fun _ => true) true n' 5 [u] = some y0 := ht0
      have ht1' : DataW.trod enc Try.prog W base2 (fun _ => true) true n' 3 [v] = some y1 := ht1
      have ht2' : DataW.trod enc Try.prog W base2 (fun _ => true) true n' 31 [t] = some y2 := ht2
      obtain ⟨it, h1, h2, h3, h4⟩ := open_it ht2' (fun m hm => hw m (by
        rw [hwx]
        refine List.mem_cons_of_mem _ (List.mem_append_left _ (mem_weightsAll (List.mem_map.2 ⟨_, List.getElem_mem hi', rfl⟩) m ?_))
        rw [hye, DataW.weights, Try.underlying37]
        exact List.mem_append_right _ (List.mem_append_right _ (List.mem_append_left _ hm))))
      obtain ⟨kc, hk, _, hkw⟩ := DataW.trod_int Try.underlying5 ht0'
      obtain rfl : u = .int .u8 kc := by simpa using hk
      have hkb := byteD hkw
      obtain ⟨kn, rfl⟩ := Int.eq_ofNat_of_zero_le hkb.1
      obtain ⟨z, hz, _, hzw⟩ := DataW.trod_int Try.underlying3 ht1'
      obtain rfl : v = .int .i64 z := by simpa using hz
      subst h1
      exact ⟨⟨kn, z, it.a, it.cap, it.xs⟩, hcu, hcv, hct, ⟨by show kn < 256; omega, (wordID hzw).2, h2.rd, h2.le, h2.nn, h2.ln⟩, h4⟩)
    refine ⟨os, hll.symm, ⟨.inr ⟨b, off, rfl, hlt, fun i hi => ⟨(hls i hi).1, (hls i hi).2.1, (hls i hi).2.2.1⟩⟩, fun o ho => ?_⟩, fun o ho => ?_⟩
    · obtain ⟨i, hi2, rfl⟩ := List.getElem_of_mem ho
      exact (hls i hi2).2.2.2.1
    · obtain ⟨i, hi2, rfl⟩ := List.getElem_of_mem ho
      exact (hls i hi2).2.2.2.2
set_option maxRecDepth 100000 in
theorem journalPlays_lifted (os : Os) (started : os.Started) (H : Type) (enc : TypeId × Value → H) :
    ReturnsInHanded {} Try.checked os 3 .any (Rows.journalPlaysSpec.pre6 enc Try.prog Try.f3 Rows.journalPlaysRow.domain false) (Rows.journalPlaysSpec.post enc Try.prog Try.f3 false true false false) := by
  refine returnsInHanded_of_change_sized (C := Try.checked) ownD started (by kernel_rfl) Try.func3
    (ChangeSpec.witness6 (enc := enc) (C := Try.checked) false ⟨#[], #[.int .i64 0, .slice none 0 0], []⟩ 8 (by kernel_rfl) (by kernel_rfl) (by kernel_rfl) (by kernel_rfl)) ?_
  intro W base args ds gs before hval0 hW hcnd hsz _
  have hval : ∀ (j : Nat) t v, Try.f3.params[j]? = some t → args[j]? = some v → Value.okWide Try.prog W .any base t v := hval0
  have hW' := hW
  obtain ⟨p, q, hA0, hV, rfl, hfz, hnd⟩ := hW
  have hA : DataW.TrodAll enc Try.prog W 0 (fun _ => true) true Try.f3.params.toList args.toList ds p := hA0
  rw [Try.params3] at hA hval
  obtain ⟨v0, v1, d0, d1, p0, p1, rfl, rfl, rfl, h0, h1⟩ := trodAll_two hA
  obtain ⟨rfl, rfl⟩ := trodVars_none hV
  have k1 := h1
  have lt1 : ∀ x ∈ p1, x.block < W.heap.size := by obtain ⟨m, hm⟩ := k1; exact DataW.trod_lt m _ _ _ hm
  have hsz' := hsz
  rw [Try.params3] at hsz'
  obtain ⟨n0, rfl, rfl, rfl, wf0⟩ := open_int Try.underlying3 (hval 0 3 v0 rfl rfl) h0
  obtain ⟨a0, len0, cap0, rfl⟩ := okWide_slice Try.underlying22 (hval 1 22 v1 rfl rfl)
  obtain ⟨fuel0, hf0⟩ := h1
  obtain ⟨os', hlen0, hrd0, hby0⟩ := open_sops (hval 1 22 _ rfl rfl) hf0 (fun n hn => of_decide_eq_true (List.all_eq_true.1 hsz' n (DataW.weights_mem_each (j := 1) rfl rfl n hn)))
  clear hA0 hval0
  have run : Calls Try.prog 3 #[.int .i64 n0, .slice a0 len0 cap0] W fun e w' => e = .returned (.bool true) ∧ Below W.heap.size W w' := by
    subst hlen0
    by_cases hl : os'.length ≤ 200
    · exact jplays_yes n0 a0 cap0 os' W hl hrd0 hby0
    · exact jplays_long n0 a0 os'.length cap0 W (by omega)
  refine run.mono fun e W' ⟨he, bel⟩ => ?_
  subst he
  exact ⟨_, rfl, _, _, _, [], _, [], hW', trodAll_mk1 (shut_bool Try.underlying4 _), trodAll_mk2 (shut_int Try.underlying3 wf0) (Below.trod laidOutD (by kernel_rfl) (of_decide_eq_true (by kernel_rfl)) k1 bel lt1), rfl, bel.frame _, fun h => by cases h⟩
theorem journalPlays_holds : Rows.JournalPlaysSaid :=
  OpenClaim.holds_of_wide 3 Try.f3 rfl rfl rfl rfl rfl rfl rfl ⟨rfl, rfl, rfl, rfl, rfl⟩ rfl rfl rfl rfl rfl (by kernel_rfl) Try.func3 (by kernel_rfl)
    (of_decide_eq_true (by kernel_rfl)) (by unfold Func.isWrapper; first | (rw [if_pos (by decide +kernel)]; kernel_rfl) | (rw [if_neg (by decide +kernel)]; exact ⟨rfl, rfl⟩))
    (fun os started H enc _ => journalPlays_lifted os started H enc)
#print axioms journalPlays_holds
end Go.Proofs.Ytannocdcohofbaa
