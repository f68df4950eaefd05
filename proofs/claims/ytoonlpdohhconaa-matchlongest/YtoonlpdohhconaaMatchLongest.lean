/- Proved: pointsmanlaw13.MatchLongest, called with any pairs of bytes and any key, returns true and leaves its arguments as they were; no condition. -/
import Derived.Test.YtoonlpdohhconaaRowE
import Derived.Test.YtoonlpdohhconaaMuB
namespace Go.Proofs.Ytoonlpdohhconaa
open Go.ChangeShapes Go.WideShapes Go.ChangeAt Go.RowKit

theorem cells2 : Try.prog.cellsOf 57 = 2 := by kernel_rfl
theorem cells1 : Try.prog.cellsOf 5 = 1 := by kernel_rfl
def pairC (p : Nat × Nat) : List Value := [.int .u8 (p.1 : Nat), .int .u8 (p.2 : Nat)]
theorem len_two {α : Type} {l : List α} (h : l.length = 2) : ∃ u v, l = [u, v] := by
  rcases l with _ | ⟨u, _ | ⟨v, _ | ⟨z, r⟩⟩⟩
  · cases h
  · cases h
  · exact ⟨u, v, rfl⟩
  · simp at h
set_option maxRecDepth 100000 in
theorem open_pair {H : Type} {enc : TypeId × Value → H} {W : World} {base fuel : Nat} {cs : List Value} {x : DataW H × List MemPlace} (h : DataW.trod enc Try.prog W base (fun _ => true) true fuel 57 cs = some x) : ∃ p : Nat × Nat, cs = pairC p ∧ (p.1 < 256 ∧ p.2 < 256) := by
  obtain ⟨xs, m, _, _, hl, hxl, hf⟩ := DataW.trod_array Try.underlying57 h
  rw [cells2] at hl
  obtain ⟨u, v, rfl⟩ := len_two hl
  rw [cells1] at hf
  have h0 := hf 0 (by decide)
  have h1 := hf 1 (by decide)
  have e0 : xs[0]? = some xs[0] := List.getElem?_eq_getElem (by omega)
  have e1 : xs[1]? = some xs[1] := List.getElem?_eq_getElem (by omega)
  rw [e0] at h0
  rw [e1] at h1
  have h0' : DataW.trod enc Try.prog W base (fun _ => true) true m 5 [u] = some xs[0] := h0
  have h1' : DataW.trod enc Try.prog W base (fun _ => true) true m 5 [v] = some xs[1] := h1
  obtain ⟨a, q0, _, w0⟩ := DataW.trod_int Try.underlying5 h0'
  obtain ⟨b, q1, _, w1⟩ := DataW.trod_int Try.underlying5 h1'
  have b0 := byteE w0
  have b1 := byteE w1
  obtain ⟨n, rfl⟩ := Int.eq_ofNat_of_zero_le b0.1
  obtain ⟨k, rfl⟩ := Int.eq_ofNat_of_zero_le b1.1
  simp at q0 q1
  subst q0 q1
  exact ⟨(n, k), rfl, by show n < 256; omega, by show k < 256; omega⟩
theorem rd8_of {W : World} {a : Option Addr} {cap : Nat} {l : List (Nat × Nat)} (h : LiE W 2 pairC a cap l) : Rd8 W a l := by
  rcases h.rd with h | ⟨p, off, e, hp, hc⟩
  · exact .inl h
  · exact .inr ⟨p, off, e, hp, fun i hi => ⟨hc i hi 0 _ rfl, hc i hi 1 _ rfl⟩⟩
set_option maxRecDepth 100000 in
theorem matchLongest_lifted (os : Os) (started : os.Started) (H : Type) (enc : TypeId × Value → H) :
    ReturnsInHanded {} Try.checked os 8 .any (Rows.matchLongestSpec.pre6 enc Try.prog Try.f8 Rows.matchLongestRow.domain false) (Rows.matchLongestSpec.post enc Try.prog Try.f8 false true false false) := by
  refine returnsInHanded_of_change_sized (C := Try.checked) ownE started (by kernel_rfl) Try.func8
    (ChangeSpec.witness6 (enc := enc) (C := Try.checked) false ⟨#[], #[.slice none 0 0, .int .u8 0], []⟩ 8 (by kernel_rfl) (by kernel_rfl) (by kernel_rfl) (by kernel_rfl)) ?_
  intro W base args ds gs before hval0 hW hcnd hsz _
  have hval : ∀ (j : Nat) t v, Try.f8.params[j]? = some t → args[j]? = some v → Value.okWide Try.prog W .any base t v := hval0
  have hW' := hW
  obtain ⟨p, q, hA0, hV, rfl, hfz, hnd⟩ := hW
  have hA : DataW.TrodAll enc Try.prog W 0 (fun _ => true) true Try.f8.params.toList args.toList ds p := hA0
  rw [Try.params8] at hA hval
  obtain ⟨v0, v1, d0, d1, p0, p1, rfl, rfl, rfl, h0, h1⟩ := trodAll_two hA
  obtain ⟨rfl, rfl⟩ := trodVars_none hV
  have k0 := h0
  have lt0 : ∀ x ∈ p0, x.block < W.heap.size := by obtain ⟨m, hm⟩ := k0; exact DataW.trod_lt m _ _ _ hm
  have k1 := h1
  have lt1 : ∀ x ∈ p1, x.block < W.heap.size := by obtain ⟨m, hm⟩ := k1; exact DataW.trod_lt m _ _ _ hm
  have hsz' := hsz
  rw [Try.params8] at hsz'
  obtain ⟨a0, len0, cap0, rfl⟩ := okWide_slice Try.underlying56 (hval 0 56 v0 rfl rfl)
  obtain ⟨fuel0, hf0⟩ := h0
  obtain ⟨a0', cap0', ps, hv0, hli, _, hps⟩ := open_list Try.underlying56 cells2 (by decide) pairC (fun p => p.1 < 256 ∧ p.2 < 256) (fun h _ => open_pair h) hf0 (fun n hn => of_decide_eq_true (List.all_eq_true.1 hsz' n (DataW.weights_mem_each (j := 0) rfl rfl n hn)))
  injection hv0 with e1 e2 e3
  subst e1 e2 e3
  obtain ⟨n1, e1, _, _, wf1⟩ := open_int Try.underlying5 (hval 1 5 v1 rfl rfl) h1
  subst e1
  clear hA0 hval0
  have run : Calls Try.prog 8 #[.slice a0 ps.length cap0, .int .u8 n1] W fun e w' => e = .returned (.bool true) ∧ Below W.heap.size W w' := by
    have w1 := byteE wf1
    obtain ⟨m1, rfl⟩ := Int.eq_ofNat_of_zero_le w1.1
    exact matchLongest_any a0 cap0 ps m1 W (rd8_of hli) hps (by omega)
  refine run.mono fun e W' ⟨he, bel⟩ => ?_
  subst he
  exact ⟨_, rfl, _, _, _, [], _, [], hW', trodAll_mk1 (shut_bool Try.underlying4 _), trodAll_mk2 (Below.trod laidOutE (by kernel_rfl) (of_decide_eq_true (by kernel_rfl)) k0 bel lt0) (Below.trod laidOutE (by kernel_rfl) (of_decide_eq_true (by kernel_rfl)) k1 bel lt1), rfl, bel.frame _, fun h => by cases h⟩
theorem matchLongest_holds : Rows.MatchLongestSaid :=
  OpenClaim.holds_of_wide 8 Try.f8 rfl rfl rfl rfl rfl rfl rfl ⟨rfl, rfl, rfl, rfl, rfl⟩ rfl rfl rfl rfl rfl (by kernel_rfl) Try.func8 (by kernel_rfl)
    (of_decide_eq_true (by kernel_rfl)) (by unfold Func.isWrapper; first | (rw [if_pos (by decide +kernel)]; kernel_rfl) | (rw [if_neg (by decide +kernel)]; exact ⟨rfl, rfl⟩))
    (fun os started H enc _ => matchLongest_lifted os started H enc)
#print axioms matchLongest_holds
end Go.Proofs.Ytoonlpdohhconaa
