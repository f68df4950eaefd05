/- Proved: pointsmanlaw03.SumsSpoils, called with any bytes, any place and any change, returns true and leaves its arguments as they were; no condition. -/
import Derived.Test.YtaekdnoondpgnaaSuRow
import Derived.Test.YtaekdnoondpgnaaSuSpoil
namespace Go.Proofs.Ytaekdnoondpgnaa
open Go.ChangeShapes Go.WideShapes Go.ChangeAt Go.RowKit

set_option maxRecDepth 100000 in
theorem sumsSpoils_lifted (os : Os) (started : os.Started) (H : Type) (enc : TypeId × Value → H) :
    ReturnsInHanded {} Try.checked os 6 .any (Rows.sumsSpoilsSpec.pre6 enc Try.prog Try.f6 Rows.sumsSpoilsRow.domain false) (Rows.sumsSpoilsSpec.post enc Try.prog Try.f6 false true false false) := by
  refine returnsInHanded_of_change (C := Try.checked) ownD started (by kernel_rfl) Try.func6
    (ChangeSpec.witness6 (enc := enc) (C := Try.checked) false ⟨#[], #[.slice none 0 0, .int .u32 0, .int .u32 0], []⟩ 8 (by kernel_rfl) (by kernel_rfl) (by kernel_rfl) (by kernel_rfl)) ?_
  intro W base args ds gs before hval0 hW hcnd _
  have hval : ∀ (j : Nat) t v, Try.f6.params[j]? = some t → args[j]? = some v → Value.okWide Try.prog W .any base t v := hval0
  have hW' := hW
  obtain ⟨p, q, hA0, hV, rfl, hfz, hnd⟩ := hW
  have hA : DataW.TrodAll enc Try.prog W 0 (fun _ => true) true Try.f6.params.toList args.toList ds p := hA0
  rw [Try.params6] at hA hval
  obtain ⟨v0, v1, v2, d0, d1, d2, p0, p1, p2, rfl, rfl, rfl, h0, h1, h2⟩ := trodAll_three hA
  obtain ⟨rfl, rfl⟩ := trodVars_none hV
  have k0 := h0
  have lt0 : ∀ x ∈ p0, x.block < W.heap.size := by obtain ⟨m, hm⟩ := k0; exact DataW.trod_lt m _ _ _ hm
  have k1 := h1
  have lt1 : ∀ x ∈ p1, x.block < W.heap.size := by obtain ⟨m, hm⟩ := k1; exact DataW.trod_lt m _ _ _ hm
  have k2 := h2
  have lt2 : ∀ x ∈ p2, x.block < W.heap.size := by obtain ⟨m, hm⟩ := k2; exact DataW.trod_lt m _ _ _ hm
  obtain ⟨a0, len0, cap0, rfl⟩ := okWide_slice Try.underlying22 (hval 0 22 v0 rfl rfl)
  obtain ⟨fuel0, hf0⟩ := h0
  obtain ⟨xs0, hlen0, hxs0, hrd0, hlc0, hcm0, hnn0⟩ := open_bytes (hval 0 22 _ rfl rfl) hf0
  obtain ⟨n1, e1, _, _, wf1⟩ := open_int Try.underlying44 (hval 1 44 v1 rfl rfl) h1
  subst e1
  obtain ⟨n2, e2, _, _, wf2⟩ := open_int Try.underlying44 (hval 2 44 v2 rfl rfl) h2
  subst e2
  clear hA0 hval0
  have run : Calls Try.prog 6 #[.slice a0 len0 cap0, .int .u32 n1, .int .u32 n2] W fun e w' => e = .returned (.bool true) ∧ Below W.heap.size W w' := by
    subst hlen0
    have w1 := word32D wf1
    have w2 := word32D wf2
    by_cases h : xs0.length = 0 ∨ 60000 < xs0.length
    · exact spoils_out a0 xs0.length cap0 n1 n2 W h
    · obtain ⟨p', off, rfl, _, _⟩ := hrd0.some (by omega)
      obtain ⟨m1, rfl⟩ := Int.eq_ofNat_of_zero_le w1.1
      obtain ⟨m2, rfl⟩ := Int.eq_ofNat_of_zero_le w2.1
      exact spoils_yes p' off cap0 xs0 m1 m2 W hxs0 (by omega) (by omega) hrd0 (by omega) (by omega)
  refine run.mono fun e W' ⟨he, bel⟩ => ?_
  subst he
  exact ⟨_, rfl, _, _, _, [], _, [], hW', trodAll_mk1 (shut_bool Try.underlying4 _), trodAll_mk3 (Below.trod laidOutD (by kernel_rfl) (of_decide_eq_true (by kernel_rfl)) k0 bel lt0) (Below.trod laidOutD (by kernel_rfl) (of_decide_eq_true (by kernel_rfl)) k1 bel lt1) (Below.trod laidOutD (by kernel_rfl) (of_decide_eq_true (by kernel_rfl)) k2 bel lt2), rfl, bel.frame _, fun h => by cases h⟩
theorem sumsSpoils_holds : Rows.SumsSpoilsSaid :=
  OpenClaim.holds_of_wide 6 Try.f6 rfl rfl rfl rfl rfl rfl rfl ⟨rfl, rfl, rfl, rfl, rfl⟩ rfl rfl rfl rfl rfl (by kernel_rfl) Try.func6 (by kernel_rfl)
    (of_decide_eq_true (by kernel_rfl)) (by unfold Func.isWrapper; first | (rw [if_pos (by decide +kernel)]; kernel_rfl) | (rw [if_neg (by decide +kernel)]; exact ⟨rfl, rfl⟩))
    (fun os started H enc _ => sumsSpoils_lifted os started H enc)
#print axioms sumsSpoils_holds
end Go.Proofs.Ytaekdnoondpgnaa
