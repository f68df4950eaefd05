/- Proved: pointsmanlaw03.SumsNames, called with any number, any name and any three words, returns true and leaves its arguments as they were; no condition. -/
import Derived.Test.YtaekdnoondpgnaaSuRow
import Derived.Test.YtaekdnoondpgnaaSuNames
namespace Go.Proofs.Ytaekdnoondpgnaa
open Go.ChangeShapes Go.WideShapes Go.ChangeAt Go.RowKit

theorem cells16 : Try.prog.cellsOf 33 = 1 := by kernel_rfl
theorem cells3u : Try.prog.cellsOf 34 = 3 := by kernel_rfl
theorem three_of {cs : Array Value} (h : cs.size = 3) : ∃ a b c, cs = #[a, b, c] := by
  obtain ⟨l⟩ := cs
  match l, h with
  | [a, b, c], _ => exact ⟨a, b, c, rfl⟩
theorem three_words {H : Type} {enc : TypeId × Value → H} {W : World} {base fuel : Nat} {spare : Nat → Bool} {held : Bool} {a b c : Value} {x : DataW H × List MemPlace} (h : DataW.trod enc Try.prog W base spare held fuel 34 [a, b, c] = some x) : ∃ m n k : Nat, a = .int .u16 m ∧ b = .int .u16 n ∧ c = .int .u16 k ∧ m < 65536 ∧ n < 65536 ∧ k < 65536 := by
  obtain ⟨xs, n, _, _, _, hl, hf⟩ := DataW.trod_array Try.underlying34 h
  have g0 : DataW.trod enc Try.prog W base spare held n 33 (([a, b, c].drop (0 * Try.prog.cellsOf 33)).take (Try.prog.cellsOf 33)) = xs[0]? := hf 0 (by decide)
  rw [cells16] at g0
  have h0 : DataW.trod enc Try.prog W base spare held n 33 [a] = xs[0]? := g0
  have g1 : DataW.trod enc Try.prog W base spare held n 33 (([a, b, c].drop (1 * Try.prog.cellsOf 33)).take (Try.prog.cellsOf 33)) = xs[1]? := hf 1 (by decide)
  rw [cells16] at g1
  have h1 : DataW.trod enc Try.prog W base spare held n 33 [b] = xs[1]? := g1
  have g2 : DataW.trod enc Try.prog W base spare held n 33 (([a, b, c].drop (2 * Try.prog.cellsOf 33)).take (Try.prog.cellsOf 33)) = xs[2]? := hf 2 (by decide)
  rw [cells16] at g2
  have h2 : DataW.trod enc Try.prog W base spare held n 33 [c] = xs[2]? := g2
  rw [List.getElem?_eq_getElem (by omega)] at h0 h1 h2
  obtain ⟨p, q0, _, w0⟩ := DataW.trod_int Try.underlying33 h0
  obtain ⟨q, q1, _, w1⟩ := DataW.trod_int Try.underlying33 h1
  obtain ⟨r, q2, _, w2⟩ := DataW.trod_int Try.underlying33 h2
  simp at q0 q1 q2
  have d0 := word16D w0; have d1 := word16D w1; have d2 := word16D w2
  exact ⟨p.toNat, q.toNat, r.toNat, by rw [q0, Int.toNat_of_nonneg d0.1], by rw [q1, Int.toNat_of_nonneg d1.1], by rw [q2, Int.toNat_of_nonneg d2.1], by omega, by omega, by omega⟩
set_option maxRecDepth 100000 in
theorem sumsNames_lifted (os : Os) (started : os.Started) (H : Type) (enc : TypeId × Value → H) :
    ReturnsInHanded {} Try.checked os 4 .any (Rows.sumsNamesSpec.pre6 enc Try.prog Try.f4 Rows.sumsNamesRow.domain false) (Rows.sumsNamesSpec.post enc Try.prog Try.f4 false true false false) := by
  refine returnsInHanded_of_change (C := Try.checked) ownD started (by kernel_rfl) Try.func4
    (ChangeSpec.witness6 (enc := enc) (C := Try.checked) false ⟨#[], #[.int .i64 0, .string { data := #[] }, .agg #[.int .u16 0, .int .u16 0, .int .u16 0]], []⟩ 8 (by kernel_rfl) (by kernel_rfl) (by kernel_rfl) (by kernel_rfl)) ?_
  intro W base args ds gs before hval0 hW hcnd _
  have hval : ∀ (j : Nat) t v, Try.f4.params[j]? = some t → args[j]? = some v → Value.okWide Try.prog W .any base t v := hval0
  have hW' := hW
  obtain ⟨p, q, hA0, hV, rfl, hfz, hnd⟩ := hW
  have hA : DataW.TrodAll enc Try.prog W 0 (fun _ => true) true Try.f4.params.toList args.toList ds p := hA0
  rw [Try.params4] at hA hval
  obtain ⟨v0, v1, v2, d0, d1, d2, p0, p1, p2, rfl, rfl, rfl, h0, h1, h2⟩ := trodAll_three hA
  obtain ⟨rfl, rfl⟩ := trodVars_none hV
  have k0 := h0
  have k1 := h1
  have k2 := h2
  have lt0 : ∀ x ∈ p0, x.block < W.heap.size := by obtain ⟨m, hm⟩ := k0; exact DataW.trod_lt m _ _ _ hm
  have lt1 : ∀ x ∈ p1, x.block < W.heap.size := by obtain ⟨m, hm⟩ := k1; exact DataW.trod_lt m _ _ _ hm
  have lt2 : ∀ x ∈ p2, x.block < W.heap.size := by obtain ⟨m, hm⟩ := k2; exact DataW.trod_lt m _ _ _ hm
  obtain ⟨n, rfl, _, _, _⟩ := open_int Try.underlying3 (hval 0 3 v0 rfl rfl) h0
  obtain ⟨s, rfl⟩ := okWide_string Try.underlying9 (hval 1 9 v1 rfl rfl)
  obtain ⟨cs, rfl, hsz⟩ := okWide_array Try.underlying34 (hval 2 34 v2 rfl rfl)
  obtain ⟨x0, x1, x2, rfl⟩ := three_of (hsz.trans cells3u)
  obtain ⟨fuel2, hf2⟩ := h2
  obtain ⟨w0, w1, w2, rfl, rfl, rfl, hw0, hw1, hw2⟩ := three_words (by simpa [Value.cells] using hf2)
  clear hA0 hval0
  refine (names_law n s w0 w1 w2 W hw0 hw1 hw2).mono fun e W' ⟨he, bel⟩ => ?_
  subst he
  exact ⟨_, rfl, _, _, _, [], _, [], hW', trodAll_mk1 (shut_bool Try.underlying4 _), trodAll_mk3 (Below.trod laidOutD (by kernel_rfl) (of_decide_eq_true (by kernel_rfl)) k0 bel lt0) (Below.trod laidOutD (by kernel_rfl) (of_decide_eq_true (by kernel_rfl)) k1 bel lt1) (Below.trod laidOutD (by kernel_rfl) (of_decide_eq_true (by kernel_rfl)) k2 bel lt2), rfl, bel.frame _, fun h => by cases h⟩
theorem sumsNames_holds : Rows.SumsNamesSaid :=
  OpenClaim.holds_of_wide 4 Try.f4 rfl rfl rfl rfl rfl rfl rfl ⟨rfl, rfl, rfl, rfl, rfl⟩ rfl rfl rfl rfl rfl (by kernel_rfl) Try.func4 (by kernel_rfl)
    (of_decide_eq_true (by kernel_rfl)) (by unfold Func.isWrapper; first | (rw [if_pos (by decide +kernel)]; kernel_rfl) | (rw [if_neg (by decide +kernel)]; exact ⟨rfl, rfl⟩))
    (fun os started H enc _ => sumsNames_lifted os started H enc)
#print axioms sumsNames_holds
end Go.Proofs.Ytaekdnoondpgnaa
