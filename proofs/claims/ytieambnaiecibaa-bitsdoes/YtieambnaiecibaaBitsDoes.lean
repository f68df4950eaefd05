/- Proved: pointsmanlaw01.BitsDoes, called with any operation, any two numbers (such that may not be, too) and any n and m, returns true and leaves its argument as it was; no condition. -/
import Derived.Test.YtieambnaiecibaaRows
import Derived.Test.YtieambnaiecibaaLawDo
import Derived.ProofKit
import Derived.OpenShut
import Derived.ChangeOld
namespace Go.Proofs.Ytieambnaiecibaa
open Go.ChangeShapes Go.WideShapes Go.ChangeAt Go.RowKit

theorem ownD : ownKnob Try.prog.godebug = none := by kernel_rfl
theorem laidOutD : laidOutB Try.prog = true := by kernel_rfl
theorem wordD {x : Int} (h : (Lit.int .u64 x).wf = true) : 0 ≤ x ∧ x < 18446744073709551616 := by
  simp [Lit.wf, IntKind.min, IntKind.max, IntKind.signed, IntKind.bits] at h
  exact ⟨by omega, by omega⟩
theorem cells32 : Try.prog.cellsOf 32 = 9 := by kernel_rfl
theorem cellsB : Try.prog.cellsOf 24 = 3 := by kernel_rfl
theorem cellsO : Try.prog.cellsOf 30 = 1 := by kernel_rfl
theorem cellsI : Try.prog.cellsOf 3 = 1 := by kernel_rfl
theorem cellsU : Try.prog.cellsOf 22 = 1 := by kernel_rfl
theorem nine {cs : Array Value} (h : cs.size = 9) : ∃ a b c d e f g i j, cs = #[a, b, c, d, e, f, g, i, j] := by
  obtain ⟨l⟩ := cs
  match l, h with
  | [a, b, c, d, e, f, g, i, j], _ => exact ⟨a, b, c, d, e, f, g, i, j, rfl⟩
theorem some_at {α : Type} {l : List α} {i : Nat} (h : i < l.length) : ∃ x, l[i]? = some x := ⟨l[i], List.getElem?_eq_getElem h⟩

/- A number as three cells. -/
theorem bits_cells {H : Type} {enc : TypeId × Value → H} {W : World} {base fuel : Nat} {spare : Nat → Bool} {held : Bool} {a b c : Value} {x : DataW H × List MemPlace} (h : DataW.trod enc Try.prog W base spare held fuel 24 [a, b, c] = some x) :
    ∃ n hi lo, a = .int .i64 n ∧ b = .int .u64 hi ∧ c = .int .u64 lo ∧ (0 ≤ hi ∧ hi < 18446744073709551616) ∧ (0 ≤ lo ∧ lo < 18446744073709551616) := by
  obtain ⟨xs, n, _, _, _, hl, hf⟩ := DataW.trod_struct Try.underlying24 h
  have hl' : xs.length = 3 := hl
  have h0 : DataW.trod enc Try.prog W base spare held n 3 (([a, b, c].drop 0).take (Try.prog.cellsOf 3)) = xs[0]? := hf 0 _ rfl
  rw [cellsI] at h0
  replace h0 : DataW.trod enc Try.prog W base spare held n 3 [a] = xs[0]? := h0
  have h1 : DataW.trod enc Try.prog W base spare held n 22 (([a, b, c].drop 1).take (Try.prog.cellsOf 22)) = xs[1]? := hf 1 _ rfl
  rw [cellsU] at h1
  replace h1 : DataW.trod enc Try.prog W base spare held n 22 [b] = xs[1]? := h1
  have h2 : DataW.trod enc Try.prog W base spare held n 22 (([a, b, c].drop 2).take (Try.prog.cellsOf 22)) = xs[2]? := hf 2 _ rfl
  rw [cellsU] at h2
  replace h2 : DataW.trod enc Try.prog W base spare held n 22 [c] = xs[2]? := h2
  obtain ⟨x0, e0⟩ := some_at (l := xs) (i := 0) (by omega)
  obtain ⟨x1, e1⟩ := some_at (l := xs) (i := 1) (by omega)
  obtain ⟨x2, e2⟩ := some_at (l := xs) (i := 2) (by omega)
  rw [e0] at h0
  rw [e1] at h1
  rw [e2] at h2
  obtain ⟨p, q0, _, w0⟩ := DataW.trod_int Try.underlying3 h0
  obtain ⟨q, q1, _, w1⟩ := DataW.trod_int Try.underlying22 h1
  obtain ⟨r, q2, _, w2⟩ := DataW.trod_int Try.underlying22 h2
  simp at q0 q1 q2
  exact ⟨p, q, r, q0, q1, q2, wordD w1, wordD w2⟩

theorem deed_cells {H : Type} {enc : TypeId × Value → H} {W : World} {base fuel : Nat} {spare : Nat → Bool} {held : Bool} {c0 c1 c2 c3 c4 c5 c6 c7 c8 : Value} {x : DataW H × List MemPlace} (h : DataW.trod enc Try.prog W base spare held fuel 32 [c0, c1, c2, c3, c4, c5, c6, c7, c8] = some x) :
    ∃ op n1 h1 l1 n2 h2 l2 n m, c0 = .int .u8 op ∧ c1 = .int .i64 n1 ∧ c2 = .int .u64 h1 ∧ c3 = .int .u64 l1 ∧ c4 = .int .i64 n2 ∧ c5 = .int .u64 h2 ∧ c6 = .int .u64 l2 ∧ c7 = .int .i64 n ∧ c8 = .int .i64 m ∧
      (0 ≤ h1 ∧ h1 < 18446744073709551616) ∧ (0 ≤ l1 ∧ l1 < 18446744073709551616) ∧ (0 ≤ h2 ∧ h2 < 18446744073709551616) ∧ (0 ≤ l2 ∧ l2 < 18446744073709551616) := by
  obtain ⟨xs, k, _, _, _, hl, hf⟩ := DataW.trod_struct Try.underlying32 h
  have hl' : xs.length = 5 := hl
  have h0 : DataW.trod enc Try.prog W base spare held k 30 (([c0, c1, c2, c3, c4, c5, c6, c7, c8].drop 0).take (Try.prog.cellsOf 30)) = xs[0]? := hf 0 _ rfl
  rw [cellsO] at h0
  replace h0 : DataW.trod enc Try.prog W base spare held k 30 [c0] = xs[0]? := h0
  have h1 : DataW.trod enc Try.prog W base spare held k 24 (([c0, c1, c2, c3, c4, c5, c6, c7, c8].drop 1).take (Try.prog.cellsOf 24)) = xs[1]? := hf 1 _ rfl
  rw [cellsB] at h1
  replace h1 : DataW.trod enc Try.prog W base spare held k 24 [c1, c2, c3] = xs[1]? := h1
  have h2 : DataW.trod enc Try.prog W base spare held k 24 (([c0, c1, c2, c3, c4, c5, c6, c7, c8].drop 4).take (Try.prog.cellsOf 24)) = xs[2]? := hf 2 _ rfl
  rw [cellsB] at h2
  replace h2 : DataW.trod enc Try.prog W base spare held k 24 [c4, c5, c6] = xs[2]? := h2
  have h3 : DataW.trod enc Try.prog W base spare held k 3 (([c0, c1, c2, c3, c4, c5, c6, c7, c8].drop 7).take (Try.prog.cellsOf 3)) = xs[3]? := hf 3 _ rfl
  rw [cellsI] at h3
  replace h3 : DataW.trod enc Try.prog W base spare held k 3 [c7] = xs[3]? := h3
  have h4 : DataW.trod enc Try.prog W base spare held k 3 (([c0, c1, c2, c3, c4, c5, c6, c7, c8].drop 8).take (Try.prog.cellsOf 3)) = xs[4]? := hf 4 _ rfl
  rw [cellsI] at h4
  replace h4 : DataW.trod enc Try.prog W base spare held k 3 [c8] = xs[4]? := h4
  obtain ⟨x0, e0⟩ := some_at (l := xs) (i := 0) (by omega)
  obtain ⟨x1, e1⟩ := some_at (l := xs) (i := 1) (by omega)
  obtain ⟨x2, e2⟩ := some_at (l := xs) (i := 2) (by omega)
  obtain ⟨x3, e3⟩ := some_at (l := xs) (i := 3) (by omega)
  obtain ⟨x4, e4⟩ := some_at (l := xs) (i := 4) (by omega)
  rw [e0] at h0
  rw [e1] at h1
  rw [e2] at h2
  rw [e3] at h3
  rw [e4] at h4
  obtain ⟨op, q0, _, _⟩ := DataW.trod_int Try.underlying30 h0
  obtain ⟨n, q3, _, _⟩ := DataW.trod_int Try.underlying3 h3
  obtain ⟨m, q4, _, _⟩ := DataW.trod_int Try.underlying3 h4
  simp at q0 q3 q4
  obtain ⟨n1, a1, b1, ea, eb, ec, r1, r2⟩ := bits_cells h1
  obtain ⟨n2, a2, b2, ed, ee, ef, r3, r4⟩ := bits_cells h2
  exact ⟨op, n1, a1, b1, n2, a2, b2, n, m, q0, ea, eb, ec, ed, ee, ef, q3, q4, r1, r2, r3, r4⟩

set_option maxRecDepth 100000 in
theorem bitsDoes_lifted (os : Os) (started : os.Started) (H : Type) (enc : TypeId × Value → H) :
    ReturnsInHanded {} Try.checked os 4 .any (Rows.bitsDoesSpec.pre6 enc Try.prog Try.f4 Rows.bitsDoesRow.domain false) (Rows.bitsDoesSpec.post enc Try.prog Try.f4 false true false false) := by
  refine returnsInHanded_of_change (C := Try.checked) ownD started (by kernel_rfl) Try.func4
    (ChangeSpec.witness6 (enc := enc) (C := Try.checked) false ⟨#[], #[.agg #[.int .u8 0, .int .i64 0, .int .u64 0, .int .u64 0, .int .i64 0, .int .u64 0, .int .u64 0, .int .i64 0, .int .i64 0]], []⟩ 8 (by kernel_rfl) (by kernel_rfl) (by kernel_rfl) (by kernel_rfl)) ?_
  intro W base args ds gs before hval0 hW hcnd _
  have hval : ∀ (j : Nat) t v, Try.f4.params[j]? = some t → args[j]? = some v → Value.okWide Try.prog W .any base t v := hval0
  have hW' := hW
  obtain ⟨p, q, hA0, hV, rfl, hfz, hnd⟩ := hW
  have hA : DataW.TrodAll enc Try.prog W 0 (fun _ => true) true Try.f4.params.toList args.toList ds p := hA0
  rw [Try.params4] at hA hval
  obtain ⟨v0, d0, rfl, rfl, h0⟩ := trodAll_one hA
  obtain ⟨rfl, rfl⟩ := trodVars_none hV
  obtain ⟨cs, rfl, hsz⟩ := okWide_struct Try.underlying32 (hval 0 32 v0 rfl rfl)
  obtain ⟨c0, c1, c2, c3, c4, c5, c6, c7, c8, rfl⟩ := nine (hsz.trans cells32)
  have k0 := h0
  have lt0 : ∀ x ∈ p, x.block < W.heap.size := by obtain ⟨m, hm⟩ := k0; exact DataW.trod_lt m _ _ _ hm
  obtain ⟨fuel, hf⟩ := h0
  obtain ⟨op, n1, h1, l1, n2, h2, l2, n, m, rfl, rfl, rfl, rfl, rfl, rfl, rfl, rfl, rfl, r1, r2, r3, r4⟩ := deed_cells (by simpa [Value.cells] using hf)
  clear hA0 hval0
  refine (bitsDoes_any op n1 h1 l1 n2 h2 l2 n m W r1.1 r1.2 r2.1 r2.2 r3.1 r3.2 r4.1 r4.2).mono fun e W' ⟨he, bel⟩ => ?_
  subst he
  exact ⟨_, rfl, _, _, _, [], _, [], hW', trodAll_mk1 (shut_bool Try.underlying4 _), trodAll_mk1 (Below.trod laidOutD (by kernel_rfl) (of_decide_eq_true (by kernel_rfl)) k0 bel lt0), rfl, bel.frame _, fun h => by cases h⟩

theorem bitsDoes_holds : Rows.BitsDoesSaid :=
  OpenClaim.holds_of_wide 4 Try.f4 rfl rfl rfl rfl rfl rfl rfl ⟨rfl, rfl, rfl, rfl, rfl⟩ rfl rfl rfl rfl rfl (by kernel_rfl) Try.func4 (by kernel_rfl)
    (of_decide_eq_true (by kernel_rfl)) (by unfold Func.isWrapper; first | (rw [if_pos (by decide +kernel)]; kernel_rfl) | (rw [if_neg (by decide +kernel)]; exact ⟨rfl, rfl⟩))
    (fun os started H enc _ => bitsDoes_lifted os started H enc)
#print axioms bitsDoes_holds
end Go.Proofs.Ytieambnaiecibaa
