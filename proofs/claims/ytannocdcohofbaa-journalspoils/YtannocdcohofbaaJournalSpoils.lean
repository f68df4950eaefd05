/- Proved: pointsmanlaw05.JournalSpoils, called with any records and any byte of one that is to be another, returns true and leaves its arguments as they were; no condition. -/
import Derived.Test.YtannocdcohofbaaJRow
import Derived.Test.YtannocdcohofbaaJSp
namespace Go.Proofs.Ytannocdcohofbaa
open Go.ChangeShapes Go.WideShapes Go.ChangeAt Go.RowKit

theorem cellsP : Try.prog.cellsOf 66 = 3 := by kernel_rfl
theorem cells16J : Try.prog.cellsOf 64 = 1 := by kernel_rfl
theorem cells32J : Try.prog.cellsOf 52 = 1 := by kernel_rfl
theorem threeJ {cs : Array Value} (h : cs.size = 3) : ∃ a b c, cs = #[a, b, c] := by
  obtain ⟨l⟩ := cs
  match l, h with
  | [a, b, c], _ => exact ⟨a, b, c, rfl⟩
theorem some_atJ {α : Type} {l : List α} {i : Nat} (h : i < l.length) : ∃ x, l[i]? = some x := ⟨_, List.getElem?_eq_getElem h⟩
theorem spoil_cells {H : Type} {enc : TypeId × Value → H} {W : World} {base fuel : Nat} {spare : Nat → Bool} {held : Bool} {a b c : Value} {x : DataW H × List MemPlace} (h : DataW.trod enc Try.prog W base spare held fuel 66 [a, b, c] = some x) :
    ∃ n m k, a = .int .u16 n ∧ b = .int .u32 m ∧ c = .int .u8 k ∧ (0 ≤ n ∧ n < 65536) ∧ (0 ≤ m ∧ m < 4294967296) ∧ (0 ≤ k ∧ k < 256) := by
  obtain ⟨xs, n, _, _, _, hl, hf⟩ := DataW.trod_struct Try.underlying66 h
  have hl' : xs.length = 3 := hl
  have h0 : DataW.trod enc Try.prog W base spare held n 64 (([a, b, c].drop 0).take (Try.prog.cellsOf 64)) = xs[0]? := hf 0 _ rfl
  rw [cells16J] at h0
  replace h0 : DataW.trod enc Try.prog W base spare held n 64 [a] = xs[0]? := h0
  have h1 : DataW.trod enc Try.prog W base spare held n 52 (([a, b, c].drop 1).take (Try.prog.cellsOf 52)) = xs[1]? := hf 1 _ rfl
  rw [cells32J] at h1
  replace h1 : DataW.trod enc Try.prog W base spare held n 52 [b] = xs[1]? := h1
  have h2 : DataW.trod enc Try.prog W base spare held n 5 (([a, b, c].drop 2).take (Try.prog.cellsOf 5)) = xs[2]? := hf 2 _ rfl
  rw [cellsB8] at h2
  replace h2 : DataW.trod enc Try.prog W base spare held n 5 [c] = xs[2]? := h2
  obtain ⟨x0, e0⟩ := some_atJ (l := xs) (i := 0) (by omega)
  obtain ⟨x1, e1⟩ := some_atJ (l := xs) (i := 1) (by omega)
  obtain ⟨x2, e2⟩ := some_atJ (l := xs) (i := 2) (by omega)
  rw [e0] at h0
  rw [e1] at h1
  rw [e2] at h2
  obtain ⟨p, q0, _, w0⟩ := DataW.trod_int Try.underlying64 h0
  obtain ⟨q, q1, _, w1⟩ := DataW.trod_int Try.underlying52 h1
  obtain ⟨r, q2, _, w2⟩ := DataW.trod_int Try.underlying5 h2
  simp at q0 q1 q2
  exact ⟨p, q, r, q0, q1, q2, word16D w0, word32D w1, byteD w2⟩
set_option maxRecDepth 100000 in
theorem journalSpoils_lifted (os : Os) (started : os.Started) (H : Type) (enc : TypeId × Value → H) :
    ReturnsInHanded {} Try.checked os 6 .any (Rows.journalSpoilsSpec.pre6 enc Try.prog Try.f6 Rows.journalSpoilsRow.domain false) (Rows.journalSpoilsSpec.post enc Try.prog Try.f6 false true false false) := by
  refine returnsInHanded_of_change_sized (C := Try.checked) ownD started (by kernel_rfl) Try.func6
    (ChangeSpec.witness6 (enc := enc) (C := Try.checked) false ⟨#[], #[.slice none 0 0, .agg #[.int .u16 0, .int .u32 0, .int .u8 0]], []⟩ 8 (by kernel_rfl) (by kernel_rfl) (by kernel_rfl) (by kernel_rfl)) ?_
  intro W base args ds gs before hval0 hW hcnd hsz _
  have hval : ∀ (j : Nat) t v, Try.f6.params[j]? = some t → args[j]? = some v → Value.okWide Try.prog W .any base t v := hval0
  have hW' := hW
  obtain ⟨p, q, hA0, hV, rfl, hfz, hnd⟩ := hW
  have hA : DataW.TrodAll enc Try.prog W 0 (fun _ => true) true Try.f6.params.toList args.toList ds p := hA0
  rw [Try.params6] at hA hval
  obtain ⟨v0, v1, d0, d1, p0, p1, rfl, rfl, rfl, h0, h1⟩ := trodAll_two hA
  obtain ⟨rfl, rfl⟩ := trodVars_none hV
  have k0 := h0
  have lt0 : ∀ x ∈ p0, x.block < W.heap.size := by obtain ⟨m, hm⟩ := k0; exact DataW.trod_lt m _ _ _ hm
  have k1 := h1
  have lt1 : ∀ x ∈ p1, x.block < W.heap.size := by obtain ⟨m, hm⟩ := k1; exact DataW.trod_lt m _ _ _ hm
  have hsz' := hsz
  rw [Try.params6] at hsz'
  obtain ⟨a0, len0, cap0, rfl⟩ := okWide_slice Try.underlying38 (hval 0 38 v0 rfl rfl)
  obtain ⟨fuel0, hf0⟩ := h0
  obtain ⟨ls, hlen0, hrd0, hlc0, hbt0, _⟩ := open_its (hval 0 38 _ rfl rfl) hf0 (fun n hn => of_decide_eq_true (List.all_eq_true.1 hsz' n (DataW.weights_mem_each (j := 0) rfl rfl n hn)))
  obtain ⟨cs, rfl, hsz3⟩ := okWide_struct Try.underlying66 (hval 1 66 v1 rfl rfl)
  obtain ⟨c0, c1, c2, rfl⟩ := threeJ (hsz3.trans cellsP)
  obtain ⟨fuel1, hf1⟩ := h1
  obtain ⟨x, y, z, rfl, rfl, rfl, r0, r1, r2⟩ := spoil_cells (by simpa [Value.cells] using hf1)
  clear hA0 hval0
  have hll : len0 ≤ 140737488355328 := len_its hf0 (fun n hn => of_decide_eq_true (List.all_eq_true.1 hsz' n (DataW.weights_mem_each (j := 0) rfl rfl n hn)))
  have run : Calls Try.prog 6 #[.slice a0 len0 cap0, .agg #[.int .u16 x, .int .u32 y, .int .u8 z]] W fun e w' => e = .returned (.bool true) ∧ Below W.heap.size W w' := by
    subst hlen0
    obtain ⟨x', rfl⟩ := Int.eq_ofNat_of_zero_le r0.1
    obtain ⟨y', rfl⟩ := Int.eq_ofNat_of_zero_le r1.1
    obtain ⟨z', rfl⟩ := Int.eq_ofNat_of_zero_le r2.1
    exact spoils_yes a0 cap0 ls x' y' z' W (by omega) (by omega) (by omega) hll hrd0 (fun it hi => (hbt0 it hi).2)
  refine run.mono fun e W' ⟨he, bel⟩ => ?_
  subst he
  exact ⟨_, rfl, _, _, _, [], _, [], hW', trodAll_mk1 (shut_bool Try.underlying4 _), trodAll_mk2 (Below.trod laidOutD (by kernel_rfl) (of_decide_eq_true (by kernel_rfl)) k0 bel lt0) (Below.trod laidOutD (by kernel_rfl) (of_decide_eq_true (by kernel_rfl)) k1 bel lt1), rfl, bel.frame _, fun h => by cases h⟩
theorem journalSpoils_holds : Rows.JournalSpoilsSaid :=
  OpenClaim.holds_of_wide 6 Try.f6 rfl rfl rfl rfl rfl rfl rfl ⟨rfl, rfl, rfl, rfl, rfl⟩ rfl rfl rfl rfl rfl (by kernel_rfl) Try.func6 (by kernel_rfl)
    (of_decide_eq_true (by kernel_rfl)) (by unfold Func.isWrapper; first | (rw [if_pos (by decide +kernel)]; kernel_rfl) | (rw [if_neg (by decide +kernel)]; exact ⟨rfl, rfl⟩))
    (fun os started H enc _ => journalSpoils_lifted os started H enc)
#print axioms journalSpoils_holds
end Go.Proofs.Ytannocdcohofbaa
