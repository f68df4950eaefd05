/- Proved: pointsmanlaw14.CellsRate, called with any rate, any burst and any bytes, returns true and leaves its arguments as they were; no condition. -/
import Derived.Test.YtngeclnlgoamkaaRowE
import Derived.Test.YtngeclnlgoamkaaCeW
namespace Go.Proofs.Ytngeclnlgoamkaa
open Go.ChangeShapes Go.WideShapes Go.ChangeAt Go.RowKit

theorem cellsBy : Try.prog.cellsOf 5 = 1 := by kernel_rfl
theorem bytesBy : Try.prog.bytesOf 5 = 1 := by kernel_rfl
theorem open_bys {H : Type} {enc : TypeId × Value → H} {W : World} {base fuel : Nat} {v : Value} {x : DataW H × List MemPlace} (h : DataW.trod enc Try.prog W base (fun _ => true) true fuel 45 [v] = some x) (hw : ∀ n ∈ x.1.weights Try.prog 45, n ≤ reachBytes) : ∃ (a : Option Addr) (cap : Nat) (l : List Nat), v = .slice a l.length cap ∧ RdA W a l ∧ l.length ≤ 140737488355328 ∧ ∀ y ∈ l, y < 256 := by
  obtain ⟨a, cap, l, h1, h2, h3, h4⟩ := open_list Try.underlying45 cellsBy (by decide) (fun n : Nat => [Value.int .u8 (n : Nat)]) (fun n => n < 256) (fun h _ => by
    obtain ⟨n, hn, _, wf⟩ := DataW.trod_int Try.underlying5 h
    have hb := byteE wf
    obtain ⟨m, rfl⟩ := Int.eq_ofNat_of_zero_le hb.1
    exact ⟨m, hn, by omega⟩) h hw
  rw [bytesBy, Nat.mul_one] at h3
  refine ⟨a, cap, l, h1, ?_, by unfold reachBytes at h3; omega, h4⟩
  rcases h2.rd with h | ⟨p, off, e, hp, hc⟩
  · exact .inl h
  · exact .inr ⟨p, off, e, hp, fun i hi => by have := hc i hi 0 _ rfl; rw [Nat.mul_one] at this; exact this⟩
set_option maxRecDepth 100000 in
theorem cellsRate_lifted (os : Os) (started : os.Started) (H : Type) (enc : TypeId × Value → H) :
    ReturnsInHanded {} Try.checked os 5 .any (Rows.cellsRateSpec.pre6 enc Try.prog Try.f5 Rows.cellsRateRow.domain false) (Rows.cellsRateSpec.post enc Try.prog Try.f5 false true false false) := by
  refine returnsInHanded_of_change_sized (C := Try.checked) ownE started (by kernel_rfl) Try.func5
    (ChangeSpec.witness6 (enc := enc) (C := Try.checked) false ⟨#[], #[.int .u8 0, .int .u8 0, .slice none 0 0], []⟩ 8 (by kernel_rfl) (by kernel_rfl) (by kernel_rfl) (by kernel_rfl)) ?_
  intro W base args ds gs before hval0 hW hcnd hsz _
  have hval : ∀ (j : Nat) t v, Try.f5.params[j]? = some t → args[j]? = some v → Value.okWide Try.prog W .any base t v := hval0
  have hW' := hW
  obtain ⟨p, q, hA0, hV, rfl, hfz, hnd⟩ := hW
  have hA : DataW.TrodAll enc Try.prog W 0 (fun _ => true) true Try.f5.params.toList args.toList ds p := hA0
  rw [Try.params5] at hA hval
  obtain ⟨v0, v1, v2, d0, d1, d2, p0, p1, p2, rfl, rfl, rfl, h0, h1, h2⟩ := trodAll_three hA
  obtain ⟨rfl, rfl⟩ := trodVars_none hV
  have k0 := h0
  have lt0 : ∀ x ∈ p0, x.block < W.heap.size := by obtain ⟨m, hm⟩ := k0; exact DataW.trod_lt m _ _ _ hm
  have k1 := h1
  have lt1 : ∀ x ∈ p1, x.block < W.heap.size := by obtain ⟨m, hm⟩ := k1; exact DataW.trod_lt m _ _ _ hm
  have k2 := h2
  have lt2 : ∀ x ∈ p2, x.block < W.heap.size := by obtain ⟨m, hm⟩ := k2; exact DataW.trod_lt m _ _ _ hm
  have hsz' := hsz
  rw [Try.params5] at hsz'
  obtain ⟨n0, e0, _, _, wf0⟩ := open_int Try.underlying5 (hval 0 5 v0 rfl rfl) h0
  subst e0
  obtain ⟨n1, e1, _, _, wf1⟩ := open_int Try.underlying5 (hval 1 5 v1 rfl rfl) h1
  subst e1
  obtain ⟨a0, len0, cap0, rfl⟩ := okWide_slice Try.underlying45 (hval 2 45 v2 rfl rfl)
  obtain ⟨fuel1, hf1⟩ := h2
  obtain ⟨ka, kc, xs, hks, hrk, hn, hx⟩ := open_bys hf1 (fun n hn => of_decide_eq_true (List.all_eq_true.1 hsz' n (DataW.weights_mem_each (j := 2) rfl rfl n hn)))
  injection hks with e1 e2 e3
  subst e1 e2 e3
  clear hA0 hval0
  have run : Calls Try.prog 5 #[.int .u8 n0, .int .u8 n1, .slice a0 xs.length cap0] W fun e w' => e = .returned (.bool true) ∧ Below W.heap.size W w' := by
    have w0 := byteE wf0
    have w1 := byteE wf1
    obtain ⟨m0, rfl⟩ := Int.eq_ofNat_of_zero_le w0.1
    obtain ⟨m1, rfl⟩ := Int.eq_ofNat_of_zero_le w1.1
    exact cellsRate_any m0 m1 (by omega) (by omega) a0 cap0 xs hx W hrk hn
  refine run.mono fun e W' ⟨he, bel⟩ => ?_
  subst he
  exact ⟨_, rfl, _, _, _, [], _, [], hW', trodAll_mk1 (shut_bool Try.underlying4 _), trodAll_mk3 (Below.trod laidOutE (by kernel_rfl) (of_decide_eq_true (by kernel_rfl)) k0 bel lt0) (Below.trod laidOutE (by kernel_rfl) (of_decide_eq_true (by kernel_rfl)) k1 bel lt1) (Below.trod laidOutE (by kernel_rfl) (of_decide_eq_true (by kernel_rfl)) k2 bel lt2), rfl, bel.frame _, fun h => by cases h⟩
theorem cellsRate_holds : Rows.CellsRateSaid :=
  OpenClaim.holds_of_wide 5 Try.f5 rfl rfl rfl rfl rfl rfl rfl ⟨rfl, rfl, rfl, rfl, rfl⟩ rfl rfl rfl rfl rfl (by kernel_rfl) Try.func5 (by kernel_rfl)
    (of_decide_eq_true (by kernel_rfl)) (by unfold Func.isWrapper; first | (rw [if_pos (by decide +kernel)]; kernel_rfl) | (rw [if_neg (by decide +kernel)]; exact ⟨rfl, rfl⟩))
    (fun os started H enc _ => cellsRate_lifted os started H enc)
#print axioms cellsRate_holds
end Go.Proofs.Ytngeclnlgoamkaa
