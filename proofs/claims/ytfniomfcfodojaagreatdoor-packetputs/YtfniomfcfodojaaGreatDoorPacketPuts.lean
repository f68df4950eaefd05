/- Proved: pointsmanlaw02.PacketPuts, called with any list of numbers (such that may not be, too), returns true and leaves it as it was; what is laid is tied to the program's text. -/
import Derived.Test.YtfniomfcfodojaaGreatDoorCards
import Derived.Test.YtfniomfcfodojaaGreatDoorTie
import Derived.Test.YtfniomfcfodojaaGreatDoorQL
import Derived.ProofKit
import Derived.OpenShut
import Derived.ChangeOld
import Derived.LaidMore
import Derived.Stop.Joined
import Derived.SevenTiedAt
namespace Go.Proofs.YtfniomfcfodojaaGreatDoor
open Go.ChangeShapes Go.WideShapes Go.ChangeAt Go.RowKit

def laidB : List (String × DataW Unit) := [("math/bits.deBruijn32tab", Rows.laid_math_bits_deBruijn32tab), ("math/bits.deBruijn64tab", Rows.laid_math_bits_deBruijn64tab), ("internal/strconv.uint64pow10", Rows.laid_internal_strconv_uint64pow10)]
theorem door_met (os : Os) (args : Array Value) : laidMetH Tryz.prog laidB ((World.doorLaid Tryz.prog 24 os).forCall (fun _ _ => 0) ⟨#[], args, []⟩).memory :=
  laidMetH_of_parts3 (fuel := 8) (laidMet_of_run' 8 (by kernel_rfl) (by kernel_rfl)) (by kernel_rfl) (by kernel_rfl)
theorem ownD : ownKnob Tryz.prog.godebug = none := by kernel_rfl
theorem laidOutD : laidOutB Tryz.prog = true := by kernel_rfl
theorem wordD {x : Int} (h : (Lit.int .u64 x).wf = true) : 0 ≤ x ∧ x < 18446744073709551616 := by
  simp [Lit.wf, IntKind.min, IntKind.max, IntKind.signed, IntKind.bits] at h
  exact ⟨by omega, by omega⟩
theorem cellsB : Tryz.prog.cellsOf 67 = 3 := by kernel_rfl
theorem cellsI : Tryz.prog.cellsOf 3 = 1 := by kernel_rfl
theorem cellsU : Tryz.prog.cellsOf 65 = 1 := by kernel_rfl
theorem some_at {α : Type} {l : List α} {i : Nat} (h : i < l.length) : ∃ x, l[i]? = some x := ⟨l[i], List.getElem?_eq_getElem h⟩
theorem bits_cells {H : Type} {enc : TypeId × Value → H} {W : World} {base fuel : Nat} {spare : Nat → Bool} {held : Bool} {a b c : Value} {x : DataW H × List MemPlace} (h : DataW.trod enc Tryz.prog W base spare held fuel 67 [a, b, c] = some x) :
    ∃ n hi lo, a = .int .i64 n ∧ b = .int .u64 hi ∧ c = .int .u64 lo ∧ (0 ≤ hi ∧ hi < 18446744073709551616) ∧ (0 ≤ lo ∧ lo < 18446744073709551616) := by
  obtain ⟨xs, n, _, _, _, hl, hf⟩ := DataW.trod_struct Tryz.underlying67 h
  have hl' : xs.length = 3 := hl
  have h0 : DataW.trod enc Tryz.prog W base spare held n 3 (([a, b, c].drop 0).take (Tryz.prog.cellsOf 3)) = xs[0]? := hf 0 _ rfl
  rw [cellsI] at h0
  replace h0 : DataW.trod enc Tryz.prog W base spare held n 3 [a] = xs[0]? := h0
  have h1 : DataW.trod enc Tryz.prog W base spare held n 65 (([a, b, c].drop 1).take (Tryz.prog.cellsOf 65)) = xs[1]? := hf 1 _ rfl
  rw [cellsU] at h1
  replace h1 : DataW.trod enc Tryz.prog W base spare held n 65 [b] = xs[1]? := h1
  have h2 : DataW.trod enc Tryz.prog W base spare held n 65 (([a, b, c].drop 2).take (Tryz.prog.cellsOf 65)) = xs[2]? := hf 2 _ rfl
  rw [cellsU] at h2
  replace h2 : DataW.trod enc Tryz.prog W base spare held n 65 [c] = xs[2]? := h2
  obtain ⟨x0, e0⟩ := some_at (l := xs) (i := 0) (by omega)
  obtain ⟨x1, e1⟩ := some_at (l := xs) (i := 1) (by omega)
  obtain ⟨x2, e2⟩ := some_at (l := xs) (i := 2) (by omega)
  rw [e0] at h0
  rw [e1] at h1
  rw [e2] at h2
  obtain ⟨p, q0, _, w0⟩ := DataW.trod_int Tryz.underlying3 h0
  obtain ⟨q, q1, _, w1⟩ := DataW.trod_int Tryz.underlying65 h1
  obtain ⟨r, q2, _, w2⟩ := DataW.trod_int Tryz.underlying65 h2
  simp at q0 q1 q2
  exact ⟨p, q, r, q0, q1, q2, wordD w1, wordD w2⟩
set_option maxRecDepth 100000 in
theorem slice_spot {W : World} {base : Nat} {a : Addr} {len cap : Nat} (h : Value.okWide Tryz.prog W .any base 22 (.slice (some a) len cap)) : a.spot = none := by
  simp only [Value.okWide, Tryz.underlying22, Cell.okWide] at h
  simp only [Cell.ok, Tryz.underlying22] at h
  exact h.2.2.2.1
/- A list of numbers as it is read. -/
theorem list_cells {H : Type} {enc : TypeId × Value → H} {W : World} {base : Nat} {spare : Nat → Bool} {held : Bool} {b off len n : Nat} {elems : List (DataW H × List MemPlace)} (hlen : elems.length = len)
    (hel : ∀ i, i < len → (W.cells? base ((⟨b, off, none⟩ : Addr).add (i * 3)) 3).bind (DataW.trod enc Tryz.prog W base spare held n 67) = elems[i]?) :
    ∃ L : List (Int × Nat), L.length = len ∧ RdN W b off L ∧ ∀ j (h : j < L.length), L[j].2 < top := by
  have each : ∀ i, i < len → ∃ (m : Int) (v : Nat), v < top ∧ W.cell? ⟨b, off + i * 3, none⟩ = some (.int .i64 m) ∧ W.cell? ⟨b, off + i * 3 + 1, none⟩ = some (.int .u64 (wHi v)) ∧ W.cell? ⟨b, off + i * 3 + 2, none⟩ = some (.int .u64 (wLo v)) := by
    intro i hi
    have h := hel i hi
    rw [List.getElem?_eq_getElem (by omega)] at h
    simp only [Option.bind_eq_some_iff] at h
    obtain ⟨cs, hc, ht⟩ := h
    obtain ⟨_, hl, hcs⟩ := World.cells?_some hc
    match cs, hl with
    | [x, y, z], _ =>
      obtain ⟨m, hi', lo, rfl, rfl, rfl, r1, r2⟩ := bits_cells ht
      obtain ⟨v, hv, e1, e2⟩ := words_of r1.1 r1.2 r2.1 r2.2
      have k0 := hcs 0 (by simp)
      have k1 := hcs 1 (by simp)
      have k2 := hcs 2 (by simp)
      rw [add8, add8] at k0 k1 k2
      subst e1 e2
      exact ⟨m, v, hv, k0, k1, k2⟩
  have build : ∀ m, m ≤ len → ∃ L : List (Int × Nat), L.length = m ∧ RdN W b off L ∧ ∀ j (h : j < L.length), L[j].2 < top := by
    intro m
    induction m with
    | zero => intro _; exact ⟨[], rfl, ⟨fun i h => by simp at h, fun i h => by simp at h, fun i h => by simp at h, fun i h => by simp at h⟩, fun j h => by simp at h⟩
    | succ m ih =>
      intro hm
      obtain ⟨L, hL, hR, hT⟩ := ih (by omega)
      obtain ⟨n', v, hv, k0, k1, k2⟩ := each m (by omega)
      subst hL
      refine ⟨L ++ [(n', v)], by simp, ⟨fun i _ => World.block_lt_of_cell? W _ k0, fun i hi => ?_, fun i hi => ?_, fun i hi => ?_⟩, fun j hj => ?_⟩
      · simp only [List.length_append, List.length_singleton] at hi
        rcases Nat.lt_or_ge i L.length with h | h
        · rw [List.getElem_append_left h]; exact hR.c0 i h
        · obtain rfl : i = L.length := by omega
          simpa using k0
      · simp only [List.length_append, List.length_singleton] at hi
        rcases Nat.lt_or_ge i L.length with h | h
        · rw [List.getElem_append_left h]; exact hR.c1 i h
        · obtain rfl : i = L.length := by omega
          simpa using k1
      · simp only [List.length_append, List.length_singleton] at hi
        rcases Nat.lt_or_ge i L.length with h | h
        · rw [List.getElem_append_left h]; exact hR.c2 i h
        · obtain rfl : i = L.length := by omega
          simpa using k2
      · simp only [List.length_append, List.length_singleton] at hj
        rcases Nat.lt_or_ge j L.length with h | h
        · rw [List.getElem_append_left h]; exact hT j h
        · obtain rfl : j = L.length := by omega
          simpa using hv
  exact build len (Nat.le_refl _)
set_option maxRecDepth 100000 in
theorem packetPuts_lifted (os : Os) (started : os.Started) (H : Type) (enc : TypeId × Value → H) :
    ReturnsInHanded {} Tryz.checked os 3 .any (fun w args => (Rows.packetPutsSpec.pre enc Tryz.prog Tryz.f3 [] false w args ∧ laidMetH Tryz.prog laidB w) ∧ sizedMet enc Tryz.prog Tryz.f3 (OpenSpec.ofChange Rows.packetPutsSpec) false w args)
      (Rows.packetPutsSpec.post enc Tryz.prog Tryz.f3 false true false false) := by
  refine returnsInHanded_of_change_and (C := Tryz.checked) (X := fun w _ => laidMetH Tryz.prog laidB w) (fun _ _ _ hh h => h.of_heap hh) ownD started (by kernel_rfl) Tryz.func3
    (ChangeSpec.witness_shaped (enc := enc) (C := Tryz.checked) (os := os) (X := fun w _ => laidMetH Tryz.prog laidB w) false (World.doorLaid Tryz.prog 24 os) #[.slice none 0 0] 8 rfl (World.shaped_of_RefB (by kernel_rfl) (by kernel_rfl)) (by kernel_rfl) (by kernel_rfl) (by kernel_rfl) (door_met os _)) ?_
  intro W base args ds gs before hval0 hW _ _ hL _
  have hval : ∀ (j : Nat) t v, Tryz.f3.params[j]? = some t → args[j]? = some v → Value.okWide Tryz.prog W .any base t v := hval0
  have hW' := hW
  obtain ⟨p, q, hA0, hV, rfl, hfz, hnd⟩ := hW
  have hA : DataW.TrodAll enc Tryz.prog W 0 (fun _ => true) true Tryz.f3.params.toList args.toList ds p := hA0
  rw [Tryz.params3] at hA hval
  obtain ⟨v0, d0, rfl, rfl, h0⟩ := trodAll_one hA
  obtain ⟨rfl, rfl⟩ := trodVars_none hV
  obtain ⟨a0, len, cap, rfl⟩ := okWide_slice Tryz.underlying22 (hval 0 22 v0 rfl rfl)
  have hok := hval 0 22 _ rfl rfl
  have k0 := h0
  have lt0 : ∀ x ∈ p, x.block < W.heap.size := by obtain ⟨m, hm⟩ := k0; exact DataW.trod_lt m _ _ _ hm
  obtain ⟨fuel, hf⟩ := h0
  clear hA0 hval0
  have key : ∃ (b off : Nat) (L : List (Int × Nat)), L.length = len ∧ RdN W b off L ∧ (∀ j (h : j < L.length), L[j].2 < top) ∧ (a0 = some ⟨b, off, none⟩ ∨ L.length = 0) := by
    rcases DataW.trod_slice Tryz.underlying22 hf with ⟨hcs, _⟩ | ⟨a, len', cap', elems, rest, n, rfl, hcs, _, _, hl, hm, hlen, hel, _, _⟩
    · simp [Value.cells] at hcs
      obtain ⟨_, rfl, _⟩ := hcs
      exact ⟨0, 0, [], rfl, ⟨fun i h => by simp at h, fun i h => by simp at h, fun i h => by simp at h, fun i h => by simp at h⟩, fun j h => by simp at h, .inr rfl⟩
    · simp [Value.cells] at hcs
      obtain ⟨rfl, rfl, rfl⟩ := hcs
      have hs := slice_spot hok
      obtain ⟨b, off, sp⟩ := a
      obtain rfl : sp = none := hs
      rw [cellsB] at hel
      obtain ⟨L, h1, h2, h3⟩ := list_cells hlen hel
      exact ⟨b, off, L, h1, h2, h3, .inl rfl⟩
  obtain ⟨b, off, L, rfl, hR, hT, ha⟩ := key
  have run : Calls Tryz.prog 3 #[.slice a0 L.length cap] W fun e w' => e = .returned (.bool true) ∧ Below W.heap.size W w' := by
    rcases Nat.lt_or_ge 20000 L.length with h | h
    · exact puts_long a0 L.length cap W h
    · refine puts_walk a0 cap L W ?_ hT h
      rcases ha with e | e
      · exact .inr ⟨b, off, e, hR⟩
      · exact .inl (List.length_eq_zero_iff.1 e)
  refine run.mono fun e W' ⟨he, bel⟩ => ?_
  subst he
  exact ⟨_, rfl, _, _, _, [], _, [], hW', trodAll_mk1 (shut_bool Tryz.underlying4 _), trodAll_mk1 (Below.trod laidOutD (by kernel_rfl) (of_decide_eq_true (by kernel_rfl)) k0 bel lt0), rfl, bel.frame _, fun h => by cases h⟩
theorem packetPuts_row : Rows.PacketPutsSaid :=
  OpenClaim.holds_of_wide 3 Tryz.f3 rfl rfl rfl rfl rfl rfl rfl ⟨rfl, rfl, rfl, rfl, rfl⟩ rfl rfl rfl rfl rfl (by kernel_rfl) Tryz.func3 (by kernel_rfl)
    (of_decide_eq_true (by kernel_rfl)) (by unfold Func.isWrapper; first | (rw [if_pos (by decide +kernel)]; kernel_rfl) | (rw [if_neg (by decide +kernel)]; exact ⟨rfl, rfl⟩))
    (fun os started H enc _ => packetPuts_lifted os started H enc)
theorem packetPuts_holds : Rows.PacketPutsCardSaid :=
  Claim7.holds_tied_plain_at .later [] [.data, .data, .data] true (true, "e3fd342ef5958cf3f839ec29b055860b169f1bd50b42ba05759c2d631f8941f3") false
    packetPuts_row (fun _ h => by cases h) (by kernel_rfl) (fun _ h => by cases h) packetPuts_row_tie rfl ⟨rfl, rfl⟩ (by kernel_rfl) rfl
    (fun f fn hf hfn => by
      obtain rfl : f = 3 := Option.some.inj ((show Tryz.prog.funcNamed "pointsman/pointsmanlaw02.PacketPuts" = some 3 by kernel_rfl).symm.trans hf) |>.symm
      obtain rfl : fn = Tryz.f3 := (Option.some.inj (Tryz.func3.symm.trans hfn)).symm
      exact ⟨by kernel_rfl, fun j t ht => by
        rw [Tryz.params3] at ht
        have hm : t ∈ [22] := by simpa using Array.mem_of_getElem? ht
        have hall : ([22].all fun u => !Tryz.prog.wantsStandIn u) = true := by kernel_rfl
        exact (show Tryz.prog.wantsStandIn t = false by simpa using List.all_eq_true.1 hall t hm)⟩)
    (by kernel_rfl)
#print axioms packetPuts_holds
end Go.Proofs.YtfniomfcfodojaaGreatDoor
