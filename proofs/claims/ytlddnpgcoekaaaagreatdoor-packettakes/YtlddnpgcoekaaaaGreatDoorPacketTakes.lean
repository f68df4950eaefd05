/- Proved: pointsmanlaw02.PacketTakes, called with any bytes and any widths, returns true and leaves them as they were; what is laid is tied to the program's text. -/
import Derived.Test.YtlddnpgcoekaaaaGreatDoorCards
import Derived.Test.YtlddnpgcoekaaaaGreatDoorTie
import Derived.Test.YtlddnpgcoekaaaaGreatDoorRowB
import Derived.Test.YtlddnpgcoekaaaaGreatDoorKLx
import Derived.LaidMore
import Derived.Stop.Joined
import Derived.SevenTiedAt
namespace Go.Proofs.YtlddnpgcoekaaaaGreatDoor
open Go.ChangeShapes Go.WideShapes Go.ChangeAt Go.RowKit

def laidB : List (String × DataW Unit) := [("math/bits.deBruijn32tab", Rows.laid_math_bits_deBruijn32tab), ("math/bits.deBruijn64tab", Rows.laid_math_bits_deBruijn64tab), ("internal/strconv.uint64pow10", Rows.laid_internal_strconv_uint64pow10)]
theorem door_met (os : Os) (args : Array Value) : laidMetH Tryz.prog laidB ((World.doorLaid Tryz.prog 24 os).forCall (fun _ _ => 0) ⟨#[], args, []⟩).memory :=
  laidMetH_of_parts3 (fuel := 8) (laidMet_of_run' 8 (by kernel_rfl) (by kernel_rfl)) (by kernel_rfl) (by kernel_rfl)
def RdIntK (k : IntKind) (W : World) (a : Option Addr) (L : List Int) : Prop := L = [] ∨ ∃ b off, a = some ⟨b, off, none⟩ ∧ b < W.heap.size ∧ ∀ i (h : i < L.length), W.cell? ⟨b, off + i, none⟩ = some (.int k L[i])
set_option maxRecDepth 100000 in
theorem placeT {W : World} {base : Nat} {t e : TypeId} {a : Addr} {len cap : Nat} (ht : Tryz.prog.underlying t = some (.slice e)) (h : Value.okWide Tryz.prog W .any base t (.slice (some a) len cap)) : a.spot = none ∧ a.block < W.heap.size ∧ len ≤ cap ∧ cap ≤ 9223372036854775807 := by
  simp only [Value.okWide, ht, Cell.okWide] at h
  simp only [Cell.ok, ht] at h
  obtain ⟨h1, h2, _, h4, row, cells, h5, _⟩ := h
  refine ⟨h4, ?_, h1, ?_⟩
  · unfold World.shape? at h5
    cases hb : W.heap[a.block]? with
    | none => rw [hb] at h5; simp at h5
    | some o => exact (Array.getElem?_eq_some_iff.1 hb).1
  · have : IntKind.i64.max = 9223372036854775807 := by decide
    omega
set_option maxRecDepth 100000 in
theorem open_zs {H : Type} {enc : TypeId × Value → H} {W : World} {base fuel : Nat} {base2 : Nat} {t e : TypeId} {k : IntKind} {a0 : Option Addr} {len cap : Nat} {x : DataW H × List MemPlace} (ht : Tryz.prog.underlying t = some (.slice e)) (he : Tryz.prog.underlying e = some (.int k)) (hce : Tryz.prog.cellsOf e = 1) (hok : Value.okWide Tryz.prog W .any base t (.slice a0 len cap)) (h : DataW.trod enc Tryz.prog W base2 (fun _ => true) true fuel t (Value.slice a0 len cap).cells.toList = some x) :
    ∃ zs : List Int, len = zs.length ∧ (∀ z ∈ zs, (Lit.int k z).wf = true) ∧ RdIntK k W a0 zs ∧ len ≤ cap ∧ cap ≤ 9223372036854775807 ∧ (a0 = none → cap = 0) := by
  rcases open_ints ht he hce h with ⟨hcs, _⟩ | ⟨a, len', cap', zs, hcs, _, hl, _, hzl, _, hc, hwf⟩
  · simp [Value.cells] at hcs
    obtain ⟨rfl, rfl, rfl⟩ := hcs
    exact ⟨[], rfl, fun y hy => by simp at hy, .inl rfl, Nat.le_refl _, by decide, fun _ => rfl⟩
  · simp [Value.cells] at hcs
    obtain ⟨rfl, rfl, rfl⟩ := hcs
    obtain ⟨hs, hlt, hlc, hcm⟩ := placeT ht hok
    obtain ⟨b, off, sp⟩ := a
    obtain rfl : sp = none := hs
    have hzl' : zs.length = cap := by simpa using hzl
    have hlen : len = (zs.take len).length := by simp; omega
    refine ⟨zs.take len, hlen, fun y hy => hwf y (List.mem_of_mem_take hy), .inr ⟨b, off, rfl, hlt, fun i hi => ?_⟩, hlc, hcm, fun e => by cases e⟩
    rw [← hlen] at hi
    have h1 := hc i (by omega)
    rw [add_at] at h1
    have hi2 : i < zs.length := by omega
    have h2 : zs.getD i 0 = zs[i] := by rw [List.getD_eq_getElem?_getD, List.getElem?_eq_getElem hi2]; rfl
    rw [h1, h2]
    simp only [List.getElem_take]
theorem cellsNI : Tryz.prog.cellsOf 3 = 1 := by kernel_rfl
set_option maxRecDepth 100000 in
theorem packetTakes_lifted (os : Os) (started : os.Started) (H : Type) (enc : TypeId × Value → H) :
    ReturnsInHanded {} Tryz.checked os 3 .any (fun w args => (Rows.packetTakesSpec.pre enc Tryz.prog Tryz.f3 [] false w args ∧ laidMetH Tryz.prog laidB w) ∧ sizedMet enc Tryz.prog Tryz.f3 (OpenSpec.ofChange Rows.packetTakesSpec) false w args)
      (Rows.packetTakesSpec.post enc Tryz.prog Tryz.f3 false true false false) := by
  refine returnsInHanded_of_change_and (C := Tryz.checked) (X := fun w _ => laidMetH Tryz.prog laidB w) (fun _ _ _ hh h => h.of_heap hh) ownD started (by kernel_rfl) Tryz.func3
    (ChangeSpec.witness_shaped (enc := enc) (C := Tryz.checked) (os := os) (X := fun w _ => laidMetH Tryz.prog laidB w) false (World.doorLaid Tryz.prog 24 os) #[.slice none 0 0, .slice none 0 0] 8 rfl (World.shaped_of_RefB (by kernel_rfl) (by kernel_rfl)) (by kernel_rfl) (by kernel_rfl) (by kernel_rfl) (door_met os _)) ?_
  intro W base args ds gs before hval0 hW _ _ hL _
  have hval : ∀ (j : Nat) t v, Tryz.f3.params[j]? = some t → args[j]? = some v → Value.okWide Tryz.prog W .any base t v := hval0
  have hW' := hW
  obtain ⟨p, q, hA0, hV, rfl, hfz, hnd⟩ := hW
  have hA : DataW.TrodAll enc Tryz.prog W 0 (fun _ => true) true Tryz.f3.params.toList args.toList ds p := hA0
  rw [Tryz.params3] at hA hval
  obtain ⟨v0, v1, d0, d1, p0, p1, rfl, rfl, rfl, h0, h1⟩ := trodAll_two hA
  obtain ⟨rfl, rfl⟩ := trodVars_none hV
  have k0 := h0
  have lt0 : ∀ x ∈ p0, x.block < W.heap.size := by obtain ⟨m, hm⟩ := k0; exact DataW.trod_lt m _ _ _ hm
  have k1 := h1
  have lt1 : ∀ x ∈ p1, x.block < W.heap.size := by obtain ⟨m, hm⟩ := k1; exact DataW.trod_lt m _ _ _ hm
  obtain ⟨a0, len0, cap0, rfl⟩ := okWide_slice Tryz.underlying22 (hval 0 22 v0 rfl rfl)
  obtain ⟨fuel, hf⟩ := h0
  obtain ⟨xs0, hlen0, hxs0, hrd0, hlc0, hcm0, hnn0⟩ := open_bytes (hval 0 22 _ rfl rfl) hf
  obtain ⟨a1, len1, cap1, rfl⟩ := okWide_slice Tryz.underlying23 (hval 1 23 v1 rfl rfl)
  obtain ⟨fuel1, hf1⟩ := h1
  obtain ⟨zs, hlen1, _, hrd1, _, _, _⟩ := open_zs Tryz.underlying23 Tryz.underlying3 cellsNI (hval 1 23 _ rfl rfl) hf1
  clear hA0 hval0
  have run : Calls Tryz.prog 3 #[.slice a0 len0 cap0, .slice a1 len1 cap1] W fun e w' => e = .returned (.bool true) ∧ Below W.heap.size W w' := by
    subst hlen0 hlen1
    by_cases h : xs0.length ≤ 100000 ∧ zs.length ≤ 2000
    · exact takes_walk a0 cap0 xs0 a1 cap1 zs W hrd0 hnn0 hxs0 h.1 h.2 hrd1
    · exact takes_long a0 xs0.length cap0 a1 zs.length cap1 W (by omega)
  refine run.mono fun e W' ⟨he, bel⟩ => ?_
  subst he
  exact ⟨_, rfl, _, _, _, [], _, [], hW', trodAll_mk1 (shut_bool Tryz.underlying4 _), trodAll_mk2 (Below.trod laidOutD (by kernel_rfl) (of_decide_eq_true (by kernel_rfl)) k0 bel lt0) (Below.trod laidOutD (by kernel_rfl) (of_decide_eq_true (by kernel_rfl)) k1 bel lt1), rfl, bel.frame _, fun h => by cases h⟩
theorem packetTakes_row : Rows.PacketTakesSaid :=
  OpenClaim.holds_of_wide 3 Tryz.f3 rfl rfl rfl rfl rfl rfl rfl ⟨rfl, rfl, rfl, rfl, rfl⟩ rfl rfl rfl rfl rfl (by kernel_rfl) Tryz.func3 (by kernel_rfl)
    (of_decide_eq_true (by kernel_rfl)) (by unfold Func.isWrapper; first | (rw [if_pos (by decide +kernel)]; kernel_rfl) | (rw [if_neg (by decide +kernel)]; exact ⟨rfl, rfl⟩))
    (fun os started H enc _ => packetTakes_lifted os started H enc)
theorem packetTakes_holds : Rows.PacketTakesCardSaid :=
  Claim7.holds_tied_plain_at .later [] [.data, .data, .data] true (true, "c2068ad4a3906f8fa7593bd552a105e6860c52f5ee6be995fcb84a9ecf74ccb3") false
    packetTakes_row (fun _ h => by cases h) (by kernel_rfl) (fun _ h => by cases h) packetTakes_row_tie rfl ⟨rfl, rfl⟩ (by kernel_rfl) rfl
    (fun f fn hf hfn => by
      obtain rfl : f = 3 := Option.some.inj ((show Tryz.prog.funcNamed "pointsman/pointsmanlaw02.PacketTakes" = some 3 by kernel_rfl).symm.trans hf) |>.symm
      obtain rfl : fn = Tryz.f3 := (Option.some.inj (Tryz.func3.symm.trans hfn)).symm
      exact ⟨by kernel_rfl, fun j t ht => by
        rw [Tryz.params3] at ht
        have hm : t ∈ [22, 23] := by simpa using Array.mem_of_getElem? ht
        have hall : ([22, 23].all fun u => !Tryz.prog.wantsStandIn u) = true := by kernel_rfl
        exact (show Tryz.prog.wantsStandIn t = false by simpa using List.all_eq_true.1 hall t hm)⟩)
    (by kernel_rfl)
#print axioms packetTakes_holds
end Go.Proofs.YtlddnpgcoekaaaaGreatDoor
