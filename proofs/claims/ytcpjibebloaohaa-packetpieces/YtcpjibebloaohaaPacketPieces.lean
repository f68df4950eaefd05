/- Proved: pointsmanlaw02.PacketPieces, called with any bytes, any place and any two widths, returns true and leaves its arguments as they were; no condition. -/
import Derived.Test.YtcpjibebloaohaaRows
import Derived.Test.YtcpjibebloaohaaPPies
import Derived.ProofKit
import Derived.OpenShut
import Derived.ChangeOld
import Derived.ChangeSlices
namespace Go.Proofs.Ytcpjibebloaohaa
open Go.ChangeShapes Go.WideShapes Go.ChangeAt Go.RowKit

theorem ownD : ownKnob Try.prog.godebug = none := by kernel_rfl
theorem laidOutD : laidOutB Try.prog = true := by kernel_rfl
theorem byteD {x : Int} (h : (Lit.int .u8 x).wf = true) : 0 ≤ x ∧ x < 256 := by
  simp [Lit.wf, IntKind.min, IntKind.max, IntKind.signed, IntKind.bits] at h
  exact ⟨by omega, by omega⟩
theorem cells8 : Try.prog.cellsOf 5 = 1 := by kernel_rfl
theorem spot8 {W : World} {base : Nat} {a : Addr} {len cap : Nat} (h : Value.okWide Try.prog W .any base 24 (.slice (some a) len cap)) : a.spot = none := by
  simp only [Value.okWide, Try.underlying24, Cell.okWide] at h
  simp only [Cell.ok, Try.underlying24] at h
  exact h.2.2.2.1
theorem open_bytes {H : Type} {enc : TypeId × Value → H} {W : World} {base fuel : Nat} {base2 : Nat} {a0 : Option Addr} {len cap : Nat} {x : DataW H × List MemPlace} (hok : Value.okWide Try.prog W .any base 24 (.slice a0 len cap)) (h : DataW.trod enc Try.prog W base2 (fun _ => true) true fuel 24 (Value.slice a0 len cap).cells.toList = some x) :
    ∃ xs : List Nat, len = xs.length ∧ (∀ y ∈ xs, y < 256) ∧ BySl W (.slice a0 len cap) xs := by
  rcases open_ints Try.underlying24 Try.underlying5 cells8 h with ⟨hcs, _⟩ | ⟨a, len', cap', zs, hcs, _, hl, _, hzl, _, hc, hwf⟩
  · simp [Value.cells] at hcs
    obtain ⟨rfl, rfl, rfl⟩ := hcs
    exact ⟨[], rfl, fun y hy => by simp at hy, .inl ⟨rfl, rfl⟩⟩
  · simp [Value.cells] at hcs
    obtain ⟨rfl, rfl, rfl⟩ := hcs
    have hs := spot8 hok
    obtain ⟨b, off, sp⟩ := a
    obtain rfl : sp = none := hs
    have hzl' : zs.length = cap := by simpa using hzl
    have hlen : len = ((zs.take len).map Int.toNat).length := by simp; omega
    refine ⟨(zs.take len).map Int.toNat, hlen, fun y hy => ?_, .inr ⟨b, off, cap, by rw [← hlen], fun i hi => ?_⟩⟩
    · obtain ⟨n, hn, rfl⟩ := List.mem_map.1 hy
      have := byteD (hwf n (List.mem_of_mem_take hn)); omega
    · rw [← hlen] at hi
      have h1 := hc i (by omega)
      rw [add_at] at h1
      have hi2 : i < zs.length := by omega
      have h2 : zs.getD i 0 = zs[i] := by rw [List.getD_eq_getElem?_getD, List.getElem?_eq_getElem hi2]; rfl
      have h3 := byteD (hwf zs[i] (List.getElem_mem hi2))
      rw [h1, h2]
      simp only [List.getElem_map, List.getElem_take]
      rw [Int.toNat_of_nonneg h3.1]
theorem cells2i : Try.prog.cellsOf 40 = 2 := by kernel_rfl
theorem cellsI : Try.prog.cellsOf 3 = 1 := by kernel_rfl
theorem two_of {cs : Array Value} (h : cs.size = 2) : ∃ a b, cs = #[a, b] := by
  obtain ⟨l⟩ := cs
  match l, h with
  | [a, b], _ => exact ⟨a, b, rfl⟩
theorem okWide_array {P : Program} {w : World} {r : Reach} {base : Nat} {t : TypeId} {v : Value} {n : Nat} {e : TypeId} (ht : P.underlying t = some (.array n e)) (h : Value.okWide P w r base t v) : ∃ cs, v = .agg cs ∧ cs.size = P.cellsOf t := by
  simp only [Value.okWide, ht] at h
  obtain ⟨cs, h1, h2, _⟩ := h
  exact ⟨cs, h1, h2⟩
theorem two_ints {H : Type} {enc : TypeId × Value → H} {W : World} {base fuel : Nat} {spare : Nat → Bool} {held : Bool} {a b : Value} {x : DataW H × List MemPlace} (h : DataW.trod enc Try.prog W base spare held fuel 40 [a, b] = some x) : ∃ m n, a = .int .i64 m ∧ b = .int .i64 n := by
  obtain ⟨xs, n, _, _, _, hl, hf⟩ := DataW.trod_array Try.underlying40 h
  have h0 : DataW.trod enc Try.prog W base spare held n 3 (([a, b].drop (0 * Try.prog.cellsOf 3)).take (Try.prog.cellsOf 3)) = xs[0]? := hf 0 (by decide)
  rw [cellsI] at h0
  replace h0 : DataW.trod enc Try.prog W base spare held n 3 [a] = xs[0]? := h0
  have h1 : DataW.trod enc Try.prog W base spare held n 3 (([a, b].drop (1 * Try.prog.cellsOf 3)).take (Try.prog.cellsOf 3)) = xs[1]? := hf 1 (by decide)
  rw [cellsI] at h1
  replace h1 : DataW.trod enc Try.prog W base spare held n 3 [b] = xs[1]? := h1
  rw [List.getElem?_eq_getElem (by omega)] at h0 h1
  obtain ⟨p, q0, _, _⟩ := DataW.trod_int Try.underlying3 h0
  obtain ⟨q, q1, _, _⟩ := DataW.trod_int Try.underlying3 h1
  simp at q0 q1
  exact ⟨p, q, q0, q1⟩
set_option maxRecDepth 100000 in
theorem packetPieces_lifted (os : Os) (started : os.Started) (H : Type) (enc : TypeId × Value → H) :
    ReturnsInHanded {} Try.checked os 4 .any (Rows.packetPiecesSpec.pre6 enc Try.prog Try.f4 Rows.packetPiecesRow.domain false) (Rows.packetPiecesSpec.post enc Try.prog Try.f4 false true false false) := by
  refine returnsInHanded_of_change (C := Try.checked) ownD started (by kernel_rfl) Try.func4
    (ChangeSpec.witness6 (enc := enc) (C := Try.checked) false ⟨#[], #[.slice none 0 0, .int .u16 0, .agg #[.int .i64 0, .int .i64 0]], []⟩ 8 (by kernel_rfl) (by kernel_rfl) (by kernel_rfl) (by kernel_rfl)) ?_
  intro W base args ds gs before hval0 hW hcnd _
  have hval : ∀ (j : Nat) t v, Try.f4.params[j]? = some t → args[j]? = some v → Value.okWide Try.prog W .any base t v := hval0
  have hW' := hW
  obtain ⟨p, q, hA0, hV, rfl, hfz, hnd⟩ := hW
  have hA : DataW.TrodAll enc Try.prog W 0 (fun _ => true) true Try.f4.params.toList args.toList ds p := hA0
  rw [Try.params4] at hA hval
  obtain ⟨v0, v1, v2, d0, d1, d2, p0, p1, p2, rfl, rfl, rfl, h0, h1, h2⟩ := trodAll_three hA
  obtain ⟨rfl, rfl⟩ := trodVars_none hV
  obtain ⟨a0, len, cap, rfl⟩ := okWide_slice Try.underlying24 (hval 0 24 v0 rfl rfl)
  have hok := hval 0 24 _ rfl rfl
  have k0 := h0
  have k1 := h1
  have k2 := h2
  have lt0 : ∀ x ∈ p0, x.block < W.heap.size := by obtain ⟨m, hm⟩ := k0; exact DataW.trod_lt m _ _ _ hm
  have lt1 : ∀ x ∈ p1, x.block < W.heap.size := by obtain ⟨m, hm⟩ := k1; exact DataW.trod_lt m _ _ _ hm
  have lt2 : ∀ x ∈ p2, x.block < W.heap.size := by obtain ⟨m, hm⟩ := k2; exact DataW.trod_lt m _ _ _ hm
  obtain ⟨fuel, hf⟩ := h0
  obtain ⟨at', ea, _, _, wa⟩ := open_int Try.underlying39 (hval 1 39 v1 rfl rfl) h1
  subst ea
  have hat : 0 ≤ at' ∧ at' < 65536 := by
    simp [Lit.wf, IntKind.min, IntKind.max, IntKind.signed, IntKind.bits] at wa
    exact ⟨by omega, by omega⟩
  obtain ⟨cs, rfl, hsz⟩ := okWide_array Try.underlying40 (hval 2 40 v2 rfl rfl)
  obtain ⟨x0, x1, rfl⟩ := two_of (hsz.trans cells2i)
  obtain ⟨fuel2, hf2⟩ := h2
  obtain ⟨w0, w1, rfl, rfl⟩ := two_ints (by simpa [Value.cells] using hf2)
  clear hA0 hval0
  obtain ⟨xs, hlen, hxs, hB⟩ := open_bytes hok hf
  have run : Calls Try.prog 4 #[.slice a0 len cap, .int .u16 at', .agg #[.int .i64 w0, .int .i64 w1]] W fun e w' => e = .returned (.bool true) ∧ Below W.heap.size W w' := by
    rcases Nat.lt_or_ge 65536 len with h | h
    · exact pieces_long a0 len cap at' w0 w1 W h
    · exact pieces_yes a0 len cap xs at' w0 w1 W hB hxs (by omega) hat.1 hat.2
  refine run.mono fun e W' ⟨he, bel⟩ => ?_
  subst he
  exact ⟨_, rfl, _, _, _, [], _, [], hW', trodAll_mk1 (shut_bool Try.underlying4 _), trodAll_mk3 (Below.trod laidOutD (by kernel_rfl) (of_decide_eq_true (by kernel_rfl)) k0 bel lt0) (Below.trod laidOutD (by kernel_rfl) (of_decide_eq_true (by kernel_rfl)) k1 bel lt1) (Below.trod laidOutD (by kernel_rfl) (of_decide_eq_true (by kernel_rfl)) k2 bel lt2), rfl, bel.frame _, fun h => by cases h⟩
theorem packetPieces_holds : Rows.PacketPiecesSaid :=
  OpenClaim.holds_of_wide 4 Try.f4 rfl rfl rfl rfl rfl rfl rfl ⟨rfl, rfl, rfl, rfl, rfl⟩ rfl rfl rfl rfl rfl (by kernel_rfl) Try.func4 (by kernel_rfl)
    (of_decide_eq_true (by kernel_rfl)) (by unfold Func.isWrapper; first | (rw [if_pos (by decide +kernel)]; kernel_rfl) | (rw [if_neg (by decide +kernel)]; exact ⟨rfl, rfl⟩))
    (fun os started H enc _ => packetPieces_lifted os started H enc)
#print axioms packetPieces_holds
end Go.Proofs.Ytcpjibebloaohaa
