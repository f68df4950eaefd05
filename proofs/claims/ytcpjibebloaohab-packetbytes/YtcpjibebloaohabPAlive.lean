/- pointsmanlaw02.alive. -/
import Derived.Test.YtcpjibebloaohabPTake
import Derived.Test.YtcpjibebloaohabPRest
import Derived.Test.YtcpjibebloaohabPPut
import Derived.Test.YtcpjibebloaohabSame
namespace Go.Proofs.Ytcpjibebloaohab
open Go.RowKit Go.Shelf

theorem pnum_any (n lo : Int) (w : World) : Calls Try.prog 11 #[.int .i64 n, .int .u64 lo] w fun e w' => e = .returned (.agg #[.int .i64 n, .int .u64 0, .int .u64 lo]) ∧ Below w.heap.size w w' := by
  go_enter Try.func11, Try.ntmps11
  go_wp2
  refine bodyPost_ret (v := .agg #[.int .i64 n, .int .u64 0, .int .u64 lo]) (by simp [results, Try.results11, go_sem]) rfl ⟨rfl, ?_⟩
  exact (Below.refl _ _).alloc (Nat.le_refl _) _
def px : List Nat := [165, 15, 60]
def pl : List (Int × Nat) := [(4, 10), (8, 80)]
theorem px_small : ∀ y ∈ px, y < 256 := by decide
theorem palive_take1 {W : World} {g : Nat} {a : Option Addr} {c : Nat} (K : Cur W g a c px 0) : Calls Try.prog 7 #[.pointer (some ⟨g, 0, none⟩), .int .i64 4] W fun e W' => e = .returned (.tuple #[.agg #[.int .i64 4, .int .u64 0, .int .u64 10], .int .i64 0]) ∧ Moved g W W' ∧ Cur W' g a c px 4 := by
  have h := take_yes (n := 4) K px_small (by decide) (by decide) (by decide) (by decide)
  rw [show wHi (bval px 0 4) = 0 by decide, show wLo (bval px 0 4) = 10 by decide] at h
  exact h
theorem palive_take2 {W : World} {g : Nat} {a : Option Addr} {c : Nat} (K : Cur W g a c px 4) : Calls Try.prog 7 #[.pointer (some ⟨g, 0, none⟩), .int .i64 8] W fun e W' => e = .returned (.tuple #[.agg #[.int .i64 8, .int .u64 0, .int .u64 80], .int .i64 0]) ∧ Moved g W W' ∧ Cur W' g a c px 12 := by
  have h := take_yes (n := 8) K px_small (by decide) (by decide) (by decide) (by decide)
  rw [show wHi (bval px 4 8) = 0 by decide, show wLo (bval px 4 8) = 80 by decide] at h
  exact h
theorem palive_take3 {W : World} {g : Nat} {a : Option Addr} {c : Nat} (K : Cur W g a c px 12) : Calls Try.prog 7 #[.pointer (some ⟨g, 0, none⟩), .int .i64 13] W fun e W' => e = .returned (.tuple #[.agg #[.int .i64 0, .int .u64 0, .int .u64 0], .int .i64 9]) ∧ Below W.heap.size W W' :=
  take_short (n := 13) K (by decide) (by decide) (by decide) (by decide) (by decide)
theorem pl_read (W : World) (t : TypeId) : RdN (W.alloc (.cells #[.int .i64 4, .int .u64 0, .int .u64 10, .int .i64 8, .int .u64 0, .int .u64 80] t)) W.heap.size 0 pl := by
  have h : (W.alloc (.cells #[.int .i64 4, .int .u64 0, .int .u64 10, .int .i64 8, .int .u64 0, .int .u64 80] t)).heap[W.heap.size]? = some (.cells #[.int .i64 4, .int .u64 0, .int .u64 10, .int .i64 8, .int .u64 0, .int .u64 80] t (0, 0)) := heap_alloc_new W _
  have two : ∀ i, i < pl.length → i = 0 ∨ i = 1 := fun i hi => by simp [pl] at hi; omega
  refine ⟨fun i _ => by simp, fun i hi => ?_, fun i hi => ?_, fun i hi => ?_⟩
  · unfold World.cell?; simp only [h]; rcases two i hi with rfl | rfl <;> rfl
  · unfold World.cell?; simp only [h]; rcases two i hi with rfl | rfl
    · rw [show wHi (pl[0]'hi).2 = wHi 10 from rfl, show wHi 10 = 0 by decide]; rfl
    · rw [show wHi (pl[1]'hi).2 = wHi 80 from rfl, show wHi 80 = 0 by decide]; rfl
  · unfold World.cell?; simp only [h]; rcases two i hi with rfl | rfl
    · rw [show wLo (pl[0]'hi).2 = wLo 10 from rfl, show wLo 10 = 10 by decide]; rfl
    · rw [show wLo (pl[1]'hi).2 = wLo 80 from rfl, show wLo 80 = 80 by decide]; rfl
theorem dbl (y d v r : Nat) (h1 : y / (2 * d) = v) (h2 : y / d % 2 = r) : y / d = 2 * v + r := by
  have h3 : y / d / 2 = y / (2 * d) := by rw [Nat.div_div_eq_div_mul, Nat.mul_comm]
  omega
theorem byte165 (y : Nat) (hy : y < 256) (e0 : y / 128 % 2 = 1) (e1 : y / 64 % 2 = 0) (e2 : y / 32 % 2 = 1) (e3 : y / 16 % 2 = 0) (e4 : y / 8 % 2 = 0) (e5 : y / 4 % 2 = 1) (e6 : y / 2 % 2 = 0) (e7 : y / 1 % 2 = 1) : y = 165 := by
  have a0 := dbl y 128 0 1 (Nat.div_eq_of_lt hy) e0
  have a1 := dbl y 64 _ 0 a0 e1
  have a2 := dbl y 32 _ 1 a1 e2
  have a3 := dbl y 16 _ 0 a2 e3
  have a4 := dbl y 8 _ 0 a3 e4
  have a5 := dbl y 4 _ 1 a4 e5
  have a6 := dbl y 2 _ 0 a5 e6
  have a7 := dbl y 1 _ 1 a6 e7
  rw [Nat.div_one] at a7
  exact a7
theorem byte0 (y : Nat) (hy : y < 256) (e0 : y / 128 % 2 = 0) (e1 : y / 64 % 2 = 0) (e2 : y / 32 % 2 = 0) (e3 : y / 16 % 2 = 0) (e4 : y / 8 % 2 = 0) (e5 : y / 4 % 2 = 0) (e6 : y / 2 % 2 = 0) (e7 : y / 1 % 2 = 0) : y = 0 := by
  have a0 := dbl y 128 0 0 (Nat.div_eq_of_lt hy) e0
  have a1 := dbl y 64 _ 0 a0 e1
  have a2 := dbl y 32 _ 0 a1 e2
  have a3 := dbl y 16 _ 0 a2 e3
  have a4 := dbl y 8 _ 0 a3 e4
  have a5 := dbl y 4 _ 0 a4 e5
  have a6 := dbl y 2 _ 0 a5 e6
  have a7 := dbl y 1 _ 0 a6 e7
  rw [Nat.div_one] at a7
  exact a7
theorem pl_bytes {ys : List Nat} {N : Nat} (hN : N = (sumTo pl pl.length + 7) / 8) (h : Packed ys (stream pl pl.length) N) : ys = [165, 0] := by
  have hN2 : N = 2 := hN
  subst hN2
  obtain ⟨h1, h2, h3⟩ := h
  obtain ⟨y, z, rfl⟩ : ∃ y z, ys = [y, z] := by
    match ys, h1 with
    | [y, z], _ => exact ⟨y, z, rfl⟩
  have hy : y < 256 := h2 y (by simp)
  have hz : z < 256 := h2 z (by simp)
  have b0 := h3 0 (by decide); have b1 := h3 1 (by decide); have b2 := h3 2 (by decide); have b3 := h3 3 (by decide)
  have b4 := h3 4 (by decide); have b5 := h3 5 (by decide); have b6 := h3 6 (by decide); have b7 := h3 7 (by decide)
  have d0 := h3 8 (by decide); have d1 := h3 9 (by decide); have d2 := h3 10 (by decide); have d3 := h3 11 (by decide)
  have d4 := h3 12 (by decide); have d5 := h3 13 (by decide); have d6 := h3 14 (by decide); have d7 := h3 15 (by decide)
  have e0 : y / 128 % 2 = 1 := b0
  have e1 : y / 64 % 2 = 0 := b1
  have e2 : y / 32 % 2 = 1 := b2
  have e3 : y / 16 % 2 = 0 := b3
  have e4 : y / 8 % 2 = 0 := b4
  have e5 : y / 4 % 2 = 1 := b5
  have e6 : y / 2 % 2 = 0 := b6
  have e7 : y / 1 % 2 = 1 := b7
  have f0 : z / 128 % 2 = 0 := d0
  have f1 : z / 64 % 2 = 0 := d1
  have f2 : z / 32 % 2 = 0 := d2
  have f3 : z / 16 % 2 = 0 := d3
  have f4 : z / 8 % 2 = 0 := d4
  have f5 : z / 4 % 2 = 0 := d5
  have f6 : z / 2 % 2 = 0 := d6
  have f7 : z / 1 % 2 = 0 := d7
  have hy2 := byte165 y hy e0 e1 e2 e3 e4 e5 e6 e7
  have hz2 := byte0 z hz f0 f1 f2 f3 f4 f5 f6 f7
  rw [hy2, hz2]
theorem palive_put (W : World) (c : Nat) (b : Nat) (h : RdN W b 0 pl) : Calls Try.prog 8 #[.slice (some ⟨b, 0, none⟩) 2 c] W fun e W' => ∃ g, e = .returned (.tuple #[.slice (some ⟨g, 0, none⟩) 2 2, .int .i64 0]) ∧ Row8 W' (.slice (some ⟨g, 0, none⟩) 2 2) [165, 0] ∧ Below W.heap.size W W' := by
  have two : ∀ i, i < pl.length → i = 0 ∨ i = 1 := fun i hi => by simp [pl] at hi; omega
  refine (put_yes b 0 c pl W h (fun j hj => ?_) (by decide) (by decide) (fun j hj => ?_) (some ⟨b, 0, none⟩) (.inl rfl)).mono ?_
  · rcases two j hj with rfl | rfl
    · show 10 < top; decide
    · show 80 < top; decide
  · rcases two j hj with rfl | rfl
    · show okN 4 10 = true; decide
    · show okN 8 80 = true; decide
  rintro e W' ⟨g, N, ys, hN, rfl, hp, hr, _, _, hb⟩
  have hy := pl_bytes hN hp
  have hN2 : N = 2 := hN
  subst hN2 hy
  exact ⟨g, rfl, row8_of rfl hr, hb⟩
theorem palive_new (W : World) : Calls Try.prog 5 #[.slice (some ⟨W.heap.size, 0, none⟩) 3 3] (W.alloc (.cells #[.int .u8 165, .int .u8 15, .int .u8 60] 5)) fun e w' => ∃ g q c, e = .returned (.tuple #[.pointer (some ⟨g, 0, none⟩), .int .i64 0]) ∧ px.length ≤ c ∧ W.heap.size ≤ g ∧ Cur w' g (some ⟨q, 0, none⟩) c px 0 ∧ Below W.heap.size W w' := by
  obtain ⟨b, off, cap, hv, hc⟩ := lit_row W px #[.int .u8 165, .int .u8 15, .int .u8 60] rfl 3
  have e1 : b = W.heap.size := by simp at hv; exact hv.1.1.symm
  have e2 : off = 0 := by simp at hv; exact hv.1.2.symm
  subst e1 e2
  refine (new_some W.heap.size 0 3 px _ (by decide) hc).mono ?_
  rintro e w' ⟨g, q, c, rfl, h1, h2, _, h4, h5⟩
  simp only [World.size_alloc] at h2 h5
  exact ⟨g, q, c, rfl, h1, by omega, h4, ((Below.refl _ W).alloc (Nat.le_refl _) _).trans (h5.mono (by omega))⟩
theorem palive_rest {W : World} {g q c : Nat} (K : Cur W g (some ⟨q, 0, none⟩) c px 12) (hc : px.length ≤ c) : Calls Try.prog 10 #[.pointer (some ⟨g, 0, none⟩)] W fun e w' => ∃ q' c', e = .returned (.slice (some ⟨q', 0, none⟩) 1 c') ∧ Row8 w' (.slice (some ⟨q', 0, none⟩) 1 c') [60] ∧ Below W.heap.size W w' := by
  refine (rest_some (k := 2) K hc (by decide) (by decide) (by decide)).mono ?_
  rintro e w' ⟨q', c', rfl, h1, h2⟩
  exact ⟨q', c', rfl, row8_of rfl h1, h2⟩
end Go.Proofs.Ytcpjibebloaohab
