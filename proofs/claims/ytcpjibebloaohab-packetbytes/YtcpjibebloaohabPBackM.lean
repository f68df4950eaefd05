/- What was put is taken: plain facts. -/
import Derived.Test.YtcpjibebloaohabPIter
import Derived.Test.YtcpjibebloaohabPPutM
namespace Go.Proofs.Ytcpjibebloaohab

theorem pbit_left {A B : List Bit01} {i : Nat} (h : i < A.length) : pbit (A ++ B) i = pbit A i := by simp [pbit, List.getElem?_append_left h]
theorem pbit_right {A B : List Bit01} {i : Nat} : pbit (A ++ B) (A.length + i) = pbit B i := by
  simp only [pbit]
  rw [List.getElem?_append_right (Nat.le_add_right _ _), Nat.add_sub_cancel_left]
theorem pbit_nbits {n v k i : Nat} (h : i < k) : pbit (nbits n v k) i = v / 2 ^ (n - 1 - i) % 2 := by
  simp only [pbit, nbits, List.getElem?_map, List.getElem?_range h, Option.map_some, Option.getD_some, nbit]
  exact Int.toNat_natCast _
theorem stream_prefix (L : List (Int × Nat)) {i j : Nat} (h : i ≤ j) : ∃ R, stream L j = stream L i ++ R := by
  induction j with
  | zero => exact ⟨[], by rw [Nat.le_zero.1 h]; simp⟩
  | succ j ih =>
    rcases Nat.lt_or_ge i (j + 1) with h' | h'
    · obtain ⟨R, hR⟩ := ih (by omega)
      exact ⟨R ++ _, by rw [stream, hR, List.append_assoc]⟩
    · exact ⟨[], by rw [show i = j + 1 by omega]; simp⟩
theorem pbit_stream (L : List (Int × Nat)) (i : Nat) (h : i < L.length) (k : Nat) (hk : k < L[i].1.toNat) : pbit (stream L L.length) (sumTo L i + k) = L[i].2 / 2 ^ (L[i].1.toNat - 1 - k) % 2 := by
  obtain ⟨R, hR⟩ := stream_prefix L (show i + 1 ≤ L.length by omega)
  have hl : sumTo L i + k < (stream L (i + 1)).length := by rw [stream_length, sumTo_succ L i h]; omega
  rw [hR, pbit_left hl, stream_succ L i h, ← stream_length, pbit_right, pbit_nbits hk]
/- The number at its place. -/
theorem back_val {ys : List Nat} {L : List (Int × Nat)} {N : Nat} (hP : Packed ys (stream L L.length) N) (hN : N = (sumTo L L.length + 7) / 8) (i : Nat) (h : i < L.length) (hok : okN L[i].1 L[i].2 = true) : bval ys (sumTo L i) L[i].1.toNat = L[i].2 := by
  have hp := ok_parts hok
  refine bval_eq hp.2.2 fun k hk => ?_
  have h1 := sumTo_mono L (show i + 1 ≤ L.length by omega)
  rw [sumTo_succ L i h] at h1
  rw [hP.bits _ (by omega), pbit_stream L i h k hk]
theorem back_tail {ys : List Nat} {L : List (Int × Nat)} {N n : Nat} (hP : Packed ys (stream L L.length) N) (hn : sumTo L L.length + n ≤ 8 * N) : bval ys (sumTo L L.length) n = 0 :=
  bval_zero fun i hi => by rw [hP.bits _ (by omega), pbit_ge _ (by rw [stream_length]; omega)]
end Go.Proofs.Ytcpjibebloaohab
