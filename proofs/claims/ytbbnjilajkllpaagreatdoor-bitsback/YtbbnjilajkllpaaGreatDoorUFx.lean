/- strconv.FormatUint at base 16. -/
import Derived.Test.YtbbnjilajkllpaaGreatDoorFmt
namespace Go.Proofs.YtbbnjilajkllpaaGreatDoor
open Go.RowKit

def hexAt (v k : Nat) : Prop := (k = 0 ∨ 16 ^ k ≤ v) ∧ v < 16 ^ (k + 1) ∧ k ≤ 15
theorem formatUint_16i (v : Nat) (hv : v < 18446744073709551616) (w : World) (ht : w.cell? ⟨5, 15, none⟩ = some (.int .u8 4)) :
    Calls Tryz.prog 31 #[.int .u64 v, .int .i64 16] w fun e w' => ∃ k, hexAt v k ∧ e = .returned (.string ⟨(lowB v (k + 1)).toArray⟩) ∧ Below w.heap.size w w' := by
  have HF := hide (formatBits_16 v hv w ht)
  clear ht
  go_enter Tryz.func31, Tryz.ntmps31
  go_wp2_with fail
  refine HF.out.mono ?_
  rintro e w1 ⟨k, h1, h2, h3, rfl, hb⟩
  have H1 : Hid (hexAt v k) := ⟨h1, h2, h3⟩
  clear h1 h2 h3
  generalize hL : lowB v (k + 1) = L
  have HL := hide hL
  clear hL
  go_wp2
  go_ret
  exact ⟨k, H1.out, by rw [HL.out]; rfl, hb⟩
theorem formatUint_16 (v : Nat) (hv : v < 18446744073709551616) (w : World) (ht : w.cell? ⟨5, 15, none⟩ = some (.int .u8 4)) :
    Calls Tryz.prog 24 #[.int .u64 v, .int .i64 16] w fun e w' => ∃ k, hexAt v k ∧ e = .returned (.string ⟨(lowB v (k + 1)).toArray⟩) ∧ Below w.heap.size w w' := by
  have HF := hide (formatUint_16i v hv w ht)
  clear ht
  go_enter Tryz.func24, Tryz.ntmps24
  go_wp2_with fail
  refine HF.out.mono ?_
  rintro e w1 ⟨k, h1, rfl, hb⟩
  have H1 := hide h1
  clear h1
  generalize hL : lowB v (k + 1) = L
  have HL := hide hL
  clear hL
  go_wp2
  go_ret
  exact ⟨k, H1.out, by rw [HL.out]; rfl, hb⟩
theorem cells3T {w w1 : World} {a b c : Value} {t : TypeId} (hb : Below (w.alloc (.cells #[a, b, c] t)).heap.size (w.alloc (.cells #[a, b, c] t)) w1) : w1.cell? ⟨w.heap.size, 0, none⟩ = some a ∧ w1.cell? ⟨w.heap.size, 1, none⟩ = some b ∧ w1.cell? ⟨w.heap.size, 2, none⟩ = some c := by
  have h : w1.heap[w.heap.size]? = some (.cells #[a, b, c] t (0, 0)) := (hb.block _ (by simp)).trans (heap_alloc_new w _)
  simp [World.cell?, h]
theorem keepS {B : Nat} {w0 W w1 : World} {S : World → Prop} (hS : ∀ w', Below B w0 w' → S w') (hb : Below W.heap.size W w1) (h : Below B w0 W) (hB : B ≤ w0.heap.size) : S w1 :=
  hS _ (h.trans (hb.mono (Nat.le_trans hB h.size)))
end Go.Proofs.YtbbnjilajkllpaaGreatDoor
