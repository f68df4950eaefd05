/- Bytes held against bytes. -/
import Derived.Test.YtcpjibebloaohabPNew
import Derived.RegionTactic
namespace Go.Proofs.Ytcpjibebloaohab
open Go.RowKit

/- Bytes that can be read. -/
def Row8 (w : World) (v : Value) (l : List Nat) : Prop := ∃ b off cap, v = .slice (some ⟨b, off, none⟩) l.length cap ∧ ∀ i (h : i < l.length), w.cell? ⟨b, off + i, none⟩ = some (.int .u8 (l[i] : Nat))
theorem same_yes (l : List Nat) (hl : l.length ≤ 1000) (va vb : Value) (w : World) (ha : Row8 w va l) (hb : Row8 w vb l) :
    Calls Try.prog 9 #[va, vb] w fun e w' => e = .returned (.bool true) ∧ Below w.heap.size w w' := by
  obtain ⟨p, o1, c1, rfl, ha⟩ := ha
  obtain ⟨q, o2, c2, rfl, hb⟩ := hb
  go_enter Try.func9, Try.ntmps9
  go_wp2
  go_loopw [5] (fun i wr => ∃ k : Nat, k ≤ l.length ∧ i = .int .i64 k ∧ Below w.heap.size w wr) (fun i _ => l.length - (intOf i).toNat)
  case atStart => exact ⟨0, Nat.zero_le _, rfl, Below.refl _ _⟩
  case round =>
    obtain ⟨k, hk, rfl, hnx⟩ := hrel
    have HN := hide hnx
    by_cases hlt : k < l.length
    · have hca : wr.cell? ⟨p, o1 + k, none⟩ = some (.int .u8 (l[k] : Nat)) := by
        rw [hnx.cell (World.block_lt_of_cell? w _ (ha k hlt))]; exact ha k hlt
      have hcb : wr.cell? ⟨q, o2 + k, none⟩ = some (.int .u8 (l[k] : Nat)) := by
        rw [hnx.cell (World.block_lt_of_cell? w _ (hb k hlt))]; exact hb k hlt
      have hlI : (k : Int) < (l.length : Int) := by omega
      clear ha hb hnx
      generalize l[k] = x at *
      go_wp2
      go_region
      all_goals
        go_wp2
        go_roundw
        case rel => exact ⟨k + 1, by omega, by go_num, HN.out.drew⟩
        case measure => simp [intOf]; omega
    · clear ha hb hnx
      go_wp2
      go_ret
      exact ⟨rfl, HN.out⟩
theorem Row8.keep {w w1 : World} {v : Value} {l : List Nat} (h : Row8 w v l) (hb : Below w.heap.size w w1) : Row8 w1 v l := by
  obtain ⟨b, off, cap, hv, hc⟩ := h
  exact ⟨b, off, cap, hv, fun i hi => by rw [hb.cell (World.block_lt_of_cell? w _ (hc i hi))]; exact hc i hi⟩
theorem row8_of {w : World} {g c n : Nat} {l : List Nat} (hn : n = l.length) (h : ∀ i (h : i < l.length), w.cell? ⟨g, 0 + i, none⟩ = some (.int .u8 (l[i] : Nat))) : Row8 w (.slice (some ⟨g, 0, none⟩) n c) l := ⟨g, 0, c, by rw [hn], h⟩
theorem lit_row (w : World) (l : List Nat) (vs : Array Value) (hv : vs.toList = u8s l) (c : Nat) : Row8 (w.alloc (.cells vs 5)) (.slice (some ⟨w.heap.size, 0, none⟩) l.length c) l := by
  refine ⟨w.heap.size, 0, c, rfl, fun i hi => ?_⟩
  have h : (w.alloc (.cells vs 5)).heap[w.heap.size]? = some (.cells vs 5 (0, 0)) := heap_alloc_new w _
  have hi2 : vs[0 + i]? = some (.int .u8 (l[i] : Nat)) := by
    rw [Nat.zero_add, ← Array.getElem?_toList, hv]; simp [u8s, hi]
  unfold World.cell?
  simp only [h]
  exact hi2
end Go.Proofs.Ytcpjibebloaohab
