/- The walk of the document's own Number. -/
import Derived.Test.YthkhdmdllhbfeaaNRefs
import Derived.RegionTactic
namespace Go.Proofs.Ythkhdmdllhbfeaa
open Go.RowKit

/- A slice of bools that can be read in w: nil, or its cells are these. -/
def BRow (w : World) (v : Value) (l : List Bool) : Prop :=
  (v = .slice none 0 0 ∧ l = []) ∨ ∃ b off cap, v = .slice (some ⟨b, off, none⟩) l.length cap ∧ ∀ i (h : i < l.length), w.cell? ⟨b, off + i, none⟩ = some (.bool l[i])

theorem blk_set {w : World} {b : Nat} {cs : Array Value} {t : TypeId} (h : w.heap[b]? = some (.cells cs t (0, 0))) (j : Nat) (u : Value) : (w.setCell ⟨b, j, none⟩ u).heap[b]? = some (.cells (cs.setIfInBounds j u) t (0, 0)) := by
  have hlt := lt_of_block h
  have h' : w.heap[b] = .cells cs t (0, 0) := by simpa [Array.getElem?_eq_getElem hlt] using h
  show (w.heap.modify b _)[b]? = _
  rw [Array.getElem?_eq_getElem (by simpa using hlt), Array.getElem_modify_self, h']
  rfl
theorem blk3 {w : World} {b : Nat} {x y z : Value} {t : TypeId} (h : w.heap[b]? = some (.cells #[x, y, z] t (0, 0))) :
    w.cell? ⟨b, 0, none⟩ = some x ∧ w.cell? ⟨b, 1, none⟩ = some y ∧ w.cell? ⟨b, 2, none⟩ = some z ∧ w.frozen? ⟨b, 0, none⟩ = false ∧ w.frozen? ⟨b, 1, none⟩ = false ∧ w.frozen? ⟨b, 2, none⟩ = false := by
  simp [World.cell?, World.frozen?, h]
theorem blk_new (w : World) (cs : Array Value) (t : TypeId) : (w.alloc (.cells cs t)).heap[w.heap.size]? = some (.cells cs t (0, 0)) := heap_alloc_new w _

theorem num_none {wr : World} {B k : Nat} {l : List Bool} (h : wr.heap[B]? = some (.cells #[.int .i64 l.length, .int .u64 (numHi (l.take k)), .int .u64 (numLo (l.take k))] 52 (0, 0))) (hlt : k < l.length) (hb : l[k] = false) :
    wr.heap[B]? = some (.cells #[.int .i64 l.length, .int .u64 (numHi (l.take (k + 1))), .int .u64 (numLo (l.take (k + 1)))] 52 (0, 0)) := by
  have e1 : numLo (l.take (k + 1)) = numLo (l.take k) := by
    by_cases h : k < 64
    · rw [numLo_take_set l k hlt h, hb]; simp
    · exact numLo_take_same l k (by omega)
  have e2 : numHi (l.take (k + 1)) = numHi (l.take k) := by
    by_cases h : k < 64
    · rw [numHi_take_low l k (by omega), numHi_take_low l (k + 1) (by omega)]
    · by_cases h2 : k < 128
      · rw [numHi_take_set l k hlt (by omega) h2, hb]; simp
      · exact numHi_take_same l k (by omega)
  rw [e1, e2]; exact h
theorem num_lo {wr : World} {B k : Nat} {l : List Bool} (h : wr.heap[B]? = some (.cells #[.int .i64 l.length, .int .u64 (numHi (l.take k)), .int .u64 (numLo (l.take k))] 52 (0, 0))) (hlt : k < l.length) (hb : l[k] = true) (h64 : k < 64) :
    (wr.setCell ⟨B, 2, none⟩ (.int .u64 (bits .or .u64 (numLo (l.take k)) (IntKind.u64.wrap (2 ^ k))))).drew.heap[B]? = some (.cells #[.int .i64 l.length, .int .u64 (numHi (l.take (k + 1))), .int .u64 (numLo (l.take (k + 1)))] 52 (0, 0)) := by
  have e2 : numHi (l.take (k + 1)) = numHi (l.take k) := by rw [numHi_take_low l k (by omega), numHi_take_low l (k + 1) (by omega)]
  rw [lo_set l k hlt hb h64, e2]
  exact blk_set h 2 _
theorem num_hi {wr : World} {B k : Nat} {l : List Bool} (h : wr.heap[B]? = some (.cells #[.int .i64 l.length, .int .u64 (numHi (l.take k)), .int .u64 (numLo (l.take k))] 52 (0, 0))) (hlt : k < l.length) (hb : l[k] = true) (h64 : 64 ≤ k) (h128 : k < 128) :
    (wr.setCell ⟨B, 1, none⟩ (.int .u64 (bits .or .u64 (numHi (l.take k)) (IntKind.u64.wrap (2 ^ (k - 64)))))).drew.heap[B]? = some (.cells #[.int .i64 l.length, .int .u64 (numHi (l.take (k + 1))), .int .u64 (numLo (l.take (k + 1)))] 52 (0, 0)) := by
  rw [hi_set l k hlt hb h64 h128, numLo_take_same l k h64]
  exact blk_set h 1 _

set_option maxHeartbeats 1000000 in
theorem refNumber_row (l : List Bool) (hl : l.length ≤ 128) (b off cap : Nat) (w : World) (hc : ∀ i (h : i < l.length), w.cell? ⟨b, off + i, none⟩ = some (.bool l[i])) :
    Calls Try.prog 69 #[.slice (some ⟨b, off, none⟩) l.length cap] w fun e w' =>
      e = .returned (.agg #[.int .i64 l.length, .int .u64 (numHi l), .int .u64 (numLo l)]) ∧ Below w.heap.size w w' := by
  go_enter Try.func69, Try.ntmps69
  go_wp2
  go_loopw [4] (fun i wr => ∃ k : Nat, k ≤ l.length ∧ i = .int .i64 k ∧ Below (w.heap.size + 1) (w.alloc (.cells #[.int .i64 0, .int .u64 0, .int .u64 0] 52)) wr ∧
      wr.heap[w.heap.size + 1]? = some (.cells #[.int .i64 l.length, .int .u64 (numHi (l.take k)), .int .u64 (numLo (l.take k))] 52 (0, 0)))
    (fun i _ => l.length - (intOf i).toNat)
  case atStart => exact ⟨0, Nat.zero_le _, rfl, (Below.refl _ _).alloc (by simp) _, by have := blk_new (w.alloc (.cells #[.int .i64 0, .int .u64 0, .int .u64 0] 52)) #[.int .i64 l.length, .int .u64 0, .int .u64 0] 52; simpa [numHi_nil, numLo_nil] using this⟩
  case round =>
    obtain ⟨k, hk, rfl, hnx, hblk⟩ := hrel
    obtain ⟨d0, d1, d2, f0, f1, f2⟩ := blk3 hblk
    by_cases hlt : k < l.length
    · have hck : wr.cell? ⟨b, off + k, none⟩ = some (.bool l[k]) := by
        have h1 := hc k hlt
        have h2 := World.block_lt_of_cell? w _ h1
        rw [hnx.cell (by exact Nat.lt_succ_of_lt h2)]
        rw [← h1]
        exact World.cell?_alloc_past _ _ _ h2
      have HB : Hid (wr.heap[w.heap.size + 1]? = some (.cells #[.int .i64 l.length, .int .u64 (numHi (l.take k)), .int .u64 (numLo (l.take k))] 52 (0, 0))) := hblk
      clear hblk
      cases hb : l[k]
      · rw [hb] at hck
        go_wp2
        go_roundw
        case rel => exact ⟨k + 1, by omega, by go_num, hnx, num_none HB.out hlt hb⟩
        case measure => simp [intOf]; omega
      · rw [hb] at hck
        by_cases h64 : (k : Int) < 64
        · go_wp2
          go_region
          go_wp2
          go_roundw
          case rel => exact ⟨k + 1, by omega, by go_num, (hnx.setCell (by simp) _).drew, num_lo HB.out hlt hb (by omega)⟩
          case measure => simp [intOf]; omega
        · go_wp2
          go_region
          go_wp2
          go_roundw
          case rel => exact ⟨k + 1, by omega, by go_num, (hnx.setCell (by simp) _).drew, num_hi HB.out hlt hb (by omega) (by omega)⟩
          case measure => simp [intOf]; omega
    · have hkk : k = l.length := by omega
      subst hkk
      rw [List.take_length] at hblk d1 d2
      have hb0 : wr.heap[w.heap.size]? = some (.cells #[.int .i64 0, .int .u64 0, .int .u64 0] 52 (0, 0)) := (hnx.block _ (by omega)).trans (blk_new _ _ _)
      obtain ⟨r0, r1, r2, g0, g1, g2⟩ := blk3 hb0
      have hf : Hid (Below w.heap.size w wr) := ((Below.refl _ _).alloc (Nat.le_refl _) _).trans (hnx.mono (by omega))
      clear hb0 hnx hblk hk
      go_wp2
      refine bodyPost_ret (v := .agg #[.int .i64 l.length, .int .u64 (numHi l), .int .u64 (numLo l)]) (by simp [results, Try.results69, go_sem, r0, r1, r2]) rfl ⟨rfl, ?_⟩
      exact ((hf.out.setCell (Nat.le_refl _) _).setCell (Nat.le_refl _) _).setCell (Nat.le_refl _) _

theorem refNumber_nil (w : World) :
    Calls Try.prog 69 #[.slice none 0 0] w fun e w' =>
      e = .returned (.agg #[.int .i64 0, .int .u64 0, .int .u64 0]) ∧ Below w.heap.size w w' := by
  go_enter Try.func69, Try.ntmps69
  go_wp2
  refine wp_loop_rounds 1 ?_
  rw [rounds_succ]
  go_wp2
  refine bodyPost_ret (v := .agg #[.int .i64 0, .int .u64 0, .int .u64 0]) (by simp [results, Try.results69, go_sem]) rfl ⟨rfl, ?_⟩
  exact ((Below.refl _ _).alloc (Nat.le_refl _) _).alloc (by simp) _

theorem refNumber_any (v : Value) (l : List Bool) (w : World) (hl : l.length ≤ 128) (hv : BRow w v l) :
    Calls Try.prog 69 #[v] w fun e w' =>
      e = .returned (.agg #[.int .i64 l.length, .int .u64 (numHi l), .int .u64 (numLo l)]) ∧ Below w.heap.size w w' := by
  rcases hv with ⟨rfl, rfl⟩ | ⟨b, off, cap, rfl, hc⟩
  · exact refNumber_nil w
  · exact refNumber_row l hl b off cap w hc

theorem brow_of_own {w : World} {base k : Nat} {v : Value} {l : List Bool} (h : w.ownsRow base 4 1 v k (l.map Value.bool)) : BRow w v l := by
  have hk : l.length = k := by have := h.1; simpa using this
  rcases h.2 with ⟨rfl, h0⟩ | ⟨g, cap, cur, rfl, _⟩
  · exact .inl ⟨rfl, List.length_eq_zero_iff.1 (by omega)⟩
  · refine .inr ⟨g, 0, cap, by rw [hk], fun i hi => ?_⟩
    have := h.cellAt i (by omega)
    rw [Nat.zero_add, this]
    simp [hi]
theorem BRow.keep {w w1 : World} {v : Value} {l : List Bool} (h : BRow w v l) (hb : Below w.heap.size w w1) : BRow w1 v l := by
  rcases h with h | ⟨b, off, cap, hv, hc⟩
  · exact .inl h
  · exact .inr ⟨b, off, cap, hv, fun i hi => by rw [hb.cell (World.block_lt_of_cell? w _ (hc i hi))]; exact hc i hi⟩
end Go.Proofs.Ythkhdmdllhbfeaa
