/- Pieces of the proof: NRefs, NNumb, NRefOm, NRefOf. -/
import Derived.Test.YteflnicgohjiiaaGreatDoorM2
import Derived.RegionTactic
/- The walks of the document's own Bits and Number. -/
namespace Go.Proofs.YteflnicgohjiiaaGreatDoor
open Go.RowKit

theorem Tryz.info4 : (Tryz.prog.info? 4).map (fun i => (i.zero, i.size, i.bytes)) = some (some (.bool false), 1, 1) := by kernel_rfl

theorem bool_one (b : Bool) : ∀ u ∈ [Value.bool b], u.oneCell' = true := by intro u hu; simp at hu; subst hu; rfl
theorem own_belowG {B : Nat} {e : TypeId} {w0 wr w1 : World} {u : Value} {k : Nat} {L : List Value} {o : Obj} (hown : wr.ownsRow B e 1 u k L) (hgrow : (wr.alloc o).grownBy w1 u.ownBlock) (hnx : Below B w0 wr) (hB : B ≤ wr.heap.size) : Below B w0 w1 :=
  (hnx.alloc hB o).grown hgrow (by simp; omega) (fun k e => (hown.lt k e).1)
theorem bits_own {B : Nat} {w1 : World} {v : Value} {hi lo : Int} {k : Nat} {X : Bool} (h : w1.ownsRow B 4 1 v (k + 1) ((bitsTo hi lo k).map Value.bool ++ [.bool X])) (hX : X = bitB hi lo k) : w1.ownsRow B 4 1 v (k + 1) ((bitsTo hi lo (k + 1)).map Value.bool) := by
  rw [bitsTo_succ, List.map_append, ← hX]; exact h

set_option maxHeartbeats 1000000 in
theorem refBits_any (n hi lo : Int) (w : World) (a0 : 0 ≤ hi) (a1 : hi < 18446744073709551616) (b0 : 0 ≤ lo) (b1 : lo < 18446744073709551616) :
    Calls Tryz.prog 248 #[.agg #[.int .i64 n, .int .u64 hi, .int .u64 lo]] w fun e w' =>
      ∃ v, e = .returned v ∧ w'.ownsRow (w.heap.size + 1) 4 1 v (min n 128).toNat ((bitsTo hi lo (min n 128).toNat).map Value.bool) ∧ Below w.heap.size w w' := by
  obtain ⟨i0, hi0, hz0, hz1, hz2⟩ := info_parts Tryz.info4
  go_enter Tryz.func248, Tryz.ntmps248
  go_wp2
  go_loopw [3, 4] (fun v i wr => ∃ k : Nat, (k ≤ (min n 128).toNat) ∧ i = .int .i64 k ∧ wr.ownsRow (w.heap.size + 1) 4 1 v k ((bitsTo hi lo k).map Value.bool) ∧ Below (w.heap.size + 1) (w.alloc (.cells #[.int .i64 n, .int .u64 hi, .int .u64 lo] 86)) wr)
    (fun _ i _ => 128 - (intOf i).toNat)
  case atStart => exact ⟨0, Nat.zero_le _, rfl, World.ownsRow_nil _ _ _ _, Below.refl _ _⟩
  case round =>
    obtain ⟨k, hk, rfl, hown, hnx⟩ := hrel
    have c0 : wr.cell? ⟨w.heap.size, 0, none⟩ = some (.int .i64 n) := by rw [hnx.cell (by simp)]; simp [go_sem]
    have c1 : wr.cell? ⟨w.heap.size, 1, none⟩ = some (.int .u64 hi) := by rw [hnx.cell (by simp)]; simp [go_sem]
    have c2 : wr.cell? ⟨w.heap.size, 2, none⟩ = some (.int .u64 lo) := by rw [hnx.cell (by simp)]; simp [go_sem]
    have hsz := hnx.size
    by_cases hlt : (k : Int) < n
    · by_cases h128 : (k : Int) < 128
      · by_cases h64 : (k : Int) < 64
        · go_wp2_with (at_builtin; refine wpList_append_own _ rfl _ _ 340 rfl (w.heap.size + 1) 4 i0 (.bool false) 1 1 Tryz.underlying340 hi0 hz0 hz1 hz2 rfl (by decide) _ _ _ rfl (hown.alloc _) ⟨wr.heap.size, 0, none⟩ 1 1 [.bool (bits .and .u64 (lo / 2 ^ k) 1 == 1)] rfl rfl (cell_one_new _ _ _) (bool_one _) (by unfold maxLen; omega) (by omega) (by simp at hsz ⊢; omega) ?_)
          intro v' w1 hown' hgrow _
          have hr1 : Hid (w1.ownsRow (w.heap.size + 1) 4 1 v' (k + 1) ((bitsTo hi lo (k + 1)).map Value.bool)) := bits_own hown' (bit_lo hi lo k h64 b0 b1)
          have hr2 : Hid (Below (w.heap.size + 1) (w.alloc (.cells #[.int .i64 n, .int .u64 hi, .int .u64 lo] 86)) w1) := own_belowG hown hgrow hnx (by simp at hsz; omega)
          clear hown hown' hgrow hnx c0 c1 c2
          go_wp2
          go_roundw
          case rel => exact ⟨k + 1, by omega, by go_num, hr1.out, hr2.out⟩
          case measure => simp [intOf]; omega
        · go_wp2_with (at_builtin; refine wpList_append_own _ rfl _ _ 340 rfl (w.heap.size + 1) 4 i0 (.bool false) 1 1 Tryz.underlying340 hi0 hz0 hz1 hz2 rfl (by decide) _ _ _ rfl (hown.alloc _) ⟨wr.heap.size, 0, none⟩ 1 1 [.bool (bits .and .u64 (hi / 2 ^ (k - 64)) 1 == 1)] rfl rfl (cell_one_new _ _ _) (bool_one _) (by unfold maxLen; omega) (by omega) (by simp at hsz ⊢; omega) ?_)
          intro v' w1 hown' hgrow _
          have hr1 : Hid (w1.ownsRow (w.heap.size + 1) 4 1 v' (k + 1) ((bitsTo hi lo (k + 1)).map Value.bool)) := bits_own hown' (bit_hi hi lo k (by omega) a0 a1)
          have hr2 : Hid (Below (w.heap.size + 1) (w.alloc (.cells #[.int .i64 n, .int .u64 hi, .int .u64 lo] 86)) w1) := own_belowG hown hgrow hnx (by simp at hsz; omega)
          clear hown hown' hgrow hnx c0 c1 c2
          go_wp2
          go_roundw
          case rel => exact ⟨k + 1, by omega, by go_num, hr1.out, hr2.out⟩
          case measure => simp [intOf]; omega
      · have hkk : Hid (k = (min n 128).toNat) := by unfold Hid; omega
        have hf : Hid (Below w.heap.size w wr) := ((Below.refl _ _).alloc (Nat.le_refl _) _).trans (hnx.mono (by omega))
        clear hnx hk
        go_wp2
        go_ret
        exact ⟨_, rfl, by rw [← hkk.out]; exact hown, hf.out⟩
    · have hkk : Hid (k = (min n 128).toNat) := by unfold Hid; omega
      have hf : Hid (Below w.heap.size w wr) := ((Below.refl _ _).alloc (Nat.le_refl _) _).trans (hnx.mono (by omega))
      clear hnx hk
      have hlt' : decide ((k : Int) < n) = false := by simpa using hlt
      go_wp2
      go_ret
      exact ⟨_, rfl, by rw [← hkk.out]; exact hown, hf.out⟩
end Go.Proofs.YteflnicgohjiiaaGreatDoor
/- The walk of the document's own Number. -/
namespace Go.Proofs.YteflnicgohjiiaaGreatDoor
open Go.RowKit

/- A slice of bools that can be read in w: nil, or its cells are these. -/
def BRow (w : World) (v : Value) (l : List Bool) : Prop :=
  (v = .slice none 0 0 ∧ l = []) ∨ ∃ b off cap, v = .slice (some ⟨b, off, none⟩) l.length cap ∧ ∀ i (h : i < l.length), w.cell? ⟨b, off + i, none⟩ = some (.bool l[i])

theorem blk_set {w : World} {b : Nat} {cs : Array Value} {t : TypeId} (h : w.heap[b]? = some (.cells cs t (0, 0))) (j : Nat) (u : Value) : (w.setCell ⟨b, j, none⟩ u).heap[b]? = some (.cells (cs.setIfInBounds j u) t (0, 0)) := by
  have hlt := lt_of_block h
  have h' : w.heap[b] = .cells cs t (0, 0) := by simpa [Array.getElem?_eq_getElem hlt] using h
  show (w.heap.modify b _)[b]? = _
  rw [Array.getElem?_eq_getElem (by simpa using hlt), Array.getElem_modify_self, h']
  rfl
theorem blk3 {w : World} {b : Nat} {x y z : Value} {t : TypeId} (h : w.heap[b]? = some (.cells #[x, y, z] t (0, 0))) :
    w.cell? ⟨b, 0, none⟩ = some x ∧ w.cell? ⟨b, 1, none⟩ = some y ∧ w.cell? ⟨b, 2, none⟩ = some z ∧ w.frozen? ⟨b, 0, none⟩ = false ∧ w.frozen? ⟨b, 1, none⟩ = false ∧ w.frozen? ⟨b, 2, none⟩ = false := by
  simp [World.cell?, World.frozen?, h]
theorem blk_new (w : World) (cs : Array Value) (t : TypeId) : (w.alloc (.cells cs t)).heap[w.heap.size]? = some (.cells cs t (0, 0)) := heap_alloc_new w _

theorem num_none {wr : World} {B k : Nat} {l : List Bool} (h : wr.heap[B]? = some (.cells #[.int .i64 l.length, .int .u64 (numHi (l.take k)), .int .u64 (numLo (l.take k))] 86 (0, 0))) (hlt : k < l.length) (hb : l[k] = false) :
    wr.heap[B]? = some (.cells #[.int .i64 l.length, .int .u64 (numHi (l.take (k + 1))), .int .u64 (numLo (l.take (k + 1)))] 86 (0, 0)) := by
  have e1 : numLo (l.take (k + 1)) = numLo (l.take k) := by
    by_cases h : k < 64
    · rw [numLo_take_set l k hlt h, hb]; simp
    · exact numLo_take_same l k (by omega)
  have e2 : numHi (l.take (k + 1)) = numHi (l.take k) := by
    by_cases h : k < 64
    · rw [numHi_take_low l k (by omega), numHi_take_low l (k + 1) (by omega)]
    · by_cases h2 : k < 128
      · rw [numHi_take_set l k hlt (by omega) h2, hb]; simp
      · exact numHi_take_same l k (by omega)
  rw [e1, e2]; exact h
theorem num_lo {wr : World} {B k : Nat} {l : List Bool} (h : wr.heap[B]? = some (.cells #[.int .i64 l.length, .int .u64 (numHi (l.take k)), .int .u64 (numLo (l.take k))] 86 (0, 0))) (hlt : k < l.length) (hb : l[k] = true) (h64 : k < 64) :
    (wr.setCell ⟨B, 2, none⟩ (.int .u64 (bits .or .u64 (numLo (l.take k)) (IntKind.u64.wrap (2 ^ k))))).drew.heap[B]? = some (.cells #[.int .i64 l.length, .int .u64 (numHi (l.take (k + 1))), .int .u64 (numLo (l.take (k + 1)))] 86 (0, 0)) := by
  have e2 : numHi (l.take (k + 1)) = numHi (l.take k) := by rw [numHi_take_low l k (by omega), numHi_take_low l (k + 1) (by omega)]
  rw [lo_set l k hlt hb h64, e2]
  exact blk_set h 2 _
theorem num_hi {wr : World} {B k : Nat} {l : List Bool} (h : wr.heap[B]? = some (.cells #[.int .i64 l.length, .int .u64 (numHi (l.take k)), .int .u64 (numLo (l.take k))] 86 (0, 0))) (hlt : k < l.length) (hb : l[k] = true) (h64 : 64 ≤ k) (h128 : k < 128) :
    (wr.setCell ⟨B, 1, none⟩ (.int .u64 (bits .or .u64 (numHi (l.take k)) (IntKind.u64.wrap (2 ^ (k - 64)))))).drew.heap[B]? = some (.cells #[.int .i64 l.length, .int .u64 (numHi (l.take (k + 1))), .int .u64 (numLo (l.take (k + 1)))] 86 (0, 0)) := by
  rw [hi_set l k hlt hb h64 h128, numLo_take_same l k h64]
  exact blk_set h 1 _

set_option maxHeartbeats 1000000 in
theorem refNumber_row (l : List Bool) (hl : l.length ≤ 128) (b off cap : Nat) (w : World) (hc : ∀ i (h : i < l.length), w.cell? ⟨b, off + i, none⟩ = some (.bool l[i])) :
    Calls Tryz.prog 247 #[.slice (some ⟨b, off, none⟩) l.length cap] w fun e w' =>
      e = .returned (.agg #[.int .i64 l.length, .int .u64 (numHi l), .int .u64 (numLo l)]) ∧ Below w.heap.size w w' := by
  go_enter Tryz.func247, Tryz.ntmps247
  go_wp2
  go_loopw [4] (fun i wr => ∃ k : Nat, k ≤ l.length ∧ i = .int .i64 k ∧ Below (w.heap.size + 1) (w.alloc (.cells #[.int .i64 0, .int .u64 0, .int .u64 0] 86)) wr ∧
      wr.heap[w.heap.size + 1]? = some (.cells #[.int .i64 l.length, .int .u64 (numHi (l.take k)), .int .u64 (numLo (l.take k))] 86 (0, 0)))
    (fun i _ => l.length - (intOf i).toNat)
  case atStart => exact ⟨0, Nat.zero_le _, rfl, (Below.refl _ _).alloc (by simp) _, by have := blk_new (w.alloc (.cells #[.int .i64 0, .int .u64 0, .int .u64 0] 86)) #[.int .i64 l.length, .int .u64 0, .int .u64 0] 86; simpa [numHi_nil, numLo_nil] using this⟩
  case round =>
    obtain ⟨k, hk, rfl, hnx, hblk⟩ := hrel
    obtain ⟨d0, d1, d2, f0, f1, f2⟩ := blk3 hblk
    by_cases hlt : k < l.length
    · have hck : wr.cell? ⟨b, off + k, none⟩ = some (.bool l[k]) := by
        have h1 := hc k hlt
        have h2 := World.block_lt_of_cell? w _ h1
        rw [hnx.cell (by exact Nat.lt_succ_of_lt h2)]
        rw [← h1]
        exact World.cell?_alloc_past _ _ _ h2
      have HB : Hid (wr.heap[w.heap.size + 1]? = some (.cells #[.int .i64 l.length, .int .u64 (numHi (l.take k)), .int .u64 (numLo (l.take k))] 86 (0, 0))) := hblk
      clear hblk
      cases hb : l[k]
      · rw [hb] at hck
        go_wp2
        go_roundw
        case rel => exact ⟨k + 1, by omega, by go_num, hnx, num_none HB.out hlt hb⟩
        case measure => simp [intOf]; omega
      · rw [hb] at hck
        by_cases h64 : (k : Int) < 64
        · go_wp2
          go_region
          go_wp2
          go_roundw
          case rel => exact ⟨k + 1, by omega, by go_num, (hnx.setCell (by simp) _).drew, num_lo HB.out hlt hb (by omega)⟩
          case measure => simp [intOf]; omega
        · go_wp2
          go_region
          go_wp2
          go_roundw
          case rel => exact ⟨k + 1, by omega, by go_num, (hnx.setCell (by simp) _).drew, num_hi HB.out hlt hb (by omega) (by omega)⟩
          case measure => simp [intOf]; omega
    · have hkk : k = l.length := by omega
      subst hkk
      rw [List.take_length] at hblk d1 d2
      have hb0 : wr.heap[w.heap.size]? = some (.cells #[.int .i64 0, .int .u64 0, .int .u64 0] 86 (0, 0)) := (hnx.block _ (by omega)).trans (blk_new _ _ _)
      obtain ⟨r0, r1, r2, g0, g1, g2⟩ := blk3 hb0
      have hf : Hid (Below w.heap.size w wr) := ((Below.refl _ _).alloc (Nat.le_refl _) _).trans (hnx.mono (by omega))
      clear hb0 hnx hblk hk
      go_wp2
      refine bodyPost_ret (v := .agg #[.int .i64 l.length, .int .u64 (numHi l), .int .u64 (numLo l)]) (by simp [results, Tryz.results247, go_sem, r0, r1, r2]) rfl ⟨rfl, ?_⟩
      exact ((hf.out.setCell (Nat.le_refl _) _).setCell (Nat.le_refl _) _).setCell (Nat.le_refl _) _

theorem refNumber_nil (w : World) :
    Calls Tryz.prog 247 #[.slice none 0 0] w fun e w' =>
      e = .returned (.agg #[.int .i64 0, .int .u64 0, .int .u64 0]) ∧ Below w.heap.size w w' := by
  go_enter Tryz.func247, Tryz.ntmps247
  go_wp2
  refine wp_loop_rounds 1 ?_
  rw [rounds_succ]
  go_wp2
  refine bodyPost_ret (v := .agg #[.int .i64 0, .int .u64 0, .int .u64 0]) (by simp [results, Tryz.results247, go_sem]) rfl ⟨rfl, ?_⟩
  exact ((Below.refl _ _).alloc (Nat.le_refl _) _).alloc (by simp) _

theorem refNumber_any (v : Value) (l : List Bool) (w : World) (hl : l.length ≤ 128) (hv : BRow w v l) :
    Calls Tryz.prog 247 #[v] w fun e w' =>
      e = .returned (.agg #[.int .i64 l.length, .int .u64 (numHi l), .int .u64 (numLo l)]) ∧ Below w.heap.size w w' := by
  rcases hv with ⟨rfl, rfl⟩ | ⟨b, off, cap, rfl, hc⟩
  · exact refNumber_nil w
  · exact refNumber_row l hl b off cap w hc

theorem brow_of_own {w : World} {base k : Nat} {v : Value} {l : List Bool} (h : w.ownsRow base 4 1 v k (l.map Value.bool)) : BRow w v l := by
  have hk : l.length = k := by have := h.1; simpa using this
  rcases h.2 with ⟨rfl, h0⟩ | ⟨g, cap, cur, rfl, _⟩
  · exact .inl ⟨rfl, List.length_eq_zero_iff.1 (by omega)⟩
  · refine .inr ⟨g, 0, cap, by rw [hk], fun i hi => ?_⟩
    have := h.cellAt i (by omega)
    rw [Nat.zero_add, this]
    simp [hi]
theorem BRow.keep {w w1 : World} {v : Value} {l : List Bool} (h : BRow w v l) (hb : Below w.heap.size w w1) : BRow w1 v l := by
  rcases h with h | ⟨b, off, cap, hv, hc⟩
  · exact .inl h
  · exact .inr ⟨b, off, cap, hv, fun i hi => by rw [hb.cell (World.block_lt_of_cell? w _ (hc i hi))]; exact hc i hi⟩
end Go.Proofs.YteflnicgohjiiaaGreatDoor
/- The walk of the document's own Of. -/
namespace Go.Proofs.YteflnicgohjiiaaGreatDoor
open Go.RowKit

theorem refOf_no (n hi lo : Int) (w : World) (h : ¬ (1 ≤ n ∧ n ≤ 128)) :
    Calls Tryz.prog 228 #[.int .i64 n, .int .u64 hi, .int .u64 lo] w fun e w' =>
      e = .returned (.tuple #[.agg #[.int .i64 0, .int .u64 0, .int .u64 0], .int .i64 1]) ∧ Below w.heap.size w w' := by
  by_cases h1 : n < 1
  · clear h
    go_enter Tryz.func228, Tryz.ntmps228
    go_wp2
    refine bodyPost_ret (v := .tuple #[.agg #[.int .i64 0, .int .u64 0, .int .u64 0], .int .i64 1]) (by simp [results, Tryz.results228, go_sem]) rfl ⟨rfl, ?_⟩
    exact (Below.refl _ _).alloc (Nat.le_refl _) _
  · have h2 : 128 < n := by omega
    clear h
    have h1' : decide (n < 1) = false := by simpa using h1
    go_enter Tryz.func228, Tryz.ntmps228
    go_wp2
    refine bodyPost_ret (v := .tuple #[.agg #[.int .i64 0, .int .u64 0, .int .u64 0], .int .i64 1]) (by simp [results, Tryz.results228, go_sem]) rfl ⟨rfl, ?_⟩
    exact (Below.refl _ _).alloc (Nat.le_refl _) _

/- Number of Bits, with the numbers as cut gives them. -/
theorem refNumber_bits (v : Value) (n hi lo : Int) (w : World) (B : Nat) (h0 : 1 ≤ n) (h1 : n ≤ 128) (a0 : 0 ≤ hi) (b0 : 0 ≤ lo) (b1 : lo < 18446744073709551616)
    (hown : w.ownsRow B 4 1 v (min n 128).toNat ((bitsTo hi lo (min n 128).toNat).map Value.bool)) :
    Calls Tryz.prog 247 #[v] w fun e w' => e = .returned (.agg #[.int .i64 n, .int .u64 (cHi n hi), .int .u64 (cLo n lo)]) ∧ Below w.heap.size w w' := by
  have e0 : min n 128 = n := Int.min_eq_left h1
  rw [e0] at hown
  have h := refNumber_any v (bitsTo hi lo n.toNat) w (by rw [bitsTo_length]; omega) (brow_of_own hown)
  rw [bitsTo_length, numHi_bits hi lo n (by omega) h1 a0, numLo_bits hi lo n (by omega) b0 b1, Int.toNat_of_nonneg (by omega)] at h
  exact h

theorem refOf_yes (n hi lo : Int) (w : World) (h0 : 1 ≤ n) (h1 : n ≤ 128) (a0 : 0 ≤ hi) (a1 : hi < 18446744073709551616) (b0 : 0 ≤ lo) (b1 : lo < 18446744073709551616) :
    Calls Tryz.prog 228 #[.int .i64 n, .int .u64 hi, .int .u64 lo] w fun e w' =>
      e = .returned (.tuple #[.agg #[.int .i64 n, .int .u64 (cHi n hi), .int .u64 (cLo n lo)], .int .i64 0]) ∧ Below w.heap.size w w' := by
  have h0' : decide (n < 1) = false := by simp; omega
  have h1' : decide (128 < n) = false := by simp; omega
  go_enter Tryz.func228, Tryz.ntmps228
  go_wp2_with fail
  refine (refBits_any n hi lo _ a0 a1 b0 b1).mono ?_
  rintro e w1 ⟨v, rfl, hown, hb1⟩
  have HO := hown
  have HB := hb1
  have HOw : Hid (w1.ownsRow _ 4 1 v (min n 128).toNat ((bitsTo hi lo (min n 128).toNat).map Value.bool)) := HO
  clear hown HO
  go_wp2_with fail
  refine (refNumber_bits v n hi lo _ _ h0 h1 a0 b0 b1 HOw.out).mono ?_
  rintro e w2 ⟨rfl, hb2⟩
  obtain ⟨hc, hf⟩ := bcell (hb1.trans (hb2.mono hb1.size))
  have hz : w.heap.size < w2.heap.size := by have := hb2.size; have := hb1.size; simp at this; omega
  go_wp2
  refine bodyPost_ret (v := .tuple #[.agg #[.int .i64 n, .int .u64 (cHi n hi), .int .u64 (cLo n lo)], .int .i64 0]) (by simp [results, Tryz.results228, go_sem, hc]) rfl ⟨rfl, ?_⟩
  exact (((((Below.refl _ _).alloc (Nat.le_refl _) _).trans ((hb1.trans (hb2.mono hb1.size)).mono (by simp))).setCell (Nat.le_refl _) _).setCell (Nat.le_refl _) _).setCell (Nat.le_refl _) _
end Go.Proofs.YteflnicgohjiiaaGreatDoor
/- The walk of the document's own Check. -/
namespace Go.Proofs.YteflnicgohjiiaaGreatDoor
open Go.RowKit

theorem refCheck_no (n hi lo : Int) (w : World) (h : ¬ (1 ≤ n ∧ n ≤ 128)) :
    Calls Tryz.prog 144 #[.agg #[.int .i64 n, .int .u64 hi, .int .u64 lo]] w fun e w' => e = .returned (.bool false) ∧ Below w.heap.size w w' := by
  go_enter Tryz.func144, Tryz.ntmps144
  go_wp2_with fail
  refine (refOf_no n hi lo _ h).mono ?_
  rintro e w1 ⟨rfl, hb1⟩
  obtain ⟨hc, hf⟩ := bcell hb1
  have hz : w.heap.size < w1.heap.size := by have := hb1.size; simp at this; omega
  go_wp2
  go_ret
  exact ⟨rfl, ((((Below.refl _ _).alloc (Nat.le_refl _) _).trans (hb1.mono (by simp))).alloc (by omega) _)⟩

theorem refCheck_yes (n hi lo : Int) (w : World) (h0 : 1 ≤ n) (h1 : n ≤ 128) (a0 : 0 ≤ hi) (a1 : hi < 18446744073709551616) (b0 : 0 ≤ lo) (b1 : lo < 18446744073709551616) :
    Calls Tryz.prog 144 #[.agg #[.int .i64 n, .int .u64 hi, .int .u64 lo]] w fun e w' => e = .returned (.bool (cHi n hi == hi && cLo n lo == lo)) ∧ Below w.heap.size w w' := by
  cases e1 : (cHi n hi == hi) <;> cases e2 : (cLo n lo == lo)
  all_goals
    go_enter Tryz.func144, Tryz.ntmps144
    go_wp2_with fail
    refine (refOf_yes n hi lo _ h0 h1 a0 a1 b0 b1).mono ?_
    rintro e w1 ⟨rfl, hb1⟩
    obtain ⟨hc, hf⟩ := bcell hb1
    have hz : w.heap.size < w1.heap.size := by have := hb1.size; simp at this; omega
    go_wp2
    go_ret
    exact ⟨rfl, ((((Below.refl _ _).alloc (Nat.le_refl _) _).trans (hb1.mono (by simp))).alloc (by omega) _)⟩

theorem refCheck_any (n hi lo : Int) (w : World) (a0 : 0 ≤ hi) (a1 : hi < 18446744073709551616) (b0 : 0 ≤ lo) (b1 : lo < 18446744073709551616) :
    Calls Tryz.prog 144 #[.agg #[.int .i64 n, .int .u64 hi, .int .u64 lo]] w fun e w' =>
      e = .returned (.bool (okB n hi lo)) ∧ Below w.heap.size w w' := by
  by_cases h : 1 ≤ n ∧ n ≤ 128
  · have e : okB n hi lo = (cHi n hi == hi && cLo n lo == lo) := by unfold okB; rw [mayBe_yes h.1 h.2]; rfl
    rw [e]
    exact refCheck_yes n hi lo w h.1 h.2 a0 a1 b0 b1
  · have e : okB n hi lo = false := by unfold okB; rw [mayBe_no h]; rfl
    rw [e]
    exact refCheck_no n hi lo w h
end Go.Proofs.YteflnicgohjiiaaGreatDoor
