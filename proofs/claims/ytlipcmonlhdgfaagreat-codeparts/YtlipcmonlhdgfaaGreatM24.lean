/- Pieces of the proof: Refs, Numb, RefOf, Lists. -/
import Derived.Test.YtlipcmonlhdgfaaGreatM1
import Derived.RegionTactic
import Derived.Test.YtlipcmonlhdgfaaGreatM18
/- The walks of the document's own Bits and Number. -/
namespace Go.Proofs.YtlipcmonlhdgfaaGreat
open Go.RowKit

theorem Tryz.info4 : (Tryz.prog.info? 4).map (fun i => (i.zero, i.size, i.bytes)) = some (some (.bool false), 1, 1) := by kernel_rfl

theorem bool_one (b : Bool) : ∀ u ∈ [Value.bool b], u.oneCell' = true := by intro u hu; simp at hu; subst hu; rfl
theorem own_below {B : Nat} {e : TypeId} {w0 wr w1 : World} {u : Value} {k : Nat} {L : List Value} {o : Obj} (hown : wr.ownsRow B e 1 u k L) (hgrow : (wr.alloc o).grownBy w1 u.ownBlock) (hnx : Below B w0 wr) (hB : B ≤ wr.heap.size) : Below B w0 w1 :=
  (hnx.alloc hB o).grown hgrow (by simp; omega) (fun k e => (hown.lt k e).1)
theorem bits_own {B : Nat} {w1 : World} {v : Value} {hi lo : Int} {k : Nat} {X : Bool} (h : w1.ownsRow B 4 1 v (k + 1) ((bitsTo hi lo k).map Value.bool ++ [.bool X])) (hX : X = bitB hi lo k) : w1.ownsRow B 4 1 v (k + 1) ((bitsTo hi lo (k + 1)).map Value.bool) := by
  rw [bitsTo_succ, List.map_append, ← hX]; exact h

set_option maxRecDepth 100000 in
set_option maxHeartbeats 1000000 in
theorem refBits_any (n hi lo : Int) (w : World) (a0 : 0 ≤ hi) (a1 : hi < 18446744073709551616) (b0 : 0 ≤ lo) (b1 : lo < 18446744073709551616) :
    Calls Tryz.prog 152 #[.agg #[.int .i64 n, .int .u64 hi, .int .u64 lo]] w fun e w' =>
      ∃ v, e = .returned v ∧ w'.ownsRow (w.heap.size + 1) 4 1 v (min n 128).toNat ((bitsTo hi lo (min n 128).toNat).map Value.bool) ∧ Below w.heap.size w w' := by
  obtain ⟨i0, hi0, hz0, hz1, hz2⟩ := info_parts Tryz.info4
  go_enter Tryz.func152, Tryz.ntmps152
  go_wp2
  go_loopw [3, 4] (fun v i wr => ∃ k : Nat, (k ≤ (min n 128).toNat) ∧ i = .int .i64 k ∧ wr.ownsRow (w.heap.size + 1) 4 1 v k ((bitsTo hi lo k).map Value.bool) ∧ Below (w.heap.size + 1) (w.alloc (.cells #[.int .i64 n, .int .u64 hi, .int .u64 lo] 56)) wr)
    (fun _ i _ => 128 - (intOf i).toNat)
  case atStart => exact ⟨0, Nat.zero_le _, rfl, World.ownsRow_nil _ _ _ _, Below.refl _ _⟩
  case round =>
    obtain ⟨k, hk, rfl, hown, hnx⟩ := hrel
    have c0 : wr.cell? ⟨w.heap.size, 0, none⟩ = some (.int .i64 n) := by rw [hnx.cell (by simp)]; simp [go_sem]
    have c1 : wr.cell? ⟨w.heap.size, 1, none⟩ = some (.int .u64 hi) := by rw [hnx.cell (by simp)]; simp [go_sem]
    have c2 : wr.cell? ⟨w.heap.size, 2, none⟩ = some (.int .u64 lo) := by rw [hnx.cell (by simp)]; simp [go_sem]
    have hsz := hnx.size
    by_cases hlt : (k : Int) < n
    · by_cases h128 : (k : Int) < 128
      · by_cases h64 : (k : Int) < 64
        · go_wp2_with (at_builtin; refine wpList_append_own _ rfl _ _ 124 rfl (w.heap.size + 1) 4 i0 (.bool false) 1 1 Tryz.underlying124 hi0 hz0 hz1 hz2 rfl (by decide) _ _ _ rfl (hown.alloc _) ⟨wr.heap.size, 0, none⟩ 1 1 [.bool (bits .and .u64 (lo / 2 ^ k) 1 == 1)] rfl rfl (cell_one_new _ _ _) (bool_one _) (by unfold maxLen; omega) (by omega) (by simp at hsz ⊢; omega) ?_)
          intro v' w1 hown' hgrow _
          have hr1 : Hid (w1.ownsRow (w.heap.size + 1) 4 1 v' (k + 1) ((bitsTo hi lo (k + 1)).map Value.bool)) := bits_own hown' (bit_lo hi lo k h64 b0 b1)
          have hr2 : Hid (Below (w.heap.size + 1) (w.alloc (.cells #[.int .i64 n, .int .u64 hi, .int .u64 lo] 56)) w1) := own_below hown hgrow hnx (by simp at hsz; omega)
          clear hown hown' hgrow hnx c0 c1 c2
          go_wp2
          go_roundw
          case rel => exact ⟨k + 1, by omega, by go_num, hr1.out, hr2.out⟩
          case measure => simp [intOf]; omega
        · go_wp2_with (at_builtin; refine wpList_append_own _ rfl _ _ 124 rfl (w.heap.size + 1) 4 i0 (.bool false) 1 1 Tryz.underlying124 hi0 hz0 hz1 hz2 rfl (by decide) _ _ _ rfl (hown.alloc _) ⟨wr.heap.size, 0, none⟩ 1 1 [.bool (bits .and .u64 (hi / 2 ^ (k - 64)) 1 == 1)] rfl rfl (cell_one_new _ _ _) (bool_one _) (by unfold maxLen; omega) (by omega) (by simp at hsz ⊢; omega) ?_)
          intro v' w1 hown' hgrow _
          have hr1 : Hid (w1.ownsRow (w.heap.size + 1) 4 1 v' (k + 1) ((bitsTo hi lo (k + 1)).map Value.bool)) := bits_own hown' (bit_hi hi lo k (by omega) a0 a1)
          have hr2 : Hid (Below (w.heap.size + 1) (w.alloc (.cells #[.int .i64 n, .int .u64 hi, .int .u64 lo] 56)) w1) := own_below hown hgrow hnx (by simp at hsz; omega)
          clear hown hown' hgrow hnx c0 c1 c2
          go_wp2
          go_roundw
          case rel => exact ⟨k + 1, by omega, by go_num, hr1.out, hr2.out⟩
          case measure => simp [intOf]; omega
      · have hkk : Hid (k = (min n 128).toNat) := by unfold Hid; omega
        have hf : Hid (Below w.heap.size w wr) := ((Below.refl _ _).alloc (Nat.le_refl _) _).trans (hnx.mono (by omega))
        clear hnx hk
        go_wp2
        go_ret
        exact ⟨_, rfl, by rw [← hkk.out]; exact hown, hf.out⟩
    · have hkk : Hid (k = (min n 128).toNat) := by unfold Hid; omega
      have hf : Hid (Below w.heap.size w wr) := ((Below.refl _ _).alloc (Nat.le_refl _) _).trans (hnx.mono (by omega))
      clear hnx hk
      have hlt' : decide ((k : Int) < n) = false := by simpa using hlt
      go_wp2
      go_ret
      exact ⟨_, rfl, by rw [← hkk.out]; exact hown, hf.out⟩
end Go.Proofs.YtlipcmonlhdgfaaGreat
/- The walk of the document's own Number. -/
namespace Go.Proofs.YtlipcmonlhdgfaaGreat
open Go.RowKit

/- A slice of bools that can be read in w: nil, or its cells are these. -/
def BRow (w : World) (v : Value) (l : List Bool) : Prop :=
  (v = .slice none 0 0 ∧ l = []) ∨ ∃ b off cap, v = .slice (some ⟨b, off, none⟩) l.length cap ∧ ∀ i (h : i < l.length), w.cell? ⟨b, off + i, none⟩ = some (.bool l[i])

theorem blk_set {w : World} {b : Nat} {cs : Array Value} {t : TypeId} (h : w.heap[b]? = some (.cells cs t (0, 0))) (j : Nat) (u : Value) : (w.setCell ⟨b, j, none⟩ u).heap[b]? = some (.cells (cs.setIfInBounds j u) t (0, 0)) := by
  have hlt := lt_of_block h
  have h' : w.heap[b] = .cells cs t (0, 0) := by simpa [Array.getElem?_eq_getElem hlt] using h
  show (w.heap.modify b _)[b]? = _
  rw [Array.getElem?_eq_getElem (by simpa using hlt), Array.getElem_modify_self, h']
  rfl
theorem blk3 {w : World} {b : Nat} {x y z : Value} {t : TypeId} (h : w.heap[b]? = some (.cells #[x, y, z] t (0, 0))) :
    w.cell? ⟨b, 0, none⟩ = some x ∧ w.cell? ⟨b, 1, none⟩ = some y ∧ w.cell? ⟨b, 2, none⟩ = some z ∧ w.frozen? ⟨b, 0, none⟩ = false ∧ w.frozen? ⟨b, 1, none⟩ = false ∧ w.frozen? ⟨b, 2, none⟩ = false := by
  simp [World.cell?, World.frozen?, h]
theorem blk_new (w : World) (cs : Array Value) (t : TypeId) : (w.alloc (.cells cs t)).heap[w.heap.size]? = some (.cells cs t (0, 0)) := heap_alloc_new w _

theorem num_none {wr : World} {B k : Nat} {l : List Bool} (h : wr.heap[B]? = some (.cells #[.int .i64 l.length, .int .u64 (numHi (l.take k)), .int .u64 (numLo (l.take k))] 56 (0, 0))) (hlt : k < l.length) (hb : l[k] = false) :
    wr.heap[B]? = some (.cells #[.int .i64 l.length, .int .u64 (numHi (l.take (k + 1))), .int .u64 (numLo (l.take (k + 1)))] 56 (0, 0)) := by
  have e1 : numLo (l.take (k + 1)) = numLo (l.take k) := by
    by_cases h : k < 64
    · rw [numLo_take_set l k hlt h, hb]; simp
    · exact numLo_take_same l k (by omega)
  have e2 : numHi (l.take (k + 1)) = numHi (l.take k) := by
    by_cases h : k < 64
    · rw [numHi_take_low l k (by omega), numHi_take_low l (k + 1) (by omega)]
    · by_cases h2 : k < 128
      · rw [numHi_take_set l k hlt (by omega) h2, hb]; simp
      · exact numHi_take_same l k (by omega)
  rw [e1, e2]; exact h
theorem num_lo {wr : World} {B k : Nat} {l : List Bool} (h : wr.heap[B]? = some (.cells #[.int .i64 l.length, .int .u64 (numHi (l.take k)), .int .u64 (numLo (l.take k))] 56 (0, 0))) (hlt : k < l.length) (hb : l[k] = true) (h64 : k < 64) :
    (wr.setCell ⟨B, 2, none⟩ (.int .u64 (bits .or .u64 (numLo (l.take k)) (IntKind.u64.wrap (2 ^ k))))).drew.heap[B]? = some (.cells #[.int .i64 l.length, .int .u64 (numHi (l.take (k + 1))), .int .u64 (numLo (l.take (k + 1)))] 56 (0, 0)) := by
  have e2 : numHi (l.take (k + 1)) = numHi (l.take k) := by rw [numHi_take_low l k (by omega), numHi_take_low l (k + 1) (by omega)]
  rw [lo_set l k hlt hb h64, e2]
  exact blk_set h 2 _
theorem num_hi {wr : World} {B k : Nat} {l : List Bool} (h : wr.heap[B]? = some (.cells #[.int .i64 l.length, .int .u64 (numHi (l.take k)), .int .u64 (numLo (l.take k))] 56 (0, 0))) (hlt : k < l.length) (hb : l[k] = true) (h64 : 64 ≤ k) (h128 : k < 128) :
    (wr.setCell ⟨B, 1, none⟩ (.int .u64 (bits .or .u64 (numHi (l.take k)) (IntKind.u64.wrap (2 ^ (k - 64)))))).drew.heap[B]? = some (.cells #[.int .i64 l.length, .int .u64 (numHi (l.take (k + 1))), .int .u64 (numLo (l.take (k + 1)))] 56 (0, 0)) := by
  rw [hi_set l k hlt hb h64 h128, numLo_take_same l k h64]
  exact blk_set h 1 _

set_option maxRecDepth 100000 in
set_option maxHeartbeats 1000000 in
theorem refNumber_row (l : List Bool) (hl : l.length ≤ 128) (b off cap : Nat) (w : World) (hc : ∀ i (h : i < l.length), w.cell? ⟨b, off + i, none⟩ = some (.bool l[i])) :
    Calls Tryz.prog 151 #[.slice (some ⟨b, off, none⟩) l.length cap] w fun e w' =>
      e = .returned (.agg #[.int .i64 l.length, .int .u64 (numHi l), .int .u64 (numLo l)]) ∧ Below w.heap.size w w' := by
  go_enter Tryz.func151, Tryz.ntmps151
  go_wp2
  go_loopw [4] (fun i wr => ∃ k : Nat, k ≤ l.length ∧ i = .int .i64 k ∧ Below (w.heap.size + 1) (w.alloc (.cells #[.int .i64 0, .int .u64 0, .int .u64 0] 56)) wr ∧
      wr.heap[w.heap.size + 1]? = some (.cells #[.int .i64 l.length, .int .u64 (numHi (l.take k)), .int .u64 (numLo (l.take k))] 56 (0, 0)))
    (fun i _ => l.length - (intOf i).toNat)
  case atStart => exact ⟨0, Nat.zero_le _, rfl, (Below.refl _ _).alloc (by simp) _, by have := blk_new (w.alloc (.cells #[.int .i64 0, .int .u64 0, .int .u64 0] 56)) #[.int .i64 l.length, .int .u64 0, .int .u64 0] 56; simpa [numHi_nil, numLo_nil] using this⟩
  case round =>
    obtain ⟨k, hk, rfl, hnx, hblk⟩ := hrel
    obtain ⟨d0, d1, d2, f0, f1, f2⟩ := blk3 hblk
    by_cases hlt : k < l.length
    · have hck : wr.cell? ⟨b, off + k, none⟩ = some (.bool l[k]) := by
        have h1 := hc k hlt
        have h2 := World.block_lt_of_cell? w _ h1
        rw [hnx.cell (by exact Nat.lt_succ_of_lt h2)]
        rw [← h1]
        exact World.cell?_alloc_past _ _ _ h2
      have HB : Hid (wr.heap[w.heap.size + 1]? = some (.cells #[.int .i64 l.length, .int .u64 (numHi (l.take k)), .int .u64 (numLo (l.take k))] 56 (0, 0))) := hblk
      clear hblk
      cases hb : l[k]
      · rw [hb] at hck
        go_wp2
        go_roundw
        case rel => exact ⟨k + 1, by omega, by go_num, hnx, num_none HB.out hlt hb⟩
        case measure => simp [intOf]; omega
      · rw [hb] at hck
        by_cases h64 : (k : Int) < 64
        · go_wp2
          go_region
          go_wp2
          go_roundw
          case rel => exact ⟨k + 1, by omega, by go_num, (hnx.setCell (by simp) _).drew, num_lo HB.out hlt hb (by omega)⟩
          case measure => simp [intOf]; omega
        · go_wp2
          go_region
          go_wp2
          go_roundw
          case rel => exact ⟨k + 1, by omega, by go_num, (hnx.setCell (by simp) _).drew, num_hi HB.out hlt hb (by omega) (by omega)⟩
          case measure => simp [intOf]; omega
    · have hkk : k = l.length := by omega
      subst hkk
      rw [List.take_length] at hblk d1 d2
      have hb0 : wr.heap[w.heap.size]? = some (.cells #[.int .i64 0, .int .u64 0, .int .u64 0] 56 (0, 0)) := (hnx.block _ (by omega)).trans (blk_new _ _ _)
      obtain ⟨r0, r1, r2, g0, g1, g2⟩ := blk3 hb0
      have hf : Hid (Below w.heap.size w wr) := ((Below.refl _ _).alloc (Nat.le_refl _) _).trans (hnx.mono (by omega))
      clear hb0 hnx hblk hk
      go_wp2
      refine bodyPost_ret (v := .agg #[.int .i64 l.length, .int .u64 (numHi l), .int .u64 (numLo l)]) (by simp [results, Tryz.results151, go_sem, r0, r1, r2]) rfl ⟨rfl, ?_⟩
      exact ((hf.out.setCell (Nat.le_refl _) _).setCell (Nat.le_refl _) _).setCell (Nat.le_refl _) _

theorem refNumber_nil (w : World) :
    Calls Tryz.prog 151 #[.slice none 0 0] w fun e w' =>
      e = .returned (.agg #[.int .i64 0, .int .u64 0, .int .u64 0]) ∧ Below w.heap.size w w' := by
  go_enter Tryz.func151, Tryz.ntmps151
  go_wp2
  refine wp_loop_rounds 1 ?_
  rw [rounds_succ]
  go_wp2
  refine bodyPost_ret (v := .agg #[.int .i64 0, .int .u64 0, .int .u64 0]) (by simp [results, Tryz.results151, go_sem]) rfl ⟨rfl, ?_⟩
  exact ((Below.refl _ _).alloc (Nat.le_refl _) _).alloc (by simp) _

theorem refNumber_any (v : Value) (l : List Bool) (w : World) (hl : l.length ≤ 128) (hv : BRow w v l) :
    Calls Tryz.prog 151 #[v] w fun e w' =>
      e = .returned (.agg #[.int .i64 l.length, .int .u64 (numHi l), .int .u64 (numLo l)]) ∧ Below w.heap.size w w' := by
  rcases hv with ⟨rfl, rfl⟩ | ⟨b, off, cap, rfl, hc⟩
  · exact refNumber_nil w
  · exact refNumber_row l hl b off cap w hc

theorem brow_of_own {w : World} {base k : Nat} {v : Value} {l : List Bool} (h : w.ownsRow base 4 1 v k (l.map Value.bool)) : BRow w v l := by
  have hk : l.length = k := by have := h.1; simpa using this
  rcases h.2 with ⟨rfl, h0⟩ | ⟨g, cap, cur, rfl, _⟩
  · exact .inl ⟨rfl, List.length_eq_zero_iff.1 (by omega)⟩
  · refine .inr ⟨g, 0, cap, by rw [hk], fun i hi => ?_⟩
    have := h.cellAt i (by omega)
    rw [Nat.zero_add, this]
    simp [hi]
theorem BRow.keep {w w1 : World} {v : Value} {l : List Bool} (h : BRow w v l) (hb : Below w.heap.size w w1) : BRow w1 v l := by
  rcases h with h | ⟨b, off, cap, hv, hc⟩
  · exact .inl h
  · exact .inr ⟨b, off, cap, hv, fun i hi => by rw [hb.cell (World.block_lt_of_cell? w _ (hc i hi))]; exact hc i hi⟩
end Go.Proofs.YtlipcmonlhdgfaaGreat
/- The walks of the document's own Of and Check. -/
namespace Go.Proofs.YtlipcmonlhdgfaaGreat
open Go.RowKit

theorem refOf_no (n hi lo : Int) (w : World) (h : ¬ (1 ≤ n ∧ n ≤ 128)) :
    Calls Tryz.prog 127 #[.int .i64 n, .int .u64 hi, .int .u64 lo] w fun e w' =>
      e = .returned (.tuple #[.agg #[.int .i64 0, .int .u64 0, .int .u64 0], .int .i64 1]) ∧ Below w.heap.size w w' := by
  by_cases h1 : n < 1
  · clear h
    go_enter Tryz.func127, Tryz.ntmps127
    go_wp2
    refine bodyPost_ret (v := .tuple #[.agg #[.int .i64 0, .int .u64 0, .int .u64 0], .int .i64 1]) (by simp [results, Tryz.results127, go_sem]) rfl ⟨rfl, ?_⟩
    exact (Below.refl _ _).alloc (Nat.le_refl _) _
  · have h2 : 128 < n := by omega
    clear h
    have h1' : decide (n < 1) = false := by simpa using h1
    go_enter Tryz.func127, Tryz.ntmps127
    go_wp2
    refine bodyPost_ret (v := .tuple #[.agg #[.int .i64 0, .int .u64 0, .int .u64 0], .int .i64 1]) (by simp [results, Tryz.results127, go_sem]) rfl ⟨rfl, ?_⟩
    exact (Below.refl _ _).alloc (Nat.le_refl _) _

/- Number of Bits, with the numbers as cut gives them. -/
theorem refNumber_bits (v : Value) (n hi lo : Int) (w : World) (B : Nat) (h0 : 1 ≤ n) (h1 : n ≤ 128) (a0 : 0 ≤ hi) (b0 : 0 ≤ lo) (b1 : lo < 18446744073709551616)
    (hown : w.ownsRow B 4 1 v (min n 128).toNat ((bitsTo hi lo (min n 128).toNat).map Value.bool)) :
    Calls Tryz.prog 151 #[v] w fun e w' => e = .returned (.agg #[.int .i64 n, .int .u64 (cHi n hi), .int .u64 (cLo n lo)]) ∧ Below w.heap.size w w' := by
  have e0 : min n 128 = n := Int.min_eq_left h1
  rw [e0] at hown
  have h := refNumber_any v (bitsTo hi lo n.toNat) w (by rw [bitsTo_length]; omega) (brow_of_own hown)
  rw [bitsTo_length, numHi_bits hi lo n (by omega) h1 a0, numLo_bits hi lo n (by omega) b0 b1, Int.toNat_of_nonneg (by omega)] at h
  exact h

theorem refOf_yes (n hi lo : Int) (w : World) (h0 : 1 ≤ n) (h1 : n ≤ 128) (a0 : 0 ≤ hi) (a1 : hi < 18446744073709551616) (b0 : 0 ≤ lo) (b1 : lo < 18446744073709551616) :
    Calls Tryz.prog 127 #[.int .i64 n, .int .u64 hi, .int .u64 lo] w fun e w' =>
      e = .returned (.tuple #[.agg #[.int .i64 n, .int .u64 (cHi n hi), .int .u64 (cLo n lo)], .int .i64 0]) ∧ Below w.heap.size w w' := by
  have h0' : decide (n < 1) = false := by simp; omega
  have h1' : decide (128 < n) = false := by simp; omega
  go_enter Tryz.func127, Tryz.ntmps127
  go_wp2_with fail
  refine (refBits_any n hi lo _ a0 a1 b0 b1).mono ?_
  rintro e w1 ⟨v, rfl, hown, hb1⟩
  have HO := hown
  have HB := hb1
  have HOw : Hid (w1.ownsRow _ 4 1 v (min n 128).toNat ((bitsTo hi lo (min n 128).toNat).map Value.bool)) := HO
  clear hown HO
  go_wp2_with fail
  refine (refNumber_bits v n hi lo _ _ h0 h1 a0 b0 b1 HOw.out).mono ?_
  rintro e w2 ⟨rfl, hb2⟩
  obtain ⟨hc, hf⟩ := bcell (hb1.trans (hb2.mono hb1.size))
  have hz : w.heap.size < w2.heap.size := by have := hb2.size; have := hb1.size; simp at this; omega
  go_wp2
  refine bodyPost_ret (v := .tuple #[.agg #[.int .i64 n, .int .u64 (cHi n hi), .int .u64 (cLo n lo)], .int .i64 0]) (by simp [results, Tryz.results127, go_sem, hc]) rfl ⟨rfl, ?_⟩
  exact (((((Below.refl _ _).alloc (Nat.le_refl _) _).trans ((hb1.trans (hb2.mono hb1.size)).mono (by simp))).setCell (Nat.le_refl _) _).setCell (Nat.le_refl _) _).setCell (Nat.le_refl _) _

theorem refCheck_no (n hi lo : Int) (w : World) (h : ¬ (1 ≤ n ∧ n ≤ 128)) :
    Calls Tryz.prog 94 #[.agg #[.int .i64 n, .int .u64 hi, .int .u64 lo]] w fun e w' => e = .returned (.bool false) ∧ Below w.heap.size w w' := by
  go_enter Tryz.func94, Tryz.ntmps94
  go_wp2_with fail
  refine (refOf_no n hi lo _ h).mono ?_
  rintro e w1 ⟨rfl, hb1⟩
  obtain ⟨hc, hf⟩ := bcell hb1
  have hz : w.heap.size < w1.heap.size := by have := hb1.size; simp at this; omega
  go_wp2
  go_ret
  exact ⟨rfl, ((((Below.refl _ _).alloc (Nat.le_refl _) _).trans (hb1.mono (by simp))).alloc (by omega) _)⟩

theorem refCheck_yes (n hi lo : Int) (w : World) (h0 : 1 ≤ n) (h1 : n ≤ 128) (a0 : 0 ≤ hi) (a1 : hi < 18446744073709551616) (b0 : 0 ≤ lo) (b1 : lo < 18446744073709551616) :
    Calls Tryz.prog 94 #[.agg #[.int .i64 n, .int .u64 hi, .int .u64 lo]] w fun e w' => e = .returned (.bool (cHi n hi == hi && cLo n lo == lo)) ∧ Below w.heap.size w w' := by
  cases e1 : (cHi n hi == hi) <;> cases e2 : (cLo n lo == lo)
  all_goals
    go_enter Tryz.func94, Tryz.ntmps94
    go_wp2_with fail
    refine (refOf_yes n hi lo _ h0 h1 a0 a1 b0 b1).mono ?_
    rintro e w1 ⟨rfl, hb1⟩
    obtain ⟨hc, hf⟩ := bcell hb1
    have hz : w.heap.size < w1.heap.size := by have := hb1.size; simp at this; omega
    go_wp2
    go_ret
    exact ⟨rfl, ((((Below.refl _ _).alloc (Nat.le_refl _) _).trans (hb1.mono (by simp))).alloc (by omega) _)⟩

theorem refCheck_any (n hi lo : Int) (w : World) (a0 : 0 ≤ hi) (a1 : hi < 18446744073709551616) (b0 : 0 ≤ lo) (b1 : lo < 18446744073709551616) :
    Calls Tryz.prog 94 #[.agg #[.int .i64 n, .int .u64 hi, .int .u64 lo]] w fun e w' =>
      e = .returned (.bool (okB n hi lo)) ∧ Below w.heap.size w w' := by
  by_cases h : 1 ≤ n ∧ n ≤ 128
  · have e : okB n hi lo = (cHi n hi == hi && cLo n lo == lo) := by unfold okB; rw [mayBe_yes h.1 h.2]; rfl
    rw [e]
    exact refCheck_yes n hi lo w h.1 h.2 a0 a1 b0 b1
  · have e : okB n hi lo = false := by unfold okB; rw [mayBe_no h]; rfl
    rw [e]
    exact refCheck_no n hi lo w h
end Go.Proofs.YtlipcmonlhdgfaaGreat
/- What the document's own operations on lists of bits come to: plain facts. -/
namespace Go.Proofs.YtlipcmonlhdgfaaGreat

def bitAt (l : List Bool) (i : Nat) : Bool := l.getD i false
def cnt (a b m : Bool) : Nat := a.toNat + b.toNat + m.toNat
def addTo (a b : List Bool) (c : Bool) : Nat → List Bool × Bool
  | 0 => ([], c)
  | k + 1 => ((addTo a b c k).1 ++ [cnt (bitAt a k) (bitAt b k) (addTo a b c k).2 % 2 == 1], decide (1 < cnt (bitAt a k) (bitAt b k) (addTo a b c k).2))
def addL (a b : List Bool) (c : Bool) : List Bool := (addTo a b c a.length).1
def notL (l : List Bool) : List Bool := l.map (fun b => !b)
def upB (a : List Bool) (n : Int) (i : Nat) : Bool := decide (0 ≤ (i : Int) - n) && decide ((i : Int) - n < a.length) && bitAt a ((i : Int) - n).toNat
def upTo (a : List Bool) (n : Int) (k : Nat) : List Bool := (List.range k).map (upB a n)
def upL (a : List Bool) (n : Int) : List Bool := upTo a n a.length
def mulTo (a b : List Bool) : Nat → List Bool
  | 0 => List.replicate a.length false
  | k + 1 => if bitAt b k then addL (mulTo a b k) (upL a k) false else mulTo a b k
def eachTo (f : Bool → Bool → Bool) (a b : List Bool) (k : Nat) : List Bool := (List.range k).map (fun i => f (bitAt a i) (bitAt b i))

theorem addTo_length (a b : List Bool) (c : Bool) (k : Nat) : (addTo a b c k).1.length = k := by
  induction k with
  | zero => rfl
  | succ k ih => simp [addTo, ih]
theorem addL_length (a b : List Bool) (c : Bool) : (addL a b c).length = a.length := addTo_length _ _ _ _
theorem upTo_length (a : List Bool) (n : Int) (k : Nat) : (upTo a n k).length = k := by simp [upTo]
theorem upL_length (a : List Bool) (n : Int) : (upL a n).length = a.length := upTo_length _ _ _
theorem mulTo_length (a b : List Bool) (k : Nat) : (mulTo a b k).length = a.length := by
  induction k with
  | zero => simp [mulTo]
  | succ k ih => unfold mulTo; split
                 · rw [addL_length, ih]
                 · exact ih
theorem eachTo_length (f : Bool → Bool → Bool) (a b : List Bool) (k : Nat) : (eachTo f a b k).length = k := by simp [eachTo]
theorem bitAt_get {l : List Bool} {i : Nat} (h : i < l.length) : bitAt l i = l[i] := by simp [bitAt, List.getD_eq_getElem?_getD, h]

theorem cnt_split (a b m : Bool) : cnt a b m = (cnt a b m % 2 == 1).toNat + 2 * (decide (1 < cnt a b m)).toNat := by
  cases a <;> cases b <;> cases m <;> rfl
theorem valL_take_bit (l : List Bool) (k : Nat) : valL (l.take (k + 1)) = valL (l.take k) + 2 ^ k * (bitAt l k).toNat := by
  by_cases h : k < l.length
  · rw [valL_take_succ l k h, bitAt_get h]
  · rw [List.take_of_length_le (by omega), List.take_of_length_le (by omega)]
    have : bitAt l k = false := by simp [bitAt, List.getD_eq_getElem?_getD, List.getElem?_eq_none (by omega : l.length ≤ k)]
    rw [this]; simp
theorem addTo_val (a b : List Bool) (c : Bool) (k : Nat) : valL (addTo a b c k).1 + 2 ^ k * (addTo a b c k).2.toNat = valL (a.take k) + valL (b.take k) + c.toNat := by
  induction k with
  | zero => simp [addTo, valL]
  | succ k ih =>
    rw [valL_take_bit, valL_take_bit]
    simp only [addTo, valL_snoc, addTo_length]
    have h := cnt_split (bitAt a k) (bitAt b k) (addTo a b c k).2
    generalize (cnt (bitAt a k) (bitAt b k) (addTo a b c k).2 % 2 == 1) = p at *
    generalize decide (1 < cnt (bitAt a k) (bitAt b k) (addTo a b c k).2) = q at *
    unfold cnt at h
    have e : 2 ^ k * p.toNat + 2 ^ (k + 1) * q.toNat = 2 ^ k * (p.toNat + 2 * q.toNat) := by rw [Nat.pow_succ, Nat.mul_add, Nat.mul_assoc]
    rw [← h, Nat.mul_add, Nat.mul_add] at e
    omega
theorem addL_val (a b : List Bool) (c : Bool) (h : b.length = a.length) : valL (addL a b c) = (valL a + valL b + c.toNat) % 2 ^ a.length := by
  have e := addTo_val a b c a.length
  rw [List.take_length, ← h, List.take_length, h] at e
  have hl := valL_lt (addTo a b c a.length).1
  rw [addTo_length] at hl
  unfold addL
  rw [← e, Nat.add_mul_mod_self_left, Nat.mod_eq_of_lt hl]
theorem notL_val (l : List Bool) : valL (notL l) = 2 ^ l.length - 1 - valL l := by
  induction l with
  | nil => rfl
  | cons b r ih =>
    have := valL_lt r
    have h2 : notL (b :: r) = (!b) :: notL r := rfl
    rw [h2]
    simp only [valL, ih, List.length_cons, Nat.pow_succ]
    cases b <;> simp <;> omega
theorem valL_bit (l : List Bool) (i : Nat) : (valL l).testBit i = bitAt l i := valL_testBit l i
theorem bitAt_range (f : Nat → Bool) (k i : Nat) : bitAt ((List.range k).map f) i = (decide (i < k) && f i) := by
  by_cases h : i < k
  · simp [bitAt, List.getD_eq_getElem?_getD, h]
  · simp [bitAt, List.getD_eq_getElem?_getD, h]
theorem bitAt_lt {l : List Bool} {i : Nat} (h : bitAt l i = true) : i < l.length := by
  rcases Nat.lt_or_ge i l.length with h' | h'
  · exact h'
  · simp [bitAt, List.getD_eq_getElem?_getD, List.getElem?_eq_none h'] at h
theorem upL_val_up (a : List Bool) (n : Nat) : valL (upL a n) = (valL a * 2 ^ n) % 2 ^ a.length := by
  refine Nat.eq_of_testBit_eq fun j => ?_
  rw [valL_bit, upL, upTo, bitAt_range, Bool.eq_iff_iff]
  simp only [Nat.testBit_mod_two_pow, Nat.testBit_mul_two_pow, Bool.and_eq_true, decide_eq_true_eq, upB, valL_bit]
  constructor
  · rintro ⟨h1, ⟨h2, h3⟩, h4⟩
    exact ⟨h1, by omega, by rw [show j - n = ((j : Int) - n).toNat by omega]; exact h4⟩
  · rintro ⟨h1, h2, h3⟩
    have := bitAt_lt h3
    exact ⟨h1, ⟨by omega, by omega⟩, by rw [show ((j : Int) - n).toNat = j - n by omega]; exact h3⟩
theorem upL_val_down (a : List Bool) (n : Nat) : valL (upL a (0 - (n : Int))) = valL a / 2 ^ n := by
  refine Nat.eq_of_testBit_eq fun j => ?_
  rw [valL_bit, upL, upTo, bitAt_range, Bool.eq_iff_iff]
  simp only [Nat.testBit_div_two_pow, Bool.and_eq_true, decide_eq_true_eq, upB, valL_bit]
  constructor
  · rintro ⟨h1, ⟨h2, h3⟩, h4⟩
    rw [show ((j : Int) - (0 - (n : Int))).toNat = j + n by omega] at h4; exact h4
  · intro h
    have := bitAt_lt h
    exact ⟨by omega, ⟨by omega, by omega⟩, by rw [show ((j : Int) - (0 - (n : Int))).toNat = j + n by omega]; exact h⟩
theorem mulTo_val (a b : List Bool) (k : Nat) : valL (mulTo a b k) = (valL a * valL (b.take k)) % 2 ^ a.length := by
  induction k with
  | zero =>
    have : valL (List.replicate a.length false) = 0 := by
      induction a.length with
      | zero => rfl
      | succ n ih => simp [List.replicate_succ, valL, ih]
    simp [mulTo, this, valL]
  | succ k ih =>
    rw [valL_take_bit]
    unfold mulTo
    cases h : bitAt b k
    · simp [ih]
    · rw [if_pos rfl, addL_val _ _ _ (by rw [upL_length, mulTo_length]), mulTo_length, ih, upL_val_up]
      simp [Nat.mul_add, Nat.add_mod]
theorem mulTo_all (a b : List Bool) : valL (mulTo a b b.length) = (valL a * valL b) % 2 ^ a.length := by
  rw [mulTo_val, List.take_length]
theorem eachTo_val (f : Bool → Bool → Bool) (g : Nat → Nat → Nat) (hg : ∀ x y j, (g x y).testBit j = f (x.testBit j) (y.testBit j)) (h0 : f false false = false) (a b : List Bool) (h : b.length = a.length) : valL (eachTo f a b a.length) = g (valL a) (valL b) := by
  refine Nat.eq_of_testBit_eq fun j => ?_
  rw [valL_bit, eachTo, bitAt_range, hg, valL_bit, valL_bit]
  by_cases hj : j < a.length
  · simp [hj]
  · have e1 : bitAt a j = false := by cases h' : bitAt a j; rfl; exact absurd (bitAt_lt h') hj
    have e2 : bitAt b j = false := by cases h' : bitAt b j; rfl; exact absurd (bitAt_lt h') (by omega)
    simp [hj, e1, e2, h0]
theorem upTo_succ (a : List Bool) (n : Int) (k : Nat) : upTo a n (k + 1) = upTo a n k ++ [upB a n k] := by simp [upTo, List.range_succ]
theorem eachTo_succ (f : Bool → Bool → Bool) (a b : List Bool) (k : Nat) : eachTo f a b (k + 1) = eachTo f a b k ++ [f (bitAt a k) (bitAt b k)] := by simp [eachTo, List.range_succ]
theorem valL_drop (l : List Bool) (k : Nat) : valL l = valL (l.take k) + 2 ^ k * valL (l.drop k) := by
  induction l generalizing k with
  | nil => simp [valL]
  | cons b r ih =>
    cases k with
    | zero => simp [valL]
    | succ k => simp only [List.take_succ_cons, List.drop_succ_cons, valL]; rw [ih k, Nat.pow_succ]; rw [Nat.mul_add, Nat.mul_comm (2 ^ k) 2, Nat.mul_assoc]; omega
theorem valL_drop_step (l : List Bool) (k : Nat) (h : k < l.length) : valL (l.drop k) = (l[k]).toNat + 2 * valL (l.drop (k + 1)) := by
  rw [List.drop_eq_getElem_cons h]; rfl
theorem valL_append (a b : List Bool) : valL (a ++ b) = valL a + 2 ^ a.length * valL b := by
  have := valL_drop (a ++ b) a.length
  simpa using this
theorem below_tell (a b : List Bool) (hl : b.length = a.length) (k : Nat) (hk : k < a.length) (he : a.drop (k + 1) = b.drop (k + 1)) (hne : a[k] ≠ b[k]'(by omega)) : decide (valL a < valL b) = b[k]'(by omega) := by
  have e1 := valL_drop a k; have e2 := valL_drop b k
  rw [valL_drop_step a k hk] at e1
  rw [valL_drop_step b k (by omega), ← he] at e2
  have l1 := valL_lt (a.take k); have l2 := valL_lt (b.take k)
  rw [List.length_take, Nat.min_eq_left (by omega)] at l1 l2
  generalize valL (a.drop (k + 1)) = z at *
  generalize a[k] = x at *
  generalize b[k]'(by omega) = y at *
  rw [Nat.mul_add] at e1 e2
  cases x <;> cases y <;> simp at hne <;> simp at e1 e2 ⊢ <;> omega
end Go.Proofs.YtlipcmonlhdgfaaGreat
