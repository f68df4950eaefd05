/- Pieces of the proof: CeI. -/
import Derived.Test.YtbemfjdloeipmaaGreatDoorM10
import Derived.Test.YtbemfjdloeipmaaGreatDoorM18
import Derived.RegionTactic
import Derived.Deep.RegionLaw
/- slices.Repeat of one number. -/
namespace Go.Proofs.YtbemfjdloeipmaaGreatDoor
open Go.RowKit

theorem mulOne (n : Nat) (h : n ≤ 4096) (w : World) : Calls Tryz.prog 211 #[.int .u64 1, .int .u64 n] w fun e w' => e = .returned (.tuple #[.int .u64 0, .int .u64 n]) ∧ w' = w := by
  have H := mul64_any 1 n (by decide) (by omega)
  have e1 : 1 * n / 18446744073709551616 = 0 := by omega
  have e2 : 1 * n % 18446744073709551616 = n := by omega
  rw [e1, e2] at H
  have HM : Hid (∀ W, _) := H
  clear H e1 e2
  go_enter Tryz.func211, Tryz.ntmps211
  go_wp2_with (go_at_call 218; refine (HM.out _).mono ?_; rintro e w1 ⟨rfl, rfl⟩)
  refine bodyPost_ret (v := .tuple #[.int .u64 0, .int .u64 n]) (by simp [results, Tryz.results211, go_sem]) rfl ⟨rfl, rfl⟩
def reps (b : Nb) (k : Nat) : List Value := flat Nb.cells (List.replicate k b)
theorem reps_len (b : Nb) (k : Nat) : (reps b k).length = k * 3 := by rw [reps, flat_length nb_len, List.length_replicate]
theorem reps_one (b : Nb) (k : Nat) : ∀ u ∈ reps b k, u.oneCell' = true := flat_one nb_one _
theorem reps_add (b : Nb) (k m : Nat) : reps b k ++ reps b m = reps b (k + m) := by rw [reps, reps, ← flat_append, List.replicate_append_replicate]; rfl
theorem reps_pre (b : Nb) (k m j : Nat) (u : Value) (h : m ≤ k) (hu : (reps b m)[j]? = some u) : (reps b k)[j]? = some u := by
  have : reps b k = reps b m ++ reps b (k - m) := by rw [reps_add]; congr 1; omega
  rw [this, List.getElem?_append_left (List.getElem?_eq_some_iff.1 hu).1]
  exact hu
/- A row whose first k elements are the number. -/
structure Rp (W : World) (g n k : Nat) (b : Nb) (cur : List Value) : Prop where
  row : W.heap[g]? = some (.cells cur.toArray 29 (0, 0))
  len : cur.length = n * 3
  pre : cur.take (k * 3) = reps b k
theorem Rp.next {W W' : World} {g n k m : Nat} {b : Nb} {cur : List Value} (h : Rp W g n k b cur) (hm : k + m ≤ n) (hr : W'.heap[g]? = some (.cells (splice cur (k * 3) (reps b m)).toArray 29 (0, 0))) : Rp W' g n (k + m) b (splice cur (k * 3) (reps b m)) := by
  have hl := h.len
  refine ⟨hr, ?_, ?_⟩
  · rw [length_splice _ _ _ (by rw [reps_len]; omega)]; exact hl
  · unfold splice
    rw [h.pre, ← List.append_assoc, reps_add]
    have : (reps b (k + m)).length = (k + m) * 3 := reps_len _ _
    rw [← this, List.take_left]
theorem Rp.src {W : World} {g n k m : Nat} {b : Nb} {cur : List Value} (h : Rp W g n k b cur) (hm : m ≤ k) : ∀ j v, (reps b m)[j]? = some v → W.cell? ((⟨g, 0, none⟩ : Addr).add j) = some v := fun j v hv => by
  rw [add8, Nat.zero_add, blk_cell h.row]
  have h1 := reps_pre b k m j v hm hv
  rw [← h.pre] at h1
  rw [List.getElem?_take] at h1
  split at h1
  · exact h1
  · cases h1
set_option maxRecDepth 100000 in
set_option maxHeartbeats 8000000 in
theorem repeat_any (b : Nb) (p n : Nat) (w : World) (hp : w.heap[p]? = some (.cells b.cells.toArray 29 (0, 0))) (h1 : 1 ≤ n) (h2 : n ≤ 4096) :
    Calls Tryz.prog 201 #[.slice (some ⟨p, 0, none⟩) 1 1, .int .i64 n] w fun e w' => ∃ g, e = .returned (.slice (some ⟨g, 0, none⟩) n n) ∧ w.heap.size ≤ g ∧ w'.heap[g]? = some (.cells (reps b n).toArray 29 (0, 0)) ∧ Below w.heap.size w w' := by
  obtain ⟨i0, hi0, hz0, hz1, hz2⟩ := info_parts Tryz.infoNb
  have HM : Hid (∀ W, _) := fun W => mulOne n h2 W
  have HP := hide hp
  have n0 : ((n : Int) < 0) = False := by simp
  have w1 : IntKind.u64.wrap (n : Int) = n := by rw [IntKind.wrap_u64]; omega
  have w2 : IntKind.i64.wrap (n : Int) = n := by rw [IntKind.wrap_i64]; omega
  have n1 : ((n : Int) > 9223372036854775807) = False := by simp; omega
  have n1' : (9223372036854775807 < (n : Int)) = False := by simp; omega
  have H1 := hide h1
  have H2 := hide h2
  have HS : Hid (∀ j v, (reps b 1)[j]? = some v → w.cell? ((⟨p, 0, none⟩ : Addr).add j) = some v) := fun j v hv => by
    rw [add8, Nat.zero_add, blk_cell hp]
    have : reps b 1 = b.cells := by simp [reps, flat]
    rw [← this]; exact hv
  clear hp h1 h2
  go_enter Tryz.func201, Tryz.ntmps201
  go_wp2_with (first
    | (go_at_call 211; refine (HM.out _).mono ?_; rintro e w' ⟨rfl, hw⟩; subst w')
    | (at_make; refine wpList_make_full _ rfl _ _ 23 rfl w.heap.size 29 i0 _ 3 Tryz.underlying23 hi0 hz0 hz1 .i64 .i64 _ _ n rfl rfl rfl rfl (by rw [hz2]; have := H2.out; omega) (by unfold maxLen; have := H2.out; omega) (Nat.le_refl _) ?_; intro W0 hm0 hg0; have R0 := hide (made_row hm0); have N0 := hide (len_made hm0); have B0 := hide (below_made hg0); clear hm0 hg0)
    | (refine wpList_copyC rfl _ _ 23 23 rfl 29 3 Tryz.underlying23 sizeNb w.heap.size 0 n n ⟨p, 0, none⟩ 1 1 1 rfl rfl _ 29 R0.out (reps b 1) (Nat.min_eq_left H1.out) (reps_len b 1) (fun j v hv => by rw [add8]; have := HS.out j v hv; rw [add8] at this; exact (B0.out.cell (p := ⟨p, 0 + j, none⟩) (lt_heap HP.out)).trans this) (by rw [N0.out, reps_len]; have := H1.out; omega) (reps_one b 1) w.heap.size w B0.out (Nat.le_refl _) ?_; intro W1 HG1 hB1; have B1 := hide hB1; clear hB1))
  have HR0 := hide (Rp.next (m := 1) (k := 0) (b := b) (n := n) ⟨R0.out, N0.out, by simp [reps, flat]⟩ (by have := H1.out; omega) (W' := W1) HG1.out)
  clear HG1 R0 N0 HS HP
  go_loopw [8] (fun i wr => ∃ k cur, 1 ≤ k ∧ k ≤ n ∧ i = .int .i64 (k : Nat) ∧ Rp wr w.heap.size n k b cur ∧ Below w.heap.size w wr) (fun i _ => n - (intOf i).toNat)
  case atStart => exact ⟨1, _, Nat.le_refl _, H1.out, rfl, HR0.out, B1.out⟩
  case round =>
    obtain ⟨k, cur, hk1, hk, rfl, hrp, hbr⟩ := hrel
    have RP := hide hrp
    have RB := hide hbr
    clear hrp hbr
    by_cases hlt : k < n
    · have l1 : ((k : Int) < (n : Int)) = True := by simp; omega
      have l2 : ((k : Int) = (n : Int)) = False := by simp; omega
      have l3 : ((n : Int) = (k : Int)) = False := by simp; omega
      have l4 : (n = k) = False := by simp; omega
      have l5 : (k = n) = False := by simp; omega
      have l6 : (k ≤ n) = True := by simp; omega
      obtain ⟨m, hm⟩ : ∃ m, m = Nat.min k (n - k) := ⟨_, rfl⟩
      have HM1 := hide (show m ≤ k ∧ k + m ≤ n ∧ 1 ≤ m by rw [hm]; simp only [Nat.min_def]; split <;> omega)
      have HM2 := hide hm.symm
      have RD : Hid (Rp wr.drew w.heap.size n k b cur) := ⟨RP.out.row, RP.out.len, RP.out.pre⟩
      have wm : IntKind.i64.wrap ((k : Int) + (m : Int)) = ((k + m : Nat) : Int) := by rw [IntKind.wrap_i64]; have := HM1.out; have := H2.out; omega
      clear hm hlt
      go_wp2
      go_region_law (refine step_copyC rfl (.tmp 41) (.tmp 44) 23 23 rfl 29 3 Tryz.underlying23 sizeNb w.heap.size (k * 3) (n - k) (n - k) ⟨w.heap.size, 0, none⟩ k n m (by simp [Act.eval, Act.put]) (by simp [Act.eval, Act.put]) cur 29 RD.out.row (reps b m) HM2.out (reps_len b m) (RD.out.src HM1.out.1) (by rw [reps_len, RD.out.len]; have := HM1.out; omega) (reps_one b m) w.heap.size w RB.out.drew (Nat.le_refl _) ?_; intro W4 HG4 hB4; have B4 := hide hB4; clear hB4)
      all_goals
        have RN := hide (RD.out.next HM1.out.2.1 HG4.out)
        simp only [Exit.inBlock]
        simp [Act.put]
        go_wp2
        go_roundw
        case rel => exact ⟨k + m, _, by omega, HM1.out.2.1, by simp, RN.out, B4.out⟩
        case measure => have := HM1.out; simp [intOf]; omega
    · obtain rfl : k = n := by omega
      go_wp2
      go_ret
      refine ⟨_, rfl, Nat.le_refl _, ?_, RB.out⟩
      have h1 := RP.out.pre
      rw [← RP.out.len, List.take_length] at h1
      rw [← h1]
      exact RP.out.row
end Go.Proofs.YtbemfjdloeipmaaGreatDoor
