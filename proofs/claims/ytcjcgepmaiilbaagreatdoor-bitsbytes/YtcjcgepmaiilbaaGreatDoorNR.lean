/- The document's own Read. -/
import Derived.Test.YtcjcgepmaiilbaaGreatDoorNP
import Derived.Deep.LoopGhost
namespace Go.Proofs.YtcjcgepmaiilbaaGreatDoor
open Go.RowKit

theorem refRead_wide (n : Int) (a : Option Addr) (m c : Nat) (w : World) (h : ¬ (1 ≤ n ∧ n ≤ 128)) :
    Calls Tryz.prog 9 #[.int .i64 n, .slice a m c] w fun e w' => e = .returned (.tuple #[zeroB, .int .i64 1]) ∧ Below w.heap.size w w' := by
  unfold zeroB
  by_cases h1 : n < 1
  · have d1 : (n < 1) = True := eq_true h1
    clear h h1
    go_enter Tryz.func9, Tryz.ntmps9
    go_wp2
    refine bodyPost_ret (v := .tuple #[.agg #[.int .i64 0, .int .u64 0, .int .u64 0], .int .i64 1]) (by simp [results, Tryz.results9, go_sem]) rfl ⟨rfl, ?_⟩
    exact (Below.refl _ _).alloc (Nat.le_refl _) _
  · have d1 : (n < 1) = False := eq_false h1
    have d2 : (n > 128) = True := eq_true (by omega)
    have d2' : ((128 : Int) < n) = True := eq_true (by omega)
    clear h h1
    go_enter Tryz.func9, Tryz.ntmps9
    go_wp2
    refine bodyPost_ret (v := .tuple #[.agg #[.int .i64 0, .int .u64 0, .int .u64 0], .int .i64 1]) (by simp [results, Tryz.results9, go_sem]) rfl ⟨rfl, ?_⟩
    exact (Below.refl _ _).alloc (Nat.le_refl _) _
theorem refRead_len (n : Nat) (a : Option Addr) (m c : Nat) (w : World) (h1 : 1 ≤ n) (h2 : n ≤ 128) (hm : m ≠ (n + 7) / 8) :
    Calls Tryz.prog 9 #[.int .i64 n, .slice a m c] w fun e w' => e = .returned (.tuple #[zeroB, .int .i64 8]) ∧ Below w.heap.size w w' := by
  unfold zeroB
  obtain ⟨N, hN⟩ : ∃ N, (n + 7) / 8 = N := ⟨_, rfl⟩
  have d1 : ((n : Int) < 1) = False := eq_false (by omega)
  have d2 : ((n : Int) > 128) = False := eq_false (by omega)
  have d2' : ((128 : Int) < (n : Int)) = False := eq_false (by omega)
  have ew : wrap64 ((wrap64 ((n : Int) + 7)).tdiv 8) = (N : Int) := by
    have e1 : wrap64 ((n : Int) + 7) = (n : Int) + 7 := by unfold wrap64; omega
    rw [e1, Int.tdiv_eq_ediv_of_nonneg (by omega)]
    unfold wrap64
    omega
  have ew2 : ((n : Int) + 7).tdiv 8 = (N : Int) := by rw [Int.tdiv_eq_ediv_of_nonneg (by omega)]; omega
  have dm : ((m : Int) == (N : Int)) = false := by simp; omega
  have dm2 : ((m : Int) != (N : Int)) = true := by simp; omega
  clear h1 h2 hm hN
  go_enter Tryz.func9, Tryz.ntmps9
  go_wp2
  refine bodyPost_ret (v := .tuple #[.agg #[.int .i64 0, .int .u64 0, .int .u64 0], .int .i64 8]) (by simp [results, Tryz.results9, go_sem]) rfl ⟨rfl, ?_⟩
  exact (Below.refl _ _).alloc (Nat.le_refl _) _
theorem bv_cons (x : Nat) : ∀ (n : Nat) (t : List Nat), t.length = n → bv (x :: t) = x * 256 ^ n + bv t
  | 0, t, h => by obtain rfl : t = [] := List.length_eq_zero_iff.1 h; simp [bv]
  | n + 1, t, h => by
    rcases List.eq_nil_or_concat t with rfl | ⟨ys, y, rfl⟩
    · simp at h
    · rw [List.concat_eq_append] at h ⊢
      rw [← List.cons_append, bv_snoc, bv_snoc, bv_cons x n ys (by simp at h; omega), Nat.pow_succ]
      generalize 256 ^ n = P
      have : x * (P * 256) = x * P * 256 := by rw [Nat.mul_assoc]
      rw [this]
      omega
theorem mod_bit (x k : Nat) : x % 2 ^ (k + 1) = x % 2 ^ k + 2 ^ k * (x.testBit k).toNat := by
  rw [Nat.pow_succ, Nat.mod_mul, Nat.testBit_eq_decide_div_mod_eq]
  rcases Nat.mod_two_eq_zero_or_one (x / 2 ^ k) with h | h <;> simp [h]
theorem bit_u8 (x k : Nat) (hx : x < 256) : (bits .and .u8 ((x : Int) / 2 ^ k) 1 == 1) = x.testBit k := by
  have e : ((x : Int) / 2 ^ k) = ((x / 2 ^ k : Nat) : Int) := by simp
  have hb : x / 2 ^ k < 256 := Nat.lt_of_le_of_lt (Nat.div_le_self _ _) hx
  rw [e, show (1 : Int) = ((1 : Nat) : Int) from rfl, u8_and_nat _ _ hb (by decide), Nat.and_one_is_mod, Nat.testBit_eq_decide_div_mod_eq]
  rcases Nat.mod_two_eq_zero_or_one (x / 2 ^ k) with h | h <;> simp [h]
/- Bits that were gathered: of the last m bytes, and k of the one ahead of them. -/
structure BL (xs : List Nat) (N m k : Nat) (L : List Bool) : Prop where
  len : L.length = 8 * m + k
  val : valL L = bv (xs.drop (N - m)) + 2 ^ (8 * m) * ((xs.getD (N - 1 - m) 0) % 2 ^ k)
theorem BL.bit {xs : List Nat} {N m k : Nat} {L : List Bool} (h : BL xs N m k L) (b : Bool) (hb : b = (xs.getD (N - 1 - m) 0).testBit k) : BL xs N m (k + 1) (L ++ [b]) := by
  refine ⟨by simp [h.len]; omega, ?_⟩
  rw [valL_append, h.val, h.len, mod_bit, hb, Nat.mul_add, ← Nat.mul_assoc, ← Nat.pow_add]
  have : valL [(xs.getD (N - 1 - m) 0).testBit k] = ((xs.getD (N - 1 - m) 0).testBit k).toNat := by simp [valL]
  rw [this, Nat.add_assoc]
theorem BL.next {xs : List Nat} {N m : Nat} {L : List Bool} (h : BL xs N m 8 L) (hN : xs.length = N) (hm : m < N) (hb : ∀ x ∈ xs, x < 256) : BL xs N (m + 1) 0 L := by
  refine ⟨by rw [h.len]; omega, ?_⟩
  have hlt : N - 1 - m < xs.length := by omega
  have e1 : xs.drop (N - (m + 1)) = xs[N - 1 - m] :: xs.drop (N - m) := by
    rw [show N - (m + 1) = N - 1 - m by omega, List.drop_eq_getElem_cons hlt, show N - 1 - m + 1 = N - m by omega]
  have e2 : xs.getD (N - 1 - m) 0 = xs[N - 1 - m] := by simp [hlt]
  have h256 := hb _ (List.getElem_mem hlt)
  rw [h.val, e1, bv_cons _ m _ (by simp; omega), e2, Nat.pow_zero, Nat.mod_one, Nat.mul_zero, Nat.add_zero, Nat.mod_eq_of_lt (by simpa using h256), show (256 : Nat) = 2 ^ 8 from rfl, ← Nat.pow_mul, Nat.mul_comm, Nat.add_comm]
structure RS (w W : World) (v : Value) (xs : List Nat) (N m k : Nat) (L : List Bool) : Prop where
  own : W.ownsRow (w.heap.size + 1) 4 1 v (8 * m + k) (L.map Value.bool)
  bl : BL xs N m k L
  be : Below w.heap.size w W
  z : W.heap[w.heap.size]? = some (.cells #[.int .i64 0, .int .u64 0, .int .u64 0] 24 (0, 0))
theorem RS.lt {w W : World} {v : Value} {xs : List Nat} {N m k : Nat} {L : List Bool} (h : RS w W v xs N m k L) : w.heap.size + 1 ≤ W.heap.size := lt_of_block h.z
theorem RS.app {w W W1 : World} {v v1 : Value} {xs : List Nat} {N m k : Nat} {L : List Bool} {b : Bool} {o : Obj} (h : RS w W v xs N m k L) (hb : b = (xs.getD (N - 1 - m) 0).testBit k) (ho : W1.ownsRow (w.heap.size + 1) 4 1 v1 (8 * m + k + 1) (L.map Value.bool ++ [.bool b])) (hg : (W.alloc o).grownBy W1 v.ownBlock) : RS w W1 v1 xs N m (k + 1) (L ++ [b]) := by
  have hlt := h.lt
  have hv : ∀ r, v.ownBlock = some r → w.heap.size + 1 ≤ r := fun r e => (World.ownsRow.lt h.own r e).1
  refine ⟨by rw [List.map_append]; exact ho, h.bl.bit b hb, (h.be.alloc (by omega) o).grown hg (by simp; omega) (fun r e => by have := hv r e; omega), ?_⟩
  rw [hg.block w.heap.size (by simp; omega) (fun e => by have := hv _ e.symm; omega), Below.heap_alloc _ _ _ (by omega)]
  exact h.z
theorem RS.next {w W : World} {v : Value} {xs : List Nat} {N m : Nat} {L : List Bool} (h : RS w W v xs N m 8 L) (hN : xs.length = N) (hm : m < N) (hb : ∀ x ∈ xs, x < 256) : RS w W v xs N (m + 1) 0 L := ⟨by have := h.own; rw [show 8 * (m + 1) + 0 = 8 * m + 8 by omega]; exact this, h.bl.next hN hm hb, h.be, h.z⟩
set_option maxHeartbeats 8000000 in
theorem refRead_any (n : Nat) (q off cap : Nat) (xs : List Nat) (w : World) (h0 : 1 ≤ n) (h1 : n ≤ 128) (hx : Bs w q off xs) (hb : ∀ x ∈ xs, x < 256) (hl : xs.length = (n + 7) / 8) :
    Calls Tryz.prog 9 #[.int .i64 n, .slice (some ⟨q, off, none⟩) xs.length cap] w fun e w' => ((bv xs < 2 ^ n ∧ e = .returned (.tuple #[numW n (bv xs), .int .i64 0])) ∨ (¬ bv xs < 2 ^ n ∧ e = .returned (.tuple #[zeroB, .int .i64 8]))) ∧ Below w.heap.size w w' := by
  obtain ⟨P, hP⟩ : ∃ P : Prop, (bv xs < 2 ^ n) = P := ⟨_, rfl⟩
  obtain ⟨H1, hH1⟩ : ∃ H1, wHi (bv xs) = H1 := ⟨_, rfl⟩
  obtain ⟨L1, hL1⟩ : ∃ L1, wLo (bv xs) = L1 := ⟨_, rfl⟩
  unfold numW
  rw [hP, hH1, hL1]
  have HPP := hide hP; have HH1 := hide hH1; have HL1 := hide hL1
  clear hP hH1 hL1
  obtain ⟨i0, hi0, hz0, hz1, hz2⟩ := info_parts Tryz.info4
  obtain ⟨N, hN⟩ : ∃ N, xs.length = N := ⟨_, rfl⟩
  have hN16 : N ≤ 16 := by omega
  have hN1 : 1 ≤ N := by omega
  have hqw : q < w.heap.size := World.block_lt_of_cell? w _ (hx 0 (by omega))
  have d1 : ((n : Int) < 1) = False := eq_false (by omega)
  have d2 : ((n : Int) > 128) = False := eq_false (by omega)
  have d2' : ((128 : Int) < (n : Int)) = False := eq_false (by omega)
  have ew : wrap64 ((wrap64 ((n : Int) + 7)).tdiv 8) = (N : Int) := by
    have e1 : wrap64 ((n : Int) + 7) = (n : Int) + 7 := by unfold wrap64; omega
    rw [e1, Int.tdiv_eq_ediv_of_nonneg (by omega)]
    unfold wrap64
    omega
  have HX := hide hx; have HB := hide hb; have HN := hide hN; have HLL := hide hl; have HNN : Hid (1 ≤ n ∧ n ≤ 128 ∧ n ≤ 8 * N) := hide ⟨h0, h1, by omega⟩
  obtain ⟨z, hz⟩ : ∃ z, z = Obj.cells #[.int .i64 0, .int .u64 0, .int .u64 0] 24 := ⟨_, rfl⟩
  have HS := hide (heap_alloc_new w z)
  have HA : Hid (Below w.heap.size w (w.alloc z)) := hide ((Below.refl _ _).alloc (Nat.le_refl _) _)
  rw [hz] at HS HA
  unfold zeroB
  rw [hN]
  clear hx hb hN hl h0 h1 hz
  have HS0 : Hid (RS w (w.alloc (.cells #[.int .i64 0, .int .u64 0, .int .u64 0] 24)) (.slice none 0 0) xs N 0 0 []) := hide ⟨World.ownsRow_nil _ _ _ _, ⟨rfl, by rw [show N - 0 = xs.length by rw [HN.out]; omega, List.drop_length, Nat.pow_zero, Nat.mod_one]; rfl⟩, HA.out, HS.out⟩
  clear HS HA
  go_enter Tryz.func9, Tryz.ntmps9
  go_wp2
  clear ew
  go_loopg [6, 7] N (fun gk v i wr => ∃ (m : Nat) (ik : Int) (L : List Bool), m + gk = N ∧ i = .int .i64 ik ∧ Hid (ik = (N : Int) - 1 - m) ∧ RS w wr v xs N m 0 L)
  case atStart => exact ⟨0, _, [], by omega, rfl, by exact hide (by omega), HS0.out⟩
  case round =>
    obtain ⟨m, ik, L, hk, rfl, HI, hR⟩ := hrel
    have HKG := hide hk
    have R0 := hide hR
    clear hR hk HS0
    by_cases hlt : m < N
    · obtain ⟨j, hj⟩ : ∃ j, N - 1 - m = j := ⟨_, rfl⟩
      obtain rfl : ik = (j : Int) := by have := HI.out; omega
      have hjN : j < N := by omega
      obtain ⟨x, hxj⟩ : ∃ x, xs.getD j 0 = x := ⟨_, rfl⟩
      have hjl : j < xs.length := by rw [HN.out]; exact hjN
      have hxe : xs[j] = x := by rw [← hxj]; simp [hjl]
      have hx256 : x < 256 := by rw [← hxe]; exact HB.out _ (List.getElem_mem hjl)
      have HCX : Hid (∀ W, Below w.heap.size w W → W.cell? ⟨q, off + j, none⟩ = some (.int .u8 (x : Int))) := hide (fun W hB => by rw [hB.cell (p := ⟨q, off + j, none⟩) hqw, HX.out j hjl, hxe])
      have d0 : ((j : Int) ≥ 0) = True := eq_true (by omega)
      have d0' : ((0 : Int) ≤ (j : Int)) = True := eq_true (by omega)
      have dj : ((j : Int) < (N : Int)) = True := eq_true (by omega)
      have dj' : (j < N) = True := eq_true hjN
      have hj99 : j < 99 := by omega
      have HXJ : Hid (xs.getD (N - 1 - m) 0 = x) := hide (by rw [hj]; exact hxj)
      have HMN := hide hlt
      have HJ := hide hj
      clear hj hxj hxe hjl hjN
      obtain ⟨go, hgo⟩ : ∃ go, go = gk := ⟨_, rfl⟩
      subst hgo
      go_wp2
      go_loopg [6, 8] 8 (fun gk v k wi => ∃ (p : Nat) (L' : List Bool), p + gk = 8 ∧ k = .int .i64 p ∧ RS w wi v xs N m p L')
      case atStart => exact ⟨0, L, by omega, rfl, R0.out⟩
      case round =>
        obtain ⟨p, L', hp, rfl, hR⟩ := hrel
        have HPG := hide hp
        have R1 := hide hR
        clear hR hp
        by_cases hp8 : p < 8
        · have hcx := HCX.out wr R1.out.be
          have HBT := hide (bit_u8 x p hx256)
          have dp : ((p : Int) < 8) = True := eq_true (by omega)
          have dp' : (p < 8) = True := eq_true hp8
          have dp0 : ((p : Int) < 0) = False := eq_false (by omega)
          have HOA := hide (R1.out.own.alloc (.cells #[.bool (bits .and .u8 ((x : Int) / 2 ^ p) 1 == 1)] 4))
          go_wp2_with (at_builtin; refine wpList_append_own _ rfl _ _ 74 rfl (w.heap.size + 1) 4 i0 (.bool false) 1 1 Tryz.underlying74 hi0 hz0 hz1 hz2 rfl (by decide) _ _ _ rfl HOA.out ⟨wr.heap.size, 0, none⟩ 1 1 [.bool (bits .and .u8 ((x : Int) / 2 ^ p) 1 == 1)] rfl rfl (cell_one_new _ _ _) (bool_one _) (by unfold maxLen; have := hlt; omega) (by omega) (by have := R1.out.lt; simp; omega) ?_; intro v5 w5 O5 G5 _; have R5 := hide (R1.out.app (by rw [HXJ.out]; exact HBT.out) O5 G5); clear O5 G5)
          go_roundg (gk - 1)
          case measure => have := HPG.out; omega
          case rel => exact ⟨p + 1, _, by have := HPG.out; omega, by go_num, R5.out⟩
        · obtain rfl : p = 8 := by have := HPG.out; omega
          have R9 := hide (R1.out.next HN.out HMN.out HB.out)
          go_wp2
          go_roundg (go - 1)
          case measure => have := HKG.out; omega
          case rel => exact ⟨m + 1, (j : Int) - 1, L', by have := HKG.out; omega, by go_num, by exact hide (by have := HJ.out; omega), R9.out⟩
    · obtain rfl : m = N := by have := HKG.out; omega
      obtain rfl : ik = -1 := by have := HI.out; omega
      obtain ⟨M, hM⟩ : ∃ M, 8 * m + 0 = M := ⟨_, rfl⟩
      have hown := R0.out.own
      have hlen : L.length = M := by rw [R0.out.bl.len]; exact hM
      have hval : valL L = bv xs := by rw [R0.out.bl.val, Nat.sub_self, List.drop_zero, Nat.pow_zero, Nat.mod_one]; omega
      rw [hM] at hown
      rcases hown.2 with ⟨_, h0⟩ | ⟨g, gc, cur, rfl, hgb, _, hgc, hgm, _⟩
      · omega
      have HCL : Hid (∀ t (h : t < L.length), wr.cell? ⟨g, 0 + t, none⟩ = some (.bool L[t])) := hide (fun t h => by
        have := World.ownsRow.cells hown (g := g) rfl t (.bool L[t]) (by simp [h])
        rw [add8] at this
        exact this)
      have hnM : n ≤ M := by have := HNN.out; omega
      have hM128 : M ≤ 128 := by omega
      obtain ⟨b0, b1, b2, bf⟩ := cells3 R0.out.z
      have HLN := hide hlen; have HVL := hide hval
      have HGC := hide hgc
      have HBE := hide R0.out.be
      have hgm' : gc ≤ 9223372036854775807 := by unfold maxLen at hgm; omega
      have hnp : n < 1000 := by omega
      have HFT : Hid (bv xs < 2 ^ n → ∀ t, n ≤ t → bitAt L t = false) := hide (fun hf t ht => by
        rw [← valL_bit, hval]
        exact Nat.testBit_lt_two_pow (Nat.lt_of_lt_of_le hf (Nat.pow_le_pow_right (by decide) ht)))
      have HBIG : Hid (∀ t, n ≤ t → bitAt L t = true → ¬ bv xs < 2 ^ n) := hide (fun t ht hb hf => by
        rw [← valL_bit, hval, Nat.testBit_lt_two_pow (Nat.lt_of_lt_of_le hf (Nat.pow_le_pow_right (by decide) ht))] at hb
        cases hb)
      have HEND : Hid ((∀ t, n ≤ t → t < M → bitAt L t = false) → bv xs < 2 ^ n ∧ valL (L.take n) = bv xs) := hide (fun hf => by
        have e : valL (L.take n) = bv xs := by
          rw [← hval]
          refine Nat.eq_of_testBit_eq fun t => ?_
          rw [valL_bit, valL_bit]
          by_cases ht : t < n
          · unfold bitAt; simp [List.getD_eq_getElem?_getD, ht]
          · by_cases htM : t < M
            · rw [hf t (by omega) htM]; unfold bitAt; simp [List.getD_eq_getElem?_getD, List.getElem?_take, ht]
            · unfold bitAt; rw [List.getD_eq_getElem?_getD, List.getD_eq_getElem?_getD, List.getElem?_eq_none (by simp; omega), List.getElem?_eq_none (by omega)]
        refine ⟨?_, e⟩
        have := valL_lt (L.take n)
        rw [e] at this
        exact Nat.lt_of_lt_of_le this (Nat.pow_le_pow_right (by decide) (by simp; omega)))
      clear hown hlen hval hgc hgm hM R0 HI HKG hlt
      go_wp2
      go_loopw [9] (fun i wi => ∃ t : Nat, n ≤ t ∧ t ≤ M ∧ i = .int .i64 t ∧ wi = wr ∧ Hid (∀ j, n ≤ j → j < t → bitAt L j = false)) (fun i _ => M - (intOf i).toNat)
      case atStart => exact ⟨n, Nat.le_refl _, hnM, rfl, rfl, fun j h1 h2 => by omega⟩
      case round =>
        obtain ⟨t, ht, htM, rfl, rfl, HAL⟩ := hrel
        have HT := hide ht
        by_cases hlt : t < M
        · have htL : t < L.length := by rw [HLN.out]; exact hlt
          have hcell := HCL.out t htL
          rw [Nat.zero_add] at hcell
          have hbit : bitAt L t = L[t] := bitAt_get htL
          have e1 : ((t : Int) < (M : Int)) = True := eq_true (by omega)
          have e2 : (t < M) = True := eq_true hlt
          cases hb : L[t] with
          | true =>
            rw [hb] at hcell hbit
            have HNO : Hid (¬ P) := hide (by rw [← HPP.out]; exact HBIG.out t ht hbit)
            clear hb hbit htL ht
            go_wp2
            refine bodyPost_ret (v := .tuple #[.agg #[.int .i64 0, .int .u64 0, .int .u64 0], .int .i64 8]) (by simp [results, Tryz.results9, go_sem, b0, b1, b2]) rfl ⟨.inr ⟨HNO.out, rfl⟩, ?_⟩
            exact ((HBE.out.setCell (Nat.le_refl _) _).setCell (Nat.le_refl _) _).setCell (Nat.le_refl _) _
          | false =>
            rw [hb] at hcell hbit
            have HAL2 : Hid (∀ j, n ≤ j → j < t + 1 → bitAt L j = false) := hide (fun j h1 h2 => by
              by_cases e : j = t
              · rw [e]; exact hbit
              · exact HAL.out j h1 (by omega))
            clear hb hbit htL
            go_wp2
            go_roundw
            case rel => exact ⟨t + 1, by omega, by omega, by go_num, by simp, HAL2.out⟩
            case measure => simp [intOf]; omega
        · obtain rfl : t = M := by omega
          obtain ⟨hfit, hnum⟩ := HEND.out HAL.out
          have e3 : decide ((t : Int) < (t : Int)) = false := by simp
          have g1 : ((n : Int) ≤ (gc : Int)) = True := eq_true (by have := HGC.out; omega)
          have g2 : (n ≤ gc) = True := eq_true (by have := HGC.out; omega)
          have hnl : (L.take n).length = n := by rw [List.length_take, HLN.out]; omega
          have HNM := hide (refNumberB (.slice (some ⟨g, 0, none⟩) n gc) (L.take n) wr (n : Int) (bv xs) (by rw [hnl]; omega) (by rw [hnl]) hnum (.inr ⟨g, 0, gc, by rw [hnl], fun i hi => by have hi2 : i < L.length := (by rw [HLN.out]; rw [hnl] at hi; omega); rw [HCL.out i hi2]; simp⟩))
          have HFI : Hid P := hide (by rw [← HPP.out]; exact hfit)
          rw [HH1.out, HL1.out] at HNM
          have hwl : w.heap.size < wr.heap.size := World.block_lt_of_cell? wr _ b0
          clear hfit hnum hnl ht htM hlt
          go_wp2_with fail
          refine HNM.out.mono ?_
          rintro e w9 ⟨rfl, hb9⟩
          have c0 := (hb9.cell (p := ⟨w.heap.size, 0, none⟩) hwl).trans b0
          have c1 := (hb9.cell (p := ⟨w.heap.size, 1, none⟩) hwl).trans b1
          have c2 := (hb9.cell (p := ⟨w.heap.size, 2, none⟩) hwl).trans b2
          have cf : ∀ o, w9.frozen? ⟨w.heap.size, o, none⟩ = false := fun o => (hb9.frozen (p := ⟨w.heap.size, o, none⟩) hwl).trans (bf o)
          have B9 := hide (HBE.out.trans (hb9.mono HBE.out.size))
          clear hb9
          go_wp2
          refine bodyPost_ret (v := .tuple #[.agg #[.int .i64 n, .int .u64 H1, .int .u64 L1], .int .i64 0]) (by simp [results, Tryz.results9, go_sem, c0, c1, c2]) rfl ⟨.inl ⟨HFI.out, rfl⟩, ?_⟩
          exact ((B9.out.setCell (Nat.le_refl _) _).setCell (Nat.le_refl _) _).setCell (Nat.le_refl _) _
end Go.Proofs.YtcjcgepmaiilbaaGreatDoor
