/- Pieces of the proof: MkA. -/
import Derived.Test.YteflnicgohjiiaaGreatDoorM2
import Derived.Test.YteflnicgohjiiaaGreatDoorM8
/- The document's own questions of chapter 13: may, weighs, below, bit; ahead of them the first bits of a number, and a mask that covers it, bit by bit. -/
namespace Go.Proofs.YteflnicgohjiiaaGreatDoor
open Go.RowKit

theorem andNot_nat (x y : Nat) (_hx : x < 18446744073709551616) : ∃ z : Nat, z < 18446744073709551616 ∧ bits .andNot .u64 (x : Int) (y : Int) = (z : Int) ∧ ∀ i, z.testBit i = (x.testBit i && (decide (i < 64) && !y.testBit i)) := by
  have hz := (BitVec.ofInt 64 (x : Int) &&& ~~~ BitVec.ofInt 64 (y : Int)).isLt
  refine ⟨(BitVec.ofInt 64 (x : Int) &&& ~~~ BitVec.ofInt 64 (y : Int)).toNat, by omega, ?_, fun i => ?_⟩
  · show IntKind.u64.wrap (((BitVec.ofInt 64 (x : Int) &&& ~~~ BitVec.ofInt 64 (y : Int)).toNat : Nat) : Int) = _
    rw [IntKind.wrap_u64]
    omega
  · rw [BitVec.testBit_toNat, BitVec.getLsbD_and, BitVec.getLsbD_not, BitVec.ofInt_natCast, BitVec.ofInt_natCast, BitVec.getLsbD_ofNat, BitVec.getLsbD_ofNat]
    by_cases hi : i < 64
    · simp [hi]
    · simp [hi]
theorem tb_lt {x i : Nat} (hx : x < 18446744073709551616) (h : x.testBit i = true) : i < 64 := by
  refine Nat.lt_of_not_le fun hi => ?_
  have : x.testBit i = false := Nat.testBit_lt_two_pow (Nat.lt_of_lt_of_le hx (show 2 ^ 64 ≤ 2 ^ i from Nat.pow_le_pow_right (by decide) hi))
  rw [this] at h; cases h
theorem andNot_zero (x y : Nat) (hx : x < 18446744073709551616) : (bits .andNot .u64 (x : Int) (y : Int) == 0) = true ↔ ∀ i, x.testBit i = true → y.testBit i = true := by
  obtain ⟨z, hz, e, ht⟩ := andNot_nat x y hx
  rw [e]
  constructor
  · intro h i hi
    have h0 : z = 0 := by simpa using h
    have := ht i
    rw [h0, Nat.zero_testBit, hi] at this
    have hl := tb_lt hx hi
    simpa [hl] using this.symm
  · intro h
    have h0 : z = 0 := by
      refine Nat.eq_of_testBit_eq fun i => ?_
      rw [ht i, Nat.zero_testBit]
      cases hi : x.testBit i
      · rfl
      · simp [h i hi]
    simp [h0]
theorem and_self (x y : Nat) (hx : x < 18446744073709551616) (hy : y < 18446744073709551616) : (bits .and .u64 (x : Int) (y : Int) == (x : Int)) = true ↔ ∀ i, x.testBit i = true → y.testBit i = true := by
  rw [u64_and_nat x y hx hy]
  constructor
  · intro h i hi
    have h0 : x &&& y = x := by have := eq_of_beq h; omega
    have := congrArg (fun n => n.testBit i) h0
    simp only [Nat.testBit_and, hi, Bool.true_and] at this
    exact this
  · intro h
    have h0 : x &&& y = x := by
      refine Nat.eq_of_testBit_eq fun i => ?_
      rw [Nat.testBit_and]
      cases hi : x.testBit i
      · rfl
      · simp [h i hi]
    rw [h0]; simp
theorem word_cov (x y : Int) (hx : u64R x) (hy : u64R y) : (bits .andNot .u64 x y == 0) = (bits .and .u64 x y == x) := by
  obtain ⟨x, rfl⟩ := Int.eq_ofNat_of_zero_le hx.1
  obtain ⟨y, rfl⟩ := Int.eq_ofNat_of_zero_le hy.1
  have h1 : x < 18446744073709551616 := by have := hx.2; omega
  have h2 : y < 18446744073709551616 := by have := hy.2; omega
  rw [Bool.eq_iff_iff, andNot_zero x y h1, and_self x y h1 h2]
/- The ones of a number so wide. -/
theorem ones_of (n : Nat) (hn : n ≤ 128) : (ofB (n : Int) ones ones).hi = ((2 ^ (n - 64) - 1 : Nat) : Int) ∧ (ofB (n : Int) ones ones).lo = ((2 ^ (min n 64) - 1 : Nat) : Int) := by
  unfold ofB
  by_cases h0 : n = 0
  · subst h0
    exact ⟨rfl, rfl⟩
  have hm : mayBe (n : Int) = true := by simp [mayBe]; omega
  rw [hm, if_pos rfl]
  unfold cHi cLo ones
  have key : ∀ j, j ≤ 64 → ((18446744073709551615 : Int) % 2 ^ j) = ((2 ^ j - 1 : Nat) : Int) := fun j hj => by
    have e : (18446744073709551615 : Int) = ((2 ^ 64 - 1 : Nat) : Int) := rfl
    have e2 : (2 : Int) ^ j = ((2 ^ j : Nat) : Int) := by simp
    rw [e, e2, ← Int.natCast_emod]
    congr 1
    have h1 : 2 ^ 64 - 1 = (2 ^ j - 1) + 2 ^ j * (2 ^ (64 - j) - 1) := by
      have h2 : 2 ^ 64 = 2 ^ j * 2 ^ (64 - j) := by rw [← Nat.pow_add]; congr 1; omega
      have h3 : 0 < 2 ^ j := Nat.pow_pos (by decide)
      have h4 : 0 < 2 ^ (64 - j) := Nat.pow_pos (by decide)
      rw [Nat.mul_sub, ← h2]
      have h5 : 2 ^ j * 1 ≤ 2 ^ 64 := by rw [h2]; exact Nat.mul_le_mul_left _ h4
      omega
    rw [h1, Nat.add_mul_mod_self_left, Nat.mod_eq_of_lt]
    have : 0 < 2 ^ j := Nat.pow_pos (by decide)
    omega
  by_cases h : n ≤ 64
  · have h' : (n : Int) ≤ 64 := by omega
    rw [if_pos h', if_pos h', Int.toNat_natCast, key n h, Nat.min_eq_left h]
    have e : n - 64 = 0 := by omega
    rw [e]
    exact ⟨rfl, rfl⟩
  · have h' : ¬ ((n : Int) ≤ 64) := by omega
    rw [if_neg h', if_neg h']
    have e : ((n : Int) - 64).toNat = n - 64 := by omega
    rw [e, key _ (by omega), Nat.min_eq_right (by omega)]
    exact ⟨rfl, rfl⟩
theorem fst_bits (w n : Nat) (hw : w ≤ 128) (hn : n ≤ w) : ∃ a b : Nat, a < 18446744073709551616 ∧ b < 18446744073709551616 ∧ (fstB (w : Int) (n : Int)).hi = (a : Int) ∧ (fstB (w : Int) (n : Int)).lo = (b : Int) ∧ (∀ i, a.testBit i = (decide (i < w - 64) && !decide (i < w - n - 64))) ∧ (∀ i, b.testBit i = (decide (i < min w 64) && !decide (i < min (w - n) 64))) := by
  obtain ⟨h1, l1⟩ := ones_of w hw
  have e : (w : Int) - (n : Int) = ((w - n : Nat) : Int) := by omega
  obtain ⟨h2, l2⟩ := ones_of (w - n) (by omega)
  have bd : ∀ j, j ≤ 64 → 2 ^ j - 1 < 18446744073709551616 := fun j hj => by
    have : 2 ^ j ≤ 2 ^ 64 := Nat.pow_le_pow_right (by decide) hj
    omega
  obtain ⟨a, ha, ea, ta⟩ := andNot_nat (2 ^ (w - 64) - 1) (2 ^ (w - n - 64) - 1) (bd _ (by omega))
  obtain ⟨b, hb, eb, tb⟩ := andNot_nat (2 ^ (min w 64) - 1) (2 ^ (min (w - n) 64) - 1) (bd _ (by omega))
  refine ⟨a, b, ha, hb, ?_, ?_, fun i => ?_, fun i => ?_⟩
  · show bits .andNot .u64 (ofB (w : Int) ones ones).hi (ofB ((w : Int) - (n : Int)) ones ones).hi = _
    rw [e, h1, h2, ea]
  · show bits .andNot .u64 (ofB (w : Int) ones ones).lo (ofB ((w : Int) - (n : Int)) ones ones).lo = _
    rw [e, l1, l2, eb]
  · rw [ta i, Nat.testBit_two_pow_sub_one, Nat.testBit_two_pow_sub_one]
    by_cases hi : i < w - 64
    · have : i < 64 := by omega
      simp [hi, this]
    · simp [hi]
  · rw [tb i, Nat.testBit_two_pow_sub_one, Nat.testBit_two_pow_sub_one]
    by_cases hi : i < min w 64
    · have : i < 64 := by omega
      simp [this]
    · simp [hi]
theorem ok_bits {v : Nb} (hv : NbR v) (hk : v.ok = true) : ∃ (w hi lo : Nat), 1 ≤ w ∧ w ≤ 128 ∧ v = ⟨w, hi, lo⟩ ∧ hi < 18446744073709551616 ∧ lo < 18446744073709551616 ∧ hi < 2 ^ (w - 64) ∧ lo < 2 ^ (min w 64) := by
  obtain ⟨vw, vh, vl⟩ := v
  obtain ⟨_, ⟨a0, a1⟩, ⟨b0, b1⟩⟩ := hv
  simp only [Nb.ok, okB, Bool.and_eq_true, beq_iff_eq] at hk a0 a1 b0 b1
  obtain ⟨hm, hh, hl⟩ := hk
  have hm' : 1 ≤ vw ∧ vw ≤ 128 := by simpa [mayBe] using hm
  obtain ⟨w, rfl⟩ := Int.eq_ofNat_of_zero_le (a := vw) (by omega)
  obtain ⟨hi, rfl⟩ := Int.eq_ofNat_of_zero_le a0
  obtain ⟨lo, rfl⟩ := Int.eq_ofNat_of_zero_le b0
  have pw : ∀ j : Nat, (2 : Int) ^ j = ((2 ^ j : Nat) : Int) := fun j => by simp
  refine ⟨w, hi, lo, by omega, by omega, rfl, by omega, by omega, ?_, ?_⟩
  · unfold cHi at hh
    by_cases h : (w : Int) ≤ 64
    · rw [if_pos h] at hh
      have : hi = 0 := by omega
      rw [this]; exact Nat.pow_pos (by decide)
    · rw [if_neg h, pw, ← Int.natCast_emod] at hh
      have e : ((w : Int) - 64).toNat = w - 64 := by omega
      rw [e] at hh
      have : hi % 2 ^ (w - 64) = hi := by omega
      rw [← this]; exact Nat.mod_lt _ (Nat.pow_pos (by decide))
  · unfold cLo at hl
    by_cases h : (w : Int) ≤ 64
    · rw [if_pos h, pw, ← Int.natCast_emod, Int.toNat_natCast] at hl
      have : lo % 2 ^ w = lo := by omega
      rw [Nat.min_eq_left (by omega), ← this]; exact Nat.mod_lt _ (Nat.pow_pos (by decide))
    · rw [Nat.min_eq_right (by omega)]; omega
theorem tb_pow {x i j : Nat} (hx : x < 2 ^ j) (h : x.testBit i = true) : i < j := by
  refine Nat.lt_of_not_le fun hi => ?_
  have : x.testBit i = false := Nat.testBit_lt_two_pow (Nat.lt_of_lt_of_le hx (Nat.pow_le_pow_right (by decide) hi))
  rw [this] at h; cases h
theorem cov_iff {v : Nb} (hv : NbR v) (hk : v.ok = true) (n : Int) (h0 : 0 ≤ n) (h1 : n ≤ v.w) : covB (fstB v.w n) v = true ↔ ∀ k : Nat, (k : Int) < v.w - n → bitB v.hi v.lo k = false := by
  obtain ⟨w, hi, lo, w1, w2, rfl, a1, b1, a2, b2⟩ := ok_bits hv hk
  obtain ⟨n, rfl⟩ := Int.eq_ofNat_of_zero_le h0
  simp only at h1 ⊢
  obtain ⟨a, b, ha, hb, ea, eb, ta, tb⟩ := fst_bits w n w2 (by omega)
  unfold covB
  simp only [ea, eb]
  rw [Bool.and_eq_true, andNot_zero _ _ a1, andNot_zero _ _ b1]
  unfold bitB
  simp only [Int.toNat_natCast]
  constructor
  · rintro ⟨p, q⟩ k hk
    by_cases h : k < 64
    · rw [if_pos h]
      cases e : lo.testBit k
      · rfl
      · have := q k e
        rw [tb k] at this
        simp at this
        omega
    · rw [if_neg h]
      cases e : hi.testBit (k - 64)
      · rfl
      · have := p _ e
        rw [ta _] at this
        simp at this
        omega
  · intro h
    refine ⟨fun i hi' => ?_, fun i hi' => ?_⟩
    · rw [ta i]
      have l1 := tb_pow a2 hi'
      have l2 : ¬ i < w - n - 64 := fun hl => by
        have := h (i + 64) (by omega)
        rw [if_neg (by omega), Nat.add_sub_cancel, hi'] at this
        cases this
      simp [l1, l2]
    · rw [tb i]
      have l1 := tb_pow b2 hi'
      have l2 : ¬ i < min (w - n) 64 := fun hl => by
        have := h i (by omega)
        rw [if_pos (by omega), hi'] at this
        cases this
      simp only [l1, l2]
      rfl

theorem refBelow_any (a b : Nb) : Pure 227 #[a.val, b.val] (.bool (atmB a b)) := fun w => by
  unfold atmB
  obtain ⟨aw, ah, al⟩ := a
  obtain ⟨bw, bh, bl⟩ := b
  unfold Nb.val
  by_cases h1 : ah < bh
  · go_enter Tryz.func227, Tryz.ntmps227
    go_wp2
    go_ret
    exact ⟨by simp [h1], ((Below.refl _ _).alloc (Nat.le_refl _) _).alloc (by simp) _⟩
  · by_cases h2 : ah = bh
    · subst h2
      by_cases h3 : al ≤ bl
      all_goals
        go_enter Tryz.func227, Tryz.ntmps227
        go_wp2
        go_ret
        exact ⟨by simp [h3], ((Below.refl _ _).alloc (Nat.le_refl _) _).alloc (by simp) _⟩
    · have h2' : (ah == bh) = false := by simp [h2]
      go_enter Tryz.func227, Tryz.ntmps227
      go_wp2
      go_ret
      exact ⟨by simp [h1], ((Below.refl _ _).alloc (Nat.le_refl _) _).alloc (by simp) _⟩
/- The bit k of a number. -/
def bitI (b : Nb) (k : Nat) : Int := if 64 ≤ k then bits .and .u64 (b.hi / 2 ^ (k - 64)) 1 else bits .and .u64 (b.lo / 2 ^ k) 1
theorem refBit_any (b : Nb) (i : Int) (hb : NbR b) (h0 : 0 ≤ i) (h1 : i < b.w) (h2 : b.w ≤ 128) : Pure 226 #[b.val, .int .i64 i] (.int .u64 (bitI b (b.w - 1 - i).toNat)) := fun w => by
  obtain ⟨bw, bh, bl⟩ := b
  obtain ⟨_, ⟨a0, a1⟩, ⟨b0, b1⟩⟩ := hb
  simp only at *
  obtain ⟨k, hk⟩ : ∃ k : Nat, bw - 1 - i = k := ⟨(bw - 1 - i).toNat, by omega⟩
  have e1 : IntKind.i64.wrap (bw - 1) = bw - 1 := by rw [IntKind.wrap_i64]; omega
  have e2 : IntKind.i64.wrap (bw - 1 - i) = k := by rw [IntKind.wrap_i64]; omega
  rw [hk, Int.toNat_natCast]
  unfold Nb.val bitI
  by_cases h : 64 ≤ k
  · have h' : (64 : Int) ≤ (k : Int) := by omega
    obtain ⟨j, rfl⟩ : ∃ j : Nat, k = j + 64 := ⟨k - 64, by omega⟩
    have e3 : IntKind.i64.wrap (((j + 64 : Nat) : Int) - 64) = (j : Int) := by rw [IntKind.wrap_i64]; omega
    have e4 : ((j + 64 : Nat) : Int) = (j : Int) + 64 := by omega
    have hj : j < 64 := by omega
    rw [if_pos h]
    simp only [Nat.add_sub_cancel]
    clear hk h1 h2 h0
    go_enter Tryz.func226, Tryz.ntmps226
    go_wp2
    go_ret
    exact ⟨by simp, below1 _ _⟩
  · have h' : ¬ ((64 : Int) ≤ (k : Int)) := by omega
    rw [if_neg h]
    have hj : k < 64 := by omega
    clear hk h1 h2 h0
    go_enter Tryz.func226, Tryz.ntmps226
    go_wp2
    go_ret
    exact ⟨by simp, below1 _ _⟩
theorem refWeighs_any (x : TbL) (w : World) (hx : TbR w x) : Calls Tryz.prog 145 #[x.val] w fun e w' => e = .returned (.bool (weighsB x.t)) ∧ Below w.heap.size w w' := by
  obtain ⟨⟨ks, ws, size⟩, ka, kc, wa, wc⟩ := x
  obtain ⟨h1, h2, h3, h4, h5⟩ := hx
  simp only [TbL.val, weighsB] at *
  have HK := hide (h1.below (below1 w (.cells #[.slice ka ks.length kc, .slice wa ws.length wc, .int .i64 size] 41)))
  have L1 := hide h3
  clear h1 h2 h3 h4 h5
  generalize ws.length = nw at *
  go_enter Tryz.func145, Tryz.ntmps145
  go_wp2
  go_loopw [3] (fun i wr => ∃ k : Nat, k ≤ ks.length ∧ i = .int .i64 k ∧ (∀ j (hj : j < ks.length), j < k → ks[j] ≠ 3 ∧ ks[j] ≠ 4) ∧ wr = w.alloc (.cells #[.slice ka ks.length kc, .slice wa nw wc, .int .i64 size] 41)) (fun i _ => ks.length - (intOf i).toNat)
  case atStart => exact ⟨0, by omega, rfl, fun j _ h => absurd h (by omega), rfl⟩
  case round =>
    obtain ⟨k, hk, rfl, hr, hwr⟩ := hrel
    subst wr
    have HR := hide hr
    clear hr
    by_cases hlt : k < ks.length
    · obtain ⟨p, off, rfl, hp, hcl⟩ := HK.out.some (by omega)
      have q0 := hcl k hlt
      have hlI : (k : Int) < (ks.length : Int) := by omega
      have hkb : k < 140737488355328 := by have := L1.out; omega
      have HM := hide (List.getElem_mem hlt)
      have HS : Hid (∀ (_ : ks[k] ≠ 3 ∧ ks[k] ≠ 4), ∀ j (hj : j < ks.length), j < k + 1 → ks[j] ≠ 3 ∧ ks[j] ≠ 4) := fun h j hj h2 => by
        by_cases h3 : j < k
        · exact HR.out j hj h3
        · obtain rfl : j = k := by omega
          exact h
      clear hcl
      generalize ks[k] = c at *
      by_cases c3 : c = 3
      · have e3 : ((c : Int) == 3) = true := by simp; omega
        have e3' : ((c : Int) = 3) = True := by simp; omega
        go_wp2
        go_ret
        exact ⟨by subst c3; simp; exact .inl HM.out, below1 _ _⟩
      · have e3 : ((c : Int) == 3) = false := by simp; omega
        have e3' : ((c : Int) = 3) = False := by simp; omega
        by_cases c4 : c = 4
        · have e4 : ((c : Int) == 4) = true := by simp; omega
          have e4' : ((c : Int) = 4) = True := by simp; omega
          go_wp2
          go_ret
          exact ⟨by subst c4; simp; exact .inr HM.out, below1 _ _⟩
        · have e4 : ((c : Int) == 4) = false := by simp; omega
          have e4' : ((c : Int) = 4) = False := by simp; omega
          go_wp2
          go_roundw
          case rel => exact ⟨k + 1, by omega, by go_num, HS.out ⟨c3, c4⟩, by first | rfl | trivial⟩
          case measure => simp [intOf]; omega
    · obtain rfl : k = ks.length := by omega
      go_wp2
      go_ret
      refine ⟨?_, below1 _ _⟩
      have e : (ks.any (fun k => k == 3) || ks.any (fun k => k == 4)) = false := by
        simp only [Bool.or_eq_false_iff, List.any_eq_false, beq_iff_eq]
        refine ⟨fun x hx => ?_, fun x hx => ?_⟩
        all_goals
          obtain ⟨j, hj, rfl⟩ := List.mem_iff_getElem.1 hx
          have := HR.out j hj hj
          omega
      rw [e]
      rfl
set_option maxHeartbeats 2000000 in
theorem refMay_any (x : TbL) (w : World) (hx : TbR w x) : Calls Tryz.prog 142 #[x.val] w fun e w' => e = .returned (.bool (tabMay x.t)) ∧ Below w.heap.size w w' := by
  obtain ⟨⟨ks, ws, size⟩, ka, kc, wa, wc⟩ := x
  obtain ⟨h1, h2, h3, h4, h5⟩ := hx
  simp only [TbL.val] at *
  by_cases l1 : ks.length ≤ 64
  · have d1 : ((ks.length : Int) > 64) = False := by simp; omega
    have d1' : (64 < ks.length) = False := by simp; omega
    by_cases l2 : ws.length = ks.length
    · have e0 : tabMay ⟨ks, ws, size⟩ = (fromB 1 size 4096 && (rowsOk ks ws && decide (twos ks ≤ 1))) := by simp [tabMay, l1, l2]
      rw [e0]
      clear e0
      by_cases s1 : size < 1
      · have ef : fromB 1 size 4096 = false := by simp [fromB]; omega
        rw [ef, l2]
        clear l1 l2 h1 h2 h3 h4 h5 ef
        go_enter Tryz.func142, Tryz.ntmps142
        go_wp2
        go_ret
        exact ⟨rfl, below1 _ _⟩
      · have s1' : decide (size < 1) = false := by simpa using s1
        by_cases s2 : 4096 < size
        · have ef : fromB 1 size 4096 = false := by simp [fromB]; omega
          rw [ef, l2]
          clear l1 l2 h1 h2 h3 h4 h5 ef
          go_enter Tryz.func142, Tryz.ntmps142
          go_wp2
          go_ret
          exact ⟨rfl, below1 _ _⟩
        · have s2' : decide (4096 < size) = false := by simpa using s2
          have ef : fromB 1 size 4096 = true := by simp [fromB]; omega
          rw [ef]
          clear ef
          have HK := hide (h1.below (below1 w (.cells #[.slice ka ks.length kc, .slice wa ws.length wc, .int .i64 size] 41)))
          have HZ := hide (h2.below (below1 w (.cells #[.slice ka ks.length kc, .slice wa ws.length wc, .int .i64 size] 41)))
          have L2 := hide l2
          rw [l2] at HK HZ ⊢
          have L1 := hide l1
          clear l1 l2 h1 h2 h3 h4 h5
          rw [Bool.true_and]
          go_enter Tryz.func142, Tryz.ntmps142
          go_wp2
          clear s1 s1' s2 s2'
          go_loopw [3, 4] (fun n i wr => ∃ k : Nat, k ≤ ks.length ∧ i = .int .i64 k ∧ n = .int .i64 ((twos (ks.take k) : Nat) : Int) ∧ rowsOk (ks.take k) (ws.take k) = true ∧ wr = w.alloc (.cells #[.slice ka ks.length kc, .slice wa ks.length wc, .int .i64 size] 41)) (fun _ i _ => ks.length - (intOf i).toNat)
          case atStart => exact ⟨0, by omega, rfl, rfl, by simp [rowsOk], rfl⟩
          case round =>
            obtain ⟨k, hk, rfl, rfl, hr, hwr⟩ := hrel
            subst wr
            by_cases hlt : k < ks.length
            · have hlt' : k < ws.length := by have := L2.out; omega
              obtain ⟨p, off, rfl, hp, hcl⟩ := HK.out.some (by omega)
              obtain ⟨p', off', rfl, hp', hcl'⟩ := HZ.out.some (by omega)
              have q0 := hcl k hlt
              have q1 := hcl' k hlt'
              have hlI : (k : Int) < (ks.length : Int) := by omega
              have HR := hide hr
              clear hcl hcl' hr
              have HN := hide (rowsOk_no ks ws k hlt hlt')
              have HS := hide (rowsOk_take ks ws k hlt hlt')
              have HW := hide (twos_take ks k hlt)
              have hkb : k < 64 := by have := L1.out; omega
              generalize ks[k] = c at *
              generalize ws[k] = d at *
              by_cases c1 : c < 1
              · have e1 : ((c : Int) < 1) = True := by simp; omega
                go_wp2
                go_ret
                exact ⟨by rw [HN.out (by simp [kOk]; omega)]; rfl, below1 _ _⟩
              · have e1 : ((c : Int) < 1) = False := by simp; omega
                by_cases c2 : 4 < c
                · have e2 : ((c : Int) > 4) = True := by simp; omega
                  have e2' : ((4 : Int) < (c : Int)) = True := by simp; omega
                  go_wp2
                  go_ret
                  exact ⟨by rw [HN.out (by simp [kOk]; omega)]; rfl, below1 _ _⟩
                · have e2 : ((c : Int) > 4) = False := by simp; omega
                  have e2' : ((4 : Int) < (c : Int)) = False := by simp; omega
                  by_cases d3 : d < 1
                  · go_wp2
                    go_ret
                    exact ⟨by rw [HN.out (by simp [kOk, fromB]; omega)]; rfl, below1 _ _⟩
                  · have d3' : decide (d < 1) = false := by simpa using d3
                    by_cases d4 : 128 < d
                    · go_wp2
                      go_ret
                      exact ⟨by rw [HN.out (by simp [kOk, fromB]; omega)]; rfl, below1 _ _⟩
                    · have d4' : decide (128 < d) = false := by simpa using d4
                      have HKO : Hid (kOk c d = true) := by show _ = _; simp [kOk, fromB]; omega
                      by_cases c3 : c = 2
                      · have e3 : ((c : Int) == 2) = true := by simp; omega
                        have hw1 : IntKind.i64.wrap (((twos (ks.take k) : Nat) : Int) + 1) = ((twos (ks.take k) : Nat) : Int) + 1 := by have := twos_le (ks.take k); rw [List.length_take] at this; rw [IntKind.wrap_i64]; omega
                        go_wp2
                        go_roundw
                        case rel => exact ⟨k + 1, by omega, by go_num, by rw [HW.out, if_pos c3]; rfl, by rw [HS.out, HR.out, HKO.out]; rfl, by first | rfl | trivial⟩
                        case measure => simp [intOf]; omega
                      · have e3 : ((c : Int) == 2) = false := by simp; omega
                        go_wp2
                        go_roundw
                        case rel => exact ⟨k + 1, by omega, by go_num, by rw [HW.out, if_neg c3]; rfl, by rw [HS.out, HR.out, HKO.out]; rfl, by first | rfl | trivial⟩
                        case measure => simp [intOf]; omega
            · obtain rfl : k = ks.length := by omega
              have hr' : rowsOk ks ws = true := by rw [← L2.out] at hr; have := hr; rw [List.take_length, L2.out, List.take_length] at this; exact this
              have HR' := hide hr'
              rw [List.take_length]
              clear hr hr' hlt hk
              go_wp2
              go_ret
              exact ⟨by rw [HR'.out]; simp; omega, below1 _ _⟩
    · have e0 : tabMay ⟨ks, ws, size⟩ = false := by simp [tabMay, l2]
      rw [e0]
      have d2 : ((ks.length : Int) == (ws.length : Int)) = false := by simp; omega
      have d3 : ((ks.length : Int) = (ws.length : Int)) = False := by simp; omega
      have d4 : (ks.length = ws.length) = False := by simp; omega
      clear l1 l2 h1 h2 h3 h4 h5 e0
      go_enter Tryz.func142, Tryz.ntmps142
      go_wp2
      go_ret
      exact ⟨rfl, below1 _ _⟩
  · have e0 : tabMay ⟨ks, ws, size⟩ = false := by simp [tabMay, l1]
    rw [e0]
    have d1 : ((ks.length : Int) > 64) = True := by simp; omega
    have d1' : (64 < ks.length) = True := by simp; omega
    clear l1 h1 h2 h3 h4 h5 e0
    go_enter Tryz.func142, Tryz.ntmps142
    go_wp2
    go_ret
    exact ⟨rfl, below1 _ _⟩
end Go.Proofs.YteflnicgohjiiaaGreatDoor
