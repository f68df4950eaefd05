/- strconv.FormatUint at base 16. -/
import Derived.Test.YtbbnjilajkllpaaGreatDoorHide
import Derived.Lib.SlBytesConst
namespace Go.Proofs.YtbbnjilajkllpaaGreatDoor
open Go.RowKit

theorem tz64_16 (w : World) (ht : w.cell? ⟨5, 15, none⟩ = some (.int .u8 4)) :
    Calls Tryz.prog 97 #[.int .u64 16] w fun e w' => e = .returned (.int .i64 4) ∧ w' = w := by
  have h15 : IntKind.u64.wrap (bits .and .u64 16 (IntKind.u64.wrap (-16)) * 285870213051353865) / 288230376151711744 = 15 := by decide +kernel
  go_enter Tryz.func97, Tryz.ntmps97
  go_wp2
  go_ret
  exact ⟨rfl, rfl⟩
theorem tz_16 (w : World) (ht : w.cell? ⟨5, 15, none⟩ = some (.int .u8 4)) :
    Calls Tryz.prog 83 #[.int .u64 16] w fun e w' => e = .returned (.int .i64 4) ∧ w' = w := by
  have H := hide (tz64_16 w ht)
  go_enter Tryz.func83, Tryz.ntmps83
  go_wp2_with fail
  refine H.out.mono ?_
  rintro e w1 ⟨rfl, hw⟩
  subst hw
  go_wp2
  go_ret
  exact ⟨rfl, rfl⟩
theorem isPow16 (w : World) :
    Calls Tryz.prog 82 #[.int .i64 16] w fun e w' => e = .returned (.bool true) ∧ w' = w := by
  go_enter Tryz.func82, Tryz.ntmps82
  go_wp2
  go_ret
  exact ⟨rfl, rfl⟩

def dig (n : Nat) : Nat := if n < 10 then 48 + n else 87 + n
def lowC (v k : Nat) : List Value := (List.range k).reverse.map (fun j => Value.int .u8 ((dig (v / 16 ^ j % 16) : Nat) : Int))
theorem lowC_succ (v k : Nat) : lowC v (k + 1) = Value.int .u8 ((dig (v / 16 ^ k % 16) : Nat) : Int) :: lowC v k := by
  simp [lowC, List.range_succ]
theorem lowC_length (v k : Nat) : (lowC v k).length = k := by simp [lowC]
theorem and15 (z : Nat) (h : z < 18446744073709551616) : bits .and .u64 (z : Int) 15 = ((z % 16 : Nat) : Int) := by
  rw [show (15 : Int) = ((15 : Nat) : Int) from rfl, u64_and_nat z 15 h (by omega)]
  exact congrArg _ (Nat.and_two_pow_sub_one_eq_mod z 4)
/- The array behind k rounds. -/
def Buf (W : World) (A : Nat) (m : Nat) (l : List Value) : Prop := ∃ cs : Array Value, W.heap[A]? = some (.cells cs 99 (0, 0)) ∧ cs.size = 65 ∧ cs.toList.drop m = l
theorem Buf.cell {W : World} {A m : Nat} {l : List Value} (h : Buf W A (m + 1) l) (hm : m < 65) : (∃ x, W.cell? ⟨A, m, none⟩ = some x) ∧ W.frozen? ⟨A, m, none⟩ = false := by
  obtain ⟨cs, hb, hs, _⟩ := h
  refine ⟨⟨cs[m]'(by omega), ?_⟩, ?_⟩
  · simp [World.cell?, hb, hs, hm]
  · simp [World.frozen?, hb]
theorem Buf.put {W : World} {A m : Nat} {l : List Value} (h : Buf W A (m + 1) l) (hm : m < 65) (u : Value) : Buf (W.setCell ⟨A, m, none⟩ u) A m (u :: l) := by
  obtain ⟨cs, hb, hs, hd⟩ := h
  refine ⟨cs.setIfInBounds m u, ?_, by simpa using hs, ?_⟩
  · have hlt := lt_of_block hb
    have h' : W.heap[A] = .cells cs 99 (0, 0) := by simpa [Array.getElem?_eq_getElem hlt] using hb
    show (W.heap.modify A _)[A]? = _
    rw [Array.getElem?_eq_getElem (by simpa using hlt), Array.getElem_modify_self, h']
    rfl
  · rw [Array.toList_setIfInBounds, List.drop_set]
    have hl : m < cs.toList.length := by simpa using (by omega : m < cs.size)
    rw [if_neg (by omega), Nat.sub_self, List.drop_eq_getElem_cons hl, hd]
    rfl
theorem buf_step {W : World} {A m v k d : Nat} {X : Int} (h : Buf W A (m + 1) (lowC v k)) (hm : m < 65) (hS : lowC v (k + 1) = Value.int .u8 ((dig d : Nat) : Int) :: lowC v k) (e : X = ((dig d : Nat) : Int)) : Buf (W.setCell ⟨A, m, none⟩ (.int .u8 X)) A m (lowC v (k + 1)) := by
  rw [hS, e]; exact h.put hm _
def lowB (v k : Nat) : List UInt8 := (List.range k).reverse.map (fun j => (dig (v / 16 ^ j % 16)).toUInt8)
theorem lowB_length (v k : Nat) : (lowB v k).length = k := by simp [lowB]
theorem dig_lt (n : Nat) (h : n < 16) : dig n < 256 := by unfold dig; split <;> omega
theorem lowC_lowB (v k : Nat) : lowC v k = (lowB v k).map (fun b => Value.int .u8 (b.toNat : Int)) := by
  unfold lowC lowB
  rw [List.map_map]
  refine List.map_congr_left fun j _ => ?_
  have h := dig_lt (v / 16 ^ j % 16) (Nat.mod_lt _ (by decide))
  show Value.int .u8 _ = Value.int .u8 _
  congr 1
  simp [Nat.mod_eq_of_lt h]
theorem conv_run {W : World} {A m v k : Nat} (h : Buf W A m (lowC v k)) (hm : m + k = 65) : (convert 25 9 (.slice (some ⟨A, m, none⟩) (65 - m) (65 - m))).run Tryz.prog W = .ok (.string ⟨(lowB v k).toArray⟩) W := by
  obtain ⟨cs, hb, hs, hd⟩ := h
  have hl : (lowB v k).length = 65 - m := by rw [lowB_length]; omega
  rw [← hl]
  refine run_convert_bytes_back W 25 9 5 ⟨A, m, none⟩ _ (lowB v k) Tryz.underlying25 Tryz.underlying5 Tryz.underlying9 ?_
  intro j hj
  rw [lowB_length] at hj
  have e : (cs.toList.drop m)[j]? = some (Value.int .u8 ((lowB v k)[j]'(by rw [lowB_length]; exact hj)).toNat) := by
    rw [hd, lowC_lowB, List.getElem?_map, List.getElem?_eq_getElem (by rw [lowB_length]; exact hj)]; rfl
  rw [List.getElem?_drop] at e
  have e2 : cs[m + j]? = some (Value.int .u8 ((lowB v k)[j]'(by rw [lowB_length]; exact hj)).toNat) := by simpa using e
  by_cases h0 : j = 0
  · subst h0; simpa [Addr.add, World.cell?, hb] using e2
  · simpa [Addr.add, h0, World.cell?, hb] using e2
theorem wpList_conv {P : Program} {w : World} {ops : Array Oper} {rest : List Oper} {o : Oper} {a : Act} {Q : Exit → Act → World → Prop} (hg : o.guard = none) (x : Operand) (s d : TypeId) (hop : o.op = Op.convert s d x) (v r : Value) (hx : a.eval x = v)
    (hrun : (convert s d v).run P w = .ok r w) (h : wpList P ops Q rest (a.put o.dst r) w) : wpList P ops Q (o :: rest) a w := by
  refine wpList_plain hg fun K' hK' => ?_
  unfold Oper.wp
  simp [execOp, hop, hx, hrun, Result.andThen]
  exact hK' _ _ h
theorem zeros65 : Tryz.zeroCells99.size = 65 := by decide +kernel

set_option maxRecDepth 100000 in
set_option maxHeartbeats 4000000 in
theorem formatBits_16 (v : Nat) (hv : v < 18446744073709551616) (w : World) (ht : w.cell? ⟨5, 15, none⟩ = some (.int .u8 4)) :
    Calls Tryz.prog 64 #[.slice none 0 0, .int .u64 v, .int .i64 16, .bool false, .bool false] w fun e w' => ∃ k, (k = 0 ∨ 16 ^ k ≤ v) ∧ v < 16 ^ (k + 1) ∧ k ≤ 15 ∧ e = .returned (.tuple #[.slice none 0 0, .string ⟨(lowB v (k + 1)).toArray⟩]) ∧ Below w.heap.size w w' := by
  have hG : 5 < w.heap.size := World.block_lt_of_cell? w _ ht
  have HP := hide isPow16
  have HT := hide (fun o => tz_16 (w.alloc o) (by rw [World.cell?_alloc_past _ _ _ hG]; exact ht))
  clear ht hG
  go_enter Tryz.func64, Tryz.ntmps64
  go_wp2_with fail
  refine (HP.out _).mono ?_
  rintro e w1 ⟨rfl, hw⟩
  subst hw
  go_wp2_with fail
  refine (HT.out _).mono ?_
  rintro e w1 ⟨rfl, hw⟩
  subst hw
  go_wp2
  go_loopw [1, 13] (fun u i wr => ∃ k m : Nat, k ≤ 15 ∧ m + k = 64 ∧ u = .int .u64 ((v / 16 ^ k : Nat) : Int) ∧ i = .int .i64 ((m : Int) + 1) ∧ (k = 0 ∨ 16 ^ k ≤ v) ∧ Buf wr w.heap.size (m + 1) (lowC v k) ∧ Below w.heap.size w wr) (fun u _ _ => (intOf u).toNat)
  case atStart => exact ⟨0, 64, by omega, by omega, by simp, rfl, .inl rfl, ⟨_, heap_alloc_new _ _, zeros65, by rw [List.drop_eq_nil_of_le (by simp)]; rfl⟩, (Below.refl _ _).alloc (Nat.le_refl _) _⟩
  case round =>
    obtain ⟨k, m, hk, hm, rfl, rfl, hk0, hbuf, hnx⟩ := hrel
    obtain ⟨⟨x, hcx⟩, hfx⟩ := hbuf.cell (by omega)
    have hzv : v / 16 ^ k < 18446744073709551616 := Nat.lt_of_le_of_lt (Nat.div_le_self _ _) hv
    have HS := hide (lowC_succ v k)
    have HB := hide hbuf; have HN := hide hnx
    have HZ : Hid (v / 16 ^ (k + 1) = v / 16 ^ k / 16) := by unfold Hid; rw [Nat.pow_succ, Nat.div_div_eq_div_mul]
    have HK : Hid (16 ≤ v / 16 ^ k → 16 ^ (k + 1) ≤ v) := fun h => by rw [Nat.pow_succ, Nat.mul_comm]; exact (Nat.le_div_iff_mul_le (Nat.pow_pos (by decide))).1 h
    have HK0 := hide hk0
    have HV : Hid (v / 16 ^ k < 16 → v < 16 ^ (k + 1)) := fun h => by rw [Nat.pow_succ, Nat.mul_comm]; exact (Nat.div_lt_iff_lt_mul (Nat.pow_pos (by decide))).1 h |> fun h => by rw [Nat.mul_comm] at h; rw [Nat.mul_comm]; first | exact h | (rw [Nat.mul_comm]; exact h)
    clear hbuf hnx hk0
    generalize v / 16 ^ k = z at *
    by_cases hz : 16 ≤ z
    · have h15 := and15 z hzv
      obtain ⟨d, hd⟩ : ∃ d, z % 16 = d := ⟨_, rfl⟩
      have hd16 : d < 16 := by omega
      rw [hd] at h15 HS
      have HD : Hid (z % 16 = d) := hd
      clear hd
      have hd' : d = 0 ∨ d = 1 ∨ d = 2 ∨ d = 3 ∨ d = 4 ∨ d = 5 ∨ d = 6 ∨ d = 7 ∨ d = 8 ∨ d = 9 ∨ d = 10 ∨ d = 11 ∨ d = 12 ∨ d = 13 ∨ d = 14 ∨ d = 15 := by omega
      have hk15 : k + 1 ≤ 15 := by
        have h := HK.out hz
        rcases Nat.lt_or_ge k 15 with h' | h'
        · omega
        · have e : k = 15 := by omega
          subst e
          have : (16 : Nat) ^ (15 + 1) = 18446744073709551616 := by decide
          omega
      rcases hd' with rfl | rfl | rfl | rfl | rfl | rfl | rfl | rfl | rfl | rfl | rfl | rfl | rfl | rfl | rfl | rfl
      all_goals
        go_wp2
        go_roundw
        case rel => exact ⟨k + 1, m - 1, hk15, by omega, by rw [HZ.out]; rfl, by go_num, .inr (HK.out hz), by rw [show m - 1 + 1 = m by omega]; exact buf_step HB.out (by omega) HS.out rfl, HN.out.setCell (Nat.le_refl _) _⟩
        case measure => simp [intOf]; omega
    · have hz' : decide ((16 : Int) ≤ (z : Int)) = false := by simp; omega
      have hzz : z = 0 ∨ z = 1 ∨ z = 2 ∨ z = 3 ∨ z = 4 ∨ z = 5 ∨ z = 6 ∨ z = 7 ∨ z = 8 ∨ z = 9 ∨ z = 10 ∨ z = 11 ∨ z = 12 ∨ z = 13 ∨ z = 14 ∨ z = 15 := by omega
      have hmI : (m : Int) ≤ 65 := by omega
      have hne : ¬ (65 = m) := by omega
      have HM : Hid (m + (k + 1) = 65) := by unfold Hid; omega
      have hm65 : m < 65 := by omega
      clear hm
      rcases hzz with rfl | rfl | rfl | rfl | rfl | rfl | rfl | rfl | rfl | rfl | rfl | rfl | rfl | rfl | rfl | rfl
      all_goals
        go_wp2_with (refine wpList_conv rfl _ 25 9 rfl _ _ rfl (conv_run (buf_step HB.out hm65 HS.out rfl) HM.out) ?_)
        go_ret2
        exact ⟨k, HK0.out, HV.out (by decide), hk, rfl, HN.out.setCell (Nat.le_refl _) _⟩
end Go.Proofs.YtbbnjilajkllpaaGreatDoor
