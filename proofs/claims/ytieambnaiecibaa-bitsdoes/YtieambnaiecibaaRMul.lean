/- The walks of the document's own mul, below and value. -/
import Derived.Test.YtieambnaiecibaaRAdd
import Derived.RegionTactic
import Derived.ChangeAlike
namespace Go.Proofs.Ytieambnaiecibaa
open Go.RowKit

theorem made_row {w : World} {base g n : Nat} (h : w.ownsRow base 4 1 (.slice (some ⟨g, 0, none⟩) n n) n (madeCells (Value.bool false).cells (n * 1)).toList) : Row w (.slice (some ⟨g, 0, none⟩) n n) (List.replicate n false) := by
  refine ⟨g, 0, n, by simp, fun i hi => ?_⟩
  simp at hi
  have := World.ownsRow.cellAt h i (by omega)
  rw [Nat.zero_add, this]
  have hl := h.1
  have hb : bitAt (List.replicate n false) i = false := by simp [bitAt, List.getD_eq_getElem?_getD, hi]
  rw [hb]
  simp [madeCells, Value.cells, hi, Nat.mod_one]

theorem mulTo_no {a b : List Bool} {k : Nat} (h : bitAt b k = false) : mulTo a b (k + 1) = mulTo a b k := by
  show (if bitAt b k then addL (mulTo a b k) (upL a k) false else mulTo a b k) = mulTo a b k
  rw [h]; rfl
theorem mulTo_yes {a b : List Bool} {k : Nat} (h : bitAt b k = true) : mulTo a b (k + 1) = addL (mulTo a b k) (upL a k) false := by
  show (if bitAt b k then addL (mulTo a b k) (upL a k) false else mulTo a b k) = _
  rw [h]; rfl

set_option maxHeartbeats 4000000 in
theorem refMul_any (a b : List Bool) (hl : a.length ≤ 128) (hp : 0 < a.length) (hlb : b.length = a.length) (va vb : Value) (w : World) (hva : Row w va a) (hvb : Row w vb b) :
    Calls Try.prog 19 #[va, vb] w fun e w' => ∃ r, e = .returned r ∧ Row w' r (mulTo a b a.length) ∧ Below w.heap.size w w' := by
  have HA := hide hva
  have HU := hide (refUp_any a hl)
  have HD := hide (fun k => refAdd_any (mulTo a b k) (upL a k) false (by rw [mulTo_length]; exact hl) (by rw [mulTo_length, upL_length]))
  obtain ⟨p, off, cap, rfl, ha⟩ := hva
  obtain ⟨q, off2, cap2, rfl, hb⟩ := hvb
  obtain ⟨i0, hi0, hz0, hz1, hz2⟩ := info_parts Try.info4
  rw [hlb]
  rw [hlb] at hb
  clear ha
  go_enter Try.func19, Try.ntmps19
  go_wp2_with (at_make; refine wpList_make_full _ rfl _ _ 38 rfl w.heap.size 4 i0 (.bool false) 1 Try.underlying38 hi0 hz0 hz1 .i64 .i64 _ _ a.length rfl rfl rfl rfl (by rw [hz2]; omega) (by unfold maxLen; omega) (Nat.le_refl _) ?_; intro W0 hm0 hg0)
  have HM0 := hide (made_row hm0)
  have HB0 := hide ((Below.refl w.heap.size w).grown hg0 (Nat.le_refl _) (fun k e => by cases e))
  clear hm0 hg0
  go_loopw [5, 6] (fun v i wr => ∃ k : Nat, k ≤ a.length ∧ i = .int .i64 k ∧ Row wr v (mulTo a b k) ∧ Below w.heap.size w wr) (fun _ i _ => a.length - (intOf i).toNat)
  case atStart => exact ⟨0, Nat.zero_le _, rfl, HM0.out, HB0.out⟩
  case round =>
    obtain ⟨k, hk, rfl, hrow, hnx⟩ := hrel
    have HR := hide hrow; have HN := hide hnx
    by_cases hlt : k < a.length
    · have hcb : wr.cell? ⟨q, off2 + k, none⟩ = some (.bool (bitAt b k)) := by
        rw [hnx.cell (World.block_lt_of_cell? w _ (hb k hlt))]; exact hb k hlt
      clear hb hrow hnx
      cases hx : bitAt b k
      · rw [hx] at hcb
        have HX := hide (mulTo_no (a := a) hx)
        clear hx
        go_wp2
        go_roundw
        case rel => exact ⟨k + 1, by omega, by go_num, by rw [HX.out]; exact HR.out, HN.out⟩
        case measure => simp [intOf]; omega
      · rw [hx] at hcb
        have HX := hide (mulTo_yes (a := a) hx)
        clear hx
        go_wp2_with fail
        refine (HU.out k (by omega) (by omega) _ _ (HA.out.keep HN.out)).mono ?_
        rintro e w1 ⟨r1, rfl, ho1, hb1⟩
        have HO1 := hide ho1; have HB1 := hide hb1
        clear ho1 hb1
        go_wp2_with fail
        refine (HD.out k _ _ _ (HR.out.keep HB1.out) (own_row HO1.out (by rw [upL_length]; exact hp))).mono ?_
        rintro e w2 ⟨r2, rfl, ho2, hb2⟩
        have HO2 := hide ho2; have HB2 := hide hb2
        clear ho2 hb2
        go_wp2
        go_roundw
        case rel => exact ⟨k + 1, by omega, by go_num, by rw [HX.out]; exact own_row HO2.out (by rw [addL_length, mulTo_length]; exact hp), (HN.out.trans (HB1.out.mono HN.out.size)).trans (HB2.out.mono (Nat.le_trans HN.out.size HB1.out.size))⟩
        case measure => simp [intOf]; omega
    · have hkk : Hid (k = a.length) := by unfold Hid; omega
      clear hnx hk hb hrow
      go_wp2
      go_ret
      exact ⟨_, rfl, by have h := HR.out; rw [hkk.out] at h; exact h, HN.out⟩

set_option maxHeartbeats 2000000 in
theorem refBelow_any (a b : List Bool) (hl : a.length ≤ 128) (hlb : b.length = a.length) (va vb : Value) (w : World) (hva : Row w va a) (hvb : Row w vb b) :
    Calls Try.prog 24 #[va, vb] w fun e w' => e = .returned (.bool (decide (valL a < valL b))) ∧ Below w.heap.size w w' := by
  obtain ⟨p, off, cap, rfl, ha⟩ := hva
  obtain ⟨q, off2, cap2, rfl, hb⟩ := hvb
  rw [hlb]
  rw [hlb] at hb
  go_enter Try.func24, Try.ntmps24
  go_wp2
  go_loopw [5] (fun i wr => ∃ k : Nat, k ≤ a.length ∧ i = .int .i64 ((k : Int) - 1) ∧ a.drop k = b.drop k ∧ Below w.heap.size w wr) (fun i _ => (intOf i + 1).toNat)
  case atStart => exact ⟨a.length, Nat.le_refl _, rfl, by rw [List.drop_eq_nil_of_le (Nat.le_refl _), List.drop_eq_nil_of_le (by omega)], Below.refl _ _⟩
  case round =>
    obtain ⟨k, hk, rfl, hdr, hnx⟩ := hrel
    have HD := hide hdr; have HN := hide hnx
    clear hdr
    cases k with
    | zero =>
      have hv : Hid (decide (valL a < valL b) = false) := by
        unfold Hid
        have h := HD.out
        simp only [List.drop_zero] at h
        rw [h]; simp
      clear ha hb hnx
      go_wp2
      go_ret
      exact ⟨by rw [hv.out]; rfl, HN.out⟩
    | succ j =>
      have hlt : j < a.length := by omega
      have ej : ((j + 1 : Nat) : Int) - 1 = (j : Int) := by omega
      rw [ej]
      have hca : wr.cell? ⟨p, off + j, none⟩ = some (.bool (bitAt a j)) := by
        rw [hnx.cell (World.block_lt_of_cell? w _ (ha j hlt))]; exact ha j hlt
      have hcb : wr.cell? ⟨q, off2 + j, none⟩ = some (.bool (bitAt b j)) := by
        rw [hnx.cell (World.block_lt_of_cell? w _ (hb j hlt))]; exact hb j hlt
      have hlI : (j : Int) < (a.length : Int) := by omega
      clear ha hb hnx ej hk
      by_cases he : bitAt a j = bitAt b j
      · have HX : Hid (a.drop j = b.drop j) := by
          unfold Hid
          rw [List.drop_eq_getElem_cons hlt, List.drop_eq_getElem_cons (by omega : j < b.length), HD.out, ← bitAt_get hlt, ← bitAt_get (by omega : j < b.length), he]
        rw [he] at hca
        clear he
        generalize bitAt b j = y at *
        cases y
        all_goals
          go_wp2
          go_region
        all_goals
          go_wp2
          go_roundw
          case rel => exact ⟨j, by omega, by go_num, HX.out, HN.out.drew⟩
          case measure => (simp [intOf]) <;> omega
      · have HX : Hid (decide (valL a < valL b) = bitAt b j) := by
          unfold Hid
          rw [bitAt_get hlt, bitAt_get (by omega : j < b.length)] at he
          rw [bitAt_get (by omega : j < b.length)]
          exact below_tell a b hlb j hlt HD.out he
        generalize bitAt a j = x at *
        generalize bitAt b j = y at *
        cases x
        · cases y
          · exact absurd rfl he
          · clear he
            go_wp2
            go_region
            all_goals
              go_wp2
              go_ret
              exact ⟨by rw [HX.out]; rfl, HN.out.drew⟩
        · cases y
          · clear he
            go_wp2
            go_region
            all_goals
              go_wp2
              go_ret
              exact ⟨by rw [HX.out]; rfl, HN.out.drew⟩
          · exact absurd rfl he

theorem value_stop {l : List Bool} {k : Nat} (h : 1000 ≤ valL (l.drop k)) : min (valL l) 1000 = 1000 := by
  have e := valL_drop l k
  have : valL (l.drop k) ≤ 2 ^ k * valL (l.drop k) := Nat.le_mul_of_pos_left _ (Nat.pow_pos (by decide))
  omega

theorem drop_num {a z : Nat} {x : Bool} (h : a = x.toNat + 2 * z) : Value.int .i64 (if x then 2 * (z : Int) + 1 else 2 * (z : Int)) = .int .i64 (a : Int) := by
  rw [h]; cases x <;> simp <;> omega

set_option maxRecDepth 100000 in
set_option maxHeartbeats 2000000 in
theorem refValue_any (l : List Bool) (hl : l.length ≤ 128) (v : Value) (w : World) (hv : Row w v l) :
    Calls Try.prog 22 #[v] w fun e w' => e = .returned (.int .i64 ((min (valL l) 1000 : Nat) : Int)) ∧ w' = w := by
  obtain ⟨b, off, cap, rfl, hc⟩ := hv
  go_enter Try.func22, Try.ntmps22
  go_wp2
  go_loop [3, 4] (fun n i => ∃ k : Nat, k ≤ l.length ∧ i = .int .i64 ((k : Int) - 1) ∧ n = .int .i64 ((valL (l.drop k) : Nat) : Int) ∧ valL (l.drop k) ≤ 2000) (fun _ i => (intOf i + 1).toNat)
  case atStart => exact ⟨l.length, Nat.le_refl _, rfl, by rw [List.drop_eq_nil_of_le (Nat.le_refl _)]; rfl, by rw [List.drop_eq_nil_of_le (Nat.le_refl _)]; exact Nat.zero_le _⟩
  case round =>
    obtain ⟨k, hk, rfl, rfl, hn⟩ := hrel
    cases k with
    | zero =>
      have hv : Hid (((min (valL (l.drop 0)) 1000 : Nat) : Int) = ((min (valL l) 1000 : Nat) : Int)) := by unfold Hid; rw [List.drop_zero]
      generalize valL (l.drop 0) = z at *
      clear hc
      go_wp2
      all_goals
        go_ret
        exact ⟨ret_int (by rw [← hv.out]; omega), rfl⟩
    | succ j =>
      have hlt : j < l.length := by omega
      have ej : ((j + 1 : Nat) : Int) - 1 = (j : Int) := by omega
      rw [ej]
      have hck := hc j hlt
      have hlI : (j : Int) < (l.length : Int) := by omega
      have HV := hide (valL_drop_step l j hlt)
      rw [← bitAt_get hlt] at HV
      have HST := hide (fun h => value_stop (l := l) (k := j + 1) h)
      clear hc ej hk
      generalize valL (l.drop (j + 1)) = z at *
      generalize bitAt l j = x at *
      by_cases hz : z < 1000
      · cases x
        all_goals
          go_wp2
          go_round
          case rel => exact ⟨j, by omega, by go_num, drop_num HV.out, by have := HV.out; simp at this; omega⟩
          case measure => (simp [intOf]) <;> omega
      · have hz' : decide ((z : Int) < 1000) = false := by simp; omega
        have hv : Hid (((min (valL l) 1000 : Nat) : Int) = 1000) := by unfold Hid; rw [HST.out (by omega)]; rfl
        clear HST HV hck
        go_wp2
        all_goals
          go_ret
          exact ⟨ret_int (by rw [hv.out] <;> omega), rfl⟩
end Go.Proofs.Ytieambnaiecibaa
