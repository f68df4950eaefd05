/- strconv.ParseUint's inner walk at base 10, 64 bits. -/
import Derived.Test.YtbbnjilajkllpaaGreatDoorUA
namespace Go.Proofs.YtbbnjilajkllpaaGreatDoor
open Go.RowKit

set_option maxHeartbeats 32000000 in
set_option maxRecDepth 100000 in
theorem pu10_in (t : ByteArray) (hne : t.size ≠ 0) (hmax : t.size ≤ 9223372036854775806) (w : World) :
    Calls Tryz.prog 77 #[.string t, .int .i64 10, .int .i64 64] w fun e w' => e = .returned (puV 18446744073709551615 (pu 10 18446744073709551615 0 t.data.toList)) ∧ Below w.heap.size w w' := by
  have hemp : t.toList.isEmpty = false := by
    rw [← decide_eq_emptyBytes]
    exact decide_eq_false (fun h => hne (by rw [h]; rfl))
  have hcv := Lib.run_convert_string_bytes (P := Tryz.prog) w 9 25 5 t (u := .string) Tryz.underlying9 Tryz.underlying25 Tryz.underlying5
  have hB : ∀ j, j < t.size → (Lib.bytesWorld w 5 t).cell? ⟨w.heap.size, j, none⟩ = some (.int .u8 (t.data.toList.getD j 0).toNat) := fun j hj => Lib.bytesWorld_cell w 5 t j hj
  have HBel : Hid (Below w.heap.size w (Lib.bytesWorld w 5 t)) := ⟨rfl, rfl, rfl, by rw [Lib.bytesWorld_size]; omega, fun k hk => Lib.bytesWorld_at_old w 5 t k hk⟩
  generalize Lib.bytesWorld w 5 t = W1 at hcv hB HBel
  have hLn : t.data.toList.length = t.size := by rw [Lib.size_eq]
  generalize t.data.toList = bs at hB hLn ⊢
  have hmv : IntKind.u64.wrap (IntKind.u64.wrap 18446744073709551616 - 1) = 18446744073709551615 := by rw [IntKind.wrap_u64, IntKind.wrap_u64]; decide
  go_enter Tryz.func77, Tryz.ntmps77
  go_wp2
  go_loop [12, 13, 101] (fun vu vn vi => ∃ (k acc : Nat) (a : Int), vu = .bool false ∧ vn = .int .u64 a ∧ vi = .int .i64 k ∧ k ≤ t.size ∧ Hid (a = (acc : Int) ∧ acc ≤ 18446744073709551615 ∧ pu 10 18446744073709551615 0 bs = pu 10 18446744073709551615 acc (bs.drop k)))
    (fun _ _ vi => t.size - (intOf vi).toNat)
  case atStart => exact ⟨0, 0, 0, rfl, rfl, rfl, by omega, rfl, by omega, rfl⟩
  case round =>
    obtain ⟨k, acc, a, rfl, rfl, rfl, hk, hh⟩ := hrel
    obtain ⟨ha, hacc, hdec⟩ := hh.out
    clear hh
    have a0 : 0 ≤ a := by omega
    have a1 : a ≤ 18446744073709551615 := by omega
    by_cases hkn : k < t.size
    · have hc := hB k hkn
      have hdrop : bs.drop k = bs[k]'(by omega) :: bs.drop (k + 1) := List.drop_eq_getElem_cons (by omega)
      have hget : bs.getD k 0 = bs[k]'(by omega) := by simp [List.getD, List.getElem?_eq_getElem (show k < bs.length by omega)]
      rw [hdrop] at hdec
      rw [hget] at hc
      have hdec' : pu 10 18446744073709551615 0 bs = if 10 ≤ dval (bs[k]'(by omega)).toNat then .error true else if 18446744073709551615 < acc * 10 + dval (bs[k]'(by omega)).toNat then .error false else pu 10 18446744073709551615 (acc * 10 + dval (bs[k]'(by omega)).toNat) (bs.drop (k + 1)) := hdec
      clear hdec hdrop hget hB
      have hc256 : (bs[k]'(by omega)).toNat < 256 := (bs[k]'(by omega)).toNat_lt
      generalize (bs[k]'(by omega)).toNat = c at hc hdec' hc256
      obtain ⟨x, hx, x0, x1, HX⟩ := lower_x c hc256
      have HX' := hide HX
      clear HX
      by_cases hdig : 48 ≤ c ∧ c ≤ 57
      · obtain ⟨hd0, hd1⟩ := hdig
        have hdv : dval c = c - 48 := by unfold dval; rw [if_pos ⟨hd0, hd1⟩]
        rw [hdv, if_neg (show ¬ (10 ≤ c - 48) by omega)] at hdec'
        clear hx x0 x1 HX' hdv
        obtain ⟨d, hd⟩ : ∃ d : Int, d = (c : Int) - 48 := ⟨_, rfl⟩
        by_cases hov : 18446744073709551615 < acc * 10 + (c - 48)
        · rw [if_pos hov] at hdec'
          have HD := hide hdec'
          clear hdec' hd d
          by_cases hcut : (1844674407370955162 : Int) ≤ a
          · clear hov hacc ha
            go_wp2
            go_ret2
            exact ⟨by rw [HD.out]; rfl, HBel.out⟩
          · have icut : a < 1844674407370955162 := by omega
            have iov : 18446744073709551615 < a * 10 + ((c : Int) - 48) := by omega
            have hwr : IntKind.u64.wrap (a * 10 + ((c : Int) - 48)) = a * 10 + ((c : Int) - 48) - 18446744073709551616 := by rw [IntKind.wrap_u64]; omega
            clear hov hacc ha hcut
            go_wp2
            go_ret2
            exact ⟨by rw [HD.out]; rfl, HBel.out⟩
        · rw [if_neg hov] at hdec'
          have HN : Hid (a * 10 + ((c : Int) - 48) = ((acc * 10 + (c - 48) : Nat) : Int) ∧ acc * 10 + (c - 48) ≤ 18446744073709551615 ∧ pu 10 18446744073709551615 0 bs = pu 10 18446744073709551615 (acc * 10 + (c - 48)) (bs.drop (k + 1))) := ⟨by omega, by omega, hdec'⟩
          have icut : a < 1844674407370955162 := by omega
          have iov : a * 10 + ((c : Int) - 48) ≤ 18446744073709551615 := by omega
          clear hdec' hov hacc ha hd d
          go_wp2
          exact ⟨⟨k + 1, acc * 10 + (c - 48), a * 10 + ((c : Int) - 48), rfl, (by first | rfl | (congr 1; omega)), (by first | rfl | (congr 1; omega)), by omega, HN⟩, by simp [intOf]; omega⟩
      · by_cases hus : c = 95
        · subst hus
          have HX2 : Hid (∀ W, Calls Tryz.prog 90 #[.int .u8 95] W fun e w' => e = .returned (.int .u8 127) ∧ w' = W) := by
            intro W
            have := HX'.out W
            rw [hx] at this
            exact this
          rw [show dval 95 = 255 from rfl, if_pos (by omega)] at hdec'
          have HD := hide hdec'
          clear hdec' hx hacc ha HX'
          go_wp2_with (refine (HX2.out _).mono ?_; rintro e w' ⟨rfl, rfl⟩)
          all_goals go_ret2
          all_goals exact ⟨by rw [HD.out]; rfl, HBel.out⟩
        have hne5 : ¬ ((c : Int) = 95) := by omega
        by_cases hlet : 97 ≤ x ∧ x ≤ 122
        · obtain ⟨l0, l1⟩ := hlet
          have hdv : dval c = (c ||| 32) - 87 := by unfold dval; rw [if_neg hdig, if_pos ⟨by omega, by omega⟩]
          rw [hdv] at hdec'
          rw [if_pos (show 10 ≤ (c ||| 32) - 87 by omega)] at hdec'
          have HD := hide hdec'
          clear hdec' hx hacc ha hdv
          go_wp2_with (refine (HX'.out _).mono ?_; rintro e w' ⟨rfl, rfl⟩)
          all_goals go_ret2
          all_goals exact ⟨by rw [HD.out]; rfl, HBel.out⟩
        · have hdv : dval c = 255 := by unfold dval; rw [if_neg hdig, if_neg (by omega)]
          rw [hdv, if_pos (by omega)] at hdec'
          have HD := hide hdec'
          clear hdec' hx hacc ha hdv
          go_wp2_with (refine (HX'.out _).mono ?_; rintro e w' ⟨rfl, rfl⟩)
          all_goals go_ret2
          all_goals exact ⟨by rw [HD.out]; rfl, HBel.out⟩
    · have hkk : k = t.size := by omega
      subst hkk
      have hF : pu 10 18446744073709551615 acc (bs.drop t.size) = .ok acc := by rw [List.drop_eq_nil_of_le (by omega)]; rfl
      rw [hF] at hdec
      have HD : Hid (pu 10 18446744073709551615 0 bs = .ok acc ∧ a = (acc : Int)) := ⟨hdec, ha⟩
      clear hdec hacc hF a0 a1 ha
      go_wp2
      go_ret2
      exact ⟨by rw [HD.out.1, HD.out.2]; rfl, HBel.out⟩
end Go.Proofs.YtbbnjilajkllpaaGreatDoor
