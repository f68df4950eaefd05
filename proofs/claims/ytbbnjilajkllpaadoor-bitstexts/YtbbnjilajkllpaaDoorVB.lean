/- The document's Text. -/
import Derived.Test.YtbbnjilajkllpaaDoorVA
import Derived.Test.YtbbnjilajkllpaaDoorNV
namespace Go.Proofs.YtbbnjilajkllpaaDoor
open Go.RowKit

theorem mod_step4 (v m : Nat) : v % 2 ^ (m + 1) = 2 * ((v / 2) % 2 ^ m) + v % 2 := by
  rw [Nat.pow_succ, Nat.mul_comm, Nat.mod_mul]; omega
theorem part4_step (u at' i m : Nat) : (u / 2 ^ (at' + i)) % 2 ^ (m + 1) = 2 * ((u / 2 ^ (at' + (i + 1))) % 2 ^ m) + (u.testBit (at' + i)).toNat := by
  rw [mod_step4, Nat.div_div_eq_div_mul, ← Nat.pow_succ, ← Nat.add_assoc, Nat.testBit_eq_decide_div_mod_eq]
  rcases Nat.mod_two_eq_zero_or_one (u / 2 ^ (at' + i)) with h | h <;> simp [h]
set_option maxHeartbeats 2000000 in
theorem part4_row (l : List Bool) (b off cap A : Nat) (w : World) (hc : ∀ i (h : i < l.length), w.cell? ⟨b, off + i, none⟩ = some (.bool l[i])) (hl : l.length ≤ 128) (hA : A ≤ 1000) :
    Calls Tryd.prog 13 #[.slice (some ⟨b, off, none⟩) l.length cap, .int .i64 A, .int .i64 4] w fun e w' => e = .returned (.int .i64 ((valL l / 2 ^ A % 16 : Nat) : Int)) ∧ w' = w := by
  obtain ⟨V, hV⟩ : ∃ V, valL l / 2 ^ A % 16 = V := ⟨_, rfl⟩
  obtain ⟨n, hn⟩ : ∃ n, l.length = n := ⟨_, rfl⟩
  rw [hV, hn]
  have HV := hide hV; have HC := hide hc; have HN := hide hn; have HAA := hide hA; have HLL := hide hl
  clear hV hc hn hl hA
  go_enter Tryd.func13, Tryd.ntmps13
  go_wp2
  go_loop [7, 8] (fun z i => ∃ (k t : Nat) (ik : Int), k ≤ 4 ∧ i = .int .i64 ik ∧ z = .int .i64 (t : Int) ∧ Hid (ik = (k : Int) - 1) ∧ Hid (t = valL l / 2 ^ (A + k) % 2 ^ (4 - k))) (fun _ i => (intOf i + 1).toNat)
  case atStart => exact ⟨4, 0, 3, by omega, rfl, rfl, by exact rfl, by show (0 : Nat) = _; simp [Nat.mod_one]⟩
  case round =>
    obtain ⟨k, t, ik, hk, rfl, rfl, HI, HT⟩ := hrel
    have ht256 : t < 16 := by
      rw [HT.out]
      exact Nat.lt_of_lt_of_le (Nat.mod_lt _ (Nat.pow_pos (by decide))) (show 2 ^ (4 - k) ≤ 2 ^ 4 from Nat.pow_le_pow_right (by decide) (by omega))
    cases k with
    | zero =>
      obtain rfl : ik = -1 := by have := HI.out; omega
      have HE : Hid (t = V) := hide (by rw [HT.out, ← HV.out]; simp)
      clear ht256
      go_wp2
      go_ret
      exact ⟨by rw [← HE.out]; rfl, rfl⟩
    | succ j =>
      obtain rfl : ik = (j : Int) := by have := HI.out; omega
      obtain ⟨I, hI⟩ : ∃ I, A + j = I := ⟨_, rfl⟩
      have hA := HAA.out
      have w1 : wrap64 ((A : Int) + (j : Int)) = (I : Int) := by unfold wrap64; omega
      have w2 : wrap64 (2 * (t : Int)) = ((2 * t : Nat) : Int) := by unfold wrap64; omega
      have w2' : wrap64 ((t : Int) * 2) = ((2 * t : Nat) : Int) := by unfold wrap64; omega
      have d0 : ((j : Int) ≥ 0) = True := eq_true (by omega)
      have d0' : ((0 : Int) ≤ (j : Int)) = True := eq_true (by omega)
      have HS : Hid (valL l / 2 ^ (A + j) % 2 ^ (4 - j) = 2 * t + ((valL l).testBit (A + j)).toNat) := hide (by
        rw [show 4 - j = (4 - (j + 1)) + 1 by omega, part4_step, ← HT.out])
      obtain ⟨T2, hT2⟩ : ∃ T2, 2 * t = T2 := ⟨_, rfl⟩
      rw [hT2] at w2 w2' HS
      have hT2b : T2 < 1000 := by omega
      rw [hI] at HS
      by_cases hlt : I < n
      · have hIl : I < l.length := by rw [HN.out]; exact hlt
        have hcell := HC.out I hIl
        have hbit : (valL l).testBit I = l[I] := by rw [valL_bit, bitAt_get hIl]
        have e1 : ((I : Int) < (n : Int)) = True := eq_true (by omega)
        have e2 : (I < n) = True := eq_true hlt
        rw [hbit] at HS
        cases hb : l[I] with
        | false =>
          rw [hb] at hcell HS
          clear hb hbit ht256 hT2
          go_wp2
          go_round
          case rel => exact ⟨j, T2, (j : Int) - 1, by omega, by go_num, rfl, by exact rfl, by have := HS.out; rw [show A + j = I from hI]; exact hide (by simpa using this.symm)⟩
          case measure => simp [intOf]
        | true =>
          rw [hb] at hcell HS
          clear hb hbit ht256 hT2
          go_wp2
          go_round
          case rel => exact ⟨j, T2 + 1, (j : Int) - 1, by omega, by go_num, by go_num, by exact rfl, by have := HS.out; rw [show A + j = I from hI]; exact hide (by simpa using this.symm)⟩
          case measure => simp [intOf]
      · have hbit : (valL l).testBit I = false := by
          rw [valL_bit]
          cases hb : bitAt l I with
          | false => rfl
          | true => have := bitAt_lt hb; rw [HN.out] at this; omega
        have e1 : ((I : Int) < (n : Int)) = False := eq_false (by omega)
        have e2 : (I < n) = False := eq_false hlt
        have e3 : decide ((I : Int) < (n : Int)) = false := decide_eq_false (by omega)
        rw [hbit] at HS
        clear hbit ht256 hT2
        go_wp2
        go_round
        case rel => exact ⟨j, T2, (j : Int) - 1, by omega, by go_num, rfl, by exact rfl, by have := HS.out; rw [show A + j = I from hI]; exact hide (by simpa using this.symm)⟩
        case measure => simp [intOf]
/- what the digits above a place come to, without noughts ahead. -/
def stx (v k : Nat) : List UInt8 := if v / 16 ^ k = 0 ∧ k ≠ 0 then [] else hx (v / 16 ^ k)
theorem stx_top (v : Nat) (hv : v < 340282366920938463463374607431768211456) : stx v 32 = [] := by
  have e : (16 : Nat) ^ 32 = 340282366920938463463374607431768211456 := by decide
  unfold stx
  rw [e, Nat.div_eq_of_lt hv, if_pos ⟨rfl, by decide⟩]
theorem stx_zero (v : Nat) : stx v 0 = hx v := by unfold stx; rw [if_neg (by omega)]; simp
theorem div16 (v k : Nat) : v / 16 ^ k = v / 16 ^ (k + 1) * 16 + v / 16 ^ k % 16 := by
  rw [Nat.pow_succ, ← Nat.div_div_eq_div_mul]; omega
theorem stx_more {v k : Nat} (h : stx v (k + 1) ≠ [] ∨ 0 < v / 16 ^ k % 16 ∨ k = 0) : stx v k = stx v (k + 1) ++ [(dig (v / 16 ^ k % 16)).toUInt8] := by
  have e := div16 v k
  have hm : v / 16 ^ k % 16 < 16 := Nat.mod_lt _ (by decide)
  by_cases h0 : v / 16 ^ (k + 1) = 0
  · have h1 : stx v (k + 1) = [] := by unfold stx; rw [if_pos ⟨h0, by omega⟩]
    rw [h1, List.nil_append]
    rw [h0, Nat.zero_mul, Nat.zero_add] at e
    unfold stx
    rw [if_neg (by rcases h with h | h | h; · exact absurd h1 h
                   · omega
                   · omega), hx_small (by omega), ← e]
  · have h1 : stx v (k + 1) = hx (v / 16 ^ (k + 1)) := by unfold stx; rw [if_neg (by omega)]
    rw [h1]
    unfold stx
    rw [if_neg (by omega), hx_big (by omega)]
    congr 2; omega
theorem stx_same {v k : Nat} (h1 : stx v (k + 1) = []) (h2 : v / 16 ^ k % 16 = 0) (h3 : k ≠ 0) : stx v k = [] := by
  have e := div16 v k
  have h0 : v / 16 ^ (k + 1) = 0 := by
    unfold stx at h1
    by_cases h : v / 16 ^ (k + 1) = 0
    · exact h
    · rw [if_neg (by omega)] at h1; exact absurd h1 (hx_nil _)
  unfold stx
  rw [if_pos ⟨by omega, h3⟩]
theorem stx_len (v k : Nat) (hv : v < 340282366920938463463374607431768211456) : (stx v k).length ≤ 32 := by
  unfold stx
  split
  · simp
  · exact (tx_le 1 _ (by omega) (Nat.lt_of_le_of_lt (Nat.div_le_self _ _) hv)).2
def hexS : ByteArray := ⟨#[48, 49, 50, 51, 52, 53, 54, 55, 56, 57, 97, 98, 99, 100, 101, 102]⟩
theorem ext16 : ∀ x : Fin 16, hexS.extract x.val (x.val + 1) = txt [(dig x.val).toUInt8] := by decide +kernel
theorem ext16' {x : Nat} (h : x < 16) : hexS.extract x (x + 1) = txt [(dig x).toUInt8] := ext16 ⟨x, h⟩
theorem refText_no (n : Int) (v : Nat) (w : World) (hv : v < top) (ho : okN n v = false) :
    Calls Tryd.prog 5 #[.agg #[.int .i64 n, .int .u64 (wHi v), .int .u64 (wLo v)]] w fun e w' => e = .returned (.tuple #[.string (txt []), .int .i64 1]) ∧ Below w.heap.size w w' := by
  have HC := hide (fun W => refCheckV n v W hv false ho)
  generalize wHi v = h1 at *
  generalize wLo v = l1 at *
  clear ho hv
  go_enter Tryd.func5, Tryd.ntmps5
  go_wp2_with fail
  refine (HC.out _).mono ?_
  rintro e w1 ⟨rfl, hb⟩
  have HW : Hid (Below w.heap.size w w1) := ((Below.refl _ _).alloc (Nat.le_refl _) _).trans (hb.mono (by simp))
  clear hb
  go_wp2
  go_ret2
  exact ⟨rfl, HW.out⟩
set_option maxHeartbeats 2000000 in
set_option maxRecDepth 100000 in
theorem refText_yes (N v : Nat) (w : World) (hv : v < top) (ho : okN N v = true) :
    Calls Tryd.prog 5 #[.agg #[.int .i64 N, .int .u64 (wHi v), .int .u64 (wLo v)]] w fun e w' => e = .returned (.tuple #[.string (txt (tx N v)), .int .i64 0]) ∧ Below w.heap.size w w' := by
  have HC := hide (fun W => refCheckV N v W hv true ho)
  have hn : 1 ≤ N ∧ N ≤ 128 ∧ v < 2 ^ N := by
    unfold okN mayBe at ho
    simp at ho
    exact ⟨by omega, by omega, ho.2⟩
  have HBi := hide (fun W => refBitsV N v W hv (by omega))
  have hlv := lst_val (n := N) (u := v) (by omega) (by simpa using hn.2.2)
  have hll : (lst N v).length = N := by rw [lst_length]; simp
  have HDi := hide (refDigits N (by omega))
  have hle := tx_le N v (by omega) (by unfold top at hv; exact hv)
  have HX : Hid ((txt (Lib.decDigits N) ++ txt [119]) ++ txt (hx v) = txt (tx N v)) := by unfold Hid; rw [cat_txt, cat_txt]; congr 1; simp [tx]
  have hs1 : ¬ 9223372036854775807 < (txt (Lib.decDigits N)).size + 1 := by rw [txt_size]; omega
  have hs2 : ¬ 9223372036854775807 < (txt (Lib.decDigits N)).size + 1 + (txt (hx v)).size := by rw [txt_size, txt_size]; omega
  have HV : Hid (v < 340282366920938463463374607431768211456) := by unfold top at hv; exact hv
  generalize txt (tx N v) = R at *
  generalize txt (Lib.decDigits N) = A at *
  have HHN := hide hn
  rw [Int.toNat_natCast] at HBi
  generalize wHi v = h1 at *
  generalize wLo v = l1 at *
  clear ho hle hn hv
  generalize lst N v = L at *
  have hL0 : 0 < L.length := by have := HHN.out; omega
  have HLL := hide hll; have HLV := hide hlv; have HL0 := hide hL0
  clear hll hlv hL0
  go_enter Tryd.func5, Tryd.ntmps5
  go_wp2_with fail
  refine (HC.out _).mono ?_
  rintro e w1 ⟨rfl, hb⟩
  have hz : w.heap.size < w1.heap.size := by have := hb.size; simp at this; omega
  have hk := cells3T hb
  have HW : Hid (Below w.heap.size w w1) := ((Below.refl _ _).alloc (Nat.le_refl _) _).trans (hb.mono (by simp))
  clear hb
  obtain ⟨hk0, hk1, hk2⟩ := hk
  go_wp2_with fail
  refine (HBi.out _).mono ?_
  rintro e w2 ⟨r, rfl, hrow, hb⟩
  have HW2 : Hid (Below w.heap.size w w2) := HW.out.trans (hb.mono (by omega))
  have hk0' : w2.cell? ⟨w.heap.size, 0, none⟩ = some (.int .i64 N) := (hb.cell hz).trans hk0
  have hbr := brow_of_own hrow
  clear hb hk0 hk1 hk2 hrow
  obtain ⟨rfl, hnil⟩ | ⟨b, off, cap, rfl, hcell⟩ := hbr
  · exfalso; have := HL0.out; rw [hnil] at this; simp at this
  have HP : Hid (∀ i : Nat, i ≤ 31 → Calls Tryd.prog 13 #[.slice (some ⟨b, off, none⟩) L.length cap, .int .i64 ((4 * i : Nat) : Int), .int .i64 4] w2 fun e w' => e = .returned (.int .i64 ((v / 16 ^ i % 16 : Nat) : Int)) ∧ w' = w2) := fun i hi => by
    have := part4_row L b off cap (4 * i) w2 hcell (by have := HLL.out; have := HHN.out; omega) (by omega)
    rw [HLV.out, show 2 ^ (4 * i) = 16 ^ i by rw [Nat.pow_mul]] at this
    exact this
  clear hcell
  generalize L.length = LL at *
  go_wp2
  go_loop [5, 6] (fun vs vi => ∃ (k : Nat) (i : Int) (S : ByteArray), k ≤ 32 ∧ vs = .string S ∧ vi = .int .i64 i ∧ i = (k : Int) - 1 ∧ Hid (S = txt (stx v k))) (fun _ vi => (intOf vi + 1).toNat)
  case atStart => exact ⟨32, 31, ⟨#[]⟩, by omega, rfl, rfl, by omega, by unfold Hid; rw [stx_top v HV.out]; rfl⟩
  case round =>
    obtain ⟨k, i, S, hk, rfl, rfl, hi, HS⟩ := hrel
    cases k with
    | zero =>
      obtain rfl : i = -1 := by omega
      have e0 : S = txt (hx v) := by rw [HS.out, stx_zero]
      rw [← e0] at hs2 HX
      clear hi HS e0
      go_wp2_with fail
      refine (HDi.out _).mono ?_
      rintro e w3 ⟨rfl, rfl⟩
      go_wp2
      go_ret2
      exact ⟨by rw [← HX.out]; rfl, HW2.out⟩
    | succ j =>
      obtain rfl : i = (j : Int) := by omega
      have hPj := hide (HP.out j (by omega))
      have hSs : S.size ≤ 32 := by rw [HS.out, txt_size]; exact stx_len _ _ HV.out
      have hm4 : wrap64 (4 * (j : Int)) = ((4 * j : Nat) : Int) := by unfold wrap64; omega
      have hm4' : IntKind.i64.wrap (4 * (j : Int)) = ((4 * j : Nat) : Int) := by rw [IntKind.wrap_i64]; omega
      generalize ((4 * j : Nat) : Int) = J4 at *
      have hd16 : v / 16 ^ j % 16 < 16 := Nat.mod_lt _ (by decide)
      have HM : Hid ((stx v (j + 1) ≠ [] ∨ 0 < v / 16 ^ j % 16 ∨ j = 0) → stx v j = stx v (j + 1) ++ [(dig (v / 16 ^ j % 16)).toUInt8]) := stx_more
      have HN : Hid (stx v (j + 1) = [] → v / 16 ^ j % 16 = 0 → j ≠ 0 → stx v j = []) := stx_same
      clear hi
      generalize v / 16 ^ j % 16 = d at *
      have hs3 : ¬ 9223372036854775807 < S.size + 1 := by omega
      have hs4 : ¬ 9223372036854775807 < S.size + (min (d + 1) 16 - d) := by omega
      have HEX : Hid (hexS.extract d (d + 1) = txt [(dig d).toUInt8]) := ext16' hd16
      go_wp2_with fail
      refine hPj.out.mono ?_
      rintro e w3 ⟨rfl, rfl⟩
      by_cases hne : stx v (j + 1) = []
      · have hSe : S = ⟨#[]⟩ := by rw [HS.out, hne]; rfl
        by_cases hd0 : d = 0
        · by_cases hj : j = 0
          · have HF : Hid ((⟨#[]⟩ : ByteArray) ++ hexS.extract d (d + 1) = txt (stx v j)) := by
              unfold Hid; rw [HEX.out, ← txt_nil, cat_txt, HM.out (.inr (.inr hj)), hne]
            subst hSe hd0 hj
            clear HS hne HM HN HEX
            go_wp2
            exact ⟨⟨0, -1, _, by omega, rfl, by go_num, by omega, HF⟩, by simp [intOf]⟩
          · have HF : Hid ((⟨#[]⟩ : ByteArray) = txt (stx v j)) := by unfold Hid; rw [HN.out hne hd0 hj]; rfl
            subst hSe hd0
            have hjI : ¬ ((j : Int) = 0) := by omega
            clear HS hne HM HN HEX
            go_wp2
            exact ⟨⟨j, (j : Int) - 1, _, by omega, rfl, by go_num, by omega, HF⟩, by simp [intOf]⟩
        · have HF : Hid ((⟨#[]⟩ : ByteArray) ++ hexS.extract d (d + 1) = txt (stx v j)) := by
            unfold Hid; rw [HEX.out, ← txt_nil, cat_txt, HM.out (.inr (.inl (by omega))), hne]
          subst hSe
          have hdI : (0 : Int) < (d : Int) := by omega
          clear HS hne HM HN HEX
          go_wp2
          exact ⟨⟨j, (j : Int) - 1, _, by omega, rfl, by go_num, by omega, HF⟩, by simp [intOf]⟩
      · have HF : Hid (S ++ hexS.extract d (d + 1) = txt (stx v j)) := by
          unfold Hid; rw [HEX.out, HS.out, cat_txt, HM.out (.inl hne)]
        have hemp : S.toList.isEmpty = false := by
          rw [Lib.toList_data, HS.out, txt_data]
          cases h : stx v (j + 1) with
          | nil => exact absurd h hne
          | cons _ _ => rfl
        clear HS hne HM HN HEX
        go_wp2
        exact ⟨⟨j, (j : Int) - 1, _, by omega, rfl, by go_num, by omega, HF⟩, by simp [intOf]⟩
end Go.Proofs.YtbbnjilajkllpaaDoor
