/- The document's own part and Bytes. -/
import Derived.Test.YtcjcgepmaiilbaaGreatDoorNV
import Derived.Test.YtcjcgepmaiilbaaGreatDoorNB
namespace Go.Proofs.YtcjcgepmaiilbaaGreatDoor
open Go.RowKit

theorem mod_step (v m : Nat) : v % 2 ^ (m + 1) = 2 * ((v / 2) % 2 ^ m) + v % 2 := by
  rw [Nat.pow_succ, Nat.mul_comm, Nat.mod_mul]; omega
theorem part_step (u at' i m : Nat) : (u / 2 ^ (at' + i)) % 2 ^ (m + 1) = 2 * ((u / 2 ^ (at' + (i + 1))) % 2 ^ m) + (u.testBit (at' + i)).toNat := by
  rw [mod_step, Nat.div_div_eq_div_mul, ← Nat.pow_succ, ← Nat.add_assoc, Nat.testBit_eq_decide_div_mod_eq]
  rcases Nat.mod_two_eq_zero_or_one (u / 2 ^ (at' + i)) with h | h <;> simp [h]
set_option maxHeartbeats 2000000 in
theorem part_row (l : List Bool) (b off cap A : Nat) (w : World) (hc : ∀ i (h : i < l.length), w.cell? ⟨b, off + i, none⟩ = some (.bool l[i])) (hl : l.length ≤ 128) (hA : A ≤ 1000) :
    Calls Tryz.prog 19 #[.slice (some ⟨b, off, none⟩) l.length cap, .int .i64 A, .int .i64 8] w fun e w' => e = .returned (.int .i64 ((valL l / 2 ^ A % 256 : Nat) : Int)) ∧ w' = w := by
  obtain ⟨V, hV⟩ : ∃ V, valL l / 2 ^ A % 256 = V := ⟨_, rfl⟩
  obtain ⟨n, hn⟩ : ∃ n, l.length = n := ⟨_, rfl⟩
  rw [hV, hn]
  have HV := hide hV; have HC := hide hc; have HN := hide hn; have HAA := hide hA; have HLL := hide hl
  clear hV hc hn hl hA
  go_enter Tryz.func19, Tryz.ntmps19
  go_wp2
  go_loop [7, 8] (fun z i => ∃ (k t : Nat) (ik : Int), k ≤ 8 ∧ i = .int .i64 ik ∧ z = .int .i64 (t : Int) ∧ Hid (ik = (k : Int) - 1) ∧ Hid (t = valL l / 2 ^ (A + k) % 2 ^ (8 - k))) (fun _ i => (intOf i + 1).toNat)
  case atStart => exact ⟨8, 0, 7, by omega, rfl, rfl, by exact rfl, by show (0 : Nat) = _; simp [Nat.mod_one]⟩
  case round =>
    obtain ⟨k, t, ik, hk, rfl, rfl, HI, HT⟩ := hrel
    have ht256 : t < 256 := by
      rw [HT.out]
      exact Nat.lt_of_lt_of_le (Nat.mod_lt _ (Nat.pow_pos (by decide))) (show 2 ^ (8 - k) ≤ 2 ^ 8 from Nat.pow_le_pow_right (by decide) (by omega))
    cases k with
    | zero =>
      obtain rfl : ik = -1 := by have := HI.out; omega
      have HE : Hid (t = V) := hide (by rw [HT.out, ← HV.out]; simp)
      clear ht256
      go_wp2
      go_ret
      exact ⟨by rw [← HE.out]; rfl, rfl⟩
    | succ j =>
      obtain rfl : ik = (j : Int) := by have := HI.out; omega
      obtain ⟨I, hI⟩ : ∃ I, A + j = I := ⟨_, rfl⟩
      have hA := HAA.out
      have w1 : wrap64 ((A : Int) + (j : Int)) = (I : Int) := by unfold wrap64; omega
      have w2 : wrap64 (2 * (t : Int)) = ((2 * t : Nat) : Int) := by unfold wrap64; omega
      have w2' : wrap64 ((t : Int) * 2) = ((2 * t : Nat) : Int) := by unfold wrap64; omega
      have d0 : ((j : Int) ≥ 0) = True := eq_true (by omega)
      have d0' : ((0 : Int) ≤ (j : Int)) = True := eq_true (by omega)
      have HS : Hid (valL l / 2 ^ (A + j) % 2 ^ (8 - j) = 2 * t + ((valL l).testBit (A + j)).toNat) := hide (by
        rw [show 8 - j = (8 - (j + 1)) + 1 by omega, part_step, ← HT.out])
      obtain ⟨T2, hT2⟩ : ∃ T2, 2 * t = T2 := ⟨_, rfl⟩
      rw [hT2] at w2 w2' HS
      have hT2b : T2 < 1000 := by omega
      rw [hI] at HS
      by_cases hlt : I < n
      · have hIl : I < l.length := by rw [HN.out]; exact hlt
        have hcell := HC.out I hIl
        have hbit : (valL l).testBit I = l[I] := by rw [valL_bit, bitAt_get hIl]
        have e1 : ((I : Int) < (n : Int)) = True := eq_true (by omega)
        have e2 : (I < n) = True := eq_true hlt
        rw [hbit] at HS
        cases hb : l[I] with
        | false =>
          rw [hb] at hcell HS
          clear hb hbit ht256 hT2
          go_wp2
          go_round
          case rel => exact ⟨j, T2, (j : Int) - 1, by omega, by go_num, rfl, by exact rfl, by have := HS.out; rw [show A + j = I from hI]; exact hide (by simpa using this.symm)⟩
          case measure => simp [intOf]
        | true =>
          rw [hb] at hcell HS
          clear hb hbit ht256 hT2
          go_wp2
          go_round
          case rel => exact ⟨j, T2 + 1, (j : Int) - 1, by omega, by go_num, by go_num, by exact rfl, by have := HS.out; rw [show A + j = I from hI]; exact hide (by simpa using this.symm)⟩
          case measure => simp [intOf]
      · have hbit : (valL l).testBit I = false := by
          rw [valL_bit]
          cases hb : bitAt l I with
          | false => rfl
          | true => have := bitAt_lt hb; rw [HN.out] at this; omega
        have e1 : ((I : Int) < (n : Int)) = False := eq_false (by omega)
        have e2 : (I < n) = False := eq_false hlt
        have e3 : decide ((I : Int) < (n : Int)) = false := decide_eq_false (by omega)
        rw [hbit] at HS
        clear hbit ht256 hT2
        go_wp2
        go_round
        case rel => exact ⟨j, T2, (j : Int) - 1, by omega, by go_num, rfl, by exact rfl, by have := HS.out; rw [show A + j = I from hI]; exact hide (by simpa using this.symm)⟩
        case measure => simp [intOf]
def bytesOf (u N : Nat) : List Nat := (List.range N).map (byteAt u N)
theorem bytesOf_cells (u N : Nat) : byteTo u N N = u8s (bytesOf u N) := by
  unfold byteTo u8s bytesOf
  rw [List.map_map]
  apply List.map_congr_left
  intro j hj
  rw [if_pos (List.mem_range.1 hj)]
  rfl
theorem bytesOf_length (u N : Nat) : (bytesOf u N).length = N := by simp [bytesOf]
theorem bytesOf_lt (u N : Nat) : ∀ x ∈ bytesOf u N, x < 256 := fun x hx => by
  obtain ⟨j, _, rfl⟩ := List.mem_map.1 hx
  exact Nat.mod_lt _ (by decide)
theorem own8_lower' {W : World} {B B' : Nat} {v : Value} {xs : List Nat} (h : Own8 W B v xs) (hb : B' ≤ B) : Own8 W B' v xs := by
  refine ⟨h.1, ?_⟩
  rcases h.2 with h0 | ⟨gr, cap, cur, e, hg, rest⟩
  · exact .inl h0
  · exact .inr ⟨gr, cap, cur, e, Nat.le_trans hb hg, rest⟩
theorem bytesOf_take (u N k : Nat) (hk : k < N) : (bytesOf u N).take k ++ [u / 2 ^ (8 * (N - 1 - k)) % 256] = (bytesOf u N).take (k + 1) := by
  rw [List.take_add_one, List.getElem?_eq_getElem (by rw [bytesOf_length]; exact hk)]
  simp [bytesOf, byteAt]
set_option maxHeartbeats 2000000 in
theorem refBytes_yes (n : Int) (u : Nat) (w : World) (hu : u < top) (b0 : 1 ≤ n) (b1 : n ≤ 128) (b2 : u < 2 ^ n.toNat) :
    Calls Tryz.prog 6 #[.agg #[.int .i64 n, .int .u64 (wHi u), .int .u64 (wLo u)]] w fun e w' => ∃ v, e = .returned (.tuple #[v, .int .i64 0]) ∧ Own8 w' w.heap.size v (bytesOf u ((n.toNat + 7) / 8)) ∧ Below w.heap.size w w' := by
  have HCK := hide (fun W => refCheckV n u W hu true (by unfold okN; rw [mayBe_yes b0 b1]; simpa using b2))
  have HBI := hide (fun W => refBitsV n u W hu b1)
  obtain ⟨i0, hi0, hz0, hz1, hz2⟩ := info_parts Tryz.info8
  obtain ⟨N, hN⟩ : ∃ N, (n.toNat + 7) / 8 = N := ⟨_, rfl⟩
  have hN16 : N ≤ 16 := by omega
  have ew : wrap64 (wrap64 ((wrap64 (n + 7)).tdiv 8) - 1) = (N : Int) - 1 := by
    have e1 : wrap64 (n + 7) = n + 7 := by unfold wrap64; omega
    rw [e1, Int.tdiv_eq_ediv_of_nonneg (by omega)]
    unfold wrap64
    omega
  have HVL := hide (lst_val b1 b2)
  have HLN := hide (lst_length n u)
  rw [hN]
  have HN := hide hN
  have HB01 : Hid (1 ≤ n ∧ n ≤ 128) := hide ⟨b0, b1⟩
  clear hu b2 hN b0 b1
  generalize wHi u = H1 at *
  generalize wLo u = L1 at *
  have HS := hide (heap_alloc_new w (.cells #[.int .i64 n, .int .u64 H1, .int .u64 L1] 24))
  go_enter Tryz.func6, Tryz.ntmps6
  go_wp2_with fail
  refine (HCK.out _).mono ?_
  rintro e w1 ⟨rfl, hb1⟩
  have hs1 := (hb1.block _ (lt_of_block (HS.out))).trans HS.out
  obtain ⟨a0, a1, a2, _⟩ := cells3 hs1
  have B1 : Hid (Below w.heap.size w w1) := hide (((Below.refl _ w).alloc (Nat.le_refl _) _).trans (hb1.mono (by simp)))
  have HS1 := hide hs1
  clear hb1 hs1
  go_wp2_with fail
  refine (HBI.out _).mono ?_
  rintro e w2 ⟨r, rfl, ho, hb2⟩
  have hs2 := (hb2.block _ (lt_of_block HS1.out)).trans HS1.out
  obtain ⟨a0, a1, a2, _⟩ := cells3 hs2
  have B2 := hide (B1.out.trans (hb2.mono B1.out.size))
  have HBR := hide (brow_of_own ho)
  clear hb2 hs2 ho HCK HBI
  have EW := hide ew
  have hlpos : 1 ≤ (lst n u).length := by rw [HLN.out]; have := HB01.out; omega
  obtain ⟨rb, ro, rc, rfl, hrc⟩ : ∃ b off cap, r = .slice (some ⟨b, off, none⟩) (lst n u).length cap ∧ ∀ i (h : i < (lst n u).length), w2.cell? ⟨b, off + i, none⟩ = some (.bool (lst n u)[i]) := by
    rcases HBR.out with ⟨_, e⟩ | h
    · rw [e] at hlpos; simp at hlpos
    · exact h
  have hrb : rb < w2.heap.size := World.block_lt_of_cell? w2 _ (hrc 0 (by omega))
  have HPT : Hid (∀ W A, Below w2.heap.size w2 W → A ≤ 1000 → Calls Tryz.prog 19 #[.slice (some ⟨rb, ro, none⟩) (lst n u).length rc, .int .i64 (A : Nat), .int .i64 8] W fun e w' => e = .returned (.int .i64 ((u / 2 ^ A % 256 : Nat) : Int)) ∧ w' = W) := hide (fun W A hb hA => by
    have := part_row (lst n u) rb ro rc A W (fun i h => (hb.cell (p := ⟨rb, ro + i, none⟩) hrb).trans (hrc i h)) (by rw [HLN.out]; have := HB01.out; omega) hA
    rw [HVL.out] at this
    exact this)
  clear ew hrc hlpos HBR
  generalize (lst n u).length = ll at *
  go_wp2
  rw [EW.out]
  go_loopw [5, 6] (fun v i wr => ∃ (k : Nat) (ik : Int), k ≤ N ∧ i = .int .i64 ik ∧ Hid (ik = (N : Int) - 1 - k) ∧ Own8 wr w2.heap.size v ((bytesOf u N).take k) ∧ Below w2.heap.size w2 wr) (fun _ i _ => (intOf i + 1).toNat)
  case atStart => exact ⟨0, _, Nat.zero_le _, rfl, by show _ = _; omega, Own8.nil _ _, Below.refl _ _⟩
  case round =>
    obtain ⟨k, ik, hk, rfl, HI, ho, hb⟩ := hrel
    have HO := hide ho; have HB := hide hb
    clear ho hb
    by_cases hlt : k < N
    · obtain ⟨j, hj⟩ : ∃ j, N - 1 - k = j := ⟨_, rfl⟩
      obtain rfl : ik = (j : Int) := by have := HI.out; omega
      obtain ⟨A, hA⟩ : ∃ A, 8 * j = A := ⟨_, rfl⟩
      have w1' : wrap64 (8 * (j : Int)) = (A : Int) := by unfold wrap64; omega
      have w1'' : wrap64 ((j : Int) * 8) = (A : Int) := by unfold wrap64; omega
      have d0 : ((j : Int) ≥ 0) = True := eq_true (by omega)
      have d0' : ((0 : Int) ≤ (j : Int)) = True := eq_true (by omega)
      have HP := hide (HPT.out wr A HB.out (by omega))
      obtain ⟨X, hX⟩ : ∃ X, u / 2 ^ A % 256 = X := ⟨_, rfl⟩
      have hX256 : X < 256 := by rw [← hX]; exact Nat.mod_lt _ (by decide)
      rw [hX] at HP
      have hw8 : IntKind.u8.wrap (X : Int) = X := by rw [IntKind.wrap_u8]; omega
      have HTK : Hid ((bytesOf u N).take k ++ [X] = (bytesOf u N).take (k + 1)) := hide (by rw [← hX, ← hA, ← hj]; exact bytesOf_take u N k hlt)
      have hlen : ((bytesOf u N).take k).length + [X].length ≤ 1000000000 := by simp [bytesOf_length]; omega
      have HOA := hide (Own8.below HO.out ((Below.refl _ wr).alloc (Nat.le_refl _) (.cells #[.int .u8 (X : Int)] 5)))
      have HBA := hide (HB.out.alloc HB.out.size (.cells #[.int .u8 (X : Int)] 5))
      clear hX hX256
      have H8 : Hid (8 * (j : Int) = (A : Int)) := hide (by omega)
      clear w1' w1''
      go_wp2_with fail
      rw [H8.out]
      refine HP.out.mono ?_
      rintro e w5 ⟨rfl, hw5⟩
      subst hw5
      go_wp2_with (at_builtin; refine wpList_app8 rfl _ _ rfl w2.heap.size _ _ rfl HOA.out (some ⟨w5.heap.size, 0, none⟩) 1 1 [X] rfl rfl (one_rd w5 X _) (fun e => by cases e) hlen HBA.out.size ?_; intro v6 w6 O6 G6 _; have HO6 := hide O6; have HB6 := hide (below_own HBA.out HOA.out G6 HBA.out.size); clear O6 G6)
      go_roundw
      case rel => exact ⟨k + 1, _, by omega, by go_num, by exact hide (by omega), by rw [← HTK.out]; exact HO6.out, HB6.out⟩
      case measure => simp [intOf]
    · obtain rfl : k = N := by omega
      obtain rfl : ik = -1 := by have := HI.out; omega
      go_wp2
      go_ret2
      refine ⟨_, rfl, ?_, B2.out.trans (HB.out.mono B2.out.size)⟩
      have := own8_lower' HO.out B2.out.size
      rw [List.take_of_length_le (by rw [bytesOf_length]; exact Nat.le_refl _)] at this
      exact this
theorem refBytes_no (n : Int) (u : Nat) (w : World) (hu : u < top) (h : okN n u = false) :
    Calls Tryz.prog 6 #[.agg #[.int .i64 n, .int .u64 (wHi u), .int .u64 (wLo u)]] w fun e w' => e = .returned (.tuple #[.slice none 0 0, .int .i64 1]) ∧ Below w.heap.size w w' := by
  have HCK := hide (fun W => refCheckV n u W hu false h)
  clear hu h
  generalize wHi u = H1 at *
  generalize wLo u = L1 at *
  go_enter Tryz.func6, Tryz.ntmps6
  go_wp2_with fail
  refine (HCK.out _).mono ?_
  rintro e w1 ⟨rfl, hb1⟩
  have B1 : Hid (Below w.heap.size w w1) := hide (((Below.refl _ w).alloc (Nat.le_refl _) _).trans (hb1.mono (by simp)))
  clear hb1
  go_wp2
  go_ret2
  exact ⟨rfl, B1.out⟩
end Go.Proofs.YtcjcgepmaiilbaaGreatDoor
