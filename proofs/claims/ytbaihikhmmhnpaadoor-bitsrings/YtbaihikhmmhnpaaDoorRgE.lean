/- pointsmanlaw01.BitsRings at every input. -/
import Derived.Test.YtbaihikhmmhnpaaDoorRg
import Derived.Test.YtbaihikhmmhnpaaDoorRgMath
namespace Go.Proofs.YtbaihikhmmhnpaaDoor
open Go.RowKit

set_option maxRecDepth 100000 in
set_option maxHeartbeats 4000000 in
theorem rg_no (n x0 x1 y0 y1 z0 z1 : Int) (w : World) (ht : w.cell? ⟨3, 15, none⟩ = some (.int .u8 4)) (hn : ¬ (1 ≤ n ∧ n ≤ 128))
    (HN : ∀ W, Calls Tryd.prog 6 #[.agg #[.int .i64 n, .int .u64 x0, .int .u64 x1, .int .u64 y0, .int .u64 y1, .int .u64 z0, .int .u64 z1]] W fun e w' => e = .returned (.tuple #[.agg #[.int .i64 0, .int .u64 0, .int .u64 0], .agg #[.int .i64 0, .int .u64 0, .int .u64 0], .agg #[.int .i64 0, .int .u64 0, .int .u64 0], .bool false]) ∧ Below W.heap.size W w') :
    Calls Tryd.prog 3 #[.agg #[.int .i64 n, .int .u64 x0, .int .u64 x1, .int .u64 y0, .int .u64 y1, .int .u64 z0, .int .u64 z1]] w fun e w' => e = .returned (.bool true) ∧ Below w.heap.size w w' := by
  have hG : 3 < w.heap.size := World.block_lt_of_cell? w _ ht
  have HA : Hid (∀ W, Below w.heap.size w W → Calls Tryd.prog 7 #[] W fun e w' => e = .returned (.bool true) ∧ Below W.heap.size W w') := fun W hb => alive_any W ((hb.cell hG).trans ht)
  have HN' := hide HN
  have HH := hide hn
  clear HN ht hn
  go_enter Tryd.func3, Tryd.ntmps3
  go_wp2_with fail
  refine (HN'.out _).mono ?_
  rintro e' w1 ⟨rfl, hb1⟩
  have B1 : Hid (Below w.heap.size w w1) := ((Below.refl _ w).alloc (Nat.le_refl _) _).trans (hb1.mono (by simp))
  clear hb1
  have b13 : Hid (Below w1.heap.size w1 (((w1.alloc (.cells #[.int .i64 0, .int .u64 0, .int .u64 0] 27)).alloc (.cells #[.int .i64 0, .int .u64 0, .int .u64 0] 27)).alloc (.cells #[.int .i64 0, .int .u64 0, .int .u64 0] 27))) := (((Below.refl _ w1).alloc (Nat.le_refl _) _).alloc (by simp) _).alloc (by simp <;> omega) _
  have B2 := hide (B1.out.trans (b13.out.mono B1.out.size))
  clear B1 b13
  go_wp2_with fail
  refine (HA.out _ B2.out).mono ?_
  rintro e w2 ⟨rfl, hb2⟩
  have B3 := hide (B2.out.trans (hb2.mono B2.out.size))
  clear hb2
  by_cases hn1 : n < 1
  · go_wp2_with fail
    refine (HA.out _ B3.out).mono ?_
    rintro e w3 ⟨rfl, hb3⟩
    have B4 := hide (B3.out.trans (hb3.mono B3.out.size))
    clear hb3
    go_wp2
    go_ret
    exact ⟨rfl, B4.out⟩
  · have hn2 : 128 < n := by have := HH.out; omega
    go_wp2_with fail
    refine (HA.out _ B3.out).mono ?_
    rintro e w3 ⟨rfl, hb3⟩
    have B4 := hide (B3.out.trans (hb3.mono B3.out.size))
    clear hb3
    go_wp2
    go_ret
    exact ⟨rfl, B4.out⟩
theorem rgIs_all (n : Int) (u v z : Nat) (m0 : 1 ≤ n) (m1 : n ≤ 128) (hu : u < 2 ^ n.toNat) (hv : v < 2 ^ n.toNat) (hz : z < 2 ^ n.toNat) {op x y r : Value} (h : RgIs n (wHi u) (wLo u) (wHi v) (wLo v) (wHi z) (wLo z) (wHi ((u + v) % 2 ^ n.toNat)) (wLo ((u + v) % 2 ^ n.toNat)) (wHi (2 ^ n.toNat - 1 - u)) (wLo (2 ^ n.toNat - 1 - u)) (wHi ((2 ^ n.toNat - 1 - u + 1) % 2 ^ n.toNat)) (wLo ((2 ^ n.toNat - 1 - u + 1) % 2 ^ n.toNat)) (wHi (u * v % 2 ^ n.toNat)) (wLo (u * v % 2 ^ n.toNat)) (wHi ((v + z) % 2 ^ n.toNat)) (wLo ((v + z) % 2 ^ n.toNat)) (wHi (((u + v) % 2 ^ n.toNat + z) % 2 ^ n.toNat)) (wLo (((u + v) % 2 ^ n.toNat + z) % 2 ^ n.toNat)) (wHi (u * v % 2 ^ n.toNat * z % 2 ^ n.toNat)) (wLo (u * v % 2 ^ n.toNat * z % 2 ^ n.toNat)) (wHi (v * z % 2 ^ n.toNat)) (wLo (v * z % 2 ^ n.toNat)) (wHi ((u + v) % 2 ^ n.toNat * z % 2 ^ n.toNat)) (wLo ((u + v) % 2 ^ n.toNat * z % 2 ^ n.toNat)) (wHi (u * z % 2 ^ n.toNat)) (wLo (u * z % 2 ^ n.toNat)) (wHi (u ^^^ v)) (wLo (u ^^^ v)) (wHi (u &&& v)) (wLo (u &&& v)) (wHi ((u &&& v) * 2 ^ 1 % 2 ^ n.toNat)) (wLo ((u &&& v) * 2 ^ 1 % 2 ^ n.toNat)) op x y r) (W : World) :
    Calls Tryd.prog 8 #[op, x, y] W fun e w' => e = .returned r ∧ Below W.heap.size W w' := by
  have hN : n.toNat ≤ 128 := by omega
  have pp : (0 : Nat) < 2 ^ n.toNat := Nat.pow_pos (by decide)
  have p1 : (1 : Nat) < 2 ^ n.toNat := Nat.lt_of_lt_of_le (by decide) (Nat.pow_le_pow_right (n := 2) (by decide) (show 1 ≤ n.toNat by omega))
  have ml : ∀ q, q % 2 ^ n.toNat < 2 ^ n.toNat := fun q => Nat.mod_lt _ pp
  have ok : ∀ {q : Nat}, q < 2 ^ n.toNat → okN n q = true := fun h => okN_iff.2 ⟨⟨m0, m1⟩, h⟩
  have hnn : (n == n) = true := by simp
  have H5 : ∀ (p q r : Nat), p < 2 ^ n.toNat → q < 2 ^ n.toNat → (p + q) % 2 ^ n.toNat = r → Calls Tryd.prog 8 #[.int .u8 5, (.agg #[.int .i64 n, .int .u64 (wHi p), .int .u64 (wLo p)]), (.agg #[.int .i64 n, .int .u64 (wHi q), .int .u64 (wLo q)])] W fun e w' => e = .returned (.agg #[.int .i64 n, .int .u64 (wHi r), .int .u64 (wLo r)]) ∧ Below W.heap.size W w' := fun p q r hp hq he => by
    subst he
    exact do_help 5 n _ _ n _ _ n _ _ 0 W (fun W => do5_yes n n 0 0 p q W (ok hp) (ok hq) hnn)
  have H6 : ∀ (p q r : Nat), p < 2 ^ n.toNat → q < 2 ^ n.toNat → (p + top - q) % 2 ^ n.toNat = r → Calls Tryd.prog 8 #[.int .u8 6, (.agg #[.int .i64 n, .int .u64 (wHi p), .int .u64 (wLo p)]), (.agg #[.int .i64 n, .int .u64 (wHi q), .int .u64 (wLo q)])] W fun e w' => e = .returned (.agg #[.int .i64 n, .int .u64 (wHi r), .int .u64 (wLo r)]) ∧ Below W.heap.size W w' := fun p q r hp hq he => by
    subst he
    exact do_help 6 n _ _ n _ _ n _ _ 0 W (fun W => do6_yes n n 0 0 p q W (ok hp) (ok hq) hnn)
  have H7 : ∀ (p q r : Nat), p < 2 ^ n.toNat → q < 2 ^ n.toNat → p * q % 2 ^ n.toNat = r → Calls Tryd.prog 8 #[.int .u8 7, (.agg #[.int .i64 n, .int .u64 (wHi p), .int .u64 (wLo p)]), (.agg #[.int .i64 n, .int .u64 (wHi q), .int .u64 (wLo q)])] W fun e w' => e = .returned (.agg #[.int .i64 n, .int .u64 (wHi r), .int .u64 (wLo r)]) ∧ Below W.heap.size W w' := fun p q r hp hq he => by
    subst he
    exact do_help 7 n _ _ n _ _ n _ _ 0 W (fun W => do7_yes n n 0 0 p q W (ok hp) (ok hq) hnn)
  have H8 : ∀ (p q r : Nat), p < 2 ^ n.toNat → q < 2 ^ n.toNat → p &&& q = r → Calls Tryd.prog 8 #[.int .u8 8, (.agg #[.int .i64 n, .int .u64 (wHi p), .int .u64 (wLo p)]), (.agg #[.int .i64 n, .int .u64 (wHi q), .int .u64 (wLo q)])] W fun e w' => e = .returned (.agg #[.int .i64 n, .int .u64 (wHi r), .int .u64 (wLo r)]) ∧ Below W.heap.size W w' := fun p q r hp hq he => by
    subst he
    exact do_help 8 n _ _ n _ _ n _ _ 0 W (fun W => do8_yes n n 0 0 p q W (ok hp) (ok hq) hnn)
  have H10 : ∀ (p q r : Nat), p < 2 ^ n.toNat → q < 2 ^ n.toNat → p ^^^ q = r → Calls Tryd.prog 8 #[.int .u8 10, (.agg #[.int .i64 n, .int .u64 (wHi p), .int .u64 (wLo p)]), (.agg #[.int .i64 n, .int .u64 (wHi q), .int .u64 (wLo q)])] W fun e w' => e = .returned (.agg #[.int .i64 n, .int .u64 (wHi r), .int .u64 (wLo r)]) ∧ Below W.heap.size W w' := fun p q r hp hq he => by
    subst he
    exact do_help 10 n _ _ n _ _ n _ _ 0 W (fun W => do10_yes n n 0 0 p q W (ok hp) (ok hq) hnn)
  have H12 : ∀ (p q r : Nat), p < 2 ^ n.toNat → q < 2 ^ n.toNat → p * 2 ^ q % 2 ^ n.toNat = r → Calls Tryd.prog 8 #[.int .u8 12, (.agg #[.int .i64 n, .int .u64 (wHi p), .int .u64 (wLo p)]), (.agg #[.int .i64 n, .int .u64 (wHi q), .int .u64 (wLo q)])] W fun e w' => e = .returned (.agg #[.int .i64 n, .int .u64 (wHi r), .int .u64 (wLo r)]) ∧ Below W.heap.size W w' := fun p q r hp hq he => by
    subst he
    exact do_help 12 n _ _ n _ _ n _ _ 0 W (fun W => do12_yes n n 0 0 p q W (ok hp) (ok hq))
  have H11 : ∀ (p q r : Nat), p < 2 ^ n.toNat → q < 2 ^ n.toNat → 2 ^ n.toNat - 1 - p = r → Calls Tryd.prog 8 #[.int .u8 11, (.agg #[.int .i64 n, .int .u64 (wHi p), .int .u64 (wLo p)]), (.agg #[.int .i64 n, .int .u64 (wHi q), .int .u64 (wLo q)])] W fun e w' => e = .returned (.agg #[.int .i64 n, .int .u64 (wHi r), .int .u64 (wLo r)]) ∧ Below W.heap.size W w' := fun p q r hp hq he => by
    subst he
    exact do_help 11 n _ _ n _ _ n _ _ 0 W (fun W => do_plain 11 n n 0 0 _ _ _ 0 33 p q W S11 (okN_top (ok hp)) (ok hp) ⟨(11, S11), by simp [tableL], rfl⟩ (by simp [tableL]) rfl ent_not (fun W => notV n n 0 0 p q W (okN_top (ok hp)) m0 m1 hp))
  replace h := h.out
  rcases h with ⟨rfl, rfl, rfl, rfl⟩ | ⟨rfl, rfl, rfl, rfl⟩ | ⟨rfl, rfl, rfl, rfl⟩ | ⟨rfl, rfl, rfl, rfl⟩ | ⟨rfl, rfl, rfl, rfl⟩ | ⟨rfl, rfl, rfl, rfl⟩ | ⟨rfl, rfl, rfl, rfl⟩ | ⟨rfl, rfl, rfl, rfl⟩ | ⟨rfl, rfl, rfl, rfl⟩ | ⟨rfl, rfl, rfl, rfl⟩ | ⟨rfl, rfl, rfl, rfl⟩ | ⟨rfl, rfl, rfl, rfl⟩ | ⟨rfl, rfl, rfl, rfl⟩ | ⟨rfl, rfl, rfl, rfl⟩ | ⟨rfl, rfl, rfl, rfl⟩ | ⟨rfl, rfl, rfl, rfl⟩ | ⟨rfl, rfl, rfl, rfl⟩ | ⟨rfl, rfl, rfl, rfl⟩ | ⟨rfl, rfl, rfl, rfl⟩ | ⟨rfl, rfl, rfl, rfl⟩ | ⟨rfl, rfl, rfl, rfl⟩ | ⟨rfl, rfl, rfl, rfl⟩ | ⟨rfl, rfl, rfl, rfl⟩
  · exact H5 u v ((u + v) % 2 ^ n.toNat) hu hv rfl
  · exact H6 u u 0 hu hu (rg_sub0 hN)
  · exact H11 u u (2 ^ n.toNat - 1 - u) hu hu rfl
  · exact H5 (2 ^ n.toNat - 1 - u) 1 ((2 ^ n.toNat - 1 - u + 1) % 2 ^ n.toNat) (by omega) p1 rfl
  · exact H5 v u ((u + v) % 2 ^ n.toNat) hv hu (by rw [Nat.add_comm])
  · exact H6 ((u + v) % 2 ^ n.toNat) v u (ml _) hv (rg_sub hN hu hv)
  · exact H7 u v (u * v % 2 ^ n.toNat) hu hv rfl
  · exact H7 v u (u * v % 2 ^ n.toNat) hv hu (by rw [Nat.mul_comm])
  · exact H5 ((u + v) % 2 ^ n.toNat) z (((u + v) % 2 ^ n.toNat + z) % 2 ^ n.toNat) (ml _) hz rfl
  · exact H5 v z ((v + z) % 2 ^ n.toNat) hv hz rfl
  · exact H5 u ((v + z) % 2 ^ n.toNat) (((u + v) % 2 ^ n.toNat + z) % 2 ^ n.toNat) hu (ml _) (rg_add3 _ u v z)
  · exact H7 (u * v % 2 ^ n.toNat) z (u * v % 2 ^ n.toNat * z % 2 ^ n.toNat) (ml _) hz rfl
  · exact H7 v z (v * z % 2 ^ n.toNat) hv hz rfl
  · exact H7 u (v * z % 2 ^ n.toNat) (u * v % 2 ^ n.toNat * z % 2 ^ n.toNat) hu (ml _) (rg_mul3 _ u v z)
  · exact H7 ((u + v) % 2 ^ n.toNat) z ((u + v) % 2 ^ n.toNat * z % 2 ^ n.toNat) (ml _) hz rfl
  · exact H7 u z (u * z % 2 ^ n.toNat) hu hz rfl
  · exact H5 (u * z % 2 ^ n.toNat) (v * z % 2 ^ n.toNat) ((u + v) % 2 ^ n.toNat * z % 2 ^ n.toNat) (ml _) (ml _) (rg_dist _ u v z)
  · exact H7 u 1 u hu p1 (by rw [Nat.mul_one]; exact Nat.mod_eq_of_lt hu)
  · exact H6 0 u ((2 ^ n.toNat - 1 - u + 1) % 2 ^ n.toNat) pp hu (rg_neg hN hu)
  · exact H10 u v (u ^^^ v) hu hv rfl
  · exact H8 u v (u &&& v) hu hv rfl
  · exact H12 (u &&& v) 1 ((u &&& v) * 2 ^ 1 % 2 ^ n.toNat) (Nat.and_lt_two_pow u hv) p1 rfl
  · exact H5 (u ^^^ v) ((u &&& v) * 2 ^ 1 % 2 ^ n.toNat) ((u + v) % 2 ^ n.toNat) (Nat.xor_lt_two_pow hu hv) (ml _) (rg_carry hu hv)
theorem rg_all (n x0 x1 y0 y1 z0 z1 : Int) (w : World) (ht : w.cell? ⟨3, 15, none⟩ = some (.int .u8 4))
    (rx0 : 0 ≤ x0 ∧ x0 < 18446744073709551616) (rx1 : 0 ≤ x1 ∧ x1 < 18446744073709551616) (ry0 : 0 ≤ y0 ∧ y0 < 18446744073709551616) (ry1 : 0 ≤ y1 ∧ y1 < 18446744073709551616) (rz0 : 0 ≤ z0 ∧ z0 < 18446744073709551616) (rz1 : 0 ≤ z1 ∧ z1 < 18446744073709551616) :
    Calls Tryd.prog 3 #[.agg #[.int .i64 n, .int .u64 x0, .int .u64 x1, .int .u64 y0, .int .u64 y1, .int .u64 z0, .int .u64 z1]] w fun e w' => e = .returned (.bool true) ∧ Below w.heap.size w w' := by
  by_cases hn : 1 ≤ n ∧ n ≤ 128
  case neg =>
    exact rg_no n x0 x1 y0 y1 z0 z1 w ht hn (fun W => three_any n x0 x1 y0 y1 z0 z1 0 0 0 0 0 0 0 0 0 1 1 1 W (fun W => of_no n _ _ W hn) (fun W => of_no n _ _ W hn) (fun W => of_no n _ _ W hn))
  obtain ⟨m0, m1⟩ := hn
  obtain ⟨u', hu', ex0, ex1⟩ := words_of rx0.1 rx0.2 rx1.1 rx1.2
  obtain ⟨v', hv', ey0, ey1⟩ := words_of ry0.1 ry0.2 ry1.1 ry1.2
  obtain ⟨z', hz', ez0, ez1⟩ := words_of rz0.1 rz0.2 rz1.1 rz1.2
  have pp : (0 : Nat) < 2 ^ n.toNat := Nat.pow_pos (by decide)
  obtain ⟨u, hu⟩ : ∃ u : Nat, u = u' % 2 ^ n.toNat := ⟨_, rfl⟩
  obtain ⟨v, hv⟩ : ∃ u : Nat, u = v' % 2 ^ n.toNat := ⟨_, rfl⟩
  obtain ⟨z, hz⟩ : ∃ u : Nat, u = z' % 2 ^ n.toNat := ⟨_, rfl⟩
  have bu : u < 2 ^ n.toNat := by rw [hu]; exact Nat.mod_lt _ pp
  have bv : v < 2 ^ n.toNat := by rw [hv]; exact Nat.mod_lt _ pp
  have bz : z < 2 ^ n.toNat := by rw [hz]; exact Nat.mod_lt _ pp
  have HN : ∀ W, Calls Tryd.prog 6 #[.agg #[.int .i64 n, .int .u64 x0, .int .u64 x1, .int .u64 y0, .int .u64 y1, .int .u64 z0, .int .u64 z1]] W fun e w' => e = .returned (.tuple #[(.agg #[.int .i64 n, .int .u64 (wHi u), .int .u64 (wLo u)]), (.agg #[.int .i64 n, .int .u64 (wHi v), .int .u64 (wLo v)]), (.agg #[.int .i64 n, .int .u64 (wHi z), .int .u64 (wLo z)]), .bool true]) ∧ Below W.heap.size W w' := fun W => by
    rw [hu, hv, hz]
    exact three_any n x0 x1 y0 y1 z0 z1 n _ _ n _ _ n _ _ 0 0 0 W (fun W => ofV n x0 x1 u' W m0 m1 hu' ex0 ex1) (fun W => ofV n y0 y1 v' W m0 m1 hv' ey0 ey1) (fun W => ofV n z0 z1 z' W m0 m1 hz' ez0 ez1)
  exact rg_walk x0 x1 y0 y1 z0 z1 n (wHi u) (wLo u) (wHi v) (wLo v) (wHi z) (wLo z) (wHi ((u + v) % 2 ^ n.toNat)) (wLo ((u + v) % 2 ^ n.toNat)) (wHi (2 ^ n.toNat - 1 - u)) (wLo (2 ^ n.toNat - 1 - u)) (wHi ((2 ^ n.toNat - 1 - u + 1) % 2 ^ n.toNat)) (wLo ((2 ^ n.toNat - 1 - u + 1) % 2 ^ n.toNat)) (wHi (u * v % 2 ^ n.toNat)) (wLo (u * v % 2 ^ n.toNat)) (wHi ((v + z) % 2 ^ n.toNat)) (wLo ((v + z) % 2 ^ n.toNat)) (wHi (((u + v) % 2 ^ n.toNat + z) % 2 ^ n.toNat)) (wLo (((u + v) % 2 ^ n.toNat + z) % 2 ^ n.toNat)) (wHi (u * v % 2 ^ n.toNat * z % 2 ^ n.toNat)) (wLo (u * v % 2 ^ n.toNat * z % 2 ^ n.toNat)) (wHi (v * z % 2 ^ n.toNat)) (wLo (v * z % 2 ^ n.toNat)) (wHi ((u + v) % 2 ^ n.toNat * z % 2 ^ n.toNat)) (wLo ((u + v) % 2 ^ n.toNat * z % 2 ^ n.toNat)) (wHi (u * z % 2 ^ n.toNat)) (wLo (u * z % 2 ^ n.toNat)) (wHi (u ^^^ v)) (wLo (u ^^^ v)) (wHi (u &&& v)) (wLo (u &&& v)) (wHi ((u &&& v) * 2 ^ 1 % 2 ^ n.toNat)) (wLo ((u &&& v) * 2 ^ 1 % 2 ^ n.toNat)) w ht HN (fun h W => rgIs_all n u v z m0 m1 bu bv bz h W)
end Go.Proofs.YtbaihikhmmhnpaaDoor
