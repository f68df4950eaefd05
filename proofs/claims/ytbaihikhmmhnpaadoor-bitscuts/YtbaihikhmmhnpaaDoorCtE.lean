/- pointsmanlaw01.BitsCuts at every input. -/
import Derived.Test.YtbaihikhmmhnpaaDoorCtO
import Derived.Test.YtbaihikhmmhnpaaDoorCtU
namespace Go.Proofs.YtbaihikhmmhnpaaDoor
open Go.RowKit

set_option maxRecDepth 100000 in
set_option maxHeartbeats 4000000 in
theorem ct_no (n x0 x1 t m yh yl : Int) (w : World)
    (HAl' : ∀ W, Below w.heap.size w W → Calls Tryd.prog 7 #[] W fun e w' => e = .returned (.bool true) ∧ Below W.heap.size W w')
    (HOf' : ∀ W, Calls Tryd.prog 10 #[.int .i64 n, .int .u64 x0, .int .u64 x1] W fun e w' => e = .returned (.tuple #[.agg #[.int .i64 0, .int .u64 0, .int .u64 0], .int .i64 1]) ∧ Below W.heap.size W w') :
    Calls Tryd.prog 4 #[.agg #[.int .i64 n, .int .u64 x0, .int .u64 x1, .int .i64 t], .agg #[.int .i64 m, .int .u64 yh, .int .u64 yl]] w fun e w' => e = .returned (.bool true) ∧ Below w.heap.size w w' := by
  have HAl := hide HAl'; have HOf := hide HOf'
  clear HAl' HOf'
  go_enter Tryd.func4, Tryd.ntmps4
  go_wp2_with fail
  go_quiet (fail)
  go_wp2_with fail
  refine (HOf.out _).mono ?_
  rintro e w1 ⟨rfl, hb1⟩
  have BB : Hid (Below w.heap.size w w1) := (below_drewN (((Below.refl _ w).alloc (Nat.le_refl _) _).alloc (by simp) _) nq).trans (hb1.mono (by simp <;> omega))
  clear hb1
  have B1 := hide (BB.out.alloc BB.out.size (.cells #[.int .i64 0, .int .u64 0, .int .u64 0] 27))
  clear BB
  go_wp2_with fail
  refine (HAl.out _ B1.out).mono ?_
  rintro e w2 ⟨rfl, hb2⟩
  have B2 := hide (B1.out.trans (hb2.mono B1.out.size))
  clear hb2
  go_wp2_with fail
  refine (HAl.out _ B2.out).mono ?_
  rintro e w3 ⟨rfl, hb3⟩
  have B3 := hide (B2.out.trans (hb3.mono B2.out.size))
  clear hb3
  go_wp2
  go_ret
  exact ⟨rfl, B3.out⟩
theorem cut_val (a : Int) (p : Nat) (k j b : Int) (q : Nat) (ok : okN a p = true) (j0 : 0 ≤ j) (j1 : j ≤ k) (k1 : k < a) (hb : k - j + 1 = b) (hq : p / 2 ^ j.toNat % 2 ^ b.toNat = q) (W : World) :
    Calls Tryd.prog 11 #[.agg #[.int .i64 a, .int .u64 (wHi p), .int .u64 (wLo p)], .int .i64 k, .int .i64 j] W fun e w' => e = .returned (.agg #[.int .i64 b, .int .u64 (wHi q), .int .u64 (wLo q)]) ∧ Below W.heap.size W w' := by
  subst hb hq
  exact cut_help a _ _ k j _ _ _ 0 W (fun W => do_plain 15 a 0 k j _ _ _ 0 39 p 0 W S15 (okN_top ok) ok ⟨(15, S15), by simp [tableL], rfl⟩ (by simp [tableL]) rfl ent_slice (fun W => slice_yes a 0 k j p 0 W (okN_top ok) j0 j1 k1 (okN_iff.1 ok).1.2))
theorem cast_val (a : Int) (p : Nat) (b : Int) (q : Nat) (ok : okN a p = true) (b0 : 1 ≤ b) (b1 : b ≤ 128) (hq : p % 2 ^ b.toNat = q) (W : World) :
    Calls Tryd.prog 13 #[.int .u8 16, .agg #[.int .i64 a, .int .u64 (wHi p), .int .u64 (wLo p)], .agg #[.int .i64 0, .int .u64 0, .int .u64 0], .int .i64 b, .int .i64 0] W fun e w' => e = .returned (.tuple #[.agg #[.int .i64 b, .int .u64 (wHi q), .int .u64 (wLo q)], .int .i64 0]) ∧ Below W.heap.size W w' := by
  subst hq
  exact do_plain 16 a 0 b 0 _ _ _ 0 40 p 0 W S16 (okN_top ok) ok ⟨(16, S16), by simp [tableL], rfl⟩ (by simp [tableL]) rfl ent_cast (fun W => cast_yes a 0 b 0 p 0 W (okN_top ok) b0 b1)
theorem cat_val (a : Int) (p : Nat) (b : Int) (q : Nat) (c : Int) (r : Nat) (oa : okN a p = true) (ob : okN b q = true) (h : a + b ≤ 128) (hc : a + b = c) (hr : p * 2 ^ b.toNat + q = r) (W : World) :
    Calls Tryd.prog 8 #[.int .u8 14, .agg #[.int .i64 a, .int .u64 (wHi p), .int .u64 (wLo p)], .agg #[.int .i64 b, .int .u64 (wHi q), .int .u64 (wLo q)]] W fun e w' => e = .returned (.agg #[.int .i64 c, .int .u64 (wHi r), .int .u64 (wLo r)]) ∧ Below W.heap.size W w' := by
  subst hc hr
  exact do_help 14 a _ _ b _ _ _ _ _ 0 W (fun W => do14_yes a b 0 0 p q W oa ob (decide_eq_true h))
theorem ct_join {u k N : Nat} (h : k < N) (hu : u < 2 ^ N) : u / 2 ^ k % 2 ^ (N - k) * 2 ^ k + u % 2 ^ k = u := by
  have e : u / 2 ^ k % 2 ^ (N - k) = u / 2 ^ k := by
    refine Nat.mod_eq_of_lt ?_
    rw [Nat.div_lt_iff_lt_mul (Nat.pow_pos (by decide)), ← Nat.pow_add]
    rwa [show N - k + k = N by omega]
  rw [e, Nat.mul_comm]
  exact Nat.div_add_mod u (2 ^ k)
theorem ct_lt {u y N M : Nat} {k : Nat} (hu : u < 2 ^ N) (hy : y < 2 ^ M) (hk : k = N + M) : u * 2 ^ M + y < 2 ^ k := by
  subst hk
  rw [Nat.pow_add]
  have h : (u + 1) * 2 ^ M ≤ 2 ^ N * 2 ^ M := Nat.mul_le_mul_right _ hu
  rw [Nat.add_mul, Nat.one_mul] at h
  omega
theorem ct_hi {u y M : Nat} (hy : y < 2 ^ M) : (u * 2 ^ M + y) / 2 ^ M = u := by
  rw [Nat.mul_comm, Nat.mul_add_div (Nat.pow_pos (by decide)), Nat.div_eq_of_lt hy, Nat.add_zero]
theorem ct_lo {u y M : Nat} (hy : y < 2 ^ M) : (u * 2 ^ M + y) % 2 ^ M = y := by
  rw [Nat.mul_comm, Nat.mul_add_mod, Nat.mod_eq_of_lt hy]
theorem cuIs_all (n t m : Int) (u y : Nat) (ou : okN n u = true) (hoy : n + m ≤ 128 ∧ 1 ≤ m → okN m y = true) {x k j r : Value} (h : CuIs n t m (wHi u) (wLo u) (wHi y) (wLo y) (wHi (u / 2 ^ t.toNat % 2 ^ (n - t).toNat)) (wLo (u / 2 ^ t.toNat % 2 ^ (n - t).toNat)) (wHi (u % 2 ^ t.toNat)) (wLo (u % 2 ^ t.toNat)) (wHi (u * 2 ^ m.toNat + y)) (wLo (u * 2 ^ m.toNat + y)) x k j r) (W : World) :
    Calls Tryd.prog 11 #[x, k, j] W fun e w' => e = .returned r ∧ Below W.heap.size W w' := by
  obtain ⟨⟨m0, m1⟩, bu⟩ := okN_iff.1 ou
  replace h := h.out
  rcases h with ⟨_, rfl, rfl, rfl, rfl⟩ | ⟨c, rfl, rfl, rfl, rfl⟩ | ⟨c, rfl, rfl, rfl, rfl⟩ | ⟨c, rfl, rfl, rfl, rfl⟩ | ⟨c, rfl, rfl, rfl, rfl⟩
  · exact cut_val n u (n - 1) 0 n u ou (by omega) (by omega) (by omega) (by omega) (by rw [Int.toNat_zero, Nat.pow_zero, Nat.div_one]; exact Nat.mod_eq_of_lt bu) W
  · exact cut_val n u (n - 1) t (n - t) _ ou (by omega) (by omega) (by omega) (by omega) rfl W
  · exact cut_val n u (t - 1) 0 t _ ou (by omega) (by omega) (by omega) (by omega) (by rw [Int.toNat_zero, Nat.pow_zero, Nat.div_one]) W
  · have by' : y < 2 ^ m.toNat := (okN_iff.1 (hoy c)).2
    have oE : okN (n + m) (u * 2 ^ m.toNat + y) = true := okN_iff.2 ⟨⟨by omega, by omega⟩, ct_lt bu by' (by omega)⟩
    exact cut_val (n + m) _ (n + m - 1) m n u oE (by omega) (by omega) (by omega) (by omega) (by rw [ct_hi by']; exact Nat.mod_eq_of_lt bu) W
  · have by' : y < 2 ^ m.toNat := (okN_iff.1 (hoy c)).2
    have oE : okN (n + m) (u * 2 ^ m.toNat + y) = true := okN_iff.2 ⟨⟨by omega, by omega⟩, ct_lt bu by' (by omega)⟩
    exact cut_val (n + m) _ (m - 1) 0 m y oE (by omega) (by omega) (by omega) (by omega) (by rw [Int.toNat_zero, Nat.pow_zero, Nat.div_one]; exact ct_lo by') W
theorem ct_all (n x0 x1 t m yh yl : Int) (w : World) (ht : w.cell? ⟨3, 15, none⟩ = some (.int .u8 4))
    (rx0 : 0 ≤ x0 ∧ x0 < 18446744073709551616) (rx1 : 0 ≤ x1 ∧ x1 < 18446744073709551616) (ry0 : 0 ≤ yh ∧ yh < 18446744073709551616) (ry1 : 0 ≤ yl ∧ yl < 18446744073709551616) :
    Calls Tryd.prog 4 #[.agg #[.int .i64 n, .int .u64 x0, .int .u64 x1, .int .i64 t], .agg #[.int .i64 m, .int .u64 yh, .int .u64 yl]] w fun e w' => e = .returned (.bool true) ∧ Below w.heap.size w w' := by
  have HAl : ∀ W, Below w.heap.size w W → Calls Tryd.prog 7 #[] W fun e w' => e = .returned (.bool true) ∧ Below W.heap.size W w' := fun W hb => alive_any W ((hb.cell (World.block_lt_of_cell? w _ ht)).trans ht)
  by_cases hn : 1 ≤ n ∧ n ≤ 128
  case neg => exact ct_no n x0 x1 t m yh yl w HAl (fun W => of_no n x0 x1 W hn)
  obtain ⟨m0, m1⟩ := hn
  obtain ⟨u', hu', ex0, ex1⟩ := words_of rx0.1 rx0.2 rx1.1 rx1.2
  obtain ⟨y, hy, rfl, rfl⟩ := words_of ry0.1 ry0.2 ry1.1 ry1.2
  obtain ⟨u, hu⟩ : ∃ u : Nat, u = u' % 2 ^ n.toNat := ⟨_, rfl⟩
  have bu : u < 2 ^ n.toNat := by rw [hu]; exact Nat.mod_lt _ (Nat.pow_pos (by decide))
  have ou : okN n u = true := okN_iff.2 ⟨⟨m0, m1⟩, bu⟩
  have HOf : ∀ W, Calls Tryd.prog 10 #[.int .i64 n, .int .u64 x0, .int .u64 x1] W fun e w' => e = .returned (.tuple #[.agg #[.int .i64 n, .int .u64 (wHi u), .int .u64 (wLo u)], .int .i64 0]) ∧ Below W.heap.size W w' := fun W => by
    rw [hu]; exact ofV n x0 x1 u' W m0 m1 hu' ex0 ex1
  have HCk : ∀ W, Calls Tryd.prog 12 #[.agg #[.int .i64 m, .int .u64 (wHi y), .int .u64 (wLo y)]] W fun e w' => e = .returned (.bool (okN m y)) ∧ Below W.heap.size W w' := fun W => checkV m y W hy
  have HD1 : 0 < t → t < n → ∀ W, Calls Tryd.prog 8 #[.int .u8 14, .agg #[.int .i64 (n - t), .int .u64 (wHi (u / 2 ^ t.toNat % 2 ^ (n - t).toNat)), .int .u64 (wLo (u / 2 ^ t.toNat % 2 ^ (n - t).toNat))], .agg #[.int .i64 t, .int .u64 (wHi (u % 2 ^ t.toNat)), .int .u64 (wLo (u % 2 ^ t.toNat))]] W fun e w' => e = .returned (.agg #[.int .i64 n, .int .u64 (wHi u), .int .u64 (wLo u)]) ∧ Below W.heap.size W w' := fun t0 t1 W =>
    cat_val (n - t) _ t _ n u (okN_iff.2 ⟨⟨by omega, by omega⟩, Nat.mod_lt _ (Nat.pow_pos (by decide))⟩) (okN_iff.2 ⟨⟨by omega, by omega⟩, Nat.mod_lt _ (Nat.pow_pos (by decide))⟩) (by omega) (by omega) (by rw [show (n - t).toNat = n.toNat - t.toNat by omega]; exact ct_join (by omega) bu) W
  by_cases oy : okN m y = true
  case neg =>
    have oyf : okN m y = false := by simpa using oy
    rw [oyf] at HCk
    have HCu : ∀ {x k j r}, CuIs n t 0 (wHi u) (wLo u) (wHi y) (wLo y) (wHi (u / 2 ^ t.toNat % 2 ^ (n - t).toNat)) (wLo (u / 2 ^ t.toNat % 2 ^ (n - t).toNat)) (wHi (u % 2 ^ t.toNat)) (wLo (u % 2 ^ t.toNat)) (wHi (u * 2 ^ (0 : Int).toNat + y)) (wLo (u * 2 ^ (0 : Int).toNat + y)) x k j r → ∀ W, Calls Tryd.prog 11 #[x, k, j] W fun e w' => e = .returned r ∧ Below W.heap.size W w' := fun h W => cuIs_all n t 0 u y ou (fun c => by omega) h W
    by_cases t0 : 0 < t
    · by_cases t1 : t < n
      · exact ct_ia n x0 x1 t m _ _ _ _ _ _ _ _ _ _ w m0 m1 t0 t1 HAl HOf HCu HCk (HD1 t0 t1)
      · exact ct_ua n x0 x1 t m _ _ _ _ _ _ _ _ _ _ w m0 m1 t0 t1 HAl HOf HCu HCk
    · exact ct_oa n x0 x1 t m _ _ _ _ _ _ _ _ _ _ w m0 m1 t0 HAl HOf HCu HCk
  rw [oy] at HCk
  obtain ⟨⟨k0, k1⟩, by'⟩ := okN_iff.1 oy
  have HCu : ∀ {x k j r}, CuIs n t m (wHi u) (wLo u) (wHi y) (wLo y) (wHi (u / 2 ^ t.toNat % 2 ^ (n - t).toNat)) (wLo (u / 2 ^ t.toNat % 2 ^ (n - t).toNat)) (wHi (u % 2 ^ t.toNat)) (wLo (u % 2 ^ t.toNat)) (wHi (u * 2 ^ m.toNat + y)) (wLo (u * 2 ^ m.toNat + y)) x k j r → ∀ W, Calls Tryd.prog 11 #[x, k, j] W fun e w' => e = .returned r ∧ Below W.heap.size W w' := fun h W => cuIs_all n t m u y ou (fun _ => oy) h W
  by_cases g1 : n + m ≤ 128
  case neg =>
    by_cases t0 : 0 < t
    · by_cases t1 : t < n
      · exact ct_ib n x0 x1 t m _ _ _ _ _ _ _ _ _ _ w m0 m1 t0 t1 g1 k0 k1 HAl HOf HCu HCk (HD1 t0 t1)
      · exact ct_ub n x0 x1 t m _ _ _ _ _ _ _ _ _ _ w m0 m1 t0 t1 g1 k0 k1 HAl HOf HCu HCk
    · exact ct_ob n x0 x1 t m _ _ _ _ _ _ _ _ _ _ w m0 m1 t0 g1 k0 k1 HAl HOf HCu HCk
  have oE : okN (n + m) (u * 2 ^ m.toNat + y) = true := okN_iff.2 ⟨⟨by omega, by omega⟩, ct_lt bu by' (by omega)⟩
  have HD2 := fun W => cat_val n u m y (n + m) (u * 2 ^ m.toNat + y) ou oy g1 rfl rfl W
  have HO1 := fun W => cast_val n u (n + m) (u % 2 ^ (n + m).toNat) ou (by omega) g1 rfl W
  have HO2 := fun W => cast_val (n + m) (u * 2 ^ m.toNat + y) m y oE k0 k1 (ct_lo by') W
  have o8 : okN 8 m.toNat = true := okN_iff.2 ⟨⟨by decide, by decide⟩, Nat.lt_of_le_of_lt (show m.toNat ≤ 128 by omega) (by decide)⟩
  have k8 : wHi m.toNat = 0 ∧ wLo m.toNat = (m.toNat : Int) := w_of_lo (Nat.lt_of_le_of_lt (show m.toNat ≤ 128 by omega) (by decide))
  have hmm : (m.toNat : Int) = m := by omega
  have HD3 : ∀ W, Calls Tryd.prog 8 #[.int .u8 13, .agg #[.int .i64 (n + m), .int .u64 (wHi (u * 2 ^ m.toNat + y)), .int .u64 (wLo (u * 2 ^ m.toNat + y))], .agg #[.int .i64 8, .int .u64 0, .int .u64 m]] W fun e w' => e = .returned (.agg #[.int .i64 (n + m), .int .u64 (wHi (u % 2 ^ (n + m).toNat)), .int .u64 (wLo (u % 2 ^ (n + m).toNat))]) ∧ Below W.heap.size W w' := fun W =>
    do_help 13 (n + m) _ _ 8 0 m (n + m) _ _ 0 W (fun W => by
      have := do13_yes (n + m) 8 0 0 (u * 2 ^ m.toNat + y) m.toNat W oE o8
      rw [k8.1, k8.2, hmm, ct_hi by'] at this
      exact this)
  by_cases t0 : 0 < t
  · by_cases t1 : t < n
    · exact ct_ig n x0 x1 t m _ _ _ _ _ _ _ _ _ _ _ _ w m0 m1 t0 t1 g1 k0 HAl HOf HCu HCk (HD1 t0 t1) HD2 HO1 HO2 HD3
    · exact ct_ug n x0 x1 t m _ _ _ _ _ _ _ _ _ _ _ _ w m0 m1 t0 t1 g1 k0 HAl HOf HCu HCk HD2 HO1 HO2 HD3
  · exact ct_og n x0 x1 t m _ _ _ _ _ _ _ _ _ _ _ _ w m0 m1 t0 g1 k0 HAl HOf HCu HCk HD2 HO1 HO2 HD3
end Go.Proofs.YtbaihikhmmhnpaaDoor
