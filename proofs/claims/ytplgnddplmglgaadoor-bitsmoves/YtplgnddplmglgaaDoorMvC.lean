/- pointsmanlaw01.BitsMoves at every width, number and count: out of the values of the callees. -/
import Derived.Test.YtplgnddplmglgaaDoorMvS
namespace Go.Proofs.YtplgnddplmglgaaDoor
open Go.RowKit

theorem mv_up0 {u k N : Nat} (h : N ≤ k) : u * 2 ^ k % 2 ^ N = 0 := by
  have e : 2 ^ k = 2 ^ N * 2 ^ (k - N) := by rw [← Nat.pow_add]; congr 1; omega
  rw [e, ← Nat.mul_assoc, Nat.mul_comm u, Nat.mul_assoc]
  exact Nat.mul_mod_right _ _
theorem mv_dn0 {u k N : Nat} (h : N ≤ k) (hu : u < 2 ^ N) : u / 2 ^ k % 2 ^ N = 0 := by
  rw [Nat.div_eq_of_lt (Nat.lt_of_lt_of_le hu (Nat.pow_le_pow_right (by decide) h))]
  rfl
theorem mv_pow {i N : Nat} (h : i + 1 < N) : (2 ^ i + 2 ^ i) % 2 ^ N = 2 ^ (i + 1) := by
  have e : 2 ^ i + 2 ^ i = 2 ^ (i + 1) := by rw [Nat.pow_succ]; omega
  rw [e]
  exact Nat.mod_eq_of_lt (Nat.pow_lt_pow_right (by decide) h)
theorem mv_cut {u k N : Nat} (h : k < N) (hu : u < 2 ^ N) : u / 2 ^ k % 2 ^ (N - k) = u / 2 ^ k := by
  refine Nat.mod_eq_of_lt ?_
  rw [Nat.div_lt_iff_lt_mul (Nat.pow_pos (by decide)), ← Nat.pow_add]
  rwa [show N - k + k = N by omega]
theorem mv_all (n x0 x1 : Int) (k : Nat) (w : World) (hk : k < 256) (a0 : 0 ≤ x0) (a1 : x0 < 18446744073709551616) (b0 : 0 ≤ x1) (b1 : x1 < 18446744073709551616)
    (ht : w.cell? ⟨3, 15, none⟩ = some (.int .u8 4)) :
    Calls Tryd.prog 5 #[.int .i64 n, .agg #[.int .u64 x0, .int .u64 x1], .int .u8 k] w fun e w' => e = .returned (.bool true) ∧ Below w.heap.size w w' := by
  have HAl : ∀ W, Below w.heap.size w W → Calls Tryd.prog 8 #[] W fun e w' => e = .returned (.bool true) ∧ Below W.heap.size W w' := fun W hb => alive_any W ((hb.cell (World.block_lt_of_cell? w _ ht)).trans ht)
  by_cases hn : 1 ≤ n ∧ n ≤ 128
  case neg => exact mv_no n x0 x1 k w HAl (fun W => of_no n x0 x1 W hn)
  obtain ⟨m0, m1⟩ := hn
  obtain ⟨v, hv, e0, e1⟩ := words_of a0 a1 b0 b1
  obtain ⟨N, hN⟩ : ∃ N : Nat, N = n.toNat := ⟨_, rfl⟩
  have hNn : (N : Int) = n := by omega
  obtain ⟨u, hu⟩ : ∃ u : Nat, u = v % 2 ^ N := ⟨_, rfl⟩
  have huN : u < 2 ^ N := by rw [hu]; exact Nat.mod_lt _ (Nat.pow_pos (by decide))
  have ou : okN n u = true := okN_iff.2 ⟨⟨m0, m1⟩, by rw [← hN]; exact huN⟩
  have ok8 : okN 8 k = true := okN_iff.2 ⟨⟨by decide, by decide⟩, hk⟩
  have k8 : wHi k = 0 ∧ wLo k = (k : Int) := w_of_lo (Nat.lt_trans hk (by decide))
  have HOf : ∀ W, Calls Tryd.prog 11 #[.int .i64 n, .int .u64 x0, .int .u64 x1] W fun e w' => e = .returned (.tuple #[.agg #[.int .i64 n, .int .u64 (wHi u), .int .u64 (wLo u)], .int .i64 0]) ∧ Below W.heap.size W w' := fun W => by
    have := ofV n x0 x1 v W m0 m1 hv e0 e1
    rw [← hN, ← hu] at this
    exact this
  have HUp : ∀ W, Calls Tryd.prog 9 #[.int .u8 12, .agg #[.int .i64 n, .int .u64 (wHi u), .int .u64 (wLo u)], .agg #[.int .i64 8, .int .u64 0, .int .u64 k]] W fun e w' => e = .returned (.agg #[.int .i64 n, .int .u64 (wHi (u * 2 ^ k % 2 ^ N)), .int .u64 (wLo (u * 2 ^ k % 2 ^ N))]) ∧ Below W.heap.size W w' := fun W =>
    do_help 12 n _ _ 8 0 k n _ _ 0 W (fun W => by
      have := do12_yes n 8 0 0 u k W ou ok8
      rw [k8.1, k8.2, ← hN] at this
      exact this)
  have HDn : ∀ W, Calls Tryd.prog 9 #[.int .u8 13, .agg #[.int .i64 n, .int .u64 (wHi u), .int .u64 (wLo u)], .agg #[.int .i64 8, .int .u64 0, .int .u64 k]] W fun e w' => e = .returned (.agg #[.int .i64 n, .int .u64 (wHi (u / 2 ^ k % 2 ^ N)), .int .u64 (wLo (u / 2 ^ k % 2 ^ N))]) ∧ Below W.heap.size W w' := fun W =>
    do_help 13 n _ _ 8 0 k n _ _ 0 W (fun W => by
      have := do13_yes n 8 0 0 u k W ou ok8
      rw [k8.1, k8.2, ← hN] at this
      exact this)
  by_cases hnk : n ≤ (k : Int)
  · refine mv_big n x0 x1 (wHi u) (wLo u) k w hk hnk HAl HOf (fun W => ?_) (fun W => ?_)
    · have := HUp W
      rw [mv_up0 (by omega)] at this
      exact this
    · have := HDn W
      rw [mv_dn0 (by omega) huN] at this
      exact this
  have hkn : (k : Int) < n := by omega
  have hkN : k < N := by omega
  have hcut : u / 2 ^ k % 2 ^ (N - k) = u / 2 ^ k := mv_cut hkN huN
  have hct : (n - 1 - (k : Int) + 1).toNat = N - k := by omega
  have hdl : u / 2 ^ k < 2 ^ (N - k) := by rw [← hcut]; exact Nat.mod_lt _ (Nat.pow_pos (by decide))
  have hut : u < top := okN_top ou
  have hdt : u / 2 ^ k < top := Nat.lt_of_le_of_lt (Nat.div_le_self _ _) hut
  have ocut : okN (n - 1 - (k : Int) + 1) (u / 2 ^ k) = true := okN_iff.2 ⟨⟨by omega, by omega⟩, by rw [hct]; exact hdl⟩
  refine mv_small n x0 x1 (wHi u) (wLo u) _ _ _ _ (n - 1 - (k : Int) + 1) (wHi (u / 2 ^ k)) (wLo (u / 2 ^ k)) (fun i => wHi (2 ^ i)) (fun i => wLo (2 ^ i)) k w hk m0 m1 hkn rfl rfl HAl HOf HUp HDn ?_ ?_ ?_ ?_
  · intro i hi W
    have oi : okN n (2 ^ i) = true := okN_iff.2 ⟨⟨m0, m1⟩, Nat.pow_lt_pow_right (by decide) (by omega)⟩
    refine do_help 5 n _ _ n _ _ n _ _ 0 W (fun W => ?_)
    have := do5_yes n n 0 0 (2 ^ i) (2 ^ i) W oi oi (by simp)
    rw [← hN, mv_pow (by omega)] at this
    exact this
  · intro W
    refine cut_help n _ _ (n - 1) k _ _ _ 0 W (fun W => ?_)
    have := do_plain 15 n 0 (n - 1) k _ _ _ 0 40 u 0 W S15 hut ou ⟨(15, S15), by simp [tableL], rfl⟩ (by simp [tableL]) rfl ent_slice (fun W => slice_yes n 0 (n - 1) k u 0 W hut (by omega) (by omega) (by omega) m1)
    rw [hct, show ((k : Int)).toNat = k from Int.toNat_natCast k, hcut] at this
    exact this
  · intro W
    have := do_plain 16 (n - 1 - (k : Int) + 1) 0 n 0 _ _ _ 0 41 (u / 2 ^ k) 0 W S16 hdt ocut ⟨(16, S16), by simp [tableL], rfl⟩ (by simp [tableL]) rfl ent_cast (fun W => cast_yes (n - 1 - (k : Int) + 1) 0 n 0 (u / 2 ^ k) 0 W hdt m0 m1)
    rw [← hN] at this
    exact this
  · intro W
    have ok : okN n (2 ^ k) = true := okN_iff.2 ⟨⟨m0, m1⟩, Nat.pow_lt_pow_right (by decide) (by omega)⟩
    refine do_help 7 n _ _ n _ _ n _ _ 0 W (fun W => ?_)
    have := do7_yes n n 0 0 u (2 ^ k) W ou ok (by simp)
    rw [← hN] at this
    exact this
end Go.Proofs.YtplgnddplmglgaaDoor
