/- pointsmanlaw01.BitsOrders at every input: its cases put together. -/
import Derived.Test.YtbaihikhmmhnpaaDoorOrdA
import Derived.Test.YtbaihikhmmhnpaaDoorOrdB
import Derived.Test.YtbaihikhmmhnpaaDoorOrdC
import Derived.Test.YtbaihikhmmhnpaaDoorOrdD
namespace Go.Proofs.YtbaihikhmmhnpaaDoor
open Go.RowKit

set_option maxRecDepth 100000 in
set_option maxHeartbeats 4000000 in
theorem ord_no (n x0 x1 y0 y1 z0 z1 : Int) (w : World) (ht : w.cell? ⟨3, 15, none⟩ = some (.int .u8 4))
    (HN : ∀ W, Calls Tryd.prog 6 #[.agg #[.int .i64 n, .int .u64 x0, .int .u64 x1, .int .u64 y0, .int .u64 y1, .int .u64 z0, .int .u64 z1]] W fun e w' => e = .returned (.tuple #[.agg #[.int .i64 0, .int .u64 0, .int .u64 0], .agg #[.int .i64 0, .int .u64 0, .int .u64 0], .agg #[.int .i64 0, .int .u64 0, .int .u64 0], .bool false]) ∧ Below W.heap.size W w') :
    Calls Tryd.prog 5 #[.agg #[.int .i64 n, .int .u64 x0, .int .u64 x1, .int .u64 y0, .int .u64 y1, .int .u64 z0, .int .u64 z1]] w fun e w' => e = .returned (.bool true) ∧ Below w.heap.size w w' := by
  have hG : 3 < w.heap.size := World.block_lt_of_cell? w _ ht
  have HA : Hid (∀ W, Below w.heap.size w W → Calls Tryd.prog 7 #[] W fun e w' => e = .returned (.bool true) ∧ Below W.heap.size W w') := fun W hb => alive_any W ((hb.cell hG).trans ht)
  have HN' := hide HN
  clear HN ht
  go_enter Tryd.func5, Tryd.ntmps5
  go_wp2_with fail
  refine (HN'.out _).mono ?_
  rintro e' w1 ⟨rfl, hb1⟩
  have B1 : Hid (Below w.heap.size w w1) := ((Below.refl _ w).alloc (Nat.le_refl _) _).trans (hb1.mono (by simp))
  clear hb1
  have b13 : Hid (Below w1.heap.size w1 (((w1.alloc (.cells #[.int .i64 0, .int .u64 0, .int .u64 0] 27)).alloc (.cells #[.int .i64 0, .int .u64 0, .int .u64 0] 27)).alloc (.cells #[.int .i64 0, .int .u64 0, .int .u64 0] 27))) := (((Below.refl _ w1).alloc (Nat.le_refl _) _).alloc (by simp) _).alloc (by simp <;> omega) _
  have B2 := hide (B1.out.trans (b13.out.mono B1.out.size))
  clear B1 b13
  go_wp2_with fail
  refine (HA.out _ B2.out).mono ?_
  rintro e w2 ⟨rfl, hb2⟩
  have B3 := hide (B2.out.trans (hb2.mono B2.out.size))
  clear hb2
  go_wp2_with fail
  refine (HA.out _ B3.out).mono ?_
  rintro e w3 ⟨rfl, hb3⟩
  have B4 := hide (B3.out.trans (hb3.mono B3.out.size))
  clear hb3
  go_wp2
  go_ret
  exact ⟨rfl, B4.out⟩
theorem bitT {p : Prop} [Decidable p] (h : p) : (((decide p).toNat : Nat) : Int) = 1 := by rw [decide_eq_true h]; rfl
theorem bitF {p : Prop} [Decidable p] (h : ¬ p) : (((decide p).toNat : Nat) : Int) = 0 := by rw [decide_eq_false h]; rfl
theorem bitN {p : Prop} [Decidable p] (h : ¬ p) : (((!decide p).toNat : Nat) : Int) = 1 := by rw [decide_eq_false h]; rfl
theorem doIs_all (n : Int) (u v z : Nat) (ou : okN n u = true) (ov : okN n v = true) (oz : okN n z = true) {l g e le ne l2 l3 : Int}
    (hl : (((decide (u < v)).toNat : Nat) : Int) = l) (hg : (((decide (v < u)).toNat : Nat) : Int) = g) (he : (((decide (u = v)).toNat : Nat) : Int) = e) (hle : (((decide (u ≤ v)).toNat : Nat) : Int) = le) (hne : (((!decide (u = v)).toNat : Nat) : Int) = ne) (hl2 : (((decide (v < z)).toNat : Nat) : Int) = l2) (hl3 : (((decide (u < z)).toNat : Nat) : Int) = l3)
    {op x y r : Value} (h : DoIs n (wHi u) (wLo u) (wHi v) (wLo v) (wHi z) (wLo z) l g e le ne l2 l3 op x y r) (W : World) :
    Calls Tryd.prog 8 #[op, x, y] W fun e w' => e = .returned r ∧ Below W.heap.size W w' := by
  subst hl hg he hle hne hl2 hl3
  replace h := h.out
  have hnn : (n == n) = true := by simp
  rcases h with ⟨rfl, rfl, rfl, rfl⟩ | ⟨rfl, rfl, rfl, rfl⟩ | ⟨rfl, rfl, rfl, rfl⟩ | ⟨rfl, rfl, rfl, rfl⟩ | ⟨rfl, rfl, rfl, rfl⟩ | ⟨rfl, rfl, rfl, rfl⟩ | ⟨rfl, rfl, rfl, rfl⟩
  · exact do_help 19 n _ _ n _ _ 1 0 _ 0 W (fun W => by have := do19_yes n n 0 0 u v W ou ov hnn; rw [(wBool _).1, (wBool _).2] at this; exact this)
  · exact do_help 19 n _ _ n _ _ 1 0 _ 0 W (fun W => by have := do19_yes n n 0 0 v u W ov ou hnn; rw [(wBool _).1, (wBool _).2] at this; exact this)
  · exact do_help 17 n _ _ n _ _ 1 0 _ 0 W (fun W => by have := do17_yes n n 0 0 u v W ou ov hnn; rw [(wBool _).1, (wBool _).2] at this; exact this)
  · exact do_help 20 n _ _ n _ _ 1 0 _ 0 W (fun W => by have := do20_yes n n 0 0 u v W ou ov hnn; rw [(wBool _).1, (wBool _).2] at this; exact this)
  · exact do_help 18 n _ _ n _ _ 1 0 _ 0 W (fun W => by have := do18_yes n n 0 0 u v W ou ov hnn; rw [(wBool _).1, (wBool _).2] at this; exact this)
  · exact do_help 19 n _ _ n _ _ 1 0 _ 0 W (fun W => by have := do19_yes n n 0 0 v z W ov oz hnn; rw [(wBool _).1, (wBool _).2] at this; exact this)
  · exact do_help 19 n _ _ n _ _ 1 0 _ 0 W (fun W => by have := do19_yes n n 0 0 u z W ou oz hnn; rw [(wBool _).1, (wBool _).2] at this; exact this)
theorem ord_all (n x0 x1 y0 y1 z0 z1 : Int) (w : World) (ht : w.cell? ⟨3, 15, none⟩ = some (.int .u8 4))
    (rx0 : 0 ≤ x0 ∧ x0 < 18446744073709551616) (rx1 : 0 ≤ x1 ∧ x1 < 18446744073709551616) (ry0 : 0 ≤ y0 ∧ y0 < 18446744073709551616) (ry1 : 0 ≤ y1 ∧ y1 < 18446744073709551616) (rz0 : 0 ≤ z0 ∧ z0 < 18446744073709551616) (rz1 : 0 ≤ z1 ∧ z1 < 18446744073709551616) :
    Calls Tryd.prog 5 #[.agg #[.int .i64 n, .int .u64 x0, .int .u64 x1, .int .u64 y0, .int .u64 y1, .int .u64 z0, .int .u64 z1]] w fun e w' => e = .returned (.bool true) ∧ Below w.heap.size w w' := by
  by_cases hn : 1 ≤ n ∧ n ≤ 128
  case neg =>
    exact ord_no n x0 x1 y0 y1 z0 z1 w ht (fun W => three_any n x0 x1 y0 y1 z0 z1 0 0 0 0 0 0 0 0 0 1 1 1 W (fun W => of_no n _ _ W hn) (fun W => of_no n _ _ W hn) (fun W => of_no n _ _ W hn))
  obtain ⟨m0, m1⟩ := hn
  obtain ⟨u', hu', ex0, ex1⟩ := words_of rx0.1 rx0.2 rx1.1 rx1.2
  obtain ⟨v', hv', ey0, ey1⟩ := words_of ry0.1 ry0.2 ry1.1 ry1.2
  obtain ⟨z', hz', ez0, ez1⟩ := words_of rz0.1 rz0.2 rz1.1 rz1.2
  have pp : (0 : Nat) < 2 ^ n.toNat := Nat.pow_pos (by decide)
  obtain ⟨u, hu⟩ : ∃ u : Nat, u = u' % 2 ^ n.toNat := ⟨_, rfl⟩
  obtain ⟨v, hv⟩ : ∃ u : Nat, u = v' % 2 ^ n.toNat := ⟨_, rfl⟩
  obtain ⟨z, hz⟩ : ∃ u : Nat, u = z' % 2 ^ n.toNat := ⟨_, rfl⟩
  have ou : okN n u = true := okN_iff.2 ⟨⟨m0, m1⟩, by rw [hu]; exact Nat.mod_lt _ pp⟩
  have ov : okN n v = true := okN_iff.2 ⟨⟨m0, m1⟩, by rw [hv]; exact Nat.mod_lt _ pp⟩
  have oz : okN n z = true := okN_iff.2 ⟨⟨m0, m1⟩, by rw [hz]; exact Nat.mod_lt _ pp⟩
  have HN : ∀ W, Calls Tryd.prog 6 #[.agg #[.int .i64 n, .int .u64 x0, .int .u64 x1, .int .u64 y0, .int .u64 y1, .int .u64 z0, .int .u64 z1]] W fun e w' => e = .returned (.tuple #[.agg #[.int .i64 n, .int .u64 (wHi u), .int .u64 (wLo u)], .agg #[.int .i64 n, .int .u64 (wHi v), .int .u64 (wLo v)], .agg #[.int .i64 n, .int .u64 (wHi z), .int .u64 (wLo z)], .bool true]) ∧ Below W.heap.size W w' := fun W => by
    rw [hu, hv, hz]
    exact three_any n x0 x1 y0 y1 z0 z1 n _ _ n _ _ n _ _ 0 0 0 W (fun W => ofV n x0 x1 u' W m0 m1 hu' ex0 ex1) (fun W => ofV n y0 y1 v' W m0 m1 hv' ey0 ey1) (fun W => ofV n z0 z1 z' W m0 m1 hz' ez0 ez1)
  clear hu hv hz
  rcases Nat.lt_trichotomy u v with h | h | h
  · have d1 : (((decide (u < v)).toNat : Nat) : Int) = 1 := bitT (by omega)
    have d2 : (((decide (v < u)).toNat : Nat) : Int) = 0 := bitF (by omega)
    have d3 : (((decide (u = v)).toNat : Nat) : Int) = 0 := bitF (by omega)
    have d4 : (((decide (u ≤ v)).toNat : Nat) : Int) = 1 := bitT (by omega)
    have d5 : (((!decide (u = v)).toNat : Nat) : Int) = 1 := bitN (by omega)
    by_cases hz2 : v < z
    · have d6 : (((decide (v < z)).toNat : Nat) : Int) = 1 := bitT (by omega)
      have d7 : (((decide (u < z)).toNat : Nat) : Int) = 1 := bitT (by omega)
      have HD : ∀ {op x y r}, DoIs n (wHi u) (wLo u) (wHi v) (wLo v) (wHi z) (wLo z) 1 0 0 1 1 1 1 op x y r → ∀ W, Calls Tryd.prog 8 #[op, x, y] W fun e w' => e = .returned r ∧ Below W.heap.size W w' := fun h W => doIs_all n u v z ou ov oz d1 d2 d3 d4 d5 d6 d7 h W
      rcases (w_lt u v).1 h with hh | ⟨hh, hl⟩
      · exact ord_hi1 n x0 x1 y0 y1 z0 z1 _ _ _ _ _ _ w ht hh (by simp; omega) HN HD
      · rw [← hh] at HN HD
        exact ord_lo1 n x0 x1 y0 y1 z0 z1 _ _ _ _ _ w ht hl (by simp; omega) HN HD
    · have d6 : (((decide (v < z)).toNat : Nat) : Int) = 0 := bitF (by omega)
      have HD : ∀ {op x y r}, DoIs n (wHi u) (wLo u) (wHi v) (wLo v) (wHi z) (wLo z) 1 0 0 1 1 0 (((decide (u < z)).toNat : Nat) : Int) op x y r → ∀ W, Calls Tryd.prog 8 #[op, x, y] W fun e w' => e = .returned r ∧ Below W.heap.size W w' := fun h W => doIs_all n u v z ou ov oz d1 d2 d3 d4 d5 d6 rfl h W
      rcases (w_lt u v).1 h with hh | ⟨hh, hl⟩
      · exact ord_hi0 n x0 x1 y0 y1 z0 z1 _ _ _ _ _ _ _ w ht hh (by simp; omega) HN HD
      · rw [← hh] at HN HD
        exact ord_lo0 n x0 x1 y0 y1 z0 z1 _ _ _ _ _ _ w ht hl (by simp; omega) HN HD
  · subst h
    exact ord_eq n x0 x1 y0 y1 z0 z1 _ _ _ _ _ _ w ht HN (fun h W => doIs_all n u u z ou ou oz (by simp) (by simp) (by simp) (by simp) (by simp) rfl rfl h W)
  · have d1 : (((decide (u < v)).toNat : Nat) : Int) = 0 := bitF (by omega)
    have d2 : (((decide (v < u)).toNat : Nat) : Int) = 1 := bitT (by omega)
    have d3 : (((decide (u = v)).toNat : Nat) : Int) = 0 := bitF (by omega)
    have d4 : (((decide (u ≤ v)).toNat : Nat) : Int) = 0 := bitF (by omega)
    have d5 : (((!decide (u = v)).toNat : Nat) : Int) = 1 := bitN (by omega)
    have HD : ∀ {op x y r}, DoIs n (wHi u) (wLo u) (wHi v) (wLo v) (wHi z) (wLo z) 0 1 0 0 1 (((decide (v < z)).toNat : Nat) : Int) (((decide (u < z)).toNat : Nat) : Int) op x y r → ∀ W, Calls Tryd.prog 8 #[op, x, y] W fun e w' => e = .returned r ∧ Below W.heap.size W w' := fun h W => doIs_all n u v z ou ov oz d1 d2 d3 d4 d5 rfl rfl h W
    rcases (w_lt v u).1 h with hh | ⟨hh, hl⟩
    · exact ord_hi2 n x0 x1 y0 y1 z0 z1 _ _ _ _ _ _ _ _ w ht hh (by simp; omega) (by simp; omega) HN HD
    · rw [hh] at HN HD
      exact ord_lo2 n x0 x1 y0 y1 z0 z1 _ _ _ _ _ _ _ w ht hl (by simp; omega) (by simp; omega) HN HD
end Go.Proofs.YtbaihikhmmhnpaaDoor
