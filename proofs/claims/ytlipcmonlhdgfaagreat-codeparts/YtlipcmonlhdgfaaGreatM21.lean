/- Pieces of the proof: Tell, Cuts, Uns, Pair. -/
import Derived.Test.YtlipcmonlhdgfaaGreatM20
/- The walks of the closures that tell, of the questions, and of cat, not, slice and cast. -/
namespace Go.Proofs.YtlipcmonlhdgfaaGreat
open Go.RowKit

theorem told_val (f : Nat) (a b : Value) (r : Bool) (c : Nat) (n1 h1 l1 n2 h2 l2 : Int) (w : World) (ha : a = .agg #[.int .i64 n1, .int .u64 h1, .int .u64 l1]) (hb : b = .agg #[.int .i64 n2, .int .u64 h2, .int .u64 l2]) (hcap : w.cell? ⟨c, 0, none⟩ = some (.func (Fn.func f) #[] #[]))
    (he : ∀ args w, (callFunc f args).run Tryz.prog w = .ok (.enter f args) w)
    (HQ : ∀ W, Calls Tryz.prog f #[.agg #[.int .i64 n1, .int .u64 h1, .int .u64 l1], .agg #[.int .i64 n2, .int .u64 h2, .int .u64 l2]] W fun e W' => e = .returned (.bool r) ∧ Below W.heap.size W W') :
    Calls Tryz.prog 193 #[a, b, .pointer (some ⟨c, 0, none⟩)] w fun e w' => e = .returned (.agg #[.int .i64 1, .int .u64 0, .int .u64 (r.toNat : Nat)]) ∧ Below w.heap.size w w' := by
  subst ha hb
  have hc3 := past3 hcap
  have HQ' := hide HQ
  clear HQ
  go_enter Tryz.func193, Tryz.ntmps193
  go_wp2_with fail
  refine (HQ'.out _).mono ?_
  rintro e w1 ⟨rfl, hb⟩
  obtain ⟨hc, hf⟩ := bcell hb
  have hz : w.heap.size + 2 < w1.heap.size := by have := hb.size; simp at this; omega
  cases r
  · go_wp2
    refine bodyPost_ret (v := .agg #[.int .i64 1, .int .u64 0, .int .u64 0]) (by simp [results, Tryz.results193, go_sem, hc]) rfl ⟨rfl, ?_⟩
    exact (((((((Below.refl _ _).alloc (Nat.le_refl _) _).alloc (by simp) _).alloc (by simp; omega) _).trans (hb.mono (by simp; omega))).setCell (by simp; omega) _).setCell (by simp; omega) _).setCell (by simp; omega) _
  · go_wp2
    refine bodyPost_ret (v := .agg #[.int .i64 1, .int .u64 0, .int .u64 1]) (by simp [results, Tryz.results193, go_sem, hc]) rfl ⟨rfl, ?_⟩
    exact (((((((Below.refl _ _).alloc (Nat.le_refl _) _).alloc (by simp) _).alloc (by simp; omega) _).trans (hb.mono (by simp; omega))).setCell (by simp; omega) _).setCell (by simp; omega) _).setCell (by simp; omega) _

theorem eqQ (n : Int) (u v : Nat) (w : World) :
    Calls Tryz.prog 173 #[.agg #[.int .i64 n, .int .u64 (wHi u), .int .u64 (wLo u)], .agg #[.int .i64 n, .int .u64 (wHi v), .int .u64 (wLo v)]] w fun e w' => e = .returned (.bool (decide (u = v))) ∧ Below w.heap.size w w' := by
  rw [← w_eq u v]
  cases e1 : (wHi u == wHi v) <;> cases e2 : (wLo u == wLo v)
  all_goals
    generalize wHi u = h1 at *
    generalize wLo u = l1 at *
    generalize wHi v = h2 at *
    generalize wLo v = l2 at *
    go_enter Tryz.func173, Tryz.ntmps173
    go_wp2
    go_ret
    exact ⟨rfl, ((Below.refl _ _).alloc (Nat.le_refl _) _).alloc (by simp) _⟩
theorem neQ (n : Int) (u v : Nat) (w : World) :
    Calls Tryz.prog 174 #[.agg #[.int .i64 n, .int .u64 (wHi u), .int .u64 (wLo u)], .agg #[.int .i64 n, .int .u64 (wHi v), .int .u64 (wLo v)]] w fun e w' => e = .returned (.bool (!decide (u = v))) ∧ Below w.heap.size w w' := by
  rw [← w_eq u v]
  cases e1 : (wHi u == wHi v) <;> cases e2 : (wLo u == wLo v)
  all_goals
    generalize wHi u = h1 at *
    generalize wLo u = l1 at *
    generalize wHi v = h2 at *
    generalize wLo v = l2 at *
    go_enter Tryz.func174, Tryz.ntmps174
    go_wp2
    go_ret
    exact ⟨rfl, ((Below.refl _ _).alloc (Nat.le_refl _) _).alloc (by simp) _⟩
theorem ltQ (n1 n2 : Int) (u v : Nat) (w : World) :
    Calls Tryz.prog 175 #[.agg #[.int .i64 n1, .int .u64 (wHi u), .int .u64 (wLo u)], .agg #[.int .i64 n2, .int .u64 (wHi v), .int .u64 (wLo v)]] w fun e w' => e = .returned (.bool (decide (u < v))) ∧ Below w.heap.size w w' := by
  have hlt := w_lt u v
  by_cases g1 : wHi u < wHi v
  · have e : decide (u < v) = true := by simp only [decide_eq_true_eq]; exact hlt.2 (.inl g1)
    rw [e]
    clear hlt e
    generalize wHi u = h1 at *
    generalize wLo u = l1 at *
    generalize wHi v = h2 at *
    generalize wLo v = l2 at *
    go_enter Tryz.func175, Tryz.ntmps175
    go_wp2
    go_ret
    exact ⟨rfl, ((Below.refl _ _).alloc (Nat.le_refl _) _).alloc (by simp) _⟩
  by_cases g2 : wHi u = wHi v
  · by_cases g3 : wLo u < wLo v
    · have e : decide (u < v) = true := by simp only [decide_eq_true_eq]; exact hlt.2 (.inr ⟨g2, g3⟩)
      rw [e, g2]
      clear hlt e g1 g2
      generalize wHi u = h1 at *
      generalize wLo u = l1 at *
      generalize wHi v = h2 at *
      generalize wLo v = l2 at *
      go_enter Tryz.func175, Tryz.ntmps175
      go_wp2
      go_ret
      exact ⟨rfl, ((Below.refl _ _).alloc (Nat.le_refl _) _).alloc (by simp) _⟩
    · have e : decide (u < v) = false := by simp only [decide_eq_false_iff_not]; intro h; have := hlt.1 h; omega
      rw [e, g2]
      clear hlt e g1 g2
      generalize wHi u = h1 at *
      generalize wLo u = l1 at *
      generalize wHi v = h2 at *
      generalize wLo v = l2 at *
      have g3' : decide (l1 < l2) = false := by simpa using g3
      clear g3
      go_enter Tryz.func175, Tryz.ntmps175
      go_wp2
      go_ret
      exact ⟨rfl, ((Below.refl _ _).alloc (Nat.le_refl _) _).alloc (by simp) _⟩
  · have e : decide (u < v) = false := by simp only [decide_eq_false_iff_not]; intro h; have := hlt.1 h; omega
    rw [e]
    have g1' : decide (wHi u < wHi v) = false := by simpa using g1
    have g2' : (wHi u == wHi v) = false := by simpa using g2
    clear hlt e g1 g2
    generalize wHi u = h1 at *
    generalize wLo u = l1 at *
    generalize wHi v = h2 at *
    generalize wLo v = l2 at *
    go_enter Tryz.func175, Tryz.ntmps175
    go_wp2
    go_ret
    exact ⟨rfl, ((Below.refl _ _).alloc (Nat.le_refl _) _).alloc (by simp) _⟩
theorem leQ (n1 n2 : Int) (u v : Nat) (w : World) :
    Calls Tryz.prog 176 #[.agg #[.int .i64 n1, .int .u64 (wHi u), .int .u64 (wLo u)], .agg #[.int .i64 n2, .int .u64 (wHi v), .int .u64 (wLo v)]] w fun e w' => e = .returned (.bool (decide (u ≤ v))) ∧ Below w.heap.size w w' := by
  have e : decide (u ≤ v) = !decide (v < u) := by by_cases h : v < u <;> simp [h] <;> omega
  rw [e]
  have H := hide (ltQ n2 n1 v u)
  generalize decide (v < u) = r at *
  generalize wHi u = h1 at *
  generalize wLo u = l1 at *
  generalize wHi v = h2 at *
  generalize wLo v = l2 at *
  go_enter Tryz.func176, Tryz.ntmps176
  go_wp2_with fail
  refine (H.out _).mono ?_
  rintro e w1 ⟨rfl, hb⟩
  go_wp2
  go_ret
  exact ⟨rfl, (((Below.refl _ _).alloc (Nat.le_refl _) _).alloc (by simp) _).trans (hb.mono (by simp; omega))⟩

theorem alike_any (a b : Int) (w : World) : Calls Tryz.prog 156 #[.int .i64 a, .int .i64 b] w fun e w' => e = .returned (.bool (a == b)) ∧ w' = w := by
  go_enter Tryz.func156, Tryz.ntmps156
  go_wp2
  go_ret
  exact ⟨rfl, rfl⟩
theorem anyWidths_any (a b : Int) (w : World) : Calls Tryz.prog 164 #[.int .i64 a, .int .i64 b] w fun e w' => e = .returned (.bool true) ∧ w' = w := by
  go_enter Tryz.func164, Tryz.ntmps164
  go_wp2
  go_ret
  exact ⟨rfl, rfl⟩
theorem together_any (a b : Int) (w : World) (a0 : 0 ≤ a) (a1 : a ≤ 128) (b0 : 0 ≤ b) (b1 : b ≤ 128) : Calls Tryz.prog 168 #[.int .i64 a, .int .i64 b] w fun e w' => e = .returned (.bool (decide (a + b ≤ 128))) ∧ w' = w := by
  go_enter Tryz.func168, Tryz.ntmps168
  go_wp2
  go_ret
  exact ⟨rfl, rfl⟩
theorem single_any (a b : Int) (w : World) : Calls Tryz.prog 177 #[.int .i64 a, .int .i64 b] w fun e w' => e = .returned (.bool (a == 1 && b == 1)) ∧ w' = w := by
  cases e1 : (a == 1) <;> cases e2 : (b == 1)
  all_goals
    go_enter Tryz.func177, Tryz.ntmps177
    go_wp2
    go_ret
    exact ⟨rfl, rfl⟩
end Go.Proofs.YtlipcmonlhdgfaaGreat
/- The walks of cat, not, slice and cast. -/
namespace Go.Proofs.YtlipcmonlhdgfaaGreat
open Go.RowKit

theorem catV (n1 n2 : Int) (u v : Nat) (w : World) (hu : u < top) (hv : v < top) (m0 : 1 ≤ n1) (m1 : 1 ≤ n2) (m2 : n1 + n2 ≤ 128) (hu1 : u < 2 ^ n1.toNat) (hv1 : v < 2 ^ n2.toNat) :
    Calls Tryz.prog 169 #[.agg #[.int .i64 n1, .int .u64 (wHi u), .int .u64 (wLo u)], .agg #[.int .i64 n2, .int .u64 (wHi v), .int .u64 (wLo v)]] w fun e w' => e = .returned (.agg #[.int .i64 (n1 + n2), .int .u64 (wHi (u * 2 ^ n2.toNat + v)), .int .u64 (wLo (u * 2 ^ n2.toNat + v))]) ∧ Below w.heap.size w w' := by
  have hs : (u * 2 ^ n2.toNat) % top < top := mod_top_lt _
  have hlt : u * 2 ^ n2.toNat < top := by
    have h1 : u * 2 ^ n2.toNat < 2 ^ n1.toNat * 2 ^ n2.toNat := Nat.mul_lt_mul_of_pos_right hu1 (Nat.pow_pos (by decide))
    rw [← Nat.pow_add] at h1
    exact Nat.lt_of_lt_of_le h1 (pow_le_top (by omega))
  have hj : (u * 2 ^ n2.toNat) % top ||| v = u * 2 ^ n2.toNat + v := by
    rw [Nat.mod_eq_of_lt hlt]
    exact nat_join n2.toNat (u * 2 ^ n2.toNat) v (Nat.mul_mod_left _ _) hv1
  rw [← hj]
  have HU := hide (fun X Y W hX hY => upV u n2 X Y W hu (by omega) (by omega) hX hY)
  have EH := or_hi hs hv
  have EL := or_lo hs hv
  rw [← EH, ← EL]
  generalize hX : wHi ((u * 2 ^ n2.toNat) % top) = X at *
  generalize hY : wLo ((u * 2 ^ n2.toNat) % top) = Y at *
  clear EH EL hj hlt hs hu1 hv1 hX hY
  generalize wHi u = h1 at *
  generalize wLo u = l1 at *
  generalize wHi v = h2 at *
  generalize wLo v = l2 at *
  have hconv : IntKind.u64.wrap n2 = n2 := by rw [IntKind.wrap_u64]; omega
  go_enter Tryz.func169, Tryz.ntmps169
  go_wp2_with fail
  refine (HU.out X Y _ rfl rfl).mono ?_
  rintro e w1 ⟨rfl, hw⟩
  subst hw
  go_wp2
  refine bodyPost_ret (v := .agg #[.int .i64 (n1 + n2), .int .u64 (bits .or .u64 X h2), .int .u64 (bits .or .u64 Y l2)]) (by simp [results, Tryz.results169, go_sem]) rfl ⟨rfl, ?_⟩
  exact (((Below.refl _ _).alloc (Nat.le_refl _) _).alloc (by simp) _).alloc (by simp; omega) _
end Go.Proofs.YtlipcmonlhdgfaaGreat
/- The walks of not, slice and cast. -/
namespace Go.Proofs.YtlipcmonlhdgfaaGreat
open Go.RowKit

theorem xor_all (a : Nat) (h : a < 18446744073709551616) : bits .xor .u64 IntKind.u64.max (a : Int) = ((18446744073709551615 - a : Nat) : Int) := by
  have e : IntKind.u64.max = ((18446744073709551615 : Nat) : Int) := by decide
  rw [e, u64_xor_nat _ _ (by decide) h]
  congr 1
  refine Nat.eq_of_testBit_eq fun j => ?_
  have h1 : (18446744073709551615 : Nat) = 2 ^ 64 - 1 := by decide
  have h2 : (18446744073709551615 - a : Nat) = 2 ^ 64 - (a + 1) := by omega
  rw [h2, Nat.testBit_two_pow_sub_succ (by omega), h1, Nat.testBit_xor, Nat.testBit_two_pow_sub_one]
  by_cases hj : j < 64
  · simp [hj]
  · have : a.testBit j = false := Nat.testBit_lt_two_pow (Nat.lt_of_lt_of_le (by omega : a < 2 ^ 64) (Nat.pow_le_pow_right (by decide) (by omega)))
    simp [hj, this]
theorem not_hi {u : Nat} (hu : u < top) : bits .xor .u64 IntKind.u64.max (wHi u) = wHi (top - 1 - u) := by
  rw [wHi_nat, xor_all _ (part_lt hu).1, wHi_nat]; unfold top at *; omega
theorem not_lo {u : Nat} (hu : u < top) : bits .xor .u64 IntKind.u64.max (wLo u) = wLo (top - 1 - u) := by
  rw [wLo_nat, xor_all _ (part_lt hu).2, wLo_nat]; unfold top at *; omega
theorem not_mod {u n : Nat} (hn : n ≤ 128) (hu : u < 2 ^ n) : (top - 1 - u) % 2 ^ n = 2 ^ n - 1 - u := by
  have e : top = 2 ^ n * 2 ^ (128 - n) := by rw [top_eq, ← Nat.pow_add]; congr 1; omega
  have hp : 0 < 2 ^ (128 - n) := Nat.pow_pos (by decide)
  obtain ⟨k, hk⟩ : ∃ k, 2 ^ (128 - n) = k + 1 := ⟨2 ^ (128 - n) - 1, by omega⟩
  have e2 : top - 1 - u = 2 ^ n * k + (2 ^ n - 1 - u) := by rw [e, hk, Nat.mul_add]; omega
  rw [e2, Nat.mul_add_mod, Nat.mod_eq_of_lt (by omega)]

theorem notV (n1 n2 n m : Int) (u v : Nat) (w : World) (hu : u < top) (m0 : 1 ≤ n1) (m1 : n1 ≤ 128) (hu1 : u < 2 ^ n1.toNat) :
    Calls Tryz.prog 163 #[.agg #[.int .i64 n1, .int .u64 (wHi u), .int .u64 (wLo u)], .agg #[.int .i64 n2, .int .u64 (wHi v), .int .u64 (wLo v)], .int .i64 n, .int .i64 m] w fun e w' => e = .returned (.tuple #[.agg #[.int .i64 n1, .int .u64 (wHi (2 ^ n1.toNat - 1 - u)), .int .u64 (wLo (2 ^ n1.toNat - 1 - u))], .int .i64 0]) ∧ Below w.heap.size w w' := by
  have HX := hide (not_hi hu); have HY := hide (not_lo hu)
  rw [← not_mod (by omega) hu1]
  have hs : top - 1 - u < top := by unfold top; omega
  generalize top - 1 - u = s at HX HY hs ⊢
  generalize hrh : wHi (s % 2 ^ n1.toNat) = rh
  generalize hrl : wLo (s % 2 ^ n1.toNat) = rl
  have HRH := hide hrh; have HRL := hide hrl; have HS := hide hs
  clear hrh hrl hs hu1
  generalize wHi u = h1 at *
  generalize wLo u = l1 at *
  generalize wHi v = h2 at *
  generalize wLo v = l2 at *
  go_enter Tryz.func163, Tryz.ntmps163
  go_wp2_with fail
  refine (cutR n1 _ _ rh rl s _ m0 m1 HS.out HX.out HY.out HRH.out HRL.out).mono ?_
  rintro e w1 ⟨rfl, hb⟩
  obtain ⟨hc, hf⟩ := bcell hb
  have hz : w.heap.size + 2 < w1.heap.size := by have := hb.size; simp at this; omega
  go_wp2
  refine bodyPost_ret (v := .tuple #[.agg #[.int .i64 n1, .int .u64 rh, .int .u64 rl], .int .i64 0]) (by simp [results, Tryz.results163, go_sem, hc]) rfl ⟨rfl, ?_⟩
  exact (((((((Below.refl _ _).alloc (Nat.le_refl _) _).alloc (by simp) _).alloc (by simp; omega) _).trans (hb.mono (by simp; omega))).setCell (by simp; omega) _).setCell (by simp; omega) _).setCell (by simp; omega) _

theorem slice_yes (n1 n2 n m : Int) (u v : Nat) (w : World) (hu : u < top) (m0 : 0 ≤ m) (m1 : m ≤ n) (m2 : n < n1) (m3 : n1 ≤ 128) :
    Calls Tryz.prog 170 #[.agg #[.int .i64 n1, .int .u64 (wHi u), .int .u64 (wLo u)], .agg #[.int .i64 n2, .int .u64 (wHi v), .int .u64 (wLo v)], .int .i64 n, .int .i64 m] w fun e w' => e = .returned (.tuple #[.agg #[.int .i64 (n - m + 1), .int .u64 (wHi (u / 2 ^ m.toNat % 2 ^ (n - m + 1).toNat)), .int .u64 (wLo (u / 2 ^ m.toNat % 2 ^ (n - m + 1).toNat))], .int .i64 0]) ∧ Below w.heap.size w w' := by
  have hs : u / 2 ^ m.toNat < top := Nat.lt_of_le_of_lt (Nat.div_le_self _ _) hu
  have HU := hide (fun X Y W hX hY => downV u m X Y W hu m0 (by omega) hX hY)
  generalize u / 2 ^ m.toNat = s at HU hs ⊢
  generalize hX : wHi s = X at HU
  generalize hY : wLo s = Y at HU
  generalize hrh : wHi (s % 2 ^ (n - m + 1).toNat) = rh
  generalize hrl : wLo (s % 2 ^ (n - m + 1).toNat) = rl
  have HX := hide hX; have HY := hide hY; have HRH := hide hrh; have HRL := hide hrl; have HS := hide hs
  clear hX hY hrh hrl hs
  generalize wHi u = h1 at *
  generalize wLo u = l1 at *
  generalize wHi v = h2 at *
  generalize wLo v = l2 at *
  have q0 : decide (m < 0) = false := by simp; omega
  have q1 : decide (n < m) = false := by simp; omega
  have q2 : decide (n1 ≤ n) = false := by simp; omega
  go_enter Tryz.func170, Tryz.ntmps170
  go_wp2_with fail
  refine (HU.out X Y _ rfl rfl).mono ?_
  rintro e w1 ⟨rfl, hw⟩
  subst hw
  go_wp2_with fail
  refine (cutR (n - m + 1) X Y rh rl s _ (by omega) (by omega) HS.out HX.out.symm HY.out.symm HRH.out HRL.out).mono ?_
  rintro e w1 ⟨rfl, hb⟩
  obtain ⟨hc, hf⟩ := bcell hb
  have hz : w.heap.size + 2 < w1.heap.size := by have := hb.size; simp at this; omega
  go_wp2
  refine bodyPost_ret (v := .tuple #[.agg #[.int .i64 (n - m + 1), .int .u64 rh, .int .u64 rl], .int .i64 0]) (by simp [results, Tryz.results170, go_sem, hc]) rfl ⟨rfl, ?_⟩
  exact (((((((Below.refl _ _).alloc (Nat.le_refl _) _).alloc (by simp) _).alloc (by simp; omega) _).trans (hb.mono (by simp; omega))).setCell (by simp; omega) _).setCell (by simp; omega) _).setCell (by simp; omega) _

theorem slice_no (n1 h1 l1 n2 h2 l2 n m : Int) (w : World) (h : ¬ (0 ≤ m ∧ m ≤ n ∧ n < n1)) :
    Calls Tryz.prog 170 #[.agg #[.int .i64 n1, .int .u64 h1, .int .u64 l1], .agg #[.int .i64 n2, .int .u64 h2, .int .u64 l2], .int .i64 n, .int .i64 m] w fun e w' => e = .returned (.tuple #[.agg #[.int .i64 0, .int .u64 0, .int .u64 0], .int .i64 1]) ∧ Below w.heap.size w w' := by
  by_cases g0 : m < 0
  · clear h
    go_enter Tryz.func170, Tryz.ntmps170
    go_wp2
    refine bodyPost_ret (v := .tuple #[.agg #[.int .i64 0, .int .u64 0, .int .u64 0], .int .i64 1]) (by simp [results, Tryz.results170, go_sem]) rfl ⟨rfl, ?_⟩
    exact (((Below.refl _ _).alloc (Nat.le_refl _) _).alloc (by simp) _).alloc (by simp; omega) _
  have q0 : decide (m < 0) = false := by simpa using g0
  by_cases g1 : n < m
  · clear h g0
    go_enter Tryz.func170, Tryz.ntmps170
    go_wp2
    refine bodyPost_ret (v := .tuple #[.agg #[.int .i64 0, .int .u64 0, .int .u64 0], .int .i64 1]) (by simp [results, Tryz.results170, go_sem]) rfl ⟨rfl, ?_⟩
    exact (((Below.refl _ _).alloc (Nat.le_refl _) _).alloc (by simp) _).alloc (by simp; omega) _
  have q1 : decide (n < m) = false := by simpa using g1
  have g2 : n1 ≤ n := by omega
  clear h g0 g1
  go_enter Tryz.func170, Tryz.ntmps170
  go_wp2
  refine bodyPost_ret (v := .tuple #[.agg #[.int .i64 0, .int .u64 0, .int .u64 0], .int .i64 1]) (by simp [results, Tryz.results170, go_sem]) rfl ⟨rfl, ?_⟩
  exact (((Below.refl _ _).alloc (Nat.le_refl _) _).alloc (by simp) _).alloc (by simp; omega) _

theorem cast_yes (n1 n2 n m : Int) (u v : Nat) (w : World) (hu : u < top) (m0 : 1 ≤ n) (m1 : n ≤ 128) :
    Calls Tryz.prog 171 #[.agg #[.int .i64 n1, .int .u64 (wHi u), .int .u64 (wLo u)], .agg #[.int .i64 n2, .int .u64 (wHi v), .int .u64 (wLo v)], .int .i64 n, .int .i64 m] w fun e w' => e = .returned (.tuple #[.agg #[.int .i64 n, .int .u64 (wHi (u % 2 ^ n.toNat)), .int .u64 (wLo (u % 2 ^ n.toNat))], .int .i64 0]) ∧ Below w.heap.size w w' := by
  have HO := hide (fun W => ofV n (wHi u) (wLo u) u W m0 m1 hu rfl rfl)
  generalize wHi (u % 2 ^ n.toNat) = rh at *
  generalize wLo (u % 2 ^ n.toNat) = rl at *
  generalize wHi u = h1 at *
  generalize wLo u = l1 at *
  generalize wHi v = h2 at *
  generalize wLo v = l2 at *
  go_enter Tryz.func171, Tryz.ntmps171
  go_wp2_with fail
  refine (HO.out _).mono ?_
  rintro e w1 ⟨rfl, hb⟩
  obtain ⟨hc, hf⟩ := bcell hb
  have hz : w.heap.size + 2 < w1.heap.size := by have := hb.size; simp at this; omega
  go_wp2
  refine bodyPost_ret (v := .tuple #[.agg #[.int .i64 n, .int .u64 rh, .int .u64 rl], .int .i64 0]) (by simp [results, Tryz.results171, go_sem, hc]) rfl ⟨rfl, ?_⟩
  exact (((((((Below.refl _ _).alloc (Nat.le_refl _) _).alloc (by simp) _).alloc (by simp; omega) _).trans (hb.mono (by simp; omega))).setCell (by simp; omega) _).setCell (by simp; omega) _).setCell (by simp; omega) _
theorem cast_no (n1 h1 l1 n2 h2 l2 n m : Int) (w : World) (h : ¬ (1 ≤ n ∧ n ≤ 128)) :
    Calls Tryz.prog 171 #[.agg #[.int .i64 n1, .int .u64 h1, .int .u64 l1], .agg #[.int .i64 n2, .int .u64 h2, .int .u64 l2], .int .i64 n, .int .i64 m] w fun e w' => e = .returned (.tuple #[.agg #[.int .i64 0, .int .u64 0, .int .u64 0], .int .i64 1]) ∧ Below w.heap.size w w' := by
  go_enter Tryz.func171, Tryz.ntmps171
  go_wp2_with fail
  refine (of_no n h1 l1 _ h).mono ?_
  rintro e w1 ⟨rfl, hb⟩
  obtain ⟨hc, hf⟩ := bcell hb
  have hz : w.heap.size + 2 < w1.heap.size := by have := hb.size; simp at this; omega
  go_wp2
  refine bodyPost_ret (v := .tuple #[.agg #[.int .i64 0, .int .u64 0, .int .u64 0], .int .i64 1]) (by simp [results, Tryz.results171, go_sem, hc]) rfl ⟨rfl, ?_⟩
  exact (((((((Below.refl _ _).alloc (Nat.le_refl _) _).alloc (by simp) _).alloc (by simp; omega) _).trans (hb.mono (by simp; omega))).setCell (by simp; omega) _).setCell (by simp; omega) _).setCell (by simp; omega) _
end Go.Proofs.YtlipcmonlhdgfaaGreat
/- The closure that asks about b and the widths, for whatever function it holds. -/
namespace Go.Proofs.YtlipcmonlhdgfaaGreat
open Go.RowKit

theorem past3' {w : World} {b : Nat} {F : Value} (h : w.cell? ⟨b, 0, none⟩ = some F) : ∀ o1 o2 o3 : Obj, (((w.alloc o1).alloc o2).alloc o3).cell? ⟨b, 0, none⟩ = some F := past3 h

theorem pair_bad (n1 n2 n m : Int) (u v b1 b2 : Nat) (w : World) (hv : v < top) (hok : okN n2 v = false) :
    Calls Tryz.prog 187 #[.agg #[.int .i64 n1, .int .u64 (wHi u), .int .u64 (wLo u)], .agg #[.int .i64 n2, .int .u64 (wHi v), .int .u64 (wLo v)], .int .i64 n, .int .i64 m, .pointer (some ⟨b1, 0, none⟩), .pointer (some ⟨b2, 0, none⟩)] w fun e w' => e = .returned (.tuple #[.agg #[.int .i64 0, .int .u64 0, .int .u64 0], .int .i64 1]) ∧ Below w.heap.size w w' := by
  have HC : Hid (∀ W, Calls Tryz.prog 108 #[.agg #[.int .i64 n2, .int .u64 (wHi v), .int .u64 (wLo v)]] W fun e W' => e = .returned (.bool false) ∧ Below W.heap.size W W') := fun W => by
    have := checkV n2 v W hv; rw [show (mayBe n2 && decide (v < 2 ^ n2.toNat)) = false from hok] at this; exact this
  clear hok
  generalize wHi u = h1 at *
  generalize wLo u = l1 at *
  generalize wHi v = h2 at *
  generalize wLo v = l2 at *
  go_enter Tryz.func187, Tryz.ntmps187
  go_wp2_with fail
  refine (HC.out _).mono ?_
  rintro e w1 ⟨rfl, hb⟩
  obtain ⟨hc, hf⟩ := bcell hb
  have hz : w.heap.size + 2 < w1.heap.size := by have := hb.size; simp at this; omega
  go_wp2
  refine bodyPost_ret (v := .tuple #[.agg #[.int .i64 0, .int .u64 0, .int .u64 0], .int .i64 1]) (by simp [results, Tryz.results187, go_sem, hc]) rfl ⟨rfl, ?_⟩
  exact (((((((Below.refl _ _).alloc (Nat.le_refl _) _).alloc (by simp) _).alloc (by simp; omega) _).trans (hb.mono (by simp; omega))).setCell (by simp; omega) _).setCell (by simp; omega) _).setCell (by simp; omega) _

theorem pair_wide (f : Nat) (n1 n2 n m : Int) (u v b1 b2 : Nat) (w : World) (hv : v < top) (hok : okN n2 v = true) (hcap : w.cell? ⟨b1, 0, none⟩ = some (.func (Fn.func f) #[] #[]))
    (he : ∀ args w, (callFunc f args).run Tryz.prog w = .ok (.enter f args) w) (HF : ∀ W, Calls Tryz.prog f #[.int .i64 n1, .int .i64 n2] W fun e W' => e = .returned (.bool false) ∧ W' = W) :
    Calls Tryz.prog 187 #[.agg #[.int .i64 n1, .int .u64 (wHi u), .int .u64 (wLo u)], .agg #[.int .i64 n2, .int .u64 (wHi v), .int .u64 (wLo v)], .int .i64 n, .int .i64 m, .pointer (some ⟨b1, 0, none⟩), .pointer (some ⟨b2, 0, none⟩)] w fun e w' => e = .returned (.tuple #[.agg #[.int .i64 0, .int .u64 0, .int .u64 0], .int .i64 7]) ∧ Below w.heap.size w w' := by
  have HC : Hid (∀ W, Calls Tryz.prog 108 #[.agg #[.int .i64 n2, .int .u64 (wHi v), .int .u64 (wLo v)]] W fun e W' => e = .returned (.bool true) ∧ Below W.heap.size W W') := fun W => by
    have := checkV n2 v W hv; rw [show (mayBe n2 && decide (v < 2 ^ n2.toNat)) = true from hok] at this; exact this
  have HF' := hide HF
  have hc3 := past3' hcap
  have hlt : b1 < w.heap.size := World.block_lt_of_cell? w _ hcap
  clear hok HF hcap
  generalize wHi u = h1 at *
  generalize wLo u = l1 at *
  generalize wHi v = h2 at *
  generalize wLo v = l2 at *
  go_enter Tryz.func187, Tryz.ntmps187
  go_wp2_with fail
  refine (HC.out _).mono ?_
  rintro e w1 ⟨rfl, hb⟩
  obtain ⟨hc, hf⟩ := bcell hb
  have hz : w.heap.size + 2 < w1.heap.size := by have := hb.size; simp at this; omega
  have hcw : w1.cell? ⟨b1, 0, none⟩ = some (.func (Fn.func f) #[] #[]) := (hb.cell (by simp; omega)).trans (hc3 _ _ _)
  go_wp2_with fail
  refine (HF'.out _).mono ?_
  rintro e w2 ⟨rfl, hw⟩
  subst hw
  go_wp2
  refine bodyPost_ret (v := .tuple #[.agg #[.int .i64 0, .int .u64 0, .int .u64 0], .int .i64 7]) (by simp [results, Tryz.results187, go_sem, hc]) rfl ⟨rfl, ?_⟩
  exact (((((((Below.refl _ _).alloc (Nat.le_refl _) _).alloc (by simp) _).alloc (by simp; omega) _).trans (hb.mono (by simp; omega))).setCell (by simp; omega) _).setCell (by simp; omega) _).setCell (by simp; omega) _

theorem pair_yes (f g : Nat) (n1 n2 n m rn rh rl : Int) (u v b1 b2 : Nat) (w : World) (hv : v < top) (hok : okN n2 v = true) (hcap : w.cell? ⟨b1, 0, none⟩ = some (.func (Fn.func f) #[] #[])) (hcap2 : w.cell? ⟨b2, 0, none⟩ = some (.func (Fn.func g) #[] #[]))
    (he : ∀ args w, (callFunc f args).run Tryz.prog w = .ok (.enter f args) w) (he2 : ∀ args w, (callFunc g args).run Tryz.prog w = .ok (.enter g args) w) (HF : ∀ W, Calls Tryz.prog f #[.int .i64 n1, .int .i64 n2] W fun e W' => e = .returned (.bool true) ∧ W' = W)
    (HG : ∀ W, Below w.heap.size w W → Calls Tryz.prog g #[.agg #[.int .i64 n1, .int .u64 (wHi u), .int .u64 (wLo u)], .agg #[.int .i64 n2, .int .u64 (wHi v), .int .u64 (wLo v)]] W fun e W' => e = .returned (.agg #[.int .i64 rn, .int .u64 rh, .int .u64 rl]) ∧ Below W.heap.size W W') :
    Calls Tryz.prog 187 #[.agg #[.int .i64 n1, .int .u64 (wHi u), .int .u64 (wLo u)], .agg #[.int .i64 n2, .int .u64 (wHi v), .int .u64 (wLo v)], .int .i64 n, .int .i64 m, .pointer (some ⟨b1, 0, none⟩), .pointer (some ⟨b2, 0, none⟩)] w fun e w' => e = .returned (.tuple #[.agg #[.int .i64 rn, .int .u64 rh, .int .u64 rl], .int .i64 0]) ∧ Below w.heap.size w w' := by
  have HC : Hid (∀ W, Calls Tryz.prog 108 #[.agg #[.int .i64 n2, .int .u64 (wHi v), .int .u64 (wLo v)]] W fun e W' => e = .returned (.bool true) ∧ Below W.heap.size W W') := fun W => by
    have := checkV n2 v W hv; rw [show (mayBe n2 && decide (v < 2 ^ n2.toNat)) = true from hok] at this; exact this
  have HF' := hide HF; have HG' := hide HG
  have hc3 := past3' hcap
  have hc4 := past3' hcap2
  have hlt : b1 < w.heap.size := World.block_lt_of_cell? w _ hcap
  have hlt2 : b2 < w.heap.size := World.block_lt_of_cell? w _ hcap2
  clear hok HF HG hcap hcap2
  generalize wHi u = h1 at *
  generalize wLo u = l1 at *
  generalize wHi v = h2 at *
  generalize wLo v = l2 at *
  go_enter Tryz.func187, Tryz.ntmps187
  go_wp2_with fail
  refine (HC.out _).mono ?_
  rintro e w1 ⟨rfl, hb⟩
  obtain ⟨hc, hf⟩ := bcell hb
  have hz : w.heap.size + 2 < w1.heap.size := by have := hb.size; simp at this; omega
  have hcw : w1.cell? ⟨b1, 0, none⟩ = some (.func (Fn.func f) #[] #[]) := (hb.cell (by simp; omega)).trans (hc3 _ _ _)
  have hcw2 : w1.cell? ⟨b2, 0, none⟩ = some (.func (Fn.func g) #[] #[]) := (hb.cell (by simp; omega)).trans (hc4 _ _ _)
  go_wp2_with fail
  refine (HF'.out _).mono ?_
  rintro e w2 ⟨rfl, hw⟩
  subst hw
  go_wp2_with fail
  have HB : Hid (Below w.heap.size w w2) := ((((Below.refl _ _).alloc (Nat.le_refl _) _).alloc (by simp) _).alloc (by simp; omega) _).trans (hb.mono (by simp; omega))
  refine (HG'.out _ HB.out).mono ?_
  rintro e w3 ⟨rfl, hb3⟩
  have hb' := hb.trans (hb3.mono hb.size)
  obtain ⟨hc', hf'⟩ := bcell hb'
  have hz' : w.heap.size + 2 < w3.heap.size := by have := hb3.size; omega
  clear hc hf hcw hcw2 hc3 hc4 hz
  go_wp2
  refine bodyPost_ret (v := .tuple #[.agg #[.int .i64 rn, .int .u64 rh, .int .u64 rl], .int .i64 0]) (by simp [results, Tryz.results187, go_sem, hc']) rfl ⟨rfl, ?_⟩
  exact (((((((Below.refl _ _).alloc (Nat.le_refl _) _).alloc (by simp) _).alloc (by simp; omega) _).trans (hb'.mono (by simp; omega))).setCell (by simp; omega) _).setCell (by simp; omega) _).setCell (by simp; omega) _

theorem pair_yes1 (f g : Nat) (p : Value) (n1 n2 n m rn rh rl : Int) (u v b1 b2 : Nat) (w : World) (hv : v < top) (hok : okN n2 v = true) (hcap : w.cell? ⟨b1, 0, none⟩ = some (.func (Fn.func f) #[] #[])) (hcap2 : w.cell? ⟨b2, 0, none⟩ = some (.func (Fn.func g) #[] #[p]))
    (he : ∀ args w, (callFunc f args).run Tryz.prog w = .ok (.enter f args) w) (he2 : ∀ args w, (callFunc g args).run Tryz.prog w = .ok (.enter g args) w) (HF : ∀ W, Calls Tryz.prog f #[.int .i64 n1, .int .i64 n2] W fun e W' => e = .returned (.bool true) ∧ W' = W)
    (HG : ∀ W, Below w.heap.size w W → Calls Tryz.prog g #[.agg #[.int .i64 n1, .int .u64 (wHi u), .int .u64 (wLo u)], .agg #[.int .i64 n2, .int .u64 (wHi v), .int .u64 (wLo v)], p] W fun e W' => e = .returned (.agg #[.int .i64 rn, .int .u64 rh, .int .u64 rl]) ∧ Below W.heap.size W W') :
    Calls Tryz.prog 187 #[.agg #[.int .i64 n1, .int .u64 (wHi u), .int .u64 (wLo u)], .agg #[.int .i64 n2, .int .u64 (wHi v), .int .u64 (wLo v)], .int .i64 n, .int .i64 m, .pointer (some ⟨b1, 0, none⟩), .pointer (some ⟨b2, 0, none⟩)] w fun e w' => e = .returned (.tuple #[.agg #[.int .i64 rn, .int .u64 rh, .int .u64 rl], .int .i64 0]) ∧ Below w.heap.size w w' := by
  have HC : Hid (∀ W, Calls Tryz.prog 108 #[.agg #[.int .i64 n2, .int .u64 (wHi v), .int .u64 (wLo v)]] W fun e W' => e = .returned (.bool true) ∧ Below W.heap.size W W') := fun W => by
    have := checkV n2 v W hv; rw [show (mayBe n2 && decide (v < 2 ^ n2.toNat)) = true from hok] at this; exact this
  have HF' := hide HF; have HG' := hide HG
  have hc3 := past3' hcap
  have hc4 := past3' hcap2
  have hlt : b1 < w.heap.size := World.block_lt_of_cell? w _ hcap
  have hlt2 : b2 < w.heap.size := World.block_lt_of_cell? w _ hcap2
  clear hok HF HG hcap hcap2
  generalize wHi u = h1 at *
  generalize wLo u = l1 at *
  generalize wHi v = h2 at *
  generalize wLo v = l2 at *
  go_enter Tryz.func187, Tryz.ntmps187
  go_wp2_with fail
  refine (HC.out _).mono ?_
  rintro e w1 ⟨rfl, hb⟩
  obtain ⟨hc, hf⟩ := bcell hb
  have hz : w.heap.size + 2 < w1.heap.size := by have := hb.size; simp at this; omega
  have hcw : w1.cell? ⟨b1, 0, none⟩ = some (.func (Fn.func f) #[] #[]) := (hb.cell (by simp; omega)).trans (hc3 _ _ _)
  have hcw2 : w1.cell? ⟨b2, 0, none⟩ = some (.func (Fn.func g) #[] #[p]) := (hb.cell (by simp; omega)).trans (hc4 _ _ _)
  go_wp2_with fail
  refine (HF'.out _).mono ?_
  rintro e w2 ⟨rfl, hw⟩
  subst hw
  go_wp2_with fail
  have HB : Hid (Below w.heap.size w w2) := ((((Below.refl _ _).alloc (Nat.le_refl _) _).alloc (by simp) _).alloc (by simp; omega) _).trans (hb.mono (by simp; omega))
  refine (HG'.out _ HB.out).mono ?_
  rintro e w3 ⟨rfl, hb3⟩
  have hb' := hb.trans (hb3.mono hb.size)
  obtain ⟨hc', hf'⟩ := bcell hb'
  have hz' : w.heap.size + 2 < w3.heap.size := by have := hb3.size; omega
  clear hc hf hcw hcw2 hc3 hc4 hz
  go_wp2
  refine bodyPost_ret (v := .tuple #[.agg #[.int .i64 rn, .int .u64 rh, .int .u64 rl], .int .i64 0]) (by simp [results, Tryz.results187, go_sem, hc']) rfl ⟨rfl, ?_⟩
  exact (((((((Below.refl _ _).alloc (Nat.le_refl _) _).alloc (by simp) _).alloc (by simp; omega) _).trans (hb'.mono (by simp; omega))).setCell (by simp; omega) _).setCell (by simp; omega) _).setCell (by simp; omega) _
end Go.Proofs.YtlipcmonlhdgfaaGreat
