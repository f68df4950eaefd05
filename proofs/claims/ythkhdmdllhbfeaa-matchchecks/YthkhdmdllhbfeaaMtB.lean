/- package match: the small questions on numbers. -/
import Derived.Test.YthkhdmdllhbfeaaGnA
namespace Go.Proofs.Ythkhdmdllhbfeaa
open Go.RowKit

theorem from_any (a n b : Int) (w : World) : Calls Try.prog 42 #[.int .i64 a, .int .i64 n, .int .i64 b] w fun e w' => e = .returned (.bool (fromB a n b)) ∧ w' = w := by
  unfold fromB
  by_cases h1 : a ≤ n
  · by_cases h2 : n ≤ b
    all_goals
      go_enter Try.func42, Try.ntmps42
      go_wp2
      go_ret
      exact ⟨by simp [h1, h2], rfl⟩
  · go_enter Try.func42, Try.ntmps42
    go_wp2
    go_ret
    exact ⟨by simp; omega, rfl⟩
theorem covers_any (m b : Nb) : Pure 78 #[m.val, b.val] (.bool (covB m b)) := fun w => by
  unfold covB
  obtain ⟨mw, mh, ml⟩ := m
  obtain ⟨bw, bh, bl⟩ := b
  unfold Nb.val
  cases e1 : (bits .andNot .u64 bh mh == 0) <;> cases e2 : (bits .andNot .u64 bl ml == 0)
  all_goals
    go_enter Try.func78, Try.ntmps78
    go_wp2
    go_ret
    exact ⟨rfl, ((Below.refl _ _).alloc (Nat.le_refl _) _).alloc (by simp) _⟩
theorem alike_any (a b m : Nb) : Pure 80 #[a.val, b.val, m.val] (.bool (aliB a b m)) := fun w => by
  unfold aliB
  obtain ⟨aw, ah, al⟩ := a
  obtain ⟨bw, bh, bl⟩ := b
  obtain ⟨mw, mh, ml⟩ := m
  unfold Nb.val
  cases e1 : (bits .and .u64 (bits .xor .u64 ah bh) mh == 0) <;> cases e2 : (bits .and .u64 (bits .xor .u64 al bl) ml == 0)
  all_goals
    go_enter Try.func80, Try.ntmps80
    go_wp2
    go_ret
    exact ⟨rfl, (((Below.refl _ _).alloc (Nat.le_refl _) _).alloc (by simp) _).alloc (by simp; omega) _⟩
theorem atMost_any (a b : Nb) : Pure 82 #[a.val, b.val] (.bool (atmB a b)) := fun w => by
  unfold atmB
  obtain ⟨aw, ah, al⟩ := a
  obtain ⟨bw, bh, bl⟩ := b
  unfold Nb.val
  by_cases h1 : ah < bh
  · go_enter Try.func82, Try.ntmps82
    go_wp2
    go_ret
    exact ⟨by simp [h1], ((Below.refl _ _).alloc (Nat.le_refl _) _).alloc (by simp) _⟩
  · by_cases h2 : ah = bh
    · subst h2
      by_cases h3 : al ≤ bl
      all_goals
        go_enter Try.func82, Try.ntmps82
        go_wp2
        go_ret
        exact ⟨by simp [h3], ((Below.refl _ _).alloc (Nat.le_refl _) _).alloc (by simp) _⟩
    · have h2' : (ah == bh) = false := by simp [h2]
      go_enter Try.func82, Try.ntmps82
      go_wp2
      go_ret
      exact ⟨by simp [h1], ((Below.refl _ _).alloc (Nat.le_refl _) _).alloc (by simp) _⟩
theorem isWide_any (b : Nb) (n : Int) (hb : NbR b) : Pure 39 #[b.val, .int .i64 n] (.bool (wide b n)) := fun w => by
  obtain ⟨bw, bh, bl⟩ := b
  obtain ⟨_, ⟨h0, h1⟩, ⟨h2, h3⟩⟩ := hb
  unfold wide Nb.ok
  simp only at h0 h1 h2 h3
  have HC : Hid (∀ W, Calls Try.prog 47 #[.agg #[.int .i64 bw, .int .u64 bh, .int .u64 bl]] W fun e w' => e = .returned (.bool (okB bw bh bl)) ∧ Below W.heap.size W w') := fun W => check_any bw bh bl W h0 h1 h2 h3
  clear h0 h1 h2 h3
  simp only [Nb.val]
  generalize okB bw bh bl = t at *
  by_cases hw : bw = n
  · subst hw
    go_enter Try.func39, Try.ntmps39
    go_wp2_with (go_at_call 47; refine (HC.out _).mono ?_; rintro e w1 ⟨rfl, hb⟩)
    go_ret
    exact ⟨by simp, ((Below.refl _ _).alloc (Nat.le_refl _) _).trans (hb.mono (by simp))⟩
  · have hw' : (bw == n) = false := by simp [hw]
    go_enter Try.func39, Try.ntmps39
    go_wp2
    go_ret
    exact ⟨by simp, (Below.refl _ _).alloc (Nat.le_refl _) _⟩
theorem of_pure (n : Int) (w : World) : Calls Try.prog 86 #[.int .i64 n, .int .u64 18446744073709551615, .int .u64 18446744073709551615] w fun e w' => (∃ c, e = .returned (.tuple #[.agg #[.int .i64 (ofB n ones ones).w, .int .u64 (ofB n ones ones).hi, .int .u64 (ofB n ones ones).lo], .int .i64 c])) ∧ Below w.heap.size w w' := by
  by_cases h : 1 ≤ n ∧ n ≤ 128
  · have E : ofB n ones ones = ⟨n, cHi n ones, cLo n ones⟩ := by unfold ofB; rw [mayBe_yes h.1 h.2]; rfl
    rw [E]
    exact (of_may n ones ones w h.1 h.2 (by decide) (by decide) (by decide) (by decide)).mono (fun e w' k => ⟨⟨0, k.1⟩, k.2⟩)
  · have E : ofB n ones ones = nb0 := by unfold ofB; rw [mayBe_no h]; rfl
    rw [E]
    exact (of_not n ones ones w h).mono (fun e w' k => ⟨⟨1, k.1⟩, k.2⟩)
theorem first_any (a n : Int) (h0 : 0 ≤ n) (h1 : n ≤ a) (h2 : a < 9223372036854775808) : Pure 85 #[.int .i64 a, .int .i64 n] (fstB a n).val := fun w => by
  have hsub : IntKind.i64.wrap (a - n) = a - n := by rw [IntKind.wrap_i64]; omega
  have H1 : Hid (∀ W, _) := fun W => of_pure a W
  have H2 : Hid (∀ W, _) := fun W => of_pure (a - n) W
  have E : Hid ((fstB a n).val = .agg #[.int .i64 a, .int .u64 (bits .andNot .u64 (ofB a ones ones).hi (ofB (a - n) ones ones).hi), .int .u64 (bits .andNot .u64 (ofB a ones ones).lo (ofB (a - n) ones ones).lo)]) := rfl
  generalize (fstB a n).val = V at *
  generalize ofB a ones ones = x at *
  generalize ofB (a - n) ones ones = y at *
  obtain ⟨xw, xh, xl⟩ := x
  obtain ⟨yw, yh, yl⟩ := y
  simp only at H1 H2 E
  clear h0 h1 h2
  go_enter Try.func85, Try.ntmps85
  go_wp2_with fail
  refine (H1.out _).mono ?_
  rintro e w1 ⟨⟨c, rfl⟩, hb⟩
  have HB1 := hide hb
  have K1 := hide (heap_below hb (heap_alloc_new _ _))
  clear hb
  go_wp2_with fail
  refine (H2.out _).mono ?_
  rintro e w2 ⟨⟨c2, rfl⟩, hb⟩
  have HB2 := hide hb
  have k := heap_below hb (heap_past _ K1.out)
  have l := heap_below hb (heap_alloc_new _ _)
  obtain ⟨-, q1, q2, -⟩ := at3 (heap_past (.cells #[.int .i64 yw, .int .u64 yh, .int .u64 yl] 52) l)
  obtain ⟨r0, r1, r2, r3⟩ := at3 (heap_past (.cells #[.int .i64 yw, .int .u64 yh, .int .u64 yl] 52) k)
  clear hb k l
  go_wp2
  refine bodyPost_ret (v := .agg #[.int .i64 a, .int .u64 (bits .andNot .u64 xh yh), .int .u64 (bits .andNot .u64 xl yl)]) (by simp [results, Try.results85, go_sem, r0, r1, r2]) rfl ⟨by rw [E.out], ?_⟩
  exact ((((((((Below.refl _ _).alloc (Nat.le_refl _) _).trans (HB1.out.mono (by simp))).alloc (by have := HB1.out.size; simp at this; omega) _).trans (HB2.out.mono (by have := HB1.out.size; simp at this ⊢; omega))).alloc (by have := HB1.out.size; have := HB2.out.size; simp at *; omega) _).setCell (Nat.le_refl _) _).setCell (Nat.le_refl _) _).setCell (Nat.le_refl _) _
end Go.Proofs.Ythkhdmdllhbfeaa
