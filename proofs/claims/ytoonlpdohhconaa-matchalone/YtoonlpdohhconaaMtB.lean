/- package match: the small questions on numbers. -/
import Derived.Test.YtoonlpdohhconaaMtA
namespace Go.Proofs.Ytoonlpdohhconaa
open Go.RowKit

theorem from_any (a n b : Int) (w : World) : Calls Try.prog 46 #[.int .i64 a, .int .i64 n, .int .i64 b] w fun e w' => e = .returned (.bool (fromB a n b)) ∧ w' = w := by
  unfold fromB
  by_cases h1 : a ≤ n
  · by_cases h2 : n ≤ b
    all_goals
      go_enter Try.func46, Try.ntmps46
      go_wp2
      go_ret
      exact ⟨by simp [h1, h2], rfl⟩
  · go_enter Try.func46, Try.ntmps46
    go_wp2
    go_ret
    exact ⟨by simp; omega, rfl⟩
theorem covers_any (m b : Nb) : Pure 82 #[m.val, b.val] (.bool (covB m b)) := fun w => by
  unfold covB
  obtain ⟨mw, mh, ml⟩ := m
  obtain ⟨bw, bh, bl⟩ := b
  unfold Nb.val
  cases e1 : (bits .andNot .u64 bh mh == 0) <;> cases e2 : (bits .andNot .u64 bl ml == 0)
  all_goals
    go_enter Try.func82, Try.ntmps82
    go_wp2
    go_ret
    exact ⟨rfl, ((Below.refl _ _).alloc (Nat.le_refl _) _).alloc (by simp) _⟩
theorem alike_any (a b m : Nb) : Pure 84 #[a.val, b.val, m.val] (.bool (aliB a b m)) := fun w => by
  unfold aliB
  obtain ⟨aw, ah, al⟩ := a
  obtain ⟨bw, bh, bl⟩ := b
  obtain ⟨mw, mh, ml⟩ := m
  unfold Nb.val
  cases e1 : (bits .and .u64 (bits .xor .u64 ah bh) mh == 0) <;> cases e2 : (bits .and .u64 (bits .xor .u64 al bl) ml == 0)
  all_goals
    go_enter Try.func84, Try.ntmps84
    go_wp2
    go_ret
    exact ⟨rfl, (((Below.refl _ _).alloc (Nat.le_refl _) _).alloc (by simp) _).alloc (by simp; omega) _⟩
theorem atMost_any (a b : Nb) : Pure 86 #[a.val, b.val] (.bool (atmB a b)) := fun w => by
  unfold atmB
  obtain ⟨aw, ah, al⟩ := a
  obtain ⟨bw, bh, bl⟩ := b
  unfold Nb.val
  by_cases h1 : ah < bh
  · go_enter Try.func86, Try.ntmps86
    go_wp2
    go_ret
    exact ⟨by simp [h1], ((Below.refl _ _).alloc (Nat.le_refl _) _).alloc (by simp) _⟩
  · by_cases h2 : ah = bh
    · subst h2
      by_cases h3 : al ≤ bl
      all_goals
        go_enter Try.func86, Try.ntmps86
        go_wp2
        go_ret
        exact ⟨by simp [h3], ((Below.refl _ _).alloc (Nat.le_refl _) _).alloc (by simp) _⟩
    · have h2' : (ah == bh) = false := by simp [h2]
      go_enter Try.func86, Try.ntmps86
      go_wp2
      go_ret
      exact ⟨by simp [h1], ((Below.refl _ _).alloc (Nat.le_refl _) _).alloc (by simp) _⟩
theorem isWide_any (b : Nb) (n : Int) (hb : NbR b) : Pure 41 #[b.val, .int .i64 n] (.bool (wide b n)) := fun w => by
  obtain ⟨bw, bh, bl⟩ := b
  obtain ⟨_, ⟨h0, h1⟩, ⟨h2, h3⟩⟩ := hb
  unfold wide Nb.ok
  simp only at h0 h1 h2 h3
  have HC : Hid (∀ W, Calls Try.prog 51 #[.agg #[.int .i64 bw, .int .u64 bh, .int .u64 bl]] W fun e w' => e = .returned (.bool (okB bw bh bl)) ∧ Below W.heap.size W w') := fun W => check_any bw bh bl W h0 h1 h2 h3
  clear h0 h1 h2 h3
  simp only [Nb.val]
  generalize okB bw bh bl = t at *
  by_cases hw : bw = n
  · subst hw
    go_enter Try.func41, Try.ntmps41
    go_wp2_with (go_at_call 51; refine (HC.out _).mono ?_; rintro e w1 ⟨rfl, hb⟩)
    go_ret
    exact ⟨by simp, ((Below.refl _ _).alloc (Nat.le_refl _) _).trans (hb.mono (by simp))⟩
  · have hw' : (bw == n) = false := by simp [hw]
    go_enter Try.func41, Try.ntmps41
    go_wp2
    go_ret
    exact ⟨by simp, (Below.refl _ _).alloc (Nat.le_refl _) _⟩
theorem of_not (n hi lo : Int) (w : World) (h : ¬ (1 ≤ n ∧ n ≤ 128)) : Calls Try.prog 90 #[.int .i64 n, .int .u64 hi, .int .u64 lo] w fun e w' => e = .returned (.tuple #[.agg #[.int .i64 0, .int .u64 0, .int .u64 0], .int .i64 1]) ∧ Below w.heap.size w w' := by
  have hm := mayBe_no h
  clear h
  go_enter Try.func90, Try.ntmps90
  go_wp2_with (go_at_call 71; refine (widthMayBe_any _ _).mono ?_; rintro e w' ⟨rfl, rfl⟩)
  refine bodyPost_ret (v := .tuple #[.agg #[.int .i64 0, .int .u64 0, .int .u64 0], .int .i64 1]) (by simp [results, Try.results90, go_sem]) rfl ⟨rfl, ?_⟩
  exact (Below.refl _ _).alloc (Nat.le_refl _) _
theorem of_may (n hi lo : Int) (w : World) (h0 : 1 ≤ n) (h1 : n ≤ 128) (a0 : 0 ≤ hi) (a1 : hi < 18446744073709551616) (b0 : 0 ≤ lo) (b1 : lo < 18446744073709551616) : Calls Try.prog 90 #[.int .i64 n, .int .u64 hi, .int .u64 lo] w fun e w' => e = .returned (.tuple #[.agg #[.int .i64 n, .int .u64 (cHi n hi), .int .u64 (cLo n lo)], .int .i64 0]) ∧ Below w.heap.size w w' := by
  have hm := mayBe_yes h0 h1
  go_enter Try.func90, Try.ntmps90
  go_wp2_with (first
    | (go_at_call 71; refine (widthMayBe_any _ _).mono ?_; rintro e w' ⟨rfl, rfl⟩)
    | (go_at_call 72; refine (cut_any n hi lo _ h0 h1 a0 a1 b0 b1).mono ?_; rintro e w1 ⟨rfl, hb⟩; obtain ⟨hc, hf⟩ := bcell hb; have hz : w.heap.size < w1.heap.size := by have := hb.size; simp at this; omega))
  refine bodyPost_ret (v := .tuple #[.agg #[.int .i64 n, .int .u64 (cHi n hi), .int .u64 (cLo n lo)], .int .i64 0]) (by simp [results, Try.results90, go_sem, hc]) rfl ⟨rfl, ?_⟩
  exact (((((Below.refl _ _).alloc (Nat.le_refl _) _).trans (hb.mono (by simp))).setCell (Nat.le_refl _) _).setCell (Nat.le_refl _) _).setCell (Nat.le_refl _) _
theorem of_pure (n : Int) (w : World) : Calls Try.prog 90 #[.int .i64 n, .int .u64 18446744073709551615, .int .u64 18446744073709551615] w fun e w' => (∃ c, e = .returned (.tuple #[.agg #[.int .i64 (ofB n ones ones).w, .int .u64 (ofB n ones ones).hi, .int .u64 (ofB n ones ones).lo], .int .i64 c])) ∧ Below w.heap.size w w' := by
  by_cases h : 1 ≤ n ∧ n ≤ 128
  · have E : ofB n ones ones = ⟨n, cHi n ones, cLo n ones⟩ := by unfold ofB; rw [mayBe_yes h.1 h.2]; rfl
    rw [E]
    exact (of_may n ones ones w h.1 h.2 (by decide) (by decide) (by decide) (by decide)).mono (fun e w' k => ⟨⟨0, k.1⟩, k.2⟩)
  · have E : ofB n ones ones = nb0 := by unfold ofB; rw [mayBe_no h]; rfl
    rw [E]
    exact (of_not n ones ones w h).mono (fun e w' k => ⟨⟨1, k.1⟩, k.2⟩)
theorem at3 {W : World} {b : Nat} {x y z : Value} {t : TypeId} (h : W.heap[b]? = some (.cells #[x, y, z] t (0, 0))) : W.cell? ⟨b, 0, none⟩ = some x ∧ W.cell? ⟨b, 1, none⟩ = some y ∧ W.cell? ⟨b, 2, none⟩ = some z ∧ ∀ o, W.frozen? ⟨b, o, none⟩ = false := by
  refine ⟨?_, ?_, ?_, fun o => ?_⟩
  all_goals first | (unfold World.cell?; simp only [h]; rfl) | (unfold World.frozen?; simp only [h]; simp)
theorem lt_heap {W : World} {s : Nat} {o : Obj} (h : W.heap[s]? = some o) : s < W.heap.size := (Array.getElem?_eq_some_iff.1 h).1
theorem heap_past {W : World} {b : Nat} {o : Obj} (o' : Obj) (h : W.heap[b]? = some o) : (W.alloc o').heap[b]? = some o := (Below.heap_alloc _ _ _ (lt_heap h)).trans h
theorem heap_below {W W' : World} {b : Nat} {o : Obj} (hb : Below W.heap.size W W') (h : W.heap[b]? = some o) : W'.heap[b]? = some o := (hb.block _ (lt_heap h)).trans h
theorem first_any (a n : Int) (h0 : 0 ≤ n) (h1 : n ≤ a) (h2 : a < 9223372036854775808) : Pure 89 #[.int .i64 a, .int .i64 n] (fstB a n).val := fun w => by
  have hsub : IntKind.i64.wrap (a - n) = a - n := by rw [IntKind.wrap_i64]; omega
  have H1 : Hid (∀ W, _) := fun W => of_pure a W
  have H2 : Hid (∀ W, _) := fun W => of_pure (a - n) W
  have E : Hid ((fstB a n).val = .agg #[.int .i64 a, .int .u64 (bits .andNot .u64 (ofB a ones ones).hi (ofB (a - n) ones ones).hi), .int .u64 (bits .andNot .u64 (ofB a ones ones).lo (ofB (a - n) ones ones).lo)]) := rfl
  generalize (fstB a n).val = V at *
  generalize ofB a ones ones = x at *
  generalize ofB (a - n) ones ones = y at *
  obtain ⟨xw, xh, xl⟩ := x
  obtain ⟨yw, yh, yl⟩ := y
  simp only at H1 H2 E
  clear h0 h1 h2
  go_enter Try.func89, Try.ntmps89
  go_wp2_with fail
  refine (H1.out _).mono ?_
  rintro e w1 ⟨⟨c, rfl⟩, hb⟩
  have HB1 := hide hb
  have K1 := hide (heap_below hb (heap_alloc_new _ _))
  clear hb
  go_wp2_with fail
  refine (H2.out _).mono ?_
  rintro e w2 ⟨⟨c2, rfl⟩, hb⟩
  have HB2 := hide hb
  have k := heap_below hb (heap_past _ K1.out)
  have l := heap_below hb (heap_alloc_new _ _)
  obtain ⟨-, q1, q2, -⟩ := at3 (heap_past (.cells #[.int .i64 yw, .int .u64 yh, .int .u64 yl] 47) l)
  obtain ⟨r0, r1, r2, r3⟩ := at3 (heap_past (.cells #[.int .i64 yw, .int .u64 yh, .int .u64 yl] 47) k)
  clear hb k l
  go_wp2
  refine bodyPost_ret (v := .agg #[.int .i64 a, .int .u64 (bits .andNot .u64 xh yh), .int .u64 (bits .andNot .u64 xl yl)]) (by simp [results, Try.results89, go_sem, r0, r1, r2]) rfl ⟨by rw [E.out], ?_⟩
  exact ((((((((Below.refl _ _).alloc (Nat.le_refl _) _).trans (HB1.out.mono (by simp))).alloc (by have := HB1.out.size; simp at this; omega) _).trans (HB2.out.mono (by have := HB1.out.size; simp at this ⊢; omega))).alloc (by have := HB1.out.size; have := HB2.out.size; simp at *; omega) _).setCell (Nat.le_refl _) _).setCell (Nat.le_refl _) _).setCell (Nat.le_refl _) _
end Go.Proofs.Ytoonlpdohhconaa
