/- Pieces of the proof: Agree, CoN. -/
import Derived.Test.YtlipcmonlhdgfaaGreatM23
import Derived.Test.YtlipcmonlhdgfaaGreatM27
import Derived.Test.YtlipcmonlhdgfaaGreatM28
import Derived.Test.YtlipcmonlhdgfaaGreatM29
import Derived.Test.YtlipcmonlhdgfaaGreatM30
import Derived.Test.YtlipcmonlhdgfaaGreatM31
import Derived.Test.YtlipcmonlhdgfaaGreatM32
import Derived.Test.YtlipcmonlhdgfaaGreatM16
/- bits.Do and the document's own Do come to the same, whatever they are given. -/
namespace Go.Proofs.YtlipcmonlhdgfaaGreat
open Go.RowKit

def Agree (op n1 : Int) (u : Nat) (n2 : Int) (v : Nat) (n m : Int) : Prop := ∃ rn rh rl er : Int,
  (∀ W, Calls Tryz.prog 111 #[.int .u8 op, .agg #[.int .i64 n1, .int .u64 (wHi u), .int .u64 (wLo u)], .agg #[.int .i64 n2, .int .u64 (wHi v), .int .u64 (wLo v)], .int .i64 n, .int .i64 m] W fun e W' => e = .returned (.tuple #[.agg #[.int .i64 rn, .int .u64 rh, .int .u64 rl], .int .i64 er]) ∧ Below W.heap.size W W') ∧
  (∀ W, Calls Tryz.prog 186 #[.int .u8 op, .agg #[.int .i64 n1, .int .u64 (wHi u), .int .u64 (wLo u)], .agg #[.int .i64 n2, .int .u64 (wHi v), .int .u64 (wLo v)], .int .i64 n, .int .i64 m] W fun e W' => e = .returned (.tuple #[.agg #[.int .i64 rn, .int .u64 rh, .int .u64 rl], .int .i64 er]) ∧ Below W.heap.size W W')
theorem shape_plain (k : Nat) : ∀ W fv, plainT k W fv → ∃ k caps, fv = .func (Fn.func k) #[] caps := fun _ _ h => ⟨k, #[], h⟩
theorem shape_pair (f : Nat) (G : Spec) : ∀ W fv, pairT f G W fv → ∃ k caps, fv = .func (Fn.func k) #[] caps := fun _ _ ⟨_, ⟨_, _, h, _⟩, _⟩ => ⟨_, _, h⟩
theorem agree_5 (n1 : Int) (u : Nat) (n2 : Int) (v : Nat) (n m : Int) (hu : u < top) (hv : v < top) : Agree 5 n1 u n2 v n m := by
  cases o1 : okN n1 u
  · exact ⟨0, 0, 0, 1, fun W => do_bad 5 n1 n2 n m u v W S5 hu o1 ⟨(5, S5), by simp [tableL], rfl⟩ (by simp [tableL]) (shape_pair _ _), fun W => refDo_bad1 n1 n2 n m u v W 5 true two_5 hu o1⟩
  · cases o2 : okN n2 v
    · exact ⟨0, 0, 0, 1, fun W => do5_bad2 n1 n2 n m u v W o1 hv o2, fun W => refDo_bad2 n1 n2 n m u v W 5 true two_5 hv o1 o2⟩
    · by_cases g : n1 = n2
      · subst g
        exact ⟨_, _, _, 0, fun W => do5_yes n1 n1 n m u v W o1 o2 (by simp), fun W => refDo5_yes n1 n m u v W o1 o2⟩
      · exact ⟨0, 0, 0, 7, fun W => do5_wide n1 n2 n m u v W o1 o2 (by simpa using g), fun W => refDo_wide n1 n2 n m u v W 5 two_5 o1 o2 (by decide) (by decide) (by simpa using g)⟩
theorem agree_6 (n1 : Int) (u : Nat) (n2 : Int) (v : Nat) (n m : Int) (hu : u < top) (hv : v < top) : Agree 6 n1 u n2 v n m := by
  cases o1 : okN n1 u
  · exact ⟨0, 0, 0, 1, fun W => do_bad 6 n1 n2 n m u v W S6 hu o1 ⟨(6, S6), by simp [tableL], rfl⟩ (by simp [tableL]) (shape_pair _ _), fun W => refDo_bad1 n1 n2 n m u v W 6 true two_6 hu o1⟩
  · cases o2 : okN n2 v
    · exact ⟨0, 0, 0, 1, fun W => do6_bad2 n1 n2 n m u v W o1 hv o2, fun W => refDo_bad2 n1 n2 n m u v W 6 true two_6 hv o1 o2⟩
    · by_cases g : n1 = n2
      · subst g
        exact ⟨_, _, _, 0, fun W => do6_yes n1 n1 n m u v W o1 o2 (by simp), fun W => refDo6_yes n1 n m u v W o1 o2⟩
      · exact ⟨0, 0, 0, 7, fun W => do6_wide n1 n2 n m u v W o1 o2 (by simpa using g), fun W => refDo_wide n1 n2 n m u v W 6 two_6 o1 o2 (by decide) (by decide) (by simpa using g)⟩
theorem agree_7 (n1 : Int) (u : Nat) (n2 : Int) (v : Nat) (n m : Int) (hu : u < top) (hv : v < top) : Agree 7 n1 u n2 v n m := by
  cases o1 : okN n1 u
  · exact ⟨0, 0, 0, 1, fun W => do_bad 7 n1 n2 n m u v W S7 hu o1 ⟨(7, S7), by simp [tableL], rfl⟩ (by simp [tableL]) (shape_pair _ _), fun W => refDo_bad1 n1 n2 n m u v W 7 true two_7 hu o1⟩
  · cases o2 : okN n2 v
    · exact ⟨0, 0, 0, 1, fun W => do7_bad2 n1 n2 n m u v W o1 hv o2, fun W => refDo_bad2 n1 n2 n m u v W 7 true two_7 hv o1 o2⟩
    · by_cases g : n1 = n2
      · subst g
        exact ⟨_, _, _, 0, fun W => do7_yes n1 n1 n m u v W o1 o2 (by simp), fun W => refDo7_yes n1 n m u v W o1 o2⟩
      · exact ⟨0, 0, 0, 7, fun W => do7_wide n1 n2 n m u v W o1 o2 (by simpa using g), fun W => refDo_wide n1 n2 n m u v W 7 two_7 o1 o2 (by decide) (by decide) (by simpa using g)⟩
theorem agree_8 (n1 : Int) (u : Nat) (n2 : Int) (v : Nat) (n m : Int) (hu : u < top) (hv : v < top) : Agree 8 n1 u n2 v n m := by
  cases o1 : okN n1 u
  · exact ⟨0, 0, 0, 1, fun W => do_bad 8 n1 n2 n m u v W S8 hu o1 ⟨(8, S8), by simp [tableL], rfl⟩ (by simp [tableL]) (shape_pair _ _), fun W => refDo_bad1 n1 n2 n m u v W 8 true two_8 hu o1⟩
  · cases o2 : okN n2 v
    · exact ⟨0, 0, 0, 1, fun W => do8_bad2 n1 n2 n m u v W o1 hv o2, fun W => refDo_bad2 n1 n2 n m u v W 8 true two_8 hv o1 o2⟩
    · by_cases g : n1 = n2
      · subst g
        exact ⟨_, _, _, 0, fun W => do8_yes n1 n1 n m u v W o1 o2 (by simp), fun W => refDo8_yes n1 n m u v W o1 o2⟩
      · exact ⟨0, 0, 0, 7, fun W => do8_wide n1 n2 n m u v W o1 o2 (by simpa using g), fun W => refDo_wide n1 n2 n m u v W 8 two_8 o1 o2 (by decide) (by decide) (by simpa using g)⟩
theorem agree_9 (n1 : Int) (u : Nat) (n2 : Int) (v : Nat) (n m : Int) (hu : u < top) (hv : v < top) : Agree 9 n1 u n2 v n m := by
  cases o1 : okN n1 u
  · exact ⟨0, 0, 0, 1, fun W => do_bad 9 n1 n2 n m u v W S9 hu o1 ⟨(9, S9), by simp [tableL], rfl⟩ (by simp [tableL]) (shape_pair _ _), fun W => refDo_bad1 n1 n2 n m u v W 9 true two_9 hu o1⟩
  · cases o2 : okN n2 v
    · exact ⟨0, 0, 0, 1, fun W => do9_bad2 n1 n2 n m u v W o1 hv o2, fun W => refDo_bad2 n1 n2 n m u v W 9 true two_9 hv o1 o2⟩
    · by_cases g : n1 = n2
      · subst g
        exact ⟨_, _, _, 0, fun W => do9_yes n1 n1 n m u v W o1 o2 (by simp), fun W => refDo9_yes n1 n m u v W o1 o2⟩
      · exact ⟨0, 0, 0, 7, fun W => do9_wide n1 n2 n m u v W o1 o2 (by simpa using g), fun W => refDo_wide n1 n2 n m u v W 9 two_9 o1 o2 (by decide) (by decide) (by simpa using g)⟩
theorem agree_10 (n1 : Int) (u : Nat) (n2 : Int) (v : Nat) (n m : Int) (hu : u < top) (hv : v < top) : Agree 10 n1 u n2 v n m := by
  cases o1 : okN n1 u
  · exact ⟨0, 0, 0, 1, fun W => do_bad 10 n1 n2 n m u v W S10 hu o1 ⟨(10, S10), by simp [tableL], rfl⟩ (by simp [tableL]) (shape_pair _ _), fun W => refDo_bad1 n1 n2 n m u v W 10 true two_10 hu o1⟩
  · cases o2 : okN n2 v
    · exact ⟨0, 0, 0, 1, fun W => do10_bad2 n1 n2 n m u v W o1 hv o2, fun W => refDo_bad2 n1 n2 n m u v W 10 true two_10 hv o1 o2⟩
    · by_cases g : n1 = n2
      · subst g
        exact ⟨_, _, _, 0, fun W => do10_yes n1 n1 n m u v W o1 o2 (by simp), fun W => refDo10_yes n1 n m u v W o1 o2⟩
      · exact ⟨0, 0, 0, 7, fun W => do10_wide n1 n2 n m u v W o1 o2 (by simpa using g), fun W => refDo_wide n1 n2 n m u v W 10 two_10 o1 o2 (by decide) (by decide) (by simpa using g)⟩
theorem agree_11 (n1 : Int) (u : Nat) (n2 : Int) (v : Nat) (n m : Int) (hu : u < top) (hv : v < top) : Agree 11 n1 u n2 v n m := by
  cases o1 : okN n1 u
  · exact ⟨0, 0, 0, 1, fun W => do_bad 11 n1 n2 n m u v W S11 hu o1 ⟨(11, S11), by simp [tableL], rfl⟩ (by simp [tableL]) (shape_plain _), fun W => refDo11_bad1 n1 n2 n m u v W hu o1⟩
  · obtain ⟨b0, b1, b2, b3⟩ := okN_parts o1
    exact ⟨_, _, _, 0, fun W => do_plain 11 n1 n2 n m _ _ _ 0 163 u v W S11 hu o1 ⟨(11, S11), by simp [tableL], rfl⟩ (by simp [tableL]) rfl ent_not (fun W => notV n1 n2 n m u v W hu b0 b1 b2), fun W => refDo11_yes n1 n2 n m u v W o1 hv⟩
theorem agree_12 (n1 : Int) (u : Nat) (n2 : Int) (v : Nat) (n m : Int) (hu : u < top) (hv : v < top) : Agree 12 n1 u n2 v n m := by
  cases o1 : okN n1 u
  · exact ⟨0, 0, 0, 1, fun W => do_bad 12 n1 n2 n m u v W S12 hu o1 ⟨(12, S12), by simp [tableL], rfl⟩ (by simp [tableL]) (shape_pair _ _), fun W => refDo_bad1 n1 n2 n m u v W 12 false two_12 hu o1⟩
  · cases o2 : okN n2 v
    · exact ⟨0, 0, 0, 1, fun W => do12_bad2 n1 n2 n m u v W o1 hv o2, fun W => refDo_bad2 n1 n2 n m u v W 12 false two_12 hv o1 o2⟩
    · exact ⟨_, _, _, 0, fun W => do12_yes n1 n2 n m u v W o1 o2, fun W => refDo12_yes n1 n2 n m u v W o1 o2⟩
theorem agree_13 (n1 : Int) (u : Nat) (n2 : Int) (v : Nat) (n m : Int) (hu : u < top) (hv : v < top) : Agree 13 n1 u n2 v n m := by
  cases o1 : okN n1 u
  · exact ⟨0, 0, 0, 1, fun W => do_bad 13 n1 n2 n m u v W S13 hu o1 ⟨(13, S13), by simp [tableL], rfl⟩ (by simp [tableL]) (shape_pair _ _), fun W => refDo_bad1 n1 n2 n m u v W 13 false two_13 hu o1⟩
  · cases o2 : okN n2 v
    · exact ⟨0, 0, 0, 1, fun W => do13_bad2 n1 n2 n m u v W o1 hv o2, fun W => refDo_bad2 n1 n2 n m u v W 13 false two_13 hv o1 o2⟩
    · exact ⟨_, _, _, 0, fun W => do13_yes n1 n2 n m u v W o1 o2, fun W => refDo13_yes n1 n2 n m u v W o1 o2⟩
theorem agree_14 (n1 : Int) (u : Nat) (n2 : Int) (v : Nat) (n m : Int) (hu : u < top) (hv : v < top) : Agree 14 n1 u n2 v n m := by
  cases o1 : okN n1 u
  · exact ⟨0, 0, 0, 1, fun W => do_bad 14 n1 n2 n m u v W S14 hu o1 ⟨(14, S14), by simp [tableL], rfl⟩ (by simp [tableL]) (shape_pair _ _), fun W => refDo_bad1 n1 n2 n m u v W 14 false two_14 hu o1⟩
  · cases o2 : okN n2 v
    · exact ⟨0, 0, 0, 1, fun W => do14_bad2 n1 n2 n m u v W o1 hv o2, fun W => refDo_bad2 n1 n2 n m u v W 14 false two_14 hv o1 o2⟩
    · by_cases g : n1 + n2 ≤ 128
      · exact ⟨_, _, _, 0, fun W => do14_yes n1 n2 n m u v W o1 o2 (by simpa using g), fun W => refDo14_yes n1 n2 n m u v W o1 o2 g⟩
      · exact ⟨0, 0, 0, 7, fun W => do14_wide n1 n2 n m u v W o1 o2 (by simpa using g), fun W => refDo14_wide n1 n2 n m u v W o1 o2 (by omega)⟩
theorem agree_15 (n1 : Int) (u : Nat) (n2 : Int) (v : Nat) (n m : Int) (hu : u < top) (hv : v < top) : Agree 15 n1 u n2 v n m := by
  cases o1 : okN n1 u
  · exact ⟨0, 0, 0, 1, fun W => do_bad 15 n1 n2 n m u v W S15 hu o1 ⟨(15, S15), by simp [tableL], rfl⟩ (by simp [tableL]) (shape_plain _), fun W => refDo15_bad1 n1 n2 n m u v W hu o1⟩
  · obtain ⟨b0, b1, b2, b3⟩ := okN_parts o1
    by_cases g0 : m < 0
    · exact ⟨0, 0, 0, 1, fun W => do_plain 15 n1 n2 n m 0 0 0 1 170 u v W S15 hu o1 ⟨(15, S15), by simp [tableL], rfl⟩ (by simp [tableL]) rfl ent_slice (fun W => slice_no n1 _ _ n2 _ _ n m W (by omega)), fun W => refDo15_no_a n1 n2 n m u v W o1 (by simpa using g0)⟩
    by_cases g1 : n < m
    · exact ⟨0, 0, 0, 1, fun W => do_plain 15 n1 n2 n m 0 0 0 1 170 u v W S15 hu o1 ⟨(15, S15), by simp [tableL], rfl⟩ (by simp [tableL]) rfl ent_slice (fun W => slice_no n1 _ _ n2 _ _ n m W (by omega)), fun W => refDo15_no_b n1 n2 n m u v W o1 (by simpa using g0) (by simpa using g1)⟩
    by_cases g2 : n1 ≤ n
    · exact ⟨0, 0, 0, 1, fun W => do_plain 15 n1 n2 n m 0 0 0 1 170 u v W S15 hu o1 ⟨(15, S15), by simp [tableL], rfl⟩ (by simp [tableL]) rfl ent_slice (fun W => slice_no n1 _ _ n2 _ _ n m W (by omega)), fun W => refDo15_no_c n1 n2 n m u v W o1 (by simpa using g0) (by simpa using g1) (by simpa using g2)⟩
    exact ⟨_, _, _, 0, fun W => do_plain 15 n1 n2 n m _ _ _ 0 170 u v W S15 hu o1 ⟨(15, S15), by simp [tableL], rfl⟩ (by simp [tableL]) rfl ent_slice (fun W => slice_yes n1 n2 n m u v W hu (by omega) (by omega) (by omega) b1), fun W => refDo15_yes n1 n2 n m u v W o1 hv (by omega) (by omega) (by omega)⟩
theorem agree_16 (n1 : Int) (u : Nat) (n2 : Int) (v : Nat) (n m : Int) (hu : u < top) (hv : v < top) : Agree 16 n1 u n2 v n m := by
  cases o1 : okN n1 u
  · exact ⟨0, 0, 0, 1, fun W => do_bad 16 n1 n2 n m u v W S16 hu o1 ⟨(16, S16), by simp [tableL], rfl⟩ (by simp [tableL]) (shape_plain _), fun W => refDo16_bad1 n1 n2 n m u v W hu o1⟩
  · by_cases g0 : n < 1
    · exact ⟨0, 0, 0, 1, fun W => do_plain 16 n1 n2 n m 0 0 0 1 171 u v W S16 hu o1 ⟨(16, S16), by simp [tableL], rfl⟩ (by simp [tableL]) rfl ent_cast (fun W => cast_no n1 _ _ n2 _ _ n m W (by omega)), fun W => refDo16_no_a n1 n2 n m u v W o1 (by simpa using g0)⟩
    by_cases g1 : 128 < n
    · exact ⟨0, 0, 0, 1, fun W => do_plain 16 n1 n2 n m 0 0 0 1 171 u v W S16 hu o1 ⟨(16, S16), by simp [tableL], rfl⟩ (by simp [tableL]) rfl ent_cast (fun W => cast_no n1 _ _ n2 _ _ n m W (by omega)), fun W => refDo16_no_b n1 n2 n m u v W o1 (by simpa using g0) (by simpa using g1)⟩
    exact ⟨_, _, _, 0, fun W => do_plain 16 n1 n2 n m _ _ _ 0 171 u v W S16 hu o1 ⟨(16, S16), by simp [tableL], rfl⟩ (by simp [tableL]) rfl ent_cast (fun W => cast_yes n1 n2 n m u v W hu (by omega) (by omega)), fun W => refDo16_yes n1 n2 n m u v W o1 hv (by omega) (by omega)⟩
theorem agree_17 (n1 : Int) (u : Nat) (n2 : Int) (v : Nat) (n m : Int) (hu : u < top) (hv : v < top) : Agree 17 n1 u n2 v n m := by
  cases o1 : okN n1 u
  · exact ⟨0, 0, 0, 1, fun W => do_bad 17 n1 n2 n m u v W S17 hu o1 ⟨(17, S17), by simp [tableL], rfl⟩ (by simp [tableL]) (shape_pair _ _), fun W => refDo_bad1 n1 n2 n m u v W 17 true two_17 hu o1⟩
  · cases o2 : okN n2 v
    · exact ⟨0, 0, 0, 1, fun W => do17_bad2 n1 n2 n m u v W o1 hv o2, fun W => refDo_bad2 n1 n2 n m u v W 17 true two_17 hv o1 o2⟩
    · by_cases g : n1 = n2
      · subst g
        exact ⟨_, _, _, 0, fun W => do17_yes n1 n1 n m u v W o1 o2 (by simp), fun W => refDo17_yes n1 n m u v W o1 o2⟩
      · exact ⟨0, 0, 0, 7, fun W => do17_wide n1 n2 n m u v W o1 o2 (by simpa using g), fun W => refDo_wide n1 n2 n m u v W 17 two_17 o1 o2 (by decide) (by decide) (by simpa using g)⟩
theorem agree_18 (n1 : Int) (u : Nat) (n2 : Int) (v : Nat) (n m : Int) (hu : u < top) (hv : v < top) : Agree 18 n1 u n2 v n m := by
  cases o1 : okN n1 u
  · exact ⟨0, 0, 0, 1, fun W => do_bad 18 n1 n2 n m u v W S18 hu o1 ⟨(18, S18), by simp [tableL], rfl⟩ (by simp [tableL]) (shape_pair _ _), fun W => refDo_bad1 n1 n2 n m u v W 18 true two_18 hu o1⟩
  · cases o2 : okN n2 v
    · exact ⟨0, 0, 0, 1, fun W => do18_bad2 n1 n2 n m u v W o1 hv o2, fun W => refDo_bad2 n1 n2 n m u v W 18 true two_18 hv o1 o2⟩
    · by_cases g : n1 = n2
      · subst g
        exact ⟨_, _, _, 0, fun W => do18_yes n1 n1 n m u v W o1 o2 (by simp), fun W => refDo18_yes n1 n m u v W o1 o2⟩
      · exact ⟨0, 0, 0, 7, fun W => do18_wide n1 n2 n m u v W o1 o2 (by simpa using g), fun W => refDo_wide n1 n2 n m u v W 18 two_18 o1 o2 (by decide) (by decide) (by simpa using g)⟩
theorem agree_19 (n1 : Int) (u : Nat) (n2 : Int) (v : Nat) (n m : Int) (hu : u < top) (hv : v < top) : Agree 19 n1 u n2 v n m := by
  cases o1 : okN n1 u
  · exact ⟨0, 0, 0, 1, fun W => do_bad 19 n1 n2 n m u v W S19 hu o1 ⟨(19, S19), by simp [tableL], rfl⟩ (by simp [tableL]) (shape_pair _ _), fun W => refDo_bad1 n1 n2 n m u v W 19 true two_19 hu o1⟩
  · cases o2 : okN n2 v
    · exact ⟨0, 0, 0, 1, fun W => do19_bad2 n1 n2 n m u v W o1 hv o2, fun W => refDo_bad2 n1 n2 n m u v W 19 true two_19 hv o1 o2⟩
    · by_cases g : n1 = n2
      · subst g
        exact ⟨_, _, _, 0, fun W => do19_yes n1 n1 n m u v W o1 o2 (by simp), fun W => refDo19_yes n1 n m u v W o1 o2⟩
      · exact ⟨0, 0, 0, 7, fun W => do19_wide n1 n2 n m u v W o1 o2 (by simpa using g), fun W => refDo_wide n1 n2 n m u v W 19 two_19 o1 o2 (by decide) (by decide) (by simpa using g)⟩
theorem agree_20 (n1 : Int) (u : Nat) (n2 : Int) (v : Nat) (n m : Int) (hu : u < top) (hv : v < top) : Agree 20 n1 u n2 v n m := by
  cases o1 : okN n1 u
  · exact ⟨0, 0, 0, 1, fun W => do_bad 20 n1 n2 n m u v W S20 hu o1 ⟨(20, S20), by simp [tableL], rfl⟩ (by simp [tableL]) (shape_pair _ _), fun W => refDo_bad1 n1 n2 n m u v W 20 true two_20 hu o1⟩
  · cases o2 : okN n2 v
    · exact ⟨0, 0, 0, 1, fun W => do20_bad2 n1 n2 n m u v W o1 hv o2, fun W => refDo_bad2 n1 n2 n m u v W 20 true two_20 hv o1 o2⟩
    · by_cases g : n1 = n2
      · subst g
        exact ⟨_, _, _, 0, fun W => do20_yes n1 n1 n m u v W o1 o2 (by simp), fun W => refDo20_yes n1 n m u v W o1 o2⟩
      · exact ⟨0, 0, 0, 7, fun W => do20_wide n1 n2 n m u v W o1 o2 (by simpa using g), fun W => refDo_wide n1 n2 n m u v W 20 two_20 o1 o2 (by decide) (by decide) (by simpa using g)⟩
theorem agree_21 (n1 : Int) (u : Nat) (n2 : Int) (v : Nat) (n m : Int) (hu : u < top) (hv : v < top) : Agree 21 n1 u n2 v n m := by
  cases o1 : okN n1 u
  · exact ⟨0, 0, 0, 1, fun W => do_bad 21 n1 n2 n m u v W S21 hu o1 ⟨(21, S21), by simp [tableL], rfl⟩ (by simp [tableL]) (shape_pair _ _), fun W => refDo_bad1 n1 n2 n m u v W 21 false two_21 hu o1⟩
  · cases o2 : okN n2 v
    · exact ⟨0, 0, 0, 1, fun W => do21_bad2 n1 n2 n m u v W o1 hv o2, fun W => refDo_bad2 n1 n2 n m u v W 21 false two_21 hv o1 o2⟩
    · by_cases g : n1 = 1
      · by_cases g2 : n2 = 1
        · subst g g2
          exact ⟨_, _, _, 0, fun W => do21_yes 1 1 n m u v W o1 o2 rfl, fun W => refDo21_yes 1 n m u v W o1 o2 rfl⟩
        · exact ⟨0, 0, 0, 7, fun W => do21_wide n1 n2 n m u v W o1 o2 (by simp [g2]), fun W => refDo21_wide2 n1 n2 n m u v W o1 o2 (by simp [g]) (by simpa using g2)⟩
      · exact ⟨0, 0, 0, 7, fun W => do21_wide n1 n2 n m u v W o1 o2 (by simp [g]), fun W => refDo21_wide1 n1 n2 n m u v W o1 o2 (by simpa using g)⟩
theorem agree_22 (n1 : Int) (u : Nat) (n2 : Int) (v : Nat) (n m : Int) (hu : u < top) (hv : v < top) : Agree 22 n1 u n2 v n m := by
  cases o1 : okN n1 u
  · exact ⟨0, 0, 0, 1, fun W => do_bad 22 n1 n2 n m u v W S22 hu o1 ⟨(22, S22), by simp [tableL], rfl⟩ (by simp [tableL]) (shape_pair _ _), fun W => refDo_bad1 n1 n2 n m u v W 22 false two_22 hu o1⟩
  · cases o2 : okN n2 v
    · exact ⟨0, 0, 0, 1, fun W => do22_bad2 n1 n2 n m u v W o1 hv o2, fun W => refDo_bad2 n1 n2 n m u v W 22 false two_22 hv o1 o2⟩
    · by_cases g : n1 = 1
      · by_cases g2 : n2 = 1
        · subst g g2
          exact ⟨_, _, _, 0, fun W => do22_yes 1 1 n m u v W o1 o2 rfl, fun W => refDo22_yes 1 n m u v W o1 o2 rfl⟩
        · exact ⟨0, 0, 0, 7, fun W => do22_wide n1 n2 n m u v W o1 o2 (by simp [g2]), fun W => refDo22_wide2 n1 n2 n m u v W o1 o2 (by simp [g]) (by simpa using g2)⟩
      · exact ⟨0, 0, 0, 7, fun W => do22_wide n1 n2 n m u v W o1 o2 (by simp [g]), fun W => refDo22_wide1 n1 n2 n m u v W o1 o2 (by simpa using g)⟩
theorem agree_none (op n1 : Int) (u : Nat) (n2 : Int) (v : Nat) (n m : Int) (hop : op < 5 ∨ 22 < op) : Agree op n1 u n2 v n m := by
  have q : ∀ k : Int, 5 ≤ k → k ≤ 22 → (op == k) = false := fun k h1 h2 => beq_eq_false_iff_ne.2 (by omega)
  have q' : ∀ k : Int, 5 ≤ k → k ≤ 22 → (op != k) = true := fun k h1 h2 => by rw [bne_iff_ne]; omega
  refine ⟨0, 0, 0, 1, fun W => do_none op n1 n2 n m u v W ?_, fun W => refDo_none n1 n2 n m u v W op (fun W => two_none op W (q 5 (by decide) (by decide)) (q 6 (by decide) (by decide)) (q 7 (by decide) (by decide)) (q 8 (by decide) (by decide)) (q 9 (by decide) (by decide)) (q 10 (by decide) (by decide)) (q 17 (by decide) (by decide)) (q 18 (by decide) (by decide)) (q 19 (by decide) (by decide)) (q 20 (by decide) (by decide)) (q 12 (by decide) (by decide)) (q 13 (by decide) (by decide)) (q 14 (by decide) (by decide)) (q 21 (by decide) (by decide)) (q 22 (by decide) (by decide))) (q' 11 (by decide) (by decide)) (q' 15 (by decide) (by decide)) (q' 16 (by decide) (by decide))⟩
  intro x hx
  simp only [tableL, List.mem_cons, List.not_mem_nil, or_false] at hx
  rcases hx with rfl | rfl | rfl | rfl | rfl | rfl | rfl | rfl | rfl | rfl | rfl | rfl | rfl | rfl | rfl | rfl | rfl | rfl <;> (simp only [ne_eq]; omega)
theorem agree_all (op n1 : Int) (u : Nat) (n2 : Int) (v : Nat) (n m : Int) (hu : u < top) (hv : v < top) : Agree op n1 u n2 v n m := by
  by_cases h : op < 5 ∨ 22 < op
  · exact agree_none op n1 u n2 v n m h
  · have h' : op = 5 ∨ op = 6 ∨ op = 7 ∨ op = 8 ∨ op = 9 ∨ op = 10 ∨ op = 11 ∨ op = 12 ∨ op = 13 ∨ op = 14 ∨ op = 15 ∨ op = 16 ∨ op = 17 ∨ op = 18 ∨ op = 19 ∨ op = 20 ∨ op = 21 ∨ op = 22 := by omega
    rcases h' with rfl | rfl | rfl | rfl | rfl | rfl | rfl | rfl | rfl | rfl | rfl | rfl | rfl | rfl | rfl | rfl | rfl | rfl
    · exact agree_5 n1 u n2 v n m hu hv
    · exact agree_6 n1 u n2 v n m hu hv
    · exact agree_7 n1 u n2 v n m hu hv
    · exact agree_8 n1 u n2 v n m hu hv
    · exact agree_9 n1 u n2 v n m hu hv
    · exact agree_10 n1 u n2 v n m hu hv
    · exact agree_11 n1 u n2 v n m hu hv
    · exact agree_12 n1 u n2 v n m hu hv
    · exact agree_13 n1 u n2 v n m hu hv
    · exact agree_14 n1 u n2 v n m hu hv
    · exact agree_15 n1 u n2 v n m hu hv
    · exact agree_16 n1 u n2 v n m hu hv
    · exact agree_17 n1 u n2 v n m hu hv
    · exact agree_18 n1 u n2 v n m hu hv
    · exact agree_19 n1 u n2 v n m hu hv
    · exact agree_20 n1 u n2 v n m hu hv
    · exact agree_21 n1 u n2 v n m hu hv
    · exact agree_22 n1 u n2 v n m hu hv
end Go.Proofs.YtlipcmonlhdgfaaGreat
/- package code: operations. -/
namespace Go.Proofs.YtlipcmonlhdgfaaGreat
open Go.RowKit

theorem do_ex (op n1 n2 n m : Int) : ∃ r : Int × Int × Int × Int, (∀ W, Calls Tryz.prog 111 #[.int .u8 op, .agg #[.int .i64 n1, .int .u64 0, .int .u64 0], .agg #[.int .i64 n2, .int .u64 0, .int .u64 0], .int .i64 n, .int .i64 m] W fun e W' => e = .returned (.tuple #[.agg #[.int .i64 r.1, .int .u64 r.2.1, .int .u64 r.2.2.1], .int .i64 r.2.2.2]) ∧ Below W.heap.size W W') ∧ (∀ W, Calls Tryz.prog 186 #[.int .u8 op, .agg #[.int .i64 n1, .int .u64 0, .int .u64 0], .agg #[.int .i64 n2, .int .u64 0, .int .u64 0], .int .i64 n, .int .i64 m] W fun e W' => e = .returned (.tuple #[.agg #[.int .i64 r.1, .int .u64 r.2.1, .int .u64 r.2.2.1], .int .i64 r.2.2.2]) ∧ Below W.heap.size W W') := by
  obtain ⟨rn, rh, rl, er, H1, H2⟩ := agree_all op n1 0 n2 0 n m (by unfold top; omega) (by unfold top; omega)
  have e1 : wHi 0 = 0 := by unfold wHi; omega
  have e2 : wLo 0 = 0 := by unfold wLo; omega
  rw [e1, e2] at H1 H2
  exact ⟨(rn, rh, rl, er), H1, H2⟩
/- What both operations answer, at numbers that are 0. -/
structure DoOk (D : Int → Int → Int → Int → Int → Int × Int × Int × Int) : Prop where
  p : ∀ op n1 n2 n m W, Calls Tryz.prog 111 #[.int .u8 op, .agg #[.int .i64 n1, .int .u64 0, .int .u64 0], .agg #[.int .i64 n2, .int .u64 0, .int .u64 0], .int .i64 n, .int .i64 m] W fun e W' => e = .returned (.tuple #[.agg #[.int .i64 (D op n1 n2 n m).1, .int .u64 (D op n1 n2 n m).2.1, .int .u64 (D op n1 n2 n m).2.2.1], .int .i64 (D op n1 n2 n m).2.2.2]) ∧ Below W.heap.size W W'
  r : ∀ op n1 n2 n m W, Calls Tryz.prog 186 #[.int .u8 op, .agg #[.int .i64 n1, .int .u64 0, .int .u64 0], .agg #[.int .i64 n2, .int .u64 0, .int .u64 0], .int .i64 n, .int .i64 m] W fun e W' => e = .returned (.tuple #[.agg #[.int .i64 (D op n1 n2 n m).1, .int .u64 (D op n1 n2 n m).2.1, .int .u64 (D op n1 n2 n m).2.2.1], .int .i64 (D op n1 n2 n m).2.2.2]) ∧ Below W.heap.size W W'
theorem do_all : ∃ D, DoOk D := by
  obtain ⟨f, hf⟩ := Classical.axiomOfChoice (fun (x : Int × Int × Int × Int × Int) => do_ex x.1 x.2.1 x.2.2.1 x.2.2.2.1 x.2.2.2.2)
  exact ⟨fun a b c d e => f (a, b, c, d, e), fun a b c d e W => (hf (a, b, c, d, e)).1 W, fun a b c d e W => (hf (a, b, c, d, e)).2 W⟩
def opB (D : Int → Int → Int → Int → Int → Int × Int × Int × Int) (sl : List Int) (v : In) : Bool := bits .andNot .i64 (prtI v) (askI v.of) == 0 && ((D v.of (wid sl v.a) (wid sl v.b) v.n v.m).2.2.2 == 0 && (D v.of (wid sl v.a) (wid sl v.b) v.n v.m).1 == wid sl v.to)
end Go.Proofs.YtlipcmonlhdgfaaGreat
