/- The document's journal: Frame. -/
import Derived.Test.YtannocdcohofbaaSvRef
import Derived.Test.YtannocdcohofbaaJC
namespace Go.Proofs.Ytannocdcohofbaa
open Go.RowKit

theorem four_any (n : Nat) (w : World) (_hn : n < 18446744073709551616) : Calls Try.prog 48 #[.int .u64 n] w fun e w' => e = .returned (.slice (some ⟨w.heap.size, 0, none⟩) 4 4) ∧ w' = w.alloc (.cells (numC n) 5) := by
  go_enter Try.func48, Try.ntmps48
  go_wp2
  go_ret
  exact ⟨rfl, by simp [numC]⟩
theorem rsumOf_any (a : Option Addr) (cap : Nat) (xs : List Nat) (w : World) (hx : ∀ y ∈ xs, y < 256) (h0 : 1 ≤ xs.length) (hl : xs.length < 140737488355328) (hr : RdA w a xs) :
    Calls Try.prog 46 #[.slice a xs.length cap] w fun e w' => e = .returned (.int .u64 ((sumF 2 xs : Nat) : Int)) ∧ Below w.heap.size w w' := by
  have HS := hide (rsum_two a cap xs w hx hl (hr.s h0))
  clear hr
  generalize sumF 2 xs = V at *
  go_enter Try.func46, Try.ntmps46
  go_wp2_with fail
  refine HS.out.mono ?_
  rintro e w1 ⟨rfl, hb⟩
  have HB := hide hb
  clear hb
  go_wp2
  go_ret
  exact ⟨rfl, HB.out.alloc HB.out.size _⟩
theorem rframe_no (a : Option Addr) (n cap : Nat) (w : World) (h : ¬ (1 ≤ n ∧ n ≤ 65537)) : Calls Try.prog 38 #[.slice a n cap] w fun e w' => e = .returned (.tuple #[.slice none 0 0, .int .i64 1]) ∧ w' = w := by
  by_cases h1 : n < 1
  · have d1 : ((n : Int) < 1) = True := eq_true (by omega)
    have d2 : (n < 1) = True := eq_true h1
    clear h h1
    go_enter Try.func38, Try.ntmps38
    go_wp2
    go_ret2
    exact ⟨rfl, rfl⟩
  · have d1 : ((n : Int) < 1) = False := eq_false (by omega)
    have d3 : ((n : Int) > 65537) = True := eq_true (by omega)
    have d4 : (65537 < n) = True := eq_true (by omega)
    clear h h1
    go_enter Try.func38, Try.ntmps38
    go_wp2
    go_ret2
    exact ⟨rfl, rfl⟩
theorem numC_own (w : World) (n B : Nat) (hB : B ≤ w.heap.size) : Own8 (w.alloc (.cells (numC n) 5)) B (.slice (some ⟨w.heap.size, 0, none⟩) 4 4) (le4 n) := by
  have h : (w.alloc (.cells (numC n) 5)).heap[w.heap.size]? = some (.cells (u8s (le4 n)).toArray 5 (0, 0)) := by
    rw [le4_u8s]; exact heap_alloc_new w _
  exact row_own h hB (by rw [le4_length]; omega)
theorem rframe_yes (a : Option Addr) (cap : Nat) (xs : List Nat) (w : World) (hx : ∀ y ∈ xs, y < 256) (hk : okR xs) (hr : RdA w a xs) :
    Calls Try.prog 38 #[.slice a xs.length cap] w fun e w' => ∃ u, e = .returned (.tuple #[u, .int .i64 0]) ∧ Own8 w' w.heap.size u (frm xs) ∧ Below w.heap.size w w' := by
  have HR := hide hr
  obtain ⟨k0, k1⟩ := hk
  have d1 : ((xs.length : Int) < 1) = False := eq_false (by omega)
  have d3 : ((xs.length : Int) > 65537) = False := eq_false (by omega)
  have d4 : (65537 < xs.length) = False := eq_false (by omega)
  have hw : IntKind.u64.wrap (xs.length : Int) = xs.length := by rw [IntKind.wrap_u64]; omega
  have HS := hide (fun W (h : Below w.heap.size w W) => rsumOf_any a cap xs W hx k0 (by omega) (hr.below h))
  have hs := sum32 xs hx
  have HN : Hid (a = none → cap = 0) := fun e => by subst e; rcases HR.out with h | ⟨_, _, h, _⟩; rw [h] at k0; simp at k0; cases h
  have HF : Hid (le4 xs.length ++ le4 (sumF 2 xs) ++ xs = frm xs) := by show _ = _; rw [frm, List.append_assoc]
  clear hr
  generalize sumF 2 xs = S at *
  go_enter Try.func38, Try.ntmps38
  go_wp2_with fail
  refine (four_any xs.length w (by omega)).mono ?_
  rintro e w1 ⟨rfl, hw1⟩
  have O1 : Hid (Own8 w1 w.heap.size (.slice (some ⟨w.heap.size, 0, none⟩) 4 4) (le4 xs.length)) := by rw [hw1]; exact numC_own w _ _ (Nat.le_refl _)
  have B1 : Hid (Below w.heap.size w w1) := by rw [hw1]; exact (Below.refl _ w).alloc (Nat.le_refl _) _
  clear hw1
  go_wp2_with fail
  refine (HS.out w1 B1.out).mono ?_
  rintro e w2 ⟨rfl, hb⟩
  have O2 := hide (O1.out.below hb)
  have B2 := hide (B1.out.trans (hb.mono B1.out.size))
  clear hb O1 B1
  go_wp2_with fail
  refine (four_any S w2 (by omega)).mono ?_
  rintro e w3 ⟨rfl, hw3⟩
  have hb3 : Below w2.heap.size w2 w3 := by rw [hw3]; exact (Below.refl _ w2).alloc (Nat.le_refl _) _
  have R3 : Hid (RdA w3 (some ⟨w2.heap.size, 0, none⟩) (le4 S)) := by rw [hw3]; exact (numC_own w2 S w2.heap.size (Nat.le_refl _)).rd.2
  have O3 := hide (O2.out.below hb3)
  have B3 := hide (B2.out.trans (hb3.mono B2.out.size))
  clear hw3 hb3 O2 B2
  have hz3 := B3.out.size
  go_wp2_with (first
    | (at_builtin; refine wpList_app8 rfl _ _ rfl w.heap.size _ (le4 xs.length) rfl O3.out _ 4 4 (le4 S) rfl rfl R3.out (fun e => by cases e) (by rw [le4_length, le4_length]; omega) hz3 ?_; intro v4 w4 O4 G4 K4; have OO4 := hide O4; have B4 := hide (below_own B3.out O3.out G4 hz3); have hz4 := B4.out.size; have R4 := hide (HR.out.below B4.out); clear O4 G4 K4)
    | (at_builtin; refine wpList_app8 rfl _ _ rfl w.heap.size _ (le4 xs.length ++ le4 S) rfl OO4.out a xs.length cap xs rfl rfl R4.out HN.out (by rw [List.length_append, le4_length, le4_length]; omega) hz4 ?_; intro v5 w5 O5 G5 K5; have OO5 := hide O5; have B5 := hide (below_own B4.out OO4.out G5 hz4); clear O5 G5 K5))
  go_ret2
  exact ⟨_, rfl, by rw [← HF.out]; exact OO5.out, B5.out⟩
end Go.Proofs.Ytannocdcohofbaa
