/- New where it refuses, Take of too few (PNew's, over Rd). -/
import Derived.Test.YtlddnpgcoekaaaaGreatDoorKSm
namespace Go.Proofs.YtlddnpgcoekaaaaGreatDoor
open Go.RowKit

theorem new_limit (a : Option Addr) (n cap : Nat) (w : World) (h : 65536 < n) : Calls Tryz.prog 5 #[.slice a n cap] w fun e w' => e = .returned (.tuple #[.pointer none, .int .i64 3]) ∧ w' = w := by
  have hI : (n : Int) > 65536 := by omega
  go_enter Tryz.func5, Tryz.ntmps5
  go_wp2
  go_ret2
  exact ⟨rfl, rfl⟩
/- New: a cursor of its own bytes. -/
theorem cur_new (W : World) (a : Option Addr) (c : Nat) (xs : List Nat) (h : RdC W a xs) : Cur (W.alloc (.cells #[.int .i64 0, .slice a xs.length c, .bool true] 36)) W.heap.size a c xs 0 := by
  have hh : (W.alloc (.cells #[.int .i64 0, .slice a xs.length c, .bool true] 36)).heap[W.heap.size]? = some (.cells #[.int .i64 0, .slice a xs.length c, .bool true] 36 (0, 0)) := heap_alloc_new W _
  refine ⟨by simp, ?_, ?_, ?_, ?_, ?_, ?_⟩
  · unfold World.cell?; simp only [hh]; rfl
  · unfold World.frozen?; simp only [hh]; rfl
  · unfold World.cell?; simp only [hh]; rfl
  · unfold World.cell?; simp only [hh]; rfl
  · exact h.keep (by simp) (fun q e => Below.heap_alloc _ _ _ (h.lt q e))
  · intro q e; have := h.lt q e; omega
theorem take_short {w : World} {g : Nat} {a : Option Addr} {cap : Nat} {xs : List Nat} {t n : Nat} (h : Cur w g a cap xs t) (hxl : xs.length ≤ 100000) (ht : t ≤ 8 * xs.length) (n1 : 1 ≤ n) (n2 : n ≤ 128) (htn : 8 * xs.length < t + n) :
    Calls Tryz.prog 8 #[.pointer (some ⟨g, 0, none⟩), .int .i64 n] w fun e w' =>
      e = .returned (.tuple #[.agg #[.int .i64 0, .int .u64 0, .int .u64 0], .int .i64 9]) ∧ Below w.heap.size w w' := by
  have K0 := hide (h.keep (((Below.refl _ w).alloc (Nat.le_refl _) (.cells #[.int .i64 0, .int .u64 0, .int .u64 0] 71))))
  have hlf : ((8 * xs.length - t : Nat) : Int) < (n : Int) := by omega
  clear h
  go_enter Tryz.func8, Tryz.ntmps8
  go_wp2_with fail
  refine (isThere_any K0.out).mono ?_
  rintro e w1 ⟨rfl, hb1⟩
  have K1 := hide (K0.out.keep hb1)
  have B1 := hide hb1
  clear hb1
  go_wp2_with fail
  refine (left_any K1.out hxl ht).mono ?_
  rintro e w2 ⟨rfl, hb2⟩
  have hb := B1.out.trans (hb2.mono B1.out.size)
  obtain ⟨hc, hf⟩ := bcell hb
  have hz : w.heap.size < w2.heap.size := by have h1 := hb.size; simp at h1; omega
  generalize ((8 * xs.length - t : Nat) : Int) = lf at *
  go_wp2
  refine bodyPost_ret (v := .tuple #[.agg #[.int .i64 0, .int .u64 0, .int .u64 0], .int .i64 9]) (by simp [results, Tryz.results8, go_sem, hc]) rfl ⟨rfl, ?_⟩
  exact ((((((Below.refl _ _).alloc (Nat.le_refl _) _).trans (hb.mono (by simp))).setCell (Nat.le_refl _) _).setCell (Nat.le_refl _) _).setCell (Nat.le_refl _) _)
end Go.Proofs.YtlddnpgcoekaaaaGreatDoor
