/- pointsmanlaw01's helpers num, do, cut and alive. -/
import Derived.Test.YtbbnjilajkllpaaGreatDoorActs
import Derived.Test.YtbbnjilajkllpaaGreatDoorTxt
import Derived.Test.YtbbnjilajkllpaaGreatDoorByt
namespace Go.Proofs.YtbbnjilajkllpaaGreatDoor
open Go.RowKit

theorem num_any (n lo : Int) (w : World) : Calls Tryz.prog 15 #[.int .i64 n, .int .u64 lo] w fun e w' => e = .returned (.agg #[.int .i64 n, .int .u64 0, .int .u64 lo]) ∧ Below w.heap.size w w' := by
  go_enter Tryz.func15, Tryz.ntmps15
  go_wp2
  refine bodyPost_ret (v := .agg #[.int .i64 n, .int .u64 0, .int .u64 lo]) (by simp [results, Tryz.results15, go_sem]) rfl ⟨rfl, ?_⟩
  exact (Below.refl _ _).alloc (Nat.le_refl _) _
theorem do_help (op n1 h1 l1 n2 h2 l2 rn rh rl er : Int) (w : World)
    (HD : ∀ W, Calls Tryz.prog 14 #[.int .u8 op, .agg #[.int .i64 n1, .int .u64 h1, .int .u64 l1], .agg #[.int .i64 n2, .int .u64 h2, .int .u64 l2], .int .i64 0, .int .i64 0] W fun e W' => e = .returned (.tuple #[.agg #[.int .i64 rn, .int .u64 rh, .int .u64 rl], .int .i64 er]) ∧ Below W.heap.size W W') :
    Calls Tryz.prog 17 #[.int .u8 op, .agg #[.int .i64 n1, .int .u64 h1, .int .u64 l1], .agg #[.int .i64 n2, .int .u64 h2, .int .u64 l2]] w fun e w' => e = .returned (.agg #[.int .i64 rn, .int .u64 rh, .int .u64 rl]) ∧ Below w.heap.size w w' := by
  have HD' := hide HD
  clear HD
  go_enter Tryz.func17, Tryz.ntmps17
  go_wp2_with fail
  refine (HD'.out _).mono ?_
  rintro e w1 ⟨rfl, hb⟩
  obtain ⟨hc, hf⟩ := bcell hb
  have hz : w.heap.size + 2 < w1.heap.size := by have := hb.size; simp at this; omega
  go_wp2
  refine bodyPost_ret (v := .agg #[.int .i64 rn, .int .u64 rh, .int .u64 rl]) (by simp [results, Tryz.results17, go_sem, hc, hz, World.cell?_alloc_past]) rfl ⟨rfl, ?_⟩
  exact ((((((((Below.refl _ _).alloc (Nat.le_refl _) _).alloc (by simp) _).alloc (by simp; omega) _).trans (hb.mono (by simp; omega))).setCell (by show w.heap.size ≤ w.heap.size + 2; omega) _).setCell (by show w.heap.size ≤ w.heap.size + 2; omega) _).setCell (by show w.heap.size ≤ w.heap.size + 2; omega) _).alloc (by simp; omega) _
theorem cut_help (n1 h1 l1 n m rn rh rl er : Int) (w : World)
    (HD : ∀ W, Calls Tryz.prog 14 #[.int .u8 15, .agg #[.int .i64 n1, .int .u64 h1, .int .u64 l1], .agg #[.int .i64 0, .int .u64 0, .int .u64 0], .int .i64 n, .int .i64 m] W fun e W' => e = .returned (.tuple #[.agg #[.int .i64 rn, .int .u64 rh, .int .u64 rl], .int .i64 er]) ∧ Below W.heap.size W W') :
    Calls Tryz.prog 18 #[.agg #[.int .i64 n1, .int .u64 h1, .int .u64 l1], .int .i64 n, .int .i64 m] w fun e w' => e = .returned (.agg #[.int .i64 rn, .int .u64 rh, .int .u64 rl]) ∧ Below w.heap.size w w' := by
  have HD' := hide HD
  clear HD
  go_enter Tryz.func18, Tryz.ntmps18
  go_wp2_with fail
  refine (HD'.out _).mono ?_
  rintro e w1 ⟨rfl, hb⟩
  obtain ⟨hc, hf⟩ := bcell hb
  have hz : w.heap.size + 1 < w1.heap.size := by have := hb.size; simp at this; omega
  go_wp2
  refine bodyPost_ret (v := .agg #[.int .i64 rn, .int .u64 rh, .int .u64 rl]) (by simp [results, Tryz.results18, go_sem, hc, hz, World.cell?_alloc_past]) rfl ⟨rfl, ?_⟩
  exact (((((((Below.refl _ _).alloc (Nat.le_refl _) _).alloc (by simp) _).trans (hb.mono (by simp; omega))).setCell (by show w.heap.size ≤ w.heap.size + 1; omega) _).setCell (by show w.heap.size ≤ w.heap.size + 1; omega) _).setCell (by show w.heap.size ≤ w.heap.size + 1; omega) _).alloc (by simp; omega) _
theorem chainB {w W w1 : World} (h : Below w.heap.size w W) (hb : Below W.heap.size W w1) : Below w.heap.size w w1 := h.trans (hb.mono h.size)
theorem row8_of_own {w : World} {B g N : Nat} {xs : List Value} {l : List Nat} (h : w.ownsRow B 5 1 (.slice (some ⟨g, 0, none⟩) N N) N xs) (hx : xs = l.map (fun n => Value.int .u8 (n : Nat))) : Row8 w (.slice (some ⟨g, 0, none⟩) N N) l := by
  subst hx
  have hl : l.length = N := by have := h.1; simpa using this
  refine ⟨g, 0, N, by rw [hl], fun i hi => ?_⟩
  rw [Nat.zero_add, h.cellAt i (by omega)]
  simp [hi]
theorem Row8.keep {w w1 : World} {v : Value} {l : List Nat} (h : Row8 w v l) (hb : Below w.heap.size w w1) : Row8 w1 v l := by
  obtain ⟨b, off, cap, hv, hc⟩ := h
  exact ⟨b, off, cap, hv, fun i hi => by rw [hb.cell (World.block_lt_of_cell? w _ (hc i hi))]; exact hc i hi⟩

theorem lit8 (w : World) : Row8 (w.alloc (.cells #[.int .u8 10, .int .u8 5] 5)) (.slice (some ⟨w.heap.size, 0, none⟩) 2 2) [10, 5] := by
  refine ⟨w.heap.size, 0, 2, rfl, fun i hi => ?_⟩
  have h : (w.alloc (.cells #[.int .u8 10, .int .u8 5] 5)).heap[w.heap.size]? = some (.cells #[.int .u8 10, .int .u8 5] 5 (0, 0)) := heap_alloc_new w _
  have hi' : i = 0 ∨ i = 1 := by simp at hi; omega
  rcases hi' with rfl | rfl <;> (unfold World.cell?; simp only [h]; rfl)
set_option maxRecDepth 100000 in
set_option maxHeartbeats 4000000 in
theorem alive_any (w : World) (ht : w.cell? ⟨5, 15, none⟩ = some (.int .u8 4)) :
    Calls Tryz.prog 6 #[] w fun e w' => e = .returned (.bool true) ∧ Below w.heap.size w w' := by
  have hG : 5 < w.heap.size := World.block_lt_of_cell? w _ ht
  have D1 : Hid (∀ W, Calls Tryz.prog 14 #[.int .u8 5, .agg #[.int .i64 8, .int .u64 0, .int .u64 1], .agg #[.int .i64 4, .int .u64 0, .int .u64 1], .int .i64 0, .int .i64 0] W fun e W' => e = .returned (.tuple #[.agg #[.int .i64 0, .int .u64 0, .int .u64 0], .int .i64 7]) ∧ Below W.heap.size W W') := fun W => do5_wide 8 4 0 0 1 1 W (by decide) (by decide) (by decide)
  have D2 : Hid (∀ W, Calls Tryz.prog 14 #[.int .u8 15, .agg #[.int .i64 8, .int .u64 0, .int .u64 1], .agg #[.int .i64 0, .int .u64 0, .int .u64 0], .int .i64 8, .int .i64 0] W fun e W' => e = .returned (.tuple #[.agg #[.int .i64 0, .int .u64 0, .int .u64 0], .int .i64 1]) ∧ Below W.heap.size W W') := fun W => do_plain 15 8 0 8 0 0 0 0 1 51 1 0 W S15 (by decide) (by decide) ⟨(15, S15), by simp [tableL], rfl⟩ (by simp [tableL]) rfl ent_slice (fun W => slice_no 8 _ _ 0 _ _ 8 0 W (by omega))
  have D3 : Hid (∀ W, Calls Tryz.prog 14 #[.int .u8 1, .agg #[.int .i64 8, .int .u64 0, .int .u64 1], .agg #[.int .i64 8, .int .u64 0, .int .u64 1], .int .i64 0, .int .i64 0] W fun e W' => e = .returned (.tuple #[.agg #[.int .i64 0, .int .u64 0, .int .u64 0], .int .i64 1]) ∧ Below W.heap.size W W') := fun W => do_none 1 8 8 0 0 1 1 W (by simp [tableL])
  have E4 : Hid (∀ W, Calls Tryz.prog 14 #[.int .u8 5, .agg #[.int .i64 8, .int .u64 0, .int .u64 255], .agg #[.int .i64 8, .int .u64 0, .int .u64 2], .int .i64 0, .int .i64 0] W fun e W' => e = .returned (.tuple #[.agg #[.int .i64 8, .int .u64 0, .int .u64 1], .int .i64 0]) ∧ Below W.heap.size W W') := fun W => do5_yes 8 8 0 0 255 2 W (by decide) (by decide) (by decide)
  have E5 : Hid (∀ W, Calls Tryz.prog 14 #[.int .u8 12, .agg #[.int .i64 8, .int .u64 0, .int .u64 129], .agg #[.int .i64 4, .int .u64 0, .int .u64 1], .int .i64 0, .int .i64 0] W fun e W' => e = .returned (.tuple #[.agg #[.int .i64 8, .int .u64 0, .int .u64 2], .int .i64 0]) ∧ Below W.heap.size W W') := fun W => do12_yes 8 4 0 0 129 1 W (by decide) (by decide)
  have E6 : Hid (∀ W, Calls Tryz.prog 14 #[.int .u8 14, .agg #[.int .i64 4, .int .u64 0, .int .u64 10], .agg #[.int .i64 8, .int .u64 0, .int .u64 5], .int .i64 0, .int .i64 0] W fun e W' => e = .returned (.tuple #[.agg #[.int .i64 12, .int .u64 0, .int .u64 2565], .int .i64 0]) ∧ Below W.heap.size W W') := fun W => do14_yes 4 8 0 0 10 5 W (by decide) (by decide) (by decide)
  have E7 : Hid (∀ W, Calls Tryz.prog 14 #[.int .u8 15, .agg #[.int .i64 8, .int .u64 0, .int .u64 165], .agg #[.int .i64 0, .int .u64 0, .int .u64 0], .int .i64 7, .int .i64 4] W fun e W' => e = .returned (.tuple #[.agg #[.int .i64 4, .int .u64 0, .int .u64 10], .int .i64 0]) ∧ Below W.heap.size W W') := fun W => do_plain 15 8 0 7 4 _ _ _ 0 51 165 0 W S15 (by decide) (by decide) ⟨(15, S15), by simp [tableL], rfl⟩ (by simp [tableL]) rfl ent_slice (fun W => slice_yes 8 0 7 4 165 0 W (by decide) (by decide) (by decide) (by decide) (by decide))
  have D4 := hide (fun W => do_help 5 8 0 255 8 0 2 8 0 1 0 W (unhide E4))
  have D5 := hide (fun W => do_help 12 8 0 129 4 0 1 8 0 2 0 W (unhide E5))
  have D6 := hide (fun W => do_help 14 4 0 10 8 0 5 12 0 2565 0 W (unhide E6))
  have D7 := hide (fun W => cut_help 8 0 165 7 4 4 0 10 0 W (unhide E7))
  have DT := hide (fun W h => text_12 W h)
  have DB : Hid (∀ W, Calls Tryz.prog 4 #[.agg #[.int .i64 12, .int .u64 0, .int .u64 2565]] W fun e W' => ∃ g N, N = (Int.toNat 12 + 7) / 8 ∧ e = .returned (.tuple #[.slice (some ⟨g, 0, none⟩) N N, .int .i64 0]) ∧ W'.ownsRow W.heap.size 5 1 (.slice (some ⟨g, 0, none⟩) N N) N (byteTo 2565 N N) ∧ Below W.heap.size W W') := fun W => bytes_yes 12 2565 W (by decide) (by decide) (by decide) (by decide)
  have HB := hide (Below.refl w.heap.size w)
  have HT := hide ht
  clear ht E4 E5 E6 E7
  go_enter Tryz.func6, Tryz.ntmps6
  go_wp2_with fail
  refine (num_any 8 1 _).mono ?_
  rintro e w0 ⟨rfl, hb⟩
  have HB := hide (chainB (by first | exact (unhide HB) | exact (unhide HB).alloc (unhide HB).size _ | exact ((unhide HB).alloc (unhide HB).size _).alloc (by have := (unhide HB).size; simp; omega) _) hb)
  clear hb
  go_wp2_with fail
  refine (num_any 4 1 _).mono ?_
  rintro e w1 ⟨rfl, hb⟩
  have HB := hide (chainB (by first | exact (unhide HB) | exact (unhide HB).alloc (unhide HB).size _ | exact ((unhide HB).alloc (unhide HB).size _).alloc (by have := (unhide HB).size; simp; omega) _) hb)
  clear hb
  go_wp2_with fail
  refine (D1.out _).mono ?_
  rintro e w2 ⟨rfl, hb⟩
  have HB := hide (chainB (by first | exact (unhide HB) | exact (unhide HB).alloc (unhide HB).size _ | exact ((unhide HB).alloc (unhide HB).size _).alloc (by have := (unhide HB).size; simp; omega) _) hb)
  clear hb
  go_wp2_with fail
  refine (num_any 8 1 _).mono ?_
  rintro e w3 ⟨rfl, hb⟩
  have HB := hide (chainB (by first | exact (unhide HB) | exact (unhide HB).alloc (unhide HB).size _ | exact ((unhide HB).alloc (unhide HB).size _).alloc (by have := (unhide HB).size; simp; omega) _) hb)
  clear hb
  go_wp2_with fail
  refine (D2.out _).mono ?_
  rintro e w4 ⟨rfl, hb⟩
  have HB := hide (chainB (by first | exact (unhide HB) | exact (unhide HB).alloc (unhide HB).size _ | exact ((unhide HB).alloc (unhide HB).size _).alloc (by have := (unhide HB).size; simp; omega) _) hb)
  clear hb
  go_wp2_with fail
  refine (num_any 8 1 _).mono ?_
  rintro e w5 ⟨rfl, hb⟩
  have HB := hide (chainB (by first | exact (unhide HB) | exact (unhide HB).alloc (unhide HB).size _ | exact ((unhide HB).alloc (unhide HB).size _).alloc (by have := (unhide HB).size; simp; omega) _) hb)
  clear hb
  go_wp2_with fail
  refine (num_any 8 1 _).mono ?_
  rintro e w6 ⟨rfl, hb⟩
  have HB := hide (chainB (by first | exact (unhide HB) | exact (unhide HB).alloc (unhide HB).size _ | exact ((unhide HB).alloc (unhide HB).size _).alloc (by have := (unhide HB).size; simp; omega) _) hb)
  clear hb
  go_wp2_with fail
  refine (D3.out _).mono ?_
  rintro e w7 ⟨rfl, hb⟩
  have HB := hide (chainB (by first | exact (unhide HB) | exact (unhide HB).alloc (unhide HB).size _ | exact ((unhide HB).alloc (unhide HB).size _).alloc (by have := (unhide HB).size; simp; omega) _) hb)
  clear hb
  go_wp2_with fail
  refine (num_any 12 2565 _).mono ?_
  rintro e w8 ⟨rfl, hb⟩
  have HB := hide (chainB (by first | exact (unhide HB) | exact (unhide HB).alloc (unhide HB).size _ | exact ((unhide HB).alloc (unhide HB).size _).alloc (by have := (unhide HB).size; simp; omega) _) hb)
  clear hb
  go_wp2_with fail
  refine (DT.out _ (by rw [(unhide HB).cell (show 5 < w.heap.size by omega)]; exact HT.out)).mono ?_
  rintro e w9 ⟨rfl, hb⟩
  have HB := hide (chainB (by first | exact (unhide HB) | exact (unhide HB).alloc (unhide HB).size _ | exact ((unhide HB).alloc (unhide HB).size _).alloc (by have := (unhide HB).size; simp; omega) _) hb)
  clear hb
  go_wp2_with fail
  refine (num_any 12 2565 _).mono ?_
  rintro e w10 ⟨rfl, hb⟩
  have HB := hide (chainB (by first | exact (unhide HB) | exact (unhide HB).alloc (unhide HB).size _ | exact ((unhide HB).alloc (unhide HB).size _).alloc (by have := (unhide HB).size; simp; omega) _) hb)
  clear hb
  go_wp2_with fail
  refine (DB.out _).mono ?_
  rintro e w11 ⟨g, N, hN, rfl, ho, hb⟩
  have hN2 : N = 2 := hN
  subst hN2
  have HR := hide (row8_of_own (l := [10, 5]) ho rfl)
  clear ho hN
  have HB := hide (chainB (by first | exact (unhide HB) | exact (unhide HB).alloc (unhide HB).size _ | exact ((unhide HB).alloc (unhide HB).size _).alloc (by have := (unhide HB).size; simp; omega) _) hb)
  clear hb
  go_wp2_with fail
  refine (same_yes [10, 5] (by decide) _ _ _ (HR.out.keep (by first | exact (Below.refl _ _).alloc (Nat.le_refl _) _ | exact Below.refl _ _)) (lit8 _)).mono ?_
  rintro e w12 ⟨rfl, hb⟩
  clear HR
  have HB := hide (chainB (by first | exact (unhide HB) | exact (unhide HB).alloc (unhide HB).size _ | exact ((unhide HB).alloc (unhide HB).size _).alloc (by have := (unhide HB).size; simp; omega) _) hb)
  clear hb
  go_wp2_with fail
  refine (num_any 8 255 _).mono ?_
  rintro e w13 ⟨rfl, hb⟩
  have HB := hide (chainB (by first | exact (unhide HB) | exact (unhide HB).alloc (unhide HB).size _ | exact ((unhide HB).alloc (unhide HB).size _).alloc (by have := (unhide HB).size; simp; omega) _) hb)
  clear hb
  go_wp2_with fail
  refine (num_any 8 2 _).mono ?_
  rintro e w14 ⟨rfl, hb⟩
  have HB := hide (chainB (by first | exact (unhide HB) | exact (unhide HB).alloc (unhide HB).size _ | exact ((unhide HB).alloc (unhide HB).size _).alloc (by have := (unhide HB).size; simp; omega) _) hb)
  clear hb
  go_wp2_with fail
  refine ((D4.out _)).mono ?_
  rintro e w15 ⟨rfl, hb⟩
  have HB := hide (chainB (by first | exact (unhide HB) | exact (unhide HB).alloc (unhide HB).size _ | exact ((unhide HB).alloc (unhide HB).size _).alloc (by have := (unhide HB).size; simp; omega) _) hb)
  clear hb
  go_wp2_with fail
  refine (num_any 8 1 _).mono ?_
  rintro e w16 ⟨rfl, hb⟩
  have HB := hide (chainB (by first | exact (unhide HB) | exact (unhide HB).alloc (unhide HB).size _ | exact ((unhide HB).alloc (unhide HB).size _).alloc (by have := (unhide HB).size; simp; omega) _) hb)
  clear hb
  go_wp2_with fail
  refine (num_any 8 129 _).mono ?_
  rintro e w17 ⟨rfl, hb⟩
  have HB := hide (chainB (by first | exact (unhide HB) | exact (unhide HB).alloc (unhide HB).size _ | exact ((unhide HB).alloc (unhide HB).size _).alloc (by have := (unhide HB).size; simp; omega) _) hb)
  clear hb
  go_wp2_with fail
  refine (num_any 4 1 _).mono ?_
  rintro e w18 ⟨rfl, hb⟩
  have HB := hide (chainB (by first | exact (unhide HB) | exact (unhide HB).alloc (unhide HB).size _ | exact ((unhide HB).alloc (unhide HB).size _).alloc (by have := (unhide HB).size; simp; omega) _) hb)
  clear hb
  go_wp2_with fail
  refine ((D5.out _)).mono ?_
  rintro e w19 ⟨rfl, hb⟩
  have HB := hide (chainB (by first | exact (unhide HB) | exact (unhide HB).alloc (unhide HB).size _ | exact ((unhide HB).alloc (unhide HB).size _).alloc (by have := (unhide HB).size; simp; omega) _) hb)
  clear hb
  go_wp2_with fail
  refine (num_any 8 2 _).mono ?_
  rintro e w20 ⟨rfl, hb⟩
  have HB := hide (chainB (by first | exact (unhide HB) | exact (unhide HB).alloc (unhide HB).size _ | exact ((unhide HB).alloc (unhide HB).size _).alloc (by have := (unhide HB).size; simp; omega) _) hb)
  clear hb
  go_wp2_with fail
  refine (num_any 4 10 _).mono ?_
  rintro e w21 ⟨rfl, hb⟩
  have HB := hide (chainB (by first | exact (unhide HB) | exact (unhide HB).alloc (unhide HB).size _ | exact ((unhide HB).alloc (unhide HB).size _).alloc (by have := (unhide HB).size; simp; omega) _) hb)
  clear hb
  go_wp2_with fail
  refine (num_any 8 5 _).mono ?_
  rintro e w22 ⟨rfl, hb⟩
  have HB := hide (chainB (by first | exact (unhide HB) | exact (unhide HB).alloc (unhide HB).size _ | exact ((unhide HB).alloc (unhide HB).size _).alloc (by have := (unhide HB).size; simp; omega) _) hb)
  clear hb
  go_wp2_with fail
  refine ((D6.out _)).mono ?_
  rintro e w23 ⟨rfl, hb⟩
  have HB := hide (chainB (by first | exact (unhide HB) | exact (unhide HB).alloc (unhide HB).size _ | exact ((unhide HB).alloc (unhide HB).size _).alloc (by have := (unhide HB).size; simp; omega) _) hb)
  clear hb
  go_wp2_with fail
  refine (num_any 12 2565 _).mono ?_
  rintro e w24 ⟨rfl, hb⟩
  have HB := hide (chainB (by first | exact (unhide HB) | exact (unhide HB).alloc (unhide HB).size _ | exact ((unhide HB).alloc (unhide HB).size _).alloc (by have := (unhide HB).size; simp; omega) _) hb)
  clear hb
  go_wp2_with fail
  refine (num_any 8 165 _).mono ?_
  rintro e w25 ⟨rfl, hb⟩
  have HB := hide (chainB (by first | exact (unhide HB) | exact (unhide HB).alloc (unhide HB).size _ | exact ((unhide HB).alloc (unhide HB).size _).alloc (by have := (unhide HB).size; simp; omega) _) hb)
  clear hb
  go_wp2_with fail
  refine ((D7.out _)).mono ?_
  rintro e w26 ⟨rfl, hb⟩
  have HB := hide (chainB (by first | exact (unhide HB) | exact (unhide HB).alloc (unhide HB).size _ | exact ((unhide HB).alloc (unhide HB).size _).alloc (by have := (unhide HB).size; simp; omega) _) hb)
  clear hb
  go_wp2_with fail
  refine (num_any 4 10 _).mono ?_
  rintro e w27 ⟨rfl, hb⟩
  have HB := hide (chainB (by first | exact (unhide HB) | exact (unhide HB).alloc (unhide HB).size _ | exact ((unhide HB).alloc (unhide HB).size _).alloc (by have := (unhide HB).size; simp; omega) _) hb)
  clear hb
  go_wp2
  go_ret
  exact ⟨rfl, unhide HB⟩
end Go.Proofs.YtbbnjilajkllpaaGreatDoor
