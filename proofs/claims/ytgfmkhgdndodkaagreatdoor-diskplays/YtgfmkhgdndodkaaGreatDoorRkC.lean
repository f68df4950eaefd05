/- pointsmanref04: Append while a failure is set. -/
import Derived.Test.YtgfmkhgdndodkaaGreatDoorRkB
namespace Go.Proofs.YtgfmkhgdndodkaaGreatDoor
open Go.RowKit

set_option maxRecDepth 100000 in
set_option maxHeartbeats 1000000 in
theorem rcut_none {B g room n : Nat} {v : Value} {xs : List Nat} {w : World} (hf : xs.length + ([] : List Nat).length ≤ room) (h : Rk w B g v room xs false (some n)) : Calls Tryz.prog 15 #[.pointer (some ⟨g, 0, none⟩), .slice none 0 0] w fun e w' => e = .returned (.int .i64 13) ∧ ∃ v', Rk w' B g v' room (xs ++ []) true none ∧ Mv g v v' w w' := by
  have hp := ref_eql_no g
  obtain ⟨a1, cap1, rfl, _, _, _⟩ := h.own.shape
  have c0 := h.c0
  have c1 := h.c1
  have c2 := h.c2
  have c3 : w.cell? ⟨g, 3, none⟩ = some (.bool true) := h.c3
  obtain ⟨n0, c4, hn0⟩ := h.c4
  obtain rfl : n0 = (n : Int) := hn0 n rfl
  have s1 := h.soft 1
  have hr1 := h.r1
  have hl := h.le
  have hw : IntKind.i64.wrap ((room : Int) - (xs.length : Int)) = ((room - xs.length : Nat) : Int) := by rw [IntKind.wrap_i64]; omega
  have hd : decide ((0 : Int) > ((room - xs.length : Nat) : Int)) = false := by simp
  have HL : Hid (xs.length + ([] : List Nat).length ≤ room) := hf
  have e1 : (if (0 : Int) < (n : Int) then (0 : Int) else (n : Int)) = 0 := by split <;> omega
  have e2 : (if 0 < n then (0 : Int) else (n : Int)) = 0 := by split <;> omega
  have HD := hide (fun m => h.drewN m)
  clear h hf hn0
  generalize room - xs.length = R at *
  go_enter Tryz.func15, Tryz.ntmps15
  go_wp2
  go_quiet (fail)
  go_wp2
  go_region_law (refine step_appL rfl _ _ rfl B _ xs rfl (HD.out (nq + 1)).own none 0 0 [] rfl rfl (.inl rfl) (by simp) (by have := HL.out; omega) (HD.out (nq + 1)).BW ?_; intro v7 w7 O7 G7 K7; obtain ⟨a7, n7, p7, rfl⟩ := O7.sl; have L7 := hide ((HD.out (nq + 1)).lay G7 O7 K7 (by rw [List.length_append]; exact HL.out)); have c7 := (World.cell?_of_block (w := w.drewN (nq + 1)) (a := ⟨g, 1, none⟩) (G7.block g (HD.out (nq + 1)).lt (fun e => (HD.out (nq + 1)).ne e.symm))).trans (HD.out (nq + 1)).c1; have s7 := (World.frozen?_of_block (w := w.drewN (nq + 1)) (a := ⟨g, 1, none⟩) (G7.block g (HD.out (nq + 1)).lt (fun e => (HD.out (nq + 1)).ne e.symm))).trans ((HD.out (nq + 1)).soft 1); clear O7 G7 K7)
  all_goals
    have d2 := L7.out.1.c2
    have d3 := (L7.out.1.set2 true).c3
    have t2 := L7.out.1.soft 2
    have t3 := (L7.out.1.set2 true).soft 3
    have LL := hide (⟨(L7.out.1.set2 true).set3, (L7.out.2.setg 2 (.bool true)).setg 3 (.bool false)⟩ : _ ∧ _)
    go_wp2
    go_ret
    exact ⟨rfl, _, LL.out.1, ((Mv.refl g _ w).drewN (nq + 1)).trans LL.out.2⟩
set_option maxRecDepth 100000 in
set_option maxHeartbeats 1000000 in
theorem rcut_q {B g room n : Nat} {v : Value} {xs : List Nat} {w : World} (q : Addr) (cap : Nat) (hf : xs.length + ([] : List Nat).length ≤ room) (h : Rk w B g v room xs false (some n)) : Calls Tryz.prog 15 #[.pointer (some ⟨g, 0, none⟩), .slice (some q) 0 cap] w fun e w' => e = .returned (.int .i64 13) ∧ ∃ v', Rk w' B g v' room (xs ++ []) true none ∧ Mv g v v' w w' := by
  have hp := ref_eql_no g
  obtain ⟨a1, cap1, rfl, _, _, _⟩ := h.own.shape
  have c0 := h.c0
  have c1 := h.c1
  have c2 := h.c2
  have c3 : w.cell? ⟨g, 3, none⟩ = some (.bool true) := h.c3
  obtain ⟨n0, c4, hn0⟩ := h.c4
  obtain rfl : n0 = (n : Int) := hn0 n rfl
  have s1 := h.soft 1
  have hr1 := h.r1
  have hl := h.le
  have hw : IntKind.i64.wrap ((room : Int) - (xs.length : Int)) = ((room - xs.length : Nat) : Int) := by rw [IntKind.wrap_i64]; omega
  have hd : decide ((0 : Int) > ((room - xs.length : Nat) : Int)) = false := by simp
  have HL : Hid (xs.length + ([] : List Nat).length ≤ room) := hf
  have e1 : (if (0 : Int) < (n : Int) then (0 : Int) else (n : Int)) = 0 := by split <;> omega
  have e2 : (if 0 < n then (0 : Int) else (n : Int)) = 0 := by split <;> omega
  have hqa : q.add 0 = q := by simp [Addr.add]
  have HD := hide (fun m => h.drewN m)
  clear h hf hn0
  generalize room - xs.length = R at *
  go_enter Tryz.func15, Tryz.ntmps15
  go_wp2
  go_quiet (fail)
  go_wp2
  go_region_law (refine step_appL rfl _ _ rfl B _ xs rfl (HD.out (nq + 1)).own (some q) 0 cap [] rfl rfl (.inl rfl) (by simp) (by have := HL.out; omega) (HD.out (nq + 1)).BW ?_; intro v7 w7 O7 G7 K7; obtain ⟨a7, n7, p7, rfl⟩ := O7.sl; have L7 := hide ((HD.out (nq + 1)).lay G7 O7 K7 (by rw [List.length_append]; exact HL.out)); have c7 := (World.cell?_of_block (w := w.drewN (nq + 1)) (a := ⟨g, 1, none⟩) (G7.block g (HD.out (nq + 1)).lt (fun e => (HD.out (nq + 1)).ne e.symm))).trans (HD.out (nq + 1)).c1; have s7 := (World.frozen?_of_block (w := w.drewN (nq + 1)) (a := ⟨g, 1, none⟩) (G7.block g (HD.out (nq + 1)).lt (fun e => (HD.out (nq + 1)).ne e.symm))).trans ((HD.out (nq + 1)).soft 1); clear O7 G7 K7)
  all_goals
    have d2 := L7.out.1.c2
    have d3 := (L7.out.1.set2 true).c3
    have t2 := L7.out.1.soft 2
    have t3 := (L7.out.1.set2 true).soft 3
    have LL := hide (⟨(L7.out.1.set2 true).set3, (L7.out.2.setg 2 (.bool true)).setg 3 (.bool false)⟩ : _ ∧ _)
    go_wp2
    go_ret
    exact ⟨rfl, _, LL.out.1, ((Mv.refl g _ w).drewN (nq + 1)).trans LL.out.2⟩
set_option maxRecDepth 100000 in
set_option maxHeartbeats 1000000 in
theorem rcut_some {B g room n : Nat} {v : Value} {xs : List Nat} {w : World} (q off cap : Nat) (ys : List Nat) (hr : RdA w (some ⟨q, off, none⟩) ys) (hlc : ys.length ≤ cap) (hf : xs.length + ys.length ≤ room) (h : Rk w B g v room xs false (some n)) : Calls Tryz.prog 15 #[.pointer (some ⟨g, 0, none⟩), .slice (some ⟨q, off, none⟩) ys.length cap] w fun e w' => e = .returned (.int .i64 13) ∧ ∃ v', Rk w' B g v' room (xs ++ ys.take n) true none ∧ Mv g v v' w w' := by
  have hp := ref_eql_no g
  obtain ⟨a1, cap1, rfl, _, _, _⟩ := h.own.shape
  have c0 := h.c0
  have c1 := h.c1
  have c2 := h.c2
  have c3 : w.cell? ⟨g, 3, none⟩ = some (.bool true) := h.c3
  obtain ⟨n0, c4, hn0⟩ := h.c4
  obtain rfl : n0 = (n : Int) := hn0 n rfl
  have s1 := h.soft 1
  have hr1 := h.r1
  have hl := h.le
  have hw : IntKind.i64.wrap ((room : Int) - (xs.length : Int)) = ((room - xs.length : Nat) : Int) := by rw [IntKind.wrap_i64]; omega
  have hd : decide ((ys.length : Int) > ((room - xs.length : Nat) : Int)) = false := by simp; omega
  have hd2 : decide ((room - xs.length : Nat) < ys.length) = false := by simp; omega
  obtain ⟨k, hk, hkm⟩ : ∃ k, k = (ys.take n).length ∧ k = min n ys.length := ⟨_, rfl, by simp⟩
  have e1 : (if (ys.length : Int) < (n : Int) then (ys.length : Int) else (n : Int)) = (k : Int) := by split <;> omega
  have e2 : (if ys.length < n then (ys.length : Int) else (n : Int)) = (k : Int) := by split <;> omega
  have hkc : (k : Int) ≤ (cap : Int) := by omega
  have hkl : k ≤ ys.length := by omega
  have HL : Hid (xs.length + (ys.take n).length ≤ room) := by show _ ≤ _; rw [← hk]; omega
  have HR : Hid (∀ m, RdA (w.drewN m) (some ⟨q, off, none⟩) (ys.take n)) := fun m => hr.pre n
  have HK := hide hk
  clear hr hk hkm
  have HD := hide (fun m => h.drewN m)
  clear h hf hn0
  generalize room - xs.length = R at *
  go_enter Tryz.func15, Tryz.ntmps15
  go_wp2
  go_quiet (fail)
  go_wp2
  go_region_law (refine step_appL rfl _ _ rfl B _ xs rfl (HD.out (nq + 1)).own (some ⟨q, off, none⟩) k cap (ys.take n) rfl HK.out (HR.out (nq + 1)) (by simp) (by have := HL.out; omega) (HD.out (nq + 1)).BW ?_; intro v7 w7 O7 G7 K7; obtain ⟨a7, n7, p7, rfl⟩ := O7.sl; have L7 := hide ((HD.out (nq + 1)).lay G7 O7 K7 (by rw [List.length_append]; exact HL.out)); have c7 := (World.cell?_of_block (w := w.drewN (nq + 1)) (a := ⟨g, 1, none⟩) (G7.block g (HD.out (nq + 1)).lt (fun e => (HD.out (nq + 1)).ne e.symm))).trans (HD.out (nq + 1)).c1; have s7 := (World.frozen?_of_block (w := w.drewN (nq + 1)) (a := ⟨g, 1, none⟩) (G7.block g (HD.out (nq + 1)).lt (fun e => (HD.out (nq + 1)).ne e.symm))).trans ((HD.out (nq + 1)).soft 1); clear O7 G7 K7)
  all_goals
    have d2 := L7.out.1.c2
    have d3 := (L7.out.1.set2 true).c3
    have t2 := L7.out.1.soft 2
    have t3 := (L7.out.1.set2 true).soft 3
    have LL := hide (⟨(L7.out.1.set2 true).set3, (L7.out.2.setg 2 (.bool true)).setg 3 (.bool false)⟩ : _ ∧ _)
    go_wp2
    go_ret
    exact ⟨rfl, _, LL.out.1, ((Mv.refl g _ w).drewN (nq + 1)).trans LL.out.2⟩
theorem rappend_cut {B g room n : Nat} {v : Value} {xs : List Nat} {w : World} (a : Option Addr) (cap : Nat) (ys : List Nat) (hr : RdA w a ys) (hlc : ys.length ≤ cap) (hn : a = none → cap = 0) (hf : xs.length + ys.length ≤ room) (h : Rk w B g v room xs false (some n)) : Calls Tryz.prog 15 #[.pointer (some ⟨g, 0, none⟩), .slice a ys.length cap] w fun e w' => e = .returned (.int .i64 13) ∧ ∃ v', Rk w' B g v' room (xs ++ ys.take n) true none ∧ Mv g v v' w w' := by
  rcases hr with rfl | ⟨q, off, rfl, hq, hc⟩
  · rw [List.take_nil]
    cases a with
    | none =>
      obtain rfl := hn rfl
      exact rcut_none hf h
    | some q => exact rcut_q q cap hf h
  · exact rcut_some q off cap ys (.inr ⟨q, off, rfl, hq, hc⟩) hlc hf h
end Go.Proofs.YtgfmkhgdndodkaaGreatDoor
