/- package disk: cut, Append. -/
import Derived.Test.YtgfmkhgdndodkaaGreatDoorDkC
namespace Go.Proofs.YtgfmkhgdndodkaaGreatDoor
open Go.RowKit

set_option maxRecDepth 100000 in
theorem run_fn_nil (W : World) : (binOp .neq 33 .nilFunc .nilFunc).run Tryz.prog W = .ok (.bool false) W := by rfl
set_option maxRecDepth 100000 in
theorem run_fn_set (W : World) (n : Nat) (cs : Array Value) : (binOp .neq 33 (.func (Fn.func n) #[] cs) .nilFunc).run Tryz.prog W = .ok (.bool true) W := by rfl
theorem Own8.sl {W : World} {B : Nat} {v : Value} {xs : List Nat} (h : Own8 W B v xs) : ∃ a n c, v = .slice a n c := by
  obtain ⟨a, c, h, _⟩ := h.shape
  exact ⟨a, _, c, h⟩
theorem append_not (a : Option Addr) (b : Value) (w : World) (h : NoDk w a) : Calls Tryz.prog 14 #[.pointer a, b] w fun e w' => e = .returned (.int .i64 2) ∧ w' = w := by
  have H := hide (powered_not a w h)
  clear h
  go_enter Tryz.func14, Tryz.ntmps14
  go_wp2_with fail
  refine H.out.mono ?_
  rintro e w1 ⟨rfl, hw⟩
  subst hw
  go_wp2
  go_ret
  exact ⟨rfl, rfl⟩
theorem append_off {B g room : Nat} {v f : Value} {xs : List Nat} {st : Option Nat} {w : World} (b : Value) (h : Dk w B g v room xs true f st) : Calls Tryz.prog 14 #[.pointer (some ⟨g, 0, none⟩), b] w fun e w' => e = .returned (.int .i64 13) ∧ w' = w := by
  have H := hide (powered_yes g room true w h.r0 h.c0 h.c2)
  clear h
  go_enter Tryz.func14, Tryz.ntmps14
  go_wp2_with fail
  refine H.out.mono ?_
  rintro e w1 ⟨rfl, hw⟩
  subst hw
  go_wp2
  go_ret
  exact ⟨rfl, rfl⟩
theorem append_full {B g room : Nat} {v f : Value} {xs : List Nat} {st : Option Nat} {w : World} (a : Option Addr) (m cap : Nat) (hf : room < xs.length + m) (h : Dk w B g v room xs false f st) : Calls Tryz.prog 14 #[.pointer (some ⟨g, 0, none⟩), .slice a m cap] w fun e w' => e = .returned (.int .i64 10) ∧ ∃ n, w' = w.drewN n := by
  have H := hide (powered_yes g room false w h.r0 h.c0 h.c2)
  obtain ⟨a1, cap1, rfl, _, _, _⟩ := h.own.shape
  have c0 := h.c0
  have c1 := h.c1
  have hr := h.r1
  have hl := h.le
  have hw : IntKind.i64.wrap ((room : Int) - (xs.length : Int)) = ((room - xs.length : Nat) : Int) := by rw [IntKind.wrap_i64]; omega
  have hd : decide ((m : Int) > ((room - xs.length : Nat) : Int)) = true := by simp; omega
  have hd2 : decide ((room - xs.length : Nat) < m) = true := by simp; omega
  clear h
  generalize room - xs.length = R at *
  go_enter Tryz.func14, Tryz.ntmps14
  go_wp2_with fail
  refine H.out.mono ?_
  rintro e w1 ⟨rfl, hw⟩
  subst hw
  go_wp2
  go_quiet (fail)
  go_wp2
  go_ret
  exact ⟨rfl, _, rfl⟩
theorem append_yes {B g room : Nat} {v f : Value} {xs : List Nat} {w : World} (a : Option Addr) (cap : Nat) (ys : List Nat) (hr : RdA w a ys) (hn : a = none → cap = 0) (hf : xs.length + ys.length ≤ room) (h : Dk w B g v room xs false f none) : Calls Tryz.prog 14 #[.pointer (some ⟨g, 0, none⟩), .slice a ys.length cap] w fun e w' => e = .returned (.int .i64 0) ∧ ∃ v', Dk w' B g v' room (xs ++ ys) false f none ∧ Mv g v v' w w' := by
  have H := hide (powered_yes g room false w h.r0 h.c0 h.c2)
  have HD := hide h
  have hfn := run_fn_nil
  have HR := hide hr
  have HN := hide hn
  have HF := hide hf
  obtain rfl : f = .nilFunc := by rcases h.fn with ⟨_, e⟩ | ⟨n, p, e, _⟩; exact e; cases e
  have hvs := h.own.shape
  have c0 := h.c0
  have c1 := h.c1
  have c3 := h.c3
  have s1 := h.soft 1
  have hr1 := h.r1
  have hl := h.le
  have HL := hide hvs
  obtain ⟨a1, cap1, hv, _, _, _⟩ := hvs
  have hw : IntKind.i64.wrap ((room : Int) - (xs.length : Int)) = ((room - xs.length : Nat) : Int) := by rw [IntKind.wrap_i64]; omega
  have hd : decide ((ys.length : Int) > ((room - xs.length : Nat) : Int)) = false := by simp; omega
  have hd2 : decide ((room - xs.length : Nat) < ys.length) = false := by simp; omega
  subst hv
  clear h hr hn hf
  generalize room - xs.length = R at *
  go_enter Tryz.func14, Tryz.ntmps14
  go_wp2_with fail
  refine H.out.mono ?_
  rintro e w1 ⟨rfl, hw⟩
  subst hw
  go_wp2
  go_quiet (fail)
  have HD2 := hide (HD.out.drewN nq)
  have HR2 : Hid (RdA (w1.drewN nq) a ys) := HR.out
  go_wp2_with (first
      | (at_builtin; refine wpList_app8 rfl _ _ rfl B _ xs rfl HD2.out.own a ys.length cap ys rfl rfl HR2.out HN.out (by have := HF.out; omega) HD2.out.BW ?_; intro v7 w7 O7 G7 K7; obtain ⟨a7, n7, p7, rfl⟩ := O7.sl; have L7 := hide (HD2.out.lay G7 O7 K7 (by rw [List.length_append]; exact HF.out)); have c7 := (World.cell?_of_block (w := w1.drewN nq) (a := ⟨g, 1, none⟩) (G7.block g HD2.out.lt (fun e => HD2.out.ne e.symm))).trans HD2.out.c1; have s7 := (World.frozen?_of_block (w := w1.drewN nq) (a := ⟨g, 1, none⟩) (G7.block g HD2.out.lt (fun e => HD2.out.ne e.symm))).trans (HD2.out.soft 1); clear O7 G7 K7))
  go_ret
  exact ⟨rfl, _, L7.out.1, (Mv.refl g _ w1).drewN nq |>.trans L7.out.2⟩
end Go.Proofs.YtgfmkhgdndodkaaGreatDoor
