/- package disk: New, isThere, powered, Down, Up, Fail. -/
import Derived.Test.YtgfmkhgdndodkaaGreatDoorDk
namespace Go.Proofs.YtgfmkhgdndodkaaGreatDoor
open Go.RowKit

theorem new_yes (room : Nat) (w : World) (h0 : 1 ≤ room) (h1 : room ≤ 16777216) : Calls Tryz.prog 5 #[.int .i64 room] w fun e w' => e = .returned (.tuple #[.pointer (some ⟨w.heap.size, 0, none⟩), .int .i64 0]) ∧ Dk w' w.heap.size w.heap.size (.slice none 0 0) room [] false .nilFunc none ∧ Below w.heap.size w w' := by
  have g1 : decide ((room : Int) < 1) = false := by simp; omega
  have g2 : decide ((room : Int) > 16777216) = false := by simp; omega
  go_enter Tryz.func5, Tryz.ntmps5
  go_wp2
  go_ret2
  have hh : (w.alloc (.cells #[.int .i64 (room : Int), .slice none 0 0, .bool false, .nilFunc] 35)).heap[w.heap.size]? = some (.cells #[.int .i64 (room : Int), .slice none 0 0, .bool false, .nilFunc] 35 (0, 0)) := heap_alloc_new w _
  refine ⟨rfl, ⟨Nat.le_refl _, ?_, ?_, ?_, ?_, ?_, Own8.nil _ _, (by intro h; cases h), h0, h1, Nat.zero_le _, .inl ⟨rfl, rfl⟩⟩, (Below.refl _ _).alloc (Nat.le_refl _) _⟩
  · unfold World.cell?; simp only [hh]; rfl
  · unfold World.cell?; simp only [hh]; rfl
  · unfold World.cell?; simp only [hh]; rfl
  · unfold World.cell?; simp only [hh]; rfl
  · intro o; unfold World.frozen?; simp only [hh]; simp
theorem new_no (room : Int) (w : World) (h : room < 1 ∨ 16777216 < room) : Calls Tryz.prog 5 #[.int .i64 room] w fun e w' => e = .returned (.tuple #[.pointer none, .int .i64 1]) ∧ w' = w := by
  by_cases h0 : room < 1
  · have g1 : decide (room < 1) = true := by simp; omega
    go_enter Tryz.func5, Tryz.ntmps5
    go_wp2
    go_ret2
    exact ⟨rfl, rfl⟩
  · have g1 : decide (room < 1) = false := by simp; omega
    have g2 : decide (room > 16777216) = true := by simp; omega
    go_enter Tryz.func5, Tryz.ntmps5
    go_wp2
    go_ret2
    exact ⟨rfl, rfl⟩
set_option maxRecDepth 100000 in
theorem there_yes (g room : Nat) (w : World) (h0 : 1 ≤ room) (c0 : w.cell? ⟨g, 0, none⟩ = some (.int .i64 room)) : Calls Tryz.prog 27 #[.pointer (some ⟨g, 0, none⟩)] w fun e w' => e = .returned (.bool true) ∧ w' = w := by
  have g1 : decide (0 < room) = true := by simp; omega
  have hp : ∀ W, (binOp .neq 24 (.pointer (some ⟨g, 0, none⟩)) (.pointer none)).run Tryz.prog W = .ok (.bool true) W := fun W => by rfl
  go_enter Tryz.func27, Tryz.ntmps27
  go_wp2
  go_ret
  exact ⟨rfl, rfl⟩
set_option maxRecDepth 100000 in
theorem there_no (g : Nat) (w : World) (c0 : w.cell? ⟨g, 0, none⟩ = some (.int .i64 0)) : Calls Tryz.prog 27 #[.pointer (some ⟨g, 0, none⟩)] w fun e w' => e = .returned (.bool false) ∧ w' = w := by
  have hp : ∀ W, (binOp .neq 24 (.pointer (some ⟨g, 0, none⟩)) (.pointer none)).run Tryz.prog W = .ok (.bool true) W := fun W => by rfl
  go_enter Tryz.func27, Tryz.ntmps27
  go_wp2
  go_ret
  exact ⟨rfl, rfl⟩
set_option maxRecDepth 100000 in
theorem there_nil (w : World) : Calls Tryz.prog 27 #[.pointer none] w fun e w' => e = .returned (.bool false) ∧ w' = w := by
  have hp : ∀ W, (binOp .neq 24 (.pointer none) (.pointer none)).run Tryz.prog W = .ok (.bool false) W := fun W => by rfl
  go_enter Tryz.func27, Tryz.ntmps27
  go_wp2
  go_ret
  exact ⟨rfl, rfl⟩
/- A disk that is not there: nil, or a zero one. -/
def NoDk (W : World) (a : Option Addr) : Prop := a = none ∨ ∃ g, a = some ⟨g, 0, none⟩ ∧ W.cell? ⟨g, 0, none⟩ = some (.int .i64 0)
theorem there_not (a : Option Addr) (w : World) (h : NoDk w a) : Calls Tryz.prog 27 #[.pointer a] w fun e w' => e = .returned (.bool false) ∧ w' = w := by
  rcases h with rfl | ⟨g, rfl, h⟩
  · exact there_nil w
  · exact there_no g w h
theorem powered_yes (g room : Nat) (off : Bool) (w : World) (h0 : 1 ≤ room) (c0 : w.cell? ⟨g, 0, none⟩ = some (.int .i64 room)) (c2 : w.cell? ⟨g, 2, none⟩ = some (.bool off)) : Calls Tryz.prog 24 #[.pointer (some ⟨g, 0, none⟩)] w fun e w' => e = .returned (.int .i64 (if off then 13 else 0)) ∧ w' = w := by
  have H := hide (there_yes g room w h0 c0)
  cases off
  all_goals
    go_enter Tryz.func24, Tryz.ntmps24
    go_wp2_with fail
    refine H.out.mono ?_
    rintro e w1 ⟨rfl, hw⟩
    subst hw
    go_wp2
    go_ret
    exact ⟨rfl, rfl⟩
theorem powered_not (a : Option Addr) (w : World) (h : NoDk w a) : Calls Tryz.prog 24 #[.pointer a] w fun e w' => e = .returned (.int .i64 2) ∧ w' = w := by
  have H := hide (there_not a w h)
  clear h
  go_enter Tryz.func24, Tryz.ntmps24
  go_wp2_with fail
  refine H.out.mono ?_
  rintro e w1 ⟨rfl, hw⟩
  subst hw
  go_wp2
  go_ret
  exact ⟨rfl, rfl⟩
theorem down_yes {B g room : Nat} {v f : Value} {xs : List Nat} {off : Bool} {st : Option Nat} {w : World} (h : Dk w B g v room xs off f st) : Calls Tryz.prog 17 #[.pointer (some ⟨g, 0, none⟩)] w fun e w' => e = .returned (.bool off) ∧ w' = w := by
  have H := hide (there_yes g room w h.r0 h.c0)
  have c2 := h.c2
  clear h
  go_enter Tryz.func17, Tryz.ntmps17
  go_wp2_with fail
  refine H.out.mono ?_
  rintro e w1 ⟨rfl, hw⟩
  subst hw
  go_wp2
  go_ret
  exact ⟨rfl, rfl⟩
theorem down_not (a : Option Addr) (w : World) (h : NoDk w a) : Calls Tryz.prog 17 #[.pointer a] w fun e w' => e = .returned (.bool false) ∧ w' = w := by
  have H := hide (there_not a w h)
  clear h
  go_enter Tryz.func17, Tryz.ntmps17
  go_wp2_with fail
  refine H.out.mono ?_
  rintro e w1 ⟨rfl, hw⟩
  subst hw
  go_wp2
  go_ret
  exact ⟨rfl, rfl⟩
end Go.Proofs.YtgfmkhgdndodkaaGreatDoor
