/- package disk: Fail, Bytes, cut, Append. -/
import Derived.Test.YtgfmkhgdndodkaaGreatDoorDkB
import Derived.RegionTactic
import Derived.Deep.RegionLaw
namespace Go.Proofs.YtgfmkhgdndodkaaGreatDoor
open Go.RowKit

theorem clone_any (a : Option Addr) (cap : Nat) (xs : List Nat) (w : World) (hl : xs.length ≤ 100000000) (hr : RdA w a xs) (hn : a = none → cap = 0) :
    Calls Tryz.prog 29 #[.slice a xs.length cap] w fun e w' => ∃ u, e = .returned u ∧ Own8 w' w.heap.size u xs ∧ Below w.heap.size w w' := by
  cases a with
  | none =>
    obtain rfl : xs = [] := by
      rcases hr with h | ⟨p, off, e, _⟩
      · exact h
      · cases e
    obtain rfl := hn rfl
    have hnil : ∀ W, (binOp .eql 31 (.slice none 0 0) (.slice none 0 0)).run Tryz.prog W = .ok (.bool true) W := fun W => Lib.run_eql_slice_nil W 31 5 _ _ _ _ _ Tryz.underlying31
    rw [List.length_nil]
    go_enter Tryz.func29, Tryz.ntmps29
    go_wp2
    go_ret
    exact ⟨_, rfl, Own8.nil _ _, Below.refl _ _⟩
  | some q =>
    have HR := hide (RdA.below hr ((Below.refl _ w).alloc (Nat.le_refl _) (.cells #[] 5)))
    have hnil : ∀ W, (binOp .eql 31 (.slice (some q) xs.length cap) (.slice none 0 0)).run Tryz.prog W = .ok (.bool false) W := fun W => Lib.run_eql_slice_nil W 31 5 _ _ _ _ _ Tryz.underlying31
    have HO : Hid (Own8 (w.alloc (.cells #[] 5)) w.heap.size (.slice (some ⟨w.heap.size, 0, none⟩) 0 0) []) := World.ownsRow_made w #[] 0 (Nat.le_refl _) (by decide) rfl
    clear hr hn
    go_enter Tryz.func29, Tryz.ntmps29
    go_wp2_with (first
      | (at_builtin; refine wpList_app8 rfl _ _ rfl w.heap.size _ [] rfl HO.out (some q) xs.length cap xs rfl rfl HR.out (by simp) (by simp; omega) (by simp) ?_; intro v7 w7 O7 G7 K7; have OO7 := hide O7; have B7 := hide (below_own ((Below.refl _ w).alloc (Nat.le_refl _) _) HO.out G7 (by simp)); clear O7 G7 K7))
    go_ret
    exact ⟨v7, rfl, OO7.out, B7.out⟩
theorem bytes_yes {B g room : Nat} {v f : Value} {xs : List Nat} {off : Bool} {st : Option Nat} {w : World} (h : Dk w B g v room xs off f st) : Calls Tryz.prog 20 #[.pointer (some ⟨g, 0, none⟩)] w fun e w' => ∃ u, e = .returned u ∧ Own8 w' w.heap.size u xs ∧ Below w.heap.size w w' := by
  have H := hide (there_yes g room w h.r0 h.c0)
  obtain ⟨a, cap, rfl, hlc, hn, _⟩ := h.own.shape
  have c1 := h.c1
  have HC := hide (clone_any a cap xs w (by have := h.le; have := h.r1; omega) h.own.rd.2 hn)
  clear h hn
  go_enter Tryz.func20, Tryz.ntmps20
  go_wp2_with fail
  refine H.out.mono ?_
  rintro e w1 ⟨rfl, hw⟩
  subst hw
  go_wp2_with fail
  refine HC.out.mono ?_
  rintro e w1 ⟨u, rfl, ho, hb⟩
  go_wp2
  go_ret
  exact ⟨u, rfl, ho, hb⟩
theorem bytes_not (a : Option Addr) (w : World) (h : NoDk w a) : Calls Tryz.prog 20 #[.pointer a] w fun e w' => e = .returned (.slice none 0 0) ∧ w' = w := by
  have H := hide (there_not a w h)
  clear h
  go_enter Tryz.func20, Tryz.ntmps20
  go_wp2_with fail
  refine H.out.mono ?_
  rintro e w1 ⟨rfl, hw⟩
  subst hw
  go_wp2
  go_ret
  exact ⟨rfl, rfl⟩
theorem fail_off {B g room : Nat} {v f : Value} {xs : List Nat} {st : Option Nat} {w : World} (n : Int) (h : Dk w B g v room xs true f st) : Calls Tryz.prog 10 #[.pointer (some ⟨g, 0, none⟩), .int .i64 n] w fun e w' => e = .returned (.int .i64 13) ∧ w' = w := by
  have H := hide (powered_yes g room true w h.r0 h.c0 h.c2)
  clear h
  go_enter Tryz.func10, Tryz.ntmps10
  go_wp2_with fail
  refine H.out.mono ?_
  rintro e w1 ⟨rfl, hw⟩
  subst hw
  go_wp2
  go_ret
  exact ⟨rfl, rfl⟩
theorem fail_not (a : Option Addr) (n : Int) (w : World) (h : NoDk w a) : Calls Tryz.prog 10 #[.pointer a, .int .i64 n] w fun e w' => e = .returned (.int .i64 2) ∧ w' = w := by
  have H := hide (powered_not a w h)
  clear h
  go_enter Tryz.func10, Tryz.ntmps10
  go_wp2_with fail
  refine H.out.mono ?_
  rintro e w1 ⟨rfl, hw⟩
  subst hw
  go_wp2
  go_ret
  exact ⟨rfl, rfl⟩
theorem fail_neg {B g room : Nat} {v f : Value} {xs : List Nat} {st : Option Nat} {w : World} (n : Int) (hn : n < 0) (h : Dk w B g v room xs false f st) : Calls Tryz.prog 10 #[.pointer (some ⟨g, 0, none⟩), .int .i64 n] w fun e w' => e = .returned (.int .i64 1) ∧ w' = w := by
  have H := hide (powered_yes g room false w h.r0 h.c0 h.c2)
  have hd : decide (n < 0) = true := by simp; omega
  clear h
  go_enter Tryz.func10, Tryz.ntmps10
  go_wp2_with fail
  refine H.out.mono ?_
  rintro e w1 ⟨rfl, hw⟩
  subst hw
  go_wp2
  go_ret
  exact ⟨rfl, rfl⟩
theorem fail_yes {B g room : Nat} {v f : Value} {xs : List Nat} {st : Option Nat} {w : World} (n : Nat) (hn : n < 9223372036854775808) (h : Dk w B g v room xs false f st) : Calls Tryz.prog 10 #[.pointer (some ⟨g, 0, none⟩), .int .i64 n] w fun e w' => e = .returned (.int .i64 0) ∧ (∃ f', Dk w' B g v room xs false f' (some n)) ∧ Mv g v v w w' := by
  have H := hide (powered_yes g room false w h.r0 h.c0 h.c2)
  have HF := hide (fa_any n w)
  have hb : Below w.heap.size w (w.alloc (.cells #[.int .i64 (n : Int)] 3)) := (Below.refl _ _).alloc (Nat.le_refl _) _
  have HD := hide (h.next hb)
  have HM := hide (Mv.ofBelow (g := g) (v := v) hb)
  have hcell : (w.alloc (.cells #[.int .i64 (n : Int)] 3)).cell? ⟨w.heap.size, 0, none⟩ = some (.int .i64 n) := by
    have hh : (w.alloc (.cells #[.int .i64 (n : Int)] 3)).heap[w.heap.size]? = some (.cells #[.int .i64 (n : Int)] 3 (0, 0)) := heap_alloc_new w _
    unfold World.cell?; simp only [hh]; rfl
  have HN : Hid (FnIs (w.alloc (.cells #[.int .i64 (n : Int)] 3)) B g v (.func (Fn.func 121) #[] #[.pointer (some ⟨w.heap.size, 0, none⟩)]) (some n)) :=
    .inr ⟨n, w.heap.size, rfl, hn, rfl, hcell, h.BW, by have := h.lt; omega, fun e => by have := (h.vlt _ e).2; omega⟩
  have c3 := HD.out.c3
  have s3 := HD.out.soft 3
  clear h hb hcell
  have hd : decide ((n : Int) < 0) = false := by simp
  go_enter Tryz.func10, Tryz.ntmps10
  go_wp2_with fail
  refine H.out.mono ?_
  rintro e w1 ⟨rfl, hw⟩
  subst hw
  go_wp2_with fail
  refine HF.out.mono ?_
  rintro e w1 ⟨rfl, hw⟩
  rw [← hw] at HD HM HN c3 s3
  clear hw HF H
  go_wp2
  go_ret
  exact ⟨rfl, ⟨_, HD.out.set3 HN.out⟩, HM.out.setg 3 _⟩
theorem fail_new {B g room : Nat} {v f : Value} {xs : List Nat} {st : Option Nat} {w : World} (n : Nat) (hn : n < 9223372036854775808) (h : Dk w B g v room xs false f st) : Calls Tryz.prog 10 #[.pointer (some ⟨g, 0, none⟩), .int .i64 n] w fun e w' => e = .returned (.int .i64 0) ∧ Dk w' B g v room xs false (.func (Fn.func 121) #[] #[.pointer (some ⟨w.heap.size, 0, none⟩)]) (some n) ∧ Mv g v v w w' := by
  have H := hide (powered_yes g room false w h.r0 h.c0 h.c2)
  have HF := hide (fa_any n w)
  have hb : Below w.heap.size w (w.alloc (.cells #[.int .i64 (n : Int)] 3)) := (Below.refl _ _).alloc (Nat.le_refl _) _
  have HD := hide (h.next hb)
  have HM := hide (Mv.ofBelow (g := g) (v := v) hb)
  have hcell : (w.alloc (.cells #[.int .i64 (n : Int)] 3)).cell? ⟨w.heap.size, 0, none⟩ = some (.int .i64 n) := by
    have hh : (w.alloc (.cells #[.int .i64 (n : Int)] 3)).heap[w.heap.size]? = some (.cells #[.int .i64 (n : Int)] 3 (0, 0)) := heap_alloc_new w _
    unfold World.cell?; simp only [hh]; rfl
  have HN : Hid (FnIs (w.alloc (.cells #[.int .i64 (n : Int)] 3)) B g v (.func (Fn.func 121) #[] #[.pointer (some ⟨w.heap.size, 0, none⟩)]) (some n)) :=
    .inr ⟨n, w.heap.size, rfl, hn, rfl, hcell, h.BW, by have := h.lt; omega, fun e => by have := (h.vlt _ e).2; omega⟩
  have c3 := HD.out.c3
  have s3 := HD.out.soft 3
  clear h hb hcell
  have hd : decide ((n : Int) < 0) = false := by simp
  go_enter Tryz.func10, Tryz.ntmps10
  go_wp2_with fail
  refine H.out.mono ?_
  rintro e w1 ⟨rfl, hw⟩
  subst hw
  go_wp2_with fail
  refine HF.out.mono ?_
  rintro e w1 ⟨rfl, hw⟩
  rw [← hw] at HD HM HN c3 s3
  clear hw HF H
  go_wp2
  go_ret
  exact ⟨rfl, HD.out.set3 HN.out, HM.out.setg 3 _⟩
end Go.Proofs.YtgfmkhgdndodkaaGreatDoor
