/- package disk: Up, Fail, Bytes; slices.Clone. -/
import Derived.Test.YtgfmkhgdndodkaaGreatDoorDkA
import Derived.Laws.EntriesVeiled
namespace Go.Proofs.YtgfmkhgdndodkaaGreatDoor
open Go.RowKit

theorem set_else (W : World) (g k o : Nat) (u : Value) (h : k ≠ o) : (W.setCell ⟨g, k, none⟩ u).cell? ⟨g, o, none⟩ = W.cell? ⟨g, o, none⟩ := World.cell?_setCell_other W _ _ _ (fun e => h (by injection e))
theorem Own8.aside {W : World} {B : Nat} {v : Value} {xs : List Nat} (h : Own8 W B v xs) (g k : Nat) (u : Value) (hn : v.ownBlock ≠ some g) : Own8 (W.setCell ⟨g, k, none⟩ u) B v xs := by
  refine ⟨h.1, ?_⟩
  rcases h.2 with h0 | ⟨gr, cap, cur, rfl, hg, hcur, rest⟩
  · exact .inl h0
  · exact .inr ⟨gr, cap, cur, rfl, hg, (Below.heap_setCell _ _ _ _ (fun e => hn (by simp [Value.ownBlock, e]))).trans hcur, rest⟩
theorem FnIs.aside {W : World} {B g : Nat} {v f : Value} {st : Option Nat} (h : FnIs W B g v f st) (k : Nat) (u : Value) : FnIs (W.setCell ⟨g, k, none⟩ u) B g v f st := h.keep (fun _ _ h1 _ => Below.heap_setCell _ _ _ _ (fun e => h1 e))
theorem Dk.set2 {W : World} {B g room : Nat} {v f : Value} {xs : List Nat} {off : Bool} {st : Option Nat} (h : Dk W B g v room xs off f st) (b : Bool) : Dk (W.setCell ⟨g, 2, none⟩ (.bool b)) B g v room xs b f st :=
  ⟨h.gB, (set_else W g 2 0 _ (by decide)).trans h.c0, (set_else W g 2 1 _ (by decide)).trans h.c1, World.cell?_setCell_same' _ _ _ (by rw [h.c2]; rfl), (set_else W g 2 3 _ (by decide)).trans h.c3, fun o => by rw [World.frozen?_setCell]; exact h.soft o, h.own.aside g 2 _ h.ne, h.ne, h.r0, h.r1, h.le, h.fn.aside 2 _⟩
theorem Dk.set3 {W : World} {B g room : Nat} {v f f' : Value} {xs : List Nat} {off : Bool} {st st' : Option Nat} (h : Dk W B g v room xs off f st) (hf : FnIs W B g v f' st') : Dk (W.setCell ⟨g, 3, none⟩ f') B g v room xs off f' st' :=
  ⟨h.gB, (set_else W g 3 0 _ (by decide)).trans h.c0, (set_else W g 3 1 _ (by decide)).trans h.c1, (set_else W g 3 2 _ (by decide)).trans h.c2, World.cell?_setCell_same' _ _ _ (by rw [h.c3]; rfl), fun o => by rw [World.frozen?_setCell]; exact h.soft o, h.own.aside g 3 _ h.ne, h.ne, h.r0, h.r1, h.le, hf.aside 3 _⟩
theorem Mv.setg {g : Nat} {v v' : Value} {W W' : World} (h : Mv g v v' W W') (k : Nat) (u : Value) : Mv g v v' W (W'.setCell ⟨g, k, none⟩ u) := ⟨h.fr.set _ _ (.inl rfl), h.bl⟩
theorem Dk.lay {W W' : World} {B g room : Nat} {v v' f : Value} {xs xs' : List Nat} {off : Bool} {st : Option Nat} (h : Dk W B g v room xs off f st) (hg : W.grownBy W' v.ownBlock) (ho : Own8 W' B v' xs') (hv : v'.ownBlock = v.ownBlock ∨ v'.ownBlock = some W.heap.size) (hl : xs'.length ≤ room) :
    Dk (W'.setCell ⟨g, 1, none⟩ v') B g v' room xs' off f st ∧ Mv g v v' W (W'.setCell ⟨g, 1, none⟩ v') := by
  have hm : Mv g v v' W W' := ⟨Fr.grown hg (fun r e => .inr e), fun b e => by
    rcases hv with e' | e'
    · exact .inl (e' ▸ e)
    · rw [e'] at e; injection e with e; exact .inr (by omega)⟩
  have hgb : W'.heap[g]? = W.heap[g]? := hg.block g h.lt (fun e => h.ne e.symm)
  have hne : v'.ownBlock ≠ some g := fun e => by
    rcases hm.bl g e with e | e
    · exact h.ne e
    · have := h.lt; omega
  have hc : ∀ o, W'.cell? ⟨g, o, none⟩ = W.cell? ⟨g, o, none⟩ := fun o => World.cell?_of_block (w := W) (a := ⟨g, o, none⟩) hgb
  refine ⟨⟨h.gB, ?_, ?_, ?_, ?_, fun o => ?_, ho.aside g 1 _ hne, hne, h.r0, h.r1, hl, ?_⟩, hm.setg 1 _⟩
  · exact ((set_else W' g 1 0 _ (by decide)).trans (hc 0)).trans h.c0
  · exact World.cell?_setCell_same' _ _ _ (by rw [hc 1, h.c1]; rfl)
  · exact ((set_else W' g 1 2 _ (by decide)).trans (hc 2)).trans h.c2
  · exact ((set_else W' g 1 3 _ (by decide)).trans (hc 3)).trans h.c3
  · rw [World.frozen?_setCell]; exact (World.frozen?_of_block (w := W) (a := ⟨g, o, none⟩) hgb).trans (h.soft o)
  · exact (h.fn.keepV hm).aside 1 _
theorem up_yes {B g room : Nat} {v f : Value} {xs : List Nat} {off : Bool} {st : Option Nat} {w : World} (h : Dk w B g v room xs off f st) : Calls Tryz.prog 12 #[.pointer (some ⟨g, 0, none⟩)] w fun e w' => e = .returned (.int .i64 0) ∧ Dk w' B g v room xs false .nilFunc none ∧ Mv g v v w w' := by
  have H := hide (there_yes g room w h.r0 h.c0)
  have HD := hide h
  have c2 := h.c2
  have c3 := h.c3
  have s2 := h.soft 2
  have s3 := h.soft 3
  clear h
  go_enter Tryz.func12, Tryz.ntmps12
  go_wp2_with fail
  refine H.out.mono ?_
  rintro e w1 ⟨rfl, hw⟩
  subst hw
  go_wp2
  go_ret
  exact ⟨rfl, (HD.out.set2 false).set3 (.inl ⟨rfl, rfl⟩), ((Mv.refl g v _).setg 2 _).setg 3 _⟩
theorem up_not (a : Option Addr) (w : World) (h : NoDk w a) : Calls Tryz.prog 12 #[.pointer a] w fun e w' => e = .returned (.int .i64 2) ∧ w' = w := by
  have H := hide (there_not a w h)
  clear h
  go_enter Tryz.func12, Tryz.ntmps12
  go_wp2_with fail
  refine H.out.mono ?_
  rintro e w1 ⟨rfl, hw⟩
  subst hw
  go_wp2
  go_ret
  exact ⟨rfl, rfl⟩
theorem fa_any (n : Nat) (w : World) : Calls Tryz.prog 26 #[.int .i64 n] w fun e w' => e = .returned (.func (Fn.func 121) #[] #[.pointer (some ⟨w.heap.size, 0, none⟩)]) ∧ w' = w.alloc (.cells #[.int .i64 n] 3) := by
  go_enter Tryz.func26, Tryz.ntmps26
  go_wp2
  go_ret
  exact ⟨rfl, rfl⟩
theorem fa1_le (n m p : Nat) (w : World) (h : n ≤ m) (hc : w.cell? ⟨p, 0, none⟩ = some (.int .i64 n)) : Calls Tryz.prog 121 #[.int .i64 m, .pointer (some ⟨p, 0, none⟩)] w fun e w' => e = .returned (.int .i64 n) ∧ w' = w := by
  have g1 : ¬ ((m : Int) < (n : Int)) := by omega
  have g2 : decide ((m : Int) < (n : Int)) = false := by simp; omega
  have g3 : ¬ (m < n) := by omega
  go_enter Tryz.func121, Tryz.ntmps121
  go_wp2
  go_ret
  exact ⟨rfl, rfl⟩
theorem fa1_gt (n m p : Nat) (w : World) (h : m < n) (hc : w.cell? ⟨p, 0, none⟩ = some (.int .i64 n)) : Calls Tryz.prog 121 #[.int .i64 m, .pointer (some ⟨p, 0, none⟩)] w fun e w' => e = .returned (.int .i64 m) ∧ w' = w := by
  have g1 : ((m : Int) < (n : Int)) := by omega
  have g2 : decide ((m : Int) < (n : Int)) = true := by simp; omega
  go_enter Tryz.func121, Tryz.ntmps121
  go_wp2
  go_ret
  exact ⟨rfl, rfl⟩
theorem fa1_any (n m p : Nat) (w : World) (hc : w.cell? ⟨p, 0, none⟩ = some (.int .i64 n)) : Calls Tryz.prog 121 #[.int .i64 m, .pointer (some ⟨p, 0, none⟩)] w fun e w' => e = .returned (.int .i64 ((min n m : Nat) : Int)) ∧ w' = w := by
  rcases Nat.lt_or_ge m n with h | h
  · rw [Nat.min_eq_right (by omega)]; exact fa1_gt n m p w h hc
  · rw [Nat.min_eq_left h]; exact fa1_le n m p w h hc
end Go.Proofs.YtgfmkhgdndodkaaGreatDoor
