/- slices.Delete of all behind i; package disk: Trim. -/
import Derived.Test.YtgfmkhgdndodkaaGreatDoorDkC
import Derived.Lib.SliceRun
namespace Go.Proofs.YtgfmkhgdndodkaaGreatDoor
open Go.RowKit

set_option maxRecDepth 100000 in
theorem Tryz.zero8 : ∀ w : World, (zeroValue 5).run Tryz.prog w = .ok (.int .u8 0) w := fun _ => by rfl
theorem zeros_own {B g n cap : Nat} (i : Nat) : ∀ (m o : Nat) (W : World) (xs : List Nat), i ≤ o → Own8 W B (.slice (some ⟨g, 0, none⟩) n cap) xs → ∃ ys, ys.length = xs.length ∧ ys.take i = xs.take i ∧ Own8 (W.setCells g o (List.replicate m (.int .u8 0))) B (.slice (some ⟨g, 0, none⟩) n cap) ys ∧ W.grownBy (W.setCells g o (List.replicate m (.int .u8 0))) (some g) := by
  intro m
  induction m with
  | zero => intro o W xs _ h; exact ⟨xs, rfl, rfl, h, ⟨rfl, rfl, rfl, Nat.le_refl _, fun _ _ _ => rfl⟩⟩
  | succ m ih =>
    intro o W xs ho h
    have h1 := h.set o 0
    obtain ⟨ys, e1, e2, e3, e4⟩ := ih (o + 1) (W.setCell ⟨g, o, none⟩ (.int .u8 0)) (xs.set o 0) (by omega) h1
    refine ⟨ys, by simpa using e1, ?_, e3, ?_⟩
    · rw [e2, List.take_set_of_le ho]
    · have hb := (Below.refl 0 W).setCell (p := ⟨g, o, none⟩) (Nat.zero_le _) (.int .u8 0)
      exact ⟨e4.os.trans hb.os, e4.tape.trans hb.tape, e4.output.trans hb.output, Nat.le_trans hb.size e4.size, fun k hk hn => (e4.block k (Nat.lt_of_lt_of_le hk hb.size) hn).trans (Below.heap_setCell _ _ _ _ (fun e => hn (congrArg some e)))⟩
theorem del_none (w : World) : Calls Tryz.prog 25 #[.slice none 0 0, .int .i64 0, .int .i64 0] w fun e w' => e = .returned (.slice none 0 0) ∧ w' = w := by
  go_enter Tryz.func25, Tryz.ntmps25
  go_wp2
  all_goals (go_ret; exact ⟨rfl, rfl⟩)
theorem del_all (g n cap : Nat) (w : World) (hn : n ≤ cap) : Calls Tryz.prog 25 #[.slice (some ⟨g, 0, none⟩) n cap, .int .i64 n, .int .i64 n] w fun e w' => e = .returned (.slice (some ⟨g, 0, none⟩) n cap) ∧ w' = w := by
  go_enter Tryz.func25, Tryz.ntmps25
  go_wp2
  all_goals (go_ret; exact ⟨rfl, rfl⟩)
set_option maxRecDepth 100000 in
set_option maxHeartbeats 1000000 in
theorem del_cut (B g i cap : Nat) (xs : List Nat) (w : World) (hi : i < xs.length) (ho : Own8 w B (.slice (some ⟨g, 0, none⟩) xs.length cap) xs) : Calls Tryz.prog 25 #[.slice (some ⟨g, 0, none⟩) xs.length cap, .int .i64 i, .int .i64 xs.length] w fun e w' => e = .returned (.slice (some ⟨g, 0, none⟩) i cap) ∧ Own8 w' B (.slice (some ⟨g, 0, none⟩) i cap) (xs.take i) ∧ w.grownBy w' (some g) := by
  obtain ⟨i0, hi0, hz0, hz1, hz2⟩ := info_parts Tryz.info8
  obtain ⟨g', cap', e, hlc, _, hgl, hcm⟩ := Own8.some8 ho (by omega)
  injection e with e1 _ e3
  injection e1 with e1
  injection e1 with e1
  subst e1 e3
  have HZ := hide (zeros_own i (xs.length - i) i w.drew xs (Nat.le_refl _) ho)
  have hcell : ∀ j, j < xs.length - i → (w.drew.cell? ⟨g, i + j, none⟩).isSome = true := fun j hj => by
    obtain ⟨p, off, e, _, hc⟩ := ho.rd.2.some (by omega)
    injection e with e
    injection e with e1 e2
    subst e1 e2
    have := hc (i + j) (by omega)
    rw [Nat.zero_add] at this
    show (w.cell? _).isSome = true
    rw [this]; rfl
  have hsoft : ∀ j, j < xs.length - i → w.drew.frozen? ⟨g, i + j, none⟩ = false := fun j _ => ho.soft (i + j)
  have hcl : ∀ ty, (Builtin.clear_ #[31] ty #[.slice (some ⟨g, i, none⟩) (xs.length - i) (cap - i)]).run Tryz.prog w.drew = .ok (.tuple #[]) (w.drew.setCells g i (List.replicate (xs.length - i) (.int .u8 0))) :=
    fun ty => Lib.run_clear_slice w.drew _ _ ty _ Tryz.underlying31 Tryz.zero8 rfl rfl g i _ _ (by omega) hcell hsoft
  have hcl2 : ∀ ty, (Builtin.clear_ #[31] ty #[.slice (some ⟨g, i, none⟩) (xs.length - i) (cap - i)]).run Tryz.prog (w.drew.setCells g i []) = .ok (.tuple #[]) (w.drew.setCells g i (List.replicate (xs.length - i) (.int .u8 0))) := hcl
  obtain ⟨A, hA⟩ : ∃ A : Addr, (if cap = xs.length then some (⟨g, 0, none⟩ : Addr) else some ⟨g, xs.length, none⟩) = some A := by
    by_cases h : cap = xs.length
    · exact ⟨_, by rw [if_pos h]⟩
    · exact ⟨_, by rw [if_neg h]⟩
  have hic : i ≤ cap := by omega
  clear ho hcell hsoft hgl
  go_enter Tryz.func25, Tryz.ntmps25
  go_wp2_with fail
  go_region_law (refine step_append_room rfl (.tmp 22) (.tmp 25) 31 rfl 5 i0 1 Tryz.underlying31 hi0 hz1 g 0 i cap (by simp [Act.eval, Act.put]) A 0 (cap - xs.length) [] (by simp [Act.eval, Act.put]) (by simp) (fun _ _ h => by simp at h) (fun _ h => by simp at h) (by omega) (fun _ h => by simp at h) ?_)
  go_wp2
  go_ret
  obtain ⟨ys, e1, e2, e3, e4⟩ := HZ.out
  refine ⟨rfl, ?_, ?_⟩
  · rw [← e2]; exact e3.cut i (by omega)
  · exact ⟨e4.os, e4.tape, e4.output, e4.size, e4.block⟩
theorem trim_not (a : Option Addr) (n : Int) (w : World) (h : NoDk w a) : Calls Tryz.prog 8 #[.pointer a, .int .i64 n] w fun e w' => e = .returned (.int .i64 2) ∧ w' = w := by
  have H := hide (powered_not a w h)
  clear h
  go_enter Tryz.func8, Tryz.ntmps8
  go_wp2_with fail
  refine H.out.mono ?_
  rintro e w1 ⟨rfl, hw⟩
  subst hw
  go_wp2
  go_ret
  exact ⟨rfl, rfl⟩
theorem trim_off {B g room : Nat} {v f : Value} {xs : List Nat} {st : Option Nat} {w : World} (n : Int) (h : Dk w B g v room xs true f st) : Calls Tryz.prog 8 #[.pointer (some ⟨g, 0, none⟩), .int .i64 n] w fun e w' => e = .returned (.int .i64 13) ∧ w' = w := by
  have H := hide (powered_yes g room true w h.r0 h.c0 h.c2)
  clear h
  go_enter Tryz.func8, Tryz.ntmps8
  go_wp2_with fail
  refine H.out.mono ?_
  rintro e w1 ⟨rfl, hw⟩
  subst hw
  go_wp2
  go_ret
  exact ⟨rfl, rfl⟩
theorem trim_no {B g room : Nat} {v f : Value} {xs : List Nat} {st : Option Nat} {w : World} (n : Int) (hn : n < 0 ∨ (xs.length : Int) < n) (h : Dk w B g v room xs false f st) : Calls Tryz.prog 8 #[.pointer (some ⟨g, 0, none⟩), .int .i64 n] w fun e w' => e = .returned (.int .i64 1) ∧ w' = w := by
  have H := hide (powered_yes g room false w h.r0 h.c0 h.c2)
  obtain ⟨a1, cap1, rfl, _, _, _⟩ := h.own.shape
  have c1 := h.c1
  clear h
  by_cases h0 : n < 0
  · have g1 : decide (n < 0) = true := by simp; omega
    go_enter Tryz.func8, Tryz.ntmps8
    go_wp2_with fail
    refine H.out.mono ?_
    rintro e w1 ⟨rfl, hw⟩
    subst hw
    go_wp2
    go_ret
    exact ⟨rfl, rfl⟩
  · have g1 : decide (n < 0) = false := by simp; omega
    have g2 : decide (n > (xs.length : Int)) = true := by simp; omega
    have g3 : decide ((xs.length : Int) < n) = true := by simp; omega
    go_enter Tryz.func8, Tryz.ntmps8
    go_wp2_with fail
    refine H.out.mono ?_
    rintro e w1 ⟨rfl, hw⟩
    subst hw
    go_wp2
    go_ret
    exact ⟨rfl, rfl⟩
theorem del_any (B i : Nat) (a : Option Addr) (cap : Nat) (xs : List Nat) (w : World) (hi : i ≤ xs.length) (ho : Own8 w B (.slice a xs.length cap) xs) : Calls Tryz.prog 25 #[.slice a xs.length cap, .int .i64 i, .int .i64 xs.length] w fun e w' => ∃ a' n' c', e = .returned (.slice a' n' c') ∧ Own8 w' B (.slice a' n' c') (xs.take i) ∧ w.grownBy w' (Value.slice a xs.length cap).ownBlock ∧ (Value.slice a' n' c').ownBlock = (Value.slice a xs.length cap).ownBlock := by
  obtain ⟨a0, c0, e0, hlc, hn, hq⟩ := ho.shape
  injection e0 with e1 _ e3
  subst e1 e3
  cases a with
  | none =>
    obtain rfl := hn rfl
    have hx : xs.length = 0 := by omega
    have hi0 : i = 0 := by omega
    rw [hx, hi0]
    refine (del_none w).mono ?_
    rintro e w' ⟨rfl, rfl⟩
    exact ⟨_, _, _, rfl, by rw [List.take_zero]; exact Own8.nil _ _, ⟨rfl, rfl, rfl, Nat.le_refl _, fun _ _ _ => rfl⟩, rfl⟩
  | some q =>
    obtain ⟨q1, q2, q3, q4⟩ := hq q rfl
    obtain ⟨g, o, sp⟩ := q
    obtain rfl : o = 0 := q1
    obtain rfl : sp = none := q2
    rcases Nat.lt_or_ge i xs.length with h | h
    · refine (del_cut B g i cap xs w h ho).mono ?_
      rintro e w' ⟨rfl, h1, h2⟩
      exact ⟨_, _, _, rfl, h1, h2, rfl⟩
    · obtain rfl : i = xs.length := by omega
      refine (del_all g xs.length cap w hlc).mono ?_
      rintro e w' ⟨rfl, rfl⟩
      exact ⟨_, _, _, rfl, by rw [List.take_length]; exact ho, ⟨rfl, rfl, rfl, Nat.le_refl _, fun _ _ _ => rfl⟩, rfl⟩
set_option maxRecDepth 100000 in
set_option maxHeartbeats 1000000 in
theorem trim_yes {B g room n : Nat} {v f : Value} {xs : List Nat} {st : Option Nat} {w : World} (hn : n ≤ xs.length) (h : Dk w B g v room xs false f st) : Calls Tryz.prog 8 #[.pointer (some ⟨g, 0, none⟩), .int .i64 n] w fun e w' => e = .returned (.int .i64 0) ∧ ∃ v', Dk w' B g v' room (xs.take n) false f st ∧ Mv g v v' w w' := by
  have H := hide (powered_yes g room false w h.r0 h.c0 h.c2)
  have HS := hide h.own.shape
  obtain ⟨a1, cap1, hv, _, _, _⟩ := HS.out
  subst hv
  have HD := hide (fun m => h.drewN m)
  have HC := hide (fun m => del_any B n a1 cap1 xs (w.drewN m) hn (h.drewN m).own)
  have HL : Hid ((xs.take n).length ≤ room) := by have := h.le; show _ ≤ _; rw [List.length_take]; omega
  have g1 : decide ((n : Int) < 0) = false := by simp
  have g2 : decide ((n : Int) > (xs.length : Int)) = false := by simp; omega
  have g3 : decide (xs.length < n) = false := by simp; omega
  have c1 := h.c1
  clear h HS hn
  go_enter Tryz.func8, Tryz.ntmps8
  go_wp2_with fail
  refine H.out.mono ?_
  rintro e w1 ⟨rfl, hw⟩
  subst hw
  go_wp2
  go_region_with (go_at_call 25; refine (HC.out 1).mono ?_; rintro e w7 ⟨a7, n7, p7, rfl, O7, G7, K7⟩; have L7 := hide ((HD.out 1).lay G7 O7 (.inl K7) HL.out); have c7 := (World.cell?_of_block (w := w1.drewN 1) (a := ⟨g, 1, none⟩) (G7.block g (HD.out 1).lt (fun e => (HD.out 1).ne e.symm))).trans (HD.out 1).c1; have s7 := (World.frozen?_of_block (w := w1.drewN 1) (a := ⟨g, 1, none⟩) (G7.block g (HD.out 1).lt (fun e => (HD.out 1).ne e.symm))).trans ((HD.out 1).soft 1); clear O7 G7 K7)
  all_goals
    go_wp2
    go_ret
    exact ⟨rfl, _, L7.out.1, ((Mv.refl g _ w1).drewN 1).trans L7.out.2⟩
end Go.Proofs.YtgfmkhgdndodkaaGreatDoor
