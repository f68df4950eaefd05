/- A disk and the document's disk, call by call, each as one step of a state. -/
import Derived.Test.YtgfmkhgdndodkaaGreatDoorRkC
import Derived.Test.YtgfmkhgdndodkaaGreatDoorDkF
import Derived.Test.YtgfmkhgdndodkaaGreatDoorFour
import Derived.Test.YtgfmkhgdndodkaaGreatDoorBkP
namespace Go.Proofs.YtgfmkhgdndodkaaGreatDoor
open Go.RowKit

structure Ds where
  xs : List Nat
  off : Bool
  st : Option Nat
def apS (room : Nat) (s : Ds) (ys : List Nat) : Int × Ds :=
  if s.off then (13, s) else if room < s.xs.length + ys.length then (10, s) else match s.st with | none => (0, ⟨s.xs ++ ys, false, none⟩) | some n => (13, ⟨s.xs ++ ys.take n, true, none⟩)
def trS (s : Ds) (n : Int) : Int × Ds := if s.off then (13, s) else if n < 0 ∨ (s.xs.length : Int) < n then (1, s) else (0, ⟨s.xs.take n.toNat, false, s.st⟩)
def faS (s : Ds) (n : Int) : Int × Ds := if s.off then (13, s) else if n < 0 then (1, s) else (0, ⟨s.xs, false, some n.toNat⟩)
def upS (s : Ds) : Int × Ds := (0, ⟨s.xs, false, none⟩)
def DC (B g room : Nat) (v f : Value) (s : Ds) (W : World) : Prop := Dk W B g v room s.xs s.off f s.st
def DF (g : Nat) (v f : Value) (b : Nat) : Prop := DE g v b ∨ ∃ k, f = .func (Fn.func k) #[] #[.pointer (some ⟨b, 0, none⟩)]
theorem Dk.comp (B g room : Nat) (v f : Value) (s : Ds) : Comp (DC B g room v f s) (DF g v f) := by
  refine ⟨fun h hf hn => Dk.other h hf (hn g (.inl (.inl rfl))) (fun b e => hn b (.inl (.inr e))) (fun n p e => hn p (.inr ⟨n, e⟩)), fun {W b} h e => ?_⟩
  rcases e with (e | e) | ⟨k, e⟩
  · rw [e]; exact Dk.lt h
  · exact (Dk.vlt h b e).2
  · rcases h.fn with ⟨_, e2⟩ | ⟨n, p, _, _, e2, hc, _⟩
    · rw [e] at e2; cases e2
    · rw [e] at e2; cases e2; exact World.block_lt_of_cell? W _ hc
def RC (B g room : Nat) (v : Value) (s : Ds) (W : World) : Prop := Rk W B g v room s.xs s.off s.st
theorem Rk.comp (B g room : Nat) (v : Value) (s : Ds) : Comp (RC B g room v s) (DE g v) := by
  refine ⟨fun h hf hn => Rk.fr h hf (hn g (.inl rfl)) (fun b e => hn b (.inr e)), fun {W b} h e => ?_⟩
  rcases e with e | e
  · rw [e]; exact Rk.lt h
  · exact (Rk.vlt h b e).2
def KF (g : Nat) (vb : Value) (hs : List Hb) (b : Nat) : Prop := BE g vb b ∨ LE hs b
theorem Bok.comp (B g : Nat) (vb : Value) (n : Nat) (hs : List Hb) : Comp (fun W => Bok W B g vb n hs) (KF g vb hs) := by
  refine ⟨fun h hf hn => ⟨h.bk.fr hf (hn g (.inl (.inl rfl))) (fun b e => hn b (.inl (.inr e))), h.sep, fun x hx => (h.ow x hx).fr hf (fun b e => hn b (.inr ⟨x, hx, e⟩)), h.lim, h.nn⟩, fun {W b} h e => ?_⟩
  rcases e with (e | e) | ⟨x, hx, e⟩
  · rw [e]; exact h.bk.lt
  · exact (h.bk.vlt b e).2
  · exact (World.ownsRow.lt (h.ow x hx) b e).2
/- What a call of the disk comes to. -/
def DTo (B g room : Nat) (v f : Value) (W : World) (r : Int × Ds) (e : Ending) (W' : World) : Prop :=
  e = .returned (.int .i64 r.1) ∧ ∃ v' f', DC B g room v' f' r.2 W' ∧ Fr (DF g v f) W W' ∧ ∀ b, DF g v' f' b → DF g v f b ∨ W.heap.size ≤ b
def RTo (B g room : Nat) (v : Value) (W : World) (r : Int × Ds) (e : Ending) (W' : World) : Prop :=
  e = .returned (.int .i64 r.1) ∧ ∃ v', RC B g room v' r.2 W' ∧ Fr (DE g v) W W' ∧ ∀ b, DE g v' b → DE g v b ∨ W.heap.size ≤ b
theorem fr_df {g : Nat} {v f : Value} {W W' : World} (h : Fr (DE g v) W W') : Fr (DF g v f) W W' := ⟨h.os, h.tape, h.output, h.size, fun b hb hn => h.block b hb (fun e => hn (.inl e))⟩
theorem de_mv {g : Nat} {v v' : Value} {W W' : World} (h : Mv g v v' W W') : ∀ b, DE g v' b → DE g v b ∨ W.heap.size ≤ b := fun b e => by
  rcases e with e | e
  · exact .inl (.inl e)
  · rcases h.bl b e with e | e
    · exact .inl (.inr e)
    · exact .inr e
theorem DTo.of {B g room : Nat} {v v' f f' : Value} {W W' : World} {r : Int × Ds} (hd : DC B g room v' f' r.2 W') (hm : Mv g v v' W W') (hf : ∀ k b, f' = .func (Fn.func k) #[] #[.pointer (some ⟨b, 0, none⟩)] → f' = f ∨ W.heap.size ≤ b) : DTo B g room v f W r (.returned (.int .i64 r.1)) W' :=
  ⟨rfl, v', f', hd, fr_df hm.fr, fun b e => by
    rcases e with e | ⟨k, e⟩
    · rcases de_mv hm b e with e | e
      · exact .inl (.inl e)
      · exact .inr e
    · rcases hf k b e with e2 | e2
      · exact .inl (.inr ⟨k, e2 ▸ e⟩)
      · exact .inr e2⟩
theorem RTo.of {B g room : Nat} {v v' : Value} {W W' : World} {r : Int × Ds} (hd : RC B g room v' r.2 W') (hm : Mv g v v' W W') : RTo B g room v W r (.returned (.int .i64 r.1)) W' := ⟨rfl, v', hd, hm.fr, de_mv hm⟩
theorem drewN_below (W : World) (n : Nat) : Below W.heap.size W (W.drewN n) := ⟨rfl, rfl, rfl, Nat.le_refl _, fun _ _ => rfl⟩
theorem d_append {B g room : Nat} {v f : Value} {s : Ds} {W : World} (h : DC B g room v f s W) (a : Option Addr) (cap : Nat) (ys : List Nat) (hr : RdA W a ys) (hlc : ys.length ≤ cap) (hn : a = none → cap = 0) : Calls Tryz.prog 14 #[.pointer (some ⟨g, 0, none⟩), .slice a ys.length cap] W (DTo B g room v f W (apS room s ys)) := by
  obtain ⟨xs, off, st⟩ := s
  cases off with
  | true => exact (append_off _ h).mono (fun e W' ⟨he, hw⟩ => by subst he hw; exact DTo.of (r := (13, ⟨xs, true, st⟩)) h (Mv.refl _ _ _) (fun _ _ _ => .inl rfl))
  | false =>
    by_cases hf : room < xs.length + ys.length
    · have e : apS room ⟨xs, false, st⟩ ys = (10, ⟨xs, false, st⟩) := by simp [apS, hf]
      rw [e]
      exact (append_full a _ cap hf h).mono (fun e W' ⟨he, n, hw⟩ => by subst he hw; exact DTo.of (r := (10, ⟨xs, false, st⟩)) (Dk.drewN h n) (Mv.ofBelow (drewN_below _ _)) (fun _ _ _ => .inl rfl))
    · cases st with
      | none =>
        have e : apS room ⟨xs, false, none⟩ ys = (0, ⟨xs ++ ys, false, none⟩) := by simp [apS, hf]
        rw [e]
        exact (append_yes a cap ys hr hn (Nat.le_of_not_lt hf) h).mono (fun e W' ⟨he, v', hd, hm⟩ => by subst he; exact DTo.of (r := (0, ⟨xs ++ ys, false, none⟩)) hd hm (fun _ _ _ => .inl rfl))
      | some n =>
        have e : apS room ⟨xs, false, some n⟩ ys = (13, ⟨xs ++ ys.take n, true, none⟩) := by simp [apS, hf]
        rw [e]
        exact (append_cut a cap ys hr hlc hn (Nat.le_of_not_lt hf) h).mono (fun e W' ⟨he, v', hd, hm⟩ => by subst he; exact DTo.of (r := (13, ⟨xs ++ ys.take n, true, none⟩)) hd hm (fun _ _ e => by cases e))
theorem r_append {B g room : Nat} {v : Value} {s : Ds} {W : World} (h : RC B g room v s W) (a : Option Addr) (cap : Nat) (ys : List Nat) (hr : RdA W a ys) (hlc : ys.length ≤ cap) (hn : a = none → cap = 0) : Calls Tryz.prog 15 #[.pointer (some ⟨g, 0, none⟩), .slice a ys.length cap] W (RTo B g room v W (apS room s ys)) := by
  obtain ⟨xs, off, st⟩ := s
  cases off with
  | true => exact (rappend_off _ h).mono (fun e W' ⟨he, hw⟩ => by subst he hw; exact RTo.of (r := (13, ⟨xs, true, st⟩)) h (Mv.refl _ _ _))
  | false =>
    by_cases hf : room < xs.length + ys.length
    · have e : apS room ⟨xs, false, st⟩ ys = (10, ⟨xs, false, st⟩) := by simp [apS, hf]
      rw [e]
      exact (rappend_full a _ cap hf h).mono (fun e W' ⟨he, n, hw⟩ => by subst he hw; exact RTo.of (r := (10, ⟨xs, false, st⟩)) (Rk.drewN h n) (Mv.ofBelow (drewN_below _ _)))
    · cases st with
      | none =>
        have e : apS room ⟨xs, false, none⟩ ys = (0, ⟨xs ++ ys, false, none⟩) := by simp [apS, hf]
        rw [e]
        exact (rappend_yes a cap ys hr hn (Nat.le_of_not_lt hf) h).mono (fun e W' ⟨he, v', hd, hm⟩ => by subst he; exact RTo.of (r := (0, ⟨xs ++ ys, false, none⟩)) hd hm)
      | some n =>
        have e : apS room ⟨xs, false, some n⟩ ys = (13, ⟨xs ++ ys.take n, true, none⟩) := by simp [apS, hf]
        rw [e]
        exact (rappend_cut a cap ys hr hlc hn (Nat.le_of_not_lt hf) h).mono (fun e W' ⟨he, v', hd, hm⟩ => by subst he; exact RTo.of (r := (13, ⟨xs ++ ys.take n, true, none⟩)) hd hm)
theorem d_trim {B g room : Nat} {v f : Value} {s : Ds} {W : World} (h : DC B g room v f s W) (n : Int) : Calls Tryz.prog 8 #[.pointer (some ⟨g, 0, none⟩), .int .i64 n] W (DTo B g room v f W (trS s n)) := by
  obtain ⟨xs, off, st⟩ := s
  cases off with
  | true => exact (trim_off n h).mono (fun e W' ⟨he, hw⟩ => by subst he hw; exact DTo.of (r := (13, ⟨xs, true, st⟩)) h (Mv.refl _ _ _) (fun _ _ _ => .inl rfl))
  | false =>
    by_cases hf : n < 0 ∨ (xs.length : Int) < n
    · have e : trS ⟨xs, false, st⟩ n = (1, ⟨xs, false, st⟩) := by simp [trS, hf]
      rw [e]
      exact (trim_no n hf h).mono (fun e W' ⟨he, hw⟩ => by subst he hw; exact DTo.of (r := (1, ⟨xs, false, st⟩)) h (Mv.refl _ _ _) (fun _ _ _ => .inl rfl))
    · have e : trS ⟨xs, false, st⟩ n = (0, ⟨xs.take n.toNat, false, st⟩) := by simp [trS, hf]
      rw [e]
      obtain ⟨k, rfl⟩ : ∃ k : Nat, n = k := ⟨n.toNat, by omega⟩
      exact (trim_yes (n := k) (by show k ≤ xs.length; omega) h).mono (fun e W' ⟨he, v', hd, hm⟩ => by subst he; exact DTo.of (r := (0, ⟨xs.take k, false, st⟩)) hd hm (fun _ _ _ => .inl rfl))
theorem r_trim {B g room : Nat} {v : Value} {s : Ds} {W : World} (h : RC B g room v s W) (n : Int) : Calls Tryz.prog 9 #[.pointer (some ⟨g, 0, none⟩), .int .i64 n] W (RTo B g room v W (trS s n)) := by
  obtain ⟨xs, off, st⟩ := s
  cases off with
  | true => exact (rtrim_off n h).mono (fun e W' ⟨he, hw⟩ => by subst he hw; exact RTo.of (r := (13, ⟨xs, true, st⟩)) h (Mv.refl _ _ _))
  | false =>
    by_cases hf : n < 0 ∨ (xs.length : Int) < n
    · have e : trS ⟨xs, false, st⟩ n = (1, ⟨xs, false, st⟩) := by simp [trS, hf]
      rw [e]
      exact (rtrim_no n hf h).mono (fun e W' ⟨he, hw⟩ => by subst he hw; exact RTo.of (r := (1, ⟨xs, false, st⟩)) h (Mv.refl _ _ _))
    · have e : trS ⟨xs, false, st⟩ n = (0, ⟨xs.take n.toNat, false, st⟩) := by simp [trS, hf]
      rw [e]
      obtain ⟨k, rfl⟩ : ∃ k : Nat, n = k := ⟨n.toNat, by omega⟩
      exact (rtrim_yes (n := k) (by show k ≤ xs.length; omega) h).mono (fun e W' ⟨he, v', hd, hm⟩ => by subst he; exact RTo.of (r := (0, ⟨xs.take k, false, st⟩)) hd hm)
theorem d_fail {B g room : Nat} {v f : Value} {s : Ds} {W : World} (h : DC B g room v f s W) (n : Int) (hb : n < 9223372036854775808) : Calls Tryz.prog 10 #[.pointer (some ⟨g, 0, none⟩), .int .i64 n] W (DTo B g room v f W (faS s n)) := by
  obtain ⟨xs, off, st⟩ := s
  cases off with
  | true => exact (fail_off n h).mono (fun e W' ⟨he, hw⟩ => by subst he hw; exact DTo.of (r := (13, ⟨xs, true, st⟩)) h (Mv.refl _ _ _) (fun _ _ _ => .inl rfl))
  | false =>
    by_cases hf : n < 0
    · have e : faS ⟨xs, false, st⟩ n = (1, ⟨xs, false, st⟩) := by simp [faS, hf]
      rw [e]
      exact (fail_neg n hf h).mono (fun e W' ⟨he, hw⟩ => by subst he hw; exact DTo.of (r := (1, ⟨xs, false, st⟩)) h (Mv.refl _ _ _) (fun _ _ _ => .inl rfl))
    · have e : faS ⟨xs, false, st⟩ n = (0, ⟨xs, false, some n.toNat⟩) := by simp [faS, hf]
      rw [e]
      obtain ⟨k, rfl⟩ : ∃ k : Nat, n = k := ⟨n.toNat, by omega⟩
      exact (fail_new k (by omega) h).mono (fun e W' ⟨he, hd, hm⟩ => by subst he; exact DTo.of (r := (0, ⟨xs, false, some k⟩)) hd hm (fun k' b e => by cases e; exact .inr (Nat.le_refl _)))
theorem r_fail {B g room : Nat} {v : Value} {s : Ds} {W : World} (h : RC B g room v s W) (n : Int) : Calls Tryz.prog 11 #[.pointer (some ⟨g, 0, none⟩), .int .i64 n] W (RTo B g room v W (faS s n)) := by
  obtain ⟨xs, off, st⟩ := s
  cases off with
  | true => exact (rfail_off n h).mono (fun e W' ⟨he, hw⟩ => by subst he hw; exact RTo.of (r := (13, ⟨xs, true, st⟩)) h (Mv.refl _ _ _))
  | false =>
    by_cases hf : n < 0
    · have e : faS ⟨xs, false, st⟩ n = (1, ⟨xs, false, st⟩) := by simp [faS, hf]
      rw [e]
      exact (rfail_neg n hf h).mono (fun e W' ⟨he, hw⟩ => by subst he hw; exact RTo.of (r := (1, ⟨xs, false, st⟩)) h (Mv.refl _ _ _))
    · have e : faS ⟨xs, false, st⟩ n = (0, ⟨xs, false, some n.toNat⟩) := by simp [faS, hf]
      rw [e]
      obtain ⟨k, rfl⟩ : ∃ k : Nat, n = k := ⟨n.toNat, by omega⟩
      exact (rfail_yes k h).mono (fun e W' ⟨he, hd, hm⟩ => by subst he; exact RTo.of (r := (0, ⟨xs, false, some k⟩)) hd hm)
theorem d_up {B g room : Nat} {v f : Value} {s : Ds} {W : World} (h : DC B g room v f s W) : Calls Tryz.prog 12 #[.pointer (some ⟨g, 0, none⟩)] W (DTo B g room v f W (upS s)) :=
  (up_yes h).mono (fun e W' ⟨he, hd, hm⟩ => by subst he; exact DTo.of (r := upS s) hd hm (fun _ _ e => by cases e))
theorem r_up {B g room : Nat} {v : Value} {s : Ds} {W : World} (h : RC B g room v s W) : Calls Tryz.prog 13 #[.pointer (some ⟨g, 0, none⟩)] W (RTo B g room v W (upS s)) :=
  (rup_yes h).mono (fun e W' ⟨he, hd, hm⟩ => by subst he; exact RTo.of (r := upS s) hd hm)
end Go.Proofs.YtgfmkhgdndodkaaGreatDoor
