/- A disk that may not be there, and the document's: each call as one step of a state. -/
import Derived.Test.YtgfmkhgdndodkaaGreatDoorDkY
namespace Go.Proofs.YtgfmkhgdndodkaaGreatDoor
open Go.RowKit

def lif (f : Ds → Int × Ds) : Option Ds → Int × Option Ds
  | none => (2, none)
  | some s => ((f s).1, some (f s).2)
def DvC (B : Nat) (pd : Option Addr) (room : Nat) (v f : Value) : Option Ds → World → Prop
  | none, _ => pd = none
  | some s, W => ∃ g, pd = some ⟨g, 0, none⟩ ∧ DC B g room v f s W
def DvF (pd : Option Addr) (v f : Value) (b : Nat) : Prop := ∃ g, pd = some ⟨g, 0, none⟩ ∧ DF g v f b
def RvC (B : Nat) (pr : Option Addr) (room : Nat) (v : Value) : Option Ds → World → Prop
  | none, _ => pr = none
  | some s, W => ∃ g, pr = some ⟨g, 0, none⟩ ∧ RC B g room v s W
def RvF (pr : Option Addr) (v : Value) (b : Nat) : Prop := ∃ g, pr = some ⟨g, 0, none⟩ ∧ DE g v b
theorem DvC.comp (B : Nat) (pd : Option Addr) (room : Nat) (v f : Value) (s : Option Ds) : Comp (DvC B pd room v f s) (DvF pd v f) := by
  cases s with
  | none => exact ⟨fun h _ _ => h, fun h k => by obtain ⟨g, e, _⟩ := k; have : pd = none := h; rw [this] at e; cases e⟩
  | some s =>
    refine ⟨fun h hf hE => ?_, fun h k => ?_⟩
    · obtain ⟨g, e, h⟩ := h
      exact ⟨g, e, (Dk.comp B g room v f s).st h hf (fun b hb => hE b ⟨g, e, hb⟩)⟩
    · obtain ⟨g, e, h⟩ := h
      obtain ⟨g', e', k⟩ := k
      rw [e] at e'
      cases e'
      exact (Dk.comp B g room v f s).lt h k
theorem RvC.comp (B : Nat) (pr : Option Addr) (room : Nat) (v : Value) (s : Option Ds) : Comp (RvC B pr room v s) (RvF pr v) := by
  cases s with
  | none => exact ⟨fun h _ _ => h, fun h k => by obtain ⟨g, e, _⟩ := k; have : pr = none := h; rw [this] at e; cases e⟩
  | some s =>
    refine ⟨fun h hf hE => ?_, fun h k => ?_⟩
    · obtain ⟨g, e, h⟩ := h
      exact ⟨g, e, (Rk.comp B g room v s).st h hf (fun b hb => hE b ⟨g, e, hb⟩)⟩
    · obtain ⟨g, e, h⟩ := h
      obtain ⟨g', e', k⟩ := k
      rw [e] at e'
      cases e'
      exact (Rk.comp B g room v s).lt h k
/- What a call leaves. -/
def DvTo (B : Nat) (pd : Option Addr) (room : Nat) (v f : Value) (W : World) (r : Option Ds) (W' : World) : Prop :=
  ∃ v' f', DvC B pd room v' f' r W' ∧ Fr (DvF pd v f) W W' ∧ ∀ b, DvF pd v' f' b → DvF pd v f b ∨ W.heap.size ≤ b
def RvTo (B : Nat) (pr : Option Addr) (room : Nat) (v : Value) (W : World) (r : Option Ds) (W' : World) : Prop :=
  ∃ v', RvC B pr room v' r W' ∧ Fr (RvF pr v) W W' ∧ ∀ b, RvF pr v' b → RvF pr v b ∨ W.heap.size ≤ b
theorem fr_sub {E E' : Nat → Prop} {W W' : World} (h : Fr E W W') (k : ∀ b, E b → E' b) : Fr E' W W' := ⟨h.os, h.tape, h.output, h.size, fun b hb hn => h.block b hb (fun e => hn (k b e))⟩
theorem dv_lift {B g room : Nat} {v f v' f' : Value} {s : Ds} {W W' : World} (h1 : DC B g room v' f' s W') (h2 : Fr (DF g v f) W W') (h3 : ∀ b, DF g v' f' b → DF g v f b ∨ W.heap.size ≤ b) : DvTo B (some ⟨g, 0, none⟩) room v f W (some s) W' :=
  ⟨v', f', ⟨g, rfl, h1⟩, fr_sub h2 (fun b hb => ⟨g, rfl, hb⟩), fun b ⟨g', e, hb⟩ => by cases e; exact (h3 b hb).imp (fun k => ⟨g, rfl, k⟩) id⟩
theorem rv_lift {B g room : Nat} {v v' : Value} {s : Ds} {W W' : World} (h1 : RC B g room v' s W') (h2 : Fr (DE g v) W W') (h3 : ∀ b, DE g v' b → DE g v b ∨ W.heap.size ≤ b) : RvTo B (some ⟨g, 0, none⟩) room v W (some s) W' :=
  ⟨v', ⟨g, rfl, h1⟩, fr_sub h2 (fun b hb => ⟨g, rfl, hb⟩), fun b ⟨g', e, hb⟩ => by cases e; exact (h3 b hb).imp (fun k => ⟨g, rfl, k⟩) id⟩
theorem dv_none {B room : Nat} {v f : Value} (W : World) : DvTo B none room v f W none W := ⟨v, f, rfl, Fr.refl _ _, fun _ h => .inl h⟩
theorem rv_none {B room : Nat} {v : Value} (W : World) : RvTo B none room v W none W := ⟨v, rfl, Fr.refl _ _, fun _ h => .inl h⟩
theorem dv_append {B room : Nat} {pd : Option Addr} {v f : Value} {s : Option Ds} {W : World} (h : DvC B pd room v f s W) (a : Option Addr) (cap : Nat) (ys : List Nat) (hr : RdA W a ys) (hlc : ys.length ≤ cap) (hn : a = none → cap = 0) : Calls Tryz.prog 14 #[.pointer pd, .slice a ys.length cap] W fun e W' => e = .returned (.int .i64 (lif (apS room · ys) s).1) ∧ DvTo B pd room v f W (lif (apS room · ys) s).2 W' := by
  cases s with
  | none =>
    obtain rfl : pd = none := h
    refine (append_not none _ W (.inl rfl)).mono ?_
    rintro e w' ⟨rfl, rfl⟩
    exact ⟨rfl, dv_none _⟩
  | some s =>
    obtain ⟨g, rfl, h⟩ := h
    refine (d_append h a cap ys hr hlc hn).mono ?_
    rintro e w' ⟨rfl, v', f', h1, h2, h3⟩
    exact ⟨rfl, dv_lift h1 h2 h3⟩
theorem rv_append {B room : Nat} {pr : Option Addr} {v : Value} {s : Option Ds} {W : World} (h : RvC B pr room v s W) (a : Option Addr) (cap : Nat) (ys : List Nat) (hr : RdA W a ys) (hlc : ys.length ≤ cap) (hn : a = none → cap = 0) : Calls Tryz.prog 15 #[.pointer pr, .slice a ys.length cap] W fun e W' => e = .returned (.int .i64 (lif (apS room · ys) s).1) ∧ RvTo B pr room v W (lif (apS room · ys) s).2 W' := by
  cases s with
  | none =>
    obtain rfl : pr = none := h
    refine (rappend_nil _ W).mono ?_
    rintro e w' ⟨rfl, rfl⟩
    exact ⟨rfl, rv_none _⟩
  | some s =>
    obtain ⟨g, rfl, h⟩ := h
    refine (r_append h a cap ys hr hlc hn).mono ?_
    rintro e w' ⟨rfl, v', h1, h2, h3⟩
    exact ⟨rfl, rv_lift h1 h2 h3⟩
theorem dv_fail {B room : Nat} {pd : Option Addr} {v f : Value} {s : Option Ds} {W : World} (h : DvC B pd room v f s W) (n : Int) (hb : n < 9223372036854775808) : Calls Tryz.prog 10 #[.pointer pd, .int .i64 n] W fun e W' => e = .returned (.int .i64 (lif (faS · n) s).1) ∧ DvTo B pd room v f W (lif (faS · n) s).2 W' := by
  cases s with
  | none =>
    obtain rfl : pd = none := h
    refine (fail_not none n W (.inl rfl)).mono ?_
    rintro e w' ⟨rfl, rfl⟩
    exact ⟨rfl, dv_none _⟩
  | some s =>
    obtain ⟨g, rfl, h⟩ := h
    refine (d_fail h n hb).mono ?_
    rintro e w' ⟨rfl, v', f', h1, h2, h3⟩
    exact ⟨rfl, dv_lift h1 h2 h3⟩
theorem rv_fail {B room : Nat} {pr : Option Addr} {v : Value} {s : Option Ds} {W : World} (h : RvC B pr room v s W) (n : Int) : Calls Tryz.prog 11 #[.pointer pr, .int .i64 n] W fun e W' => e = .returned (.int .i64 (lif (faS · n) s).1) ∧ RvTo B pr room v W (lif (faS · n) s).2 W' := by
  cases s with
  | none =>
    obtain rfl : pr = none := h
    refine (rfail_nil n W).mono ?_
    rintro e w' ⟨rfl, rfl⟩
    exact ⟨rfl, rv_none _⟩
  | some s =>
    obtain ⟨g, rfl, h⟩ := h
    refine (r_fail h n).mono ?_
    rintro e w' ⟨rfl, v', h1, h2, h3⟩
    exact ⟨rfl, rv_lift h1 h2 h3⟩
theorem dv_up {B room : Nat} {pd : Option Addr} {v f : Value} {s : Option Ds} {W : World} (h : DvC B pd room v f s W) : Calls Tryz.prog 12 #[.pointer pd] W fun e W' => e = .returned (.int .i64 (lif upS s).1) ∧ DvTo B pd room v f W (lif upS s).2 W' := by
  cases s with
  | none =>
    obtain rfl : pd = none := h
    refine (up_not none W (.inl rfl)).mono ?_
    rintro e w' ⟨rfl, rfl⟩
    exact ⟨rfl, dv_none _⟩
  | some s =>
    obtain ⟨g, rfl, h⟩ := h
    refine (d_up h).mono ?_
    rintro e w' ⟨rfl, v', f', h1, h2, h3⟩
    exact ⟨rfl, dv_lift h1 h2 h3⟩
theorem rv_up {B room : Nat} {pr : Option Addr} {v : Value} {s : Option Ds} {W : World} (h : RvC B pr room v s W) : Calls Tryz.prog 13 #[.pointer pr] W fun e W' => e = .returned (.int .i64 (lif upS s).1) ∧ RvTo B pr room v W (lif upS s).2 W' := by
  cases s with
  | none =>
    obtain rfl : pr = none := h
    refine (rup_nil W).mono ?_
    rintro e w' ⟨rfl, rfl⟩
    exact ⟨rfl, rv_none _⟩
  | some s =>
    obtain ⟨g, rfl, h⟩ := h
    refine (r_up h).mono ?_
    rintro e w' ⟨rfl, v', h1, h2, h3⟩
    exact ⟨rfl, rv_lift h1 h2 h3⟩
theorem dv_trim {B room : Nat} {pd : Option Addr} {v f : Value} {s : Option Ds} {W : World} (h : DvC B pd room v f s W) (n : Int) : Calls Tryz.prog 8 #[.pointer pd, .int .i64 n] W fun e W' => e = .returned (.int .i64 (lif (trS · n) s).1) ∧ DvTo B pd room v f W (lif (trS · n) s).2 W' := by
  cases s with
  | none =>
    obtain rfl : pd = none := h
    refine (trim_not none n W (.inl rfl)).mono ?_
    rintro e w' ⟨rfl, rfl⟩
    exact ⟨rfl, dv_none _⟩
  | some s =>
    obtain ⟨g, rfl, h⟩ := h
    refine (d_trim h n).mono ?_
    rintro e w' ⟨rfl, v', f', h1, h2, h3⟩
    exact ⟨rfl, dv_lift h1 h2 h3⟩
theorem rv_trim {B room : Nat} {pr : Option Addr} {v : Value} {s : Option Ds} {W : World} (h : RvC B pr room v s W) (n : Int) : Calls Tryz.prog 9 #[.pointer pr, .int .i64 n] W fun e W' => e = .returned (.int .i64 (lif (trS · n) s).1) ∧ RvTo B pr room v W (lif (trS · n) s).2 W' := by
  cases s with
  | none =>
    obtain rfl : pr = none := h
    refine (rtrim_nil n W).mono ?_
    rintro e w' ⟨rfl, rfl⟩
    exact ⟨rfl, rv_none _⟩
  | some s =>
    obtain ⟨g, rfl, h⟩ := h
    refine (r_trim h n).mono ?_
    rintro e w' ⟨rfl, v', h1, h2, h3⟩
    exact ⟨rfl, rv_lift h1 h2 h3⟩
def s0 (room : Int) : Option Ds := if 1 ≤ room ∧ room ≤ 16777216 then some ⟨[], false, none⟩ else none
def cN (room : Int) : Int := if 1 ≤ room ∧ room ≤ 16777216 then 0 else 1
theorem dv_new (room : Int) (W : World) : Calls Tryz.prog 5 #[.int .i64 room] W fun e W' => ∃ pd, e = .returned (.tuple #[.pointer pd, .int .i64 (cN room)]) ∧ DvC W.heap.size pd room.toNat (.slice none 0 0) .nilFunc (s0 room) W' ∧ Below W.heap.size W W' := by
  unfold s0 cN
  by_cases h : 1 ≤ room ∧ room ≤ 16777216
  · rw [if_pos h, if_pos h]
    obtain ⟨r, rfl⟩ : ∃ r : Nat, room = r := ⟨room.toNat, by omega⟩
    refine (new_yes r W (by omega) (by omega)).mono ?_
    rintro e w' ⟨rfl, hd, hb⟩
    exact ⟨_, rfl, ⟨_, rfl, hd⟩, hb⟩
  · rw [if_neg h, if_neg h]
    refine (new_no room W (by omega)).mono ?_
    rintro e w' ⟨rfl, rfl⟩
    exact ⟨none, rfl, rfl, Below.refl _ _⟩
theorem rv_new (room : Int) (W : World) : Calls Tryz.prog 6 #[.int .i64 room] W fun e W' => ∃ pr, e = .returned (.tuple #[.pointer pr, .int .i64 (cN room)]) ∧ RvC W.heap.size pr room.toNat (.slice none 0 0) (s0 room) W' ∧ Below W.heap.size W W' := by
  unfold s0 cN
  by_cases h : 1 ≤ room ∧ room ≤ 16777216
  · rw [if_pos h, if_pos h]
    obtain ⟨r, rfl⟩ : ∃ r : Nat, room = r := ⟨room.toNat, by omega⟩
    refine (rnew_yes r W (by omega) (by omega)).mono ?_
    rintro e w' ⟨rfl, hd, hb⟩
    exact ⟨_, rfl, ⟨_, rfl, hd⟩, hb⟩
  · rw [if_neg h, if_neg h]
    refine (rnew_no room W (by omega)).mono ?_
    rintro e w' ⟨rfl, rfl⟩
    exact ⟨none, rfl, rfl, Below.refl _ _⟩
def dwn : Option Ds → Bool
  | none => false
  | some s => s.off
theorem dv_down {B room : Nat} {pd : Option Addr} {v f : Value} {s : Option Ds} {W : World} (h : DvC B pd room v f s W) : Calls Tryz.prog 17 #[.pointer pd] W fun e W' => e = .returned (.bool (dwn s)) ∧ W' = W := by
  cases s with
  | none =>
    obtain rfl : pd = none := h
    exact down_not none W (.inl rfl)
  | some s =>
    obtain ⟨g, rfl, h⟩ := h
    exact down_yes h
theorem rv_down {B room : Nat} {pr : Option Addr} {v : Value} {s : Option Ds} {W : World} (h : RvC B pr room v s W) : Calls Tryz.prog 18 #[.pointer pr] W fun e W' => e = .returned (.bool (dwn s)) ∧ W' = W := by
  cases s with
  | none =>
    obtain rfl : pr = none := h
    exact rdown_nil W
  | some s =>
    obtain ⟨g, rfl, h⟩ := h
    exact rdown_yes h
def bys : Option Ds → List Nat
  | none => []
  | some s => s.xs
theorem dv_bytes {B room : Nat} {pd : Option Addr} {v f : Value} {s : Option Ds} {W : World} (h : DvC B pd room v f s W) : Calls Tryz.prog 20 #[.pointer pd] W fun e W' => ∃ u, e = .returned u ∧ Own8 W' W.heap.size u (bys s) ∧ Below W.heap.size W W' := by
  cases s with
  | none =>
    obtain rfl : pd = none := h
    refine (bytes_not none W (.inl rfl)).mono ?_
    rintro e w' ⟨rfl, rfl⟩
    exact ⟨_, rfl, Own8.nil _ _, Below.refl _ _⟩
  | some s =>
    obtain ⟨g, rfl, h⟩ := h
    exact bytes_yes h
theorem rv_bytes {B room : Nat} {pr : Option Addr} {v : Value} {s : Option Ds} {W : World} (h : RvC B pr room v s W) : Calls Tryz.prog 21 #[.pointer pr] W fun e W' => ∃ u, e = .returned u ∧ Own8 W' W.heap.size u (bys s) ∧ Below W.heap.size W W' := by
  cases s with
  | none =>
    obtain rfl : pr = none := h
    refine (rbytes_nil W).mono ?_
    rintro e w' ⟨rfl, rfl⟩
    exact ⟨_, rfl, Own8.nil _ _, Below.refl _ _⟩
  | some s =>
    obtain ⟨g, rfl, h⟩ := h
    exact rbytes_yes h
theorem bys_len {B room : Nat} {pd : Option Addr} {v f : Value} {s : Option Ds} {W : World} (h : DvC B pd room v f s W) : (bys s).length ≤ 16777216 := by
  cases s with
  | none => exact Nat.zero_le _
  | some s =>
    obtain ⟨g, rfl, h⟩ := h
    exact Nat.le_trans (Dk.le h) (Dk.r1 h)
theorem DvC.nil {B room : Nat} {pd : Option Addr} {v f : Value} {s : Option Ds} {W : World} (h : DvC B pd room v f s W) : pd.isNone = s.isNone ∧ (pd = none ∨ ∃ g, pd = some ⟨g, 0, none⟩) := by
  cases s with
  | none => obtain rfl : pd = none := h; exact ⟨rfl, .inl rfl⟩
  | some s => obtain ⟨g, rfl, _⟩ := h; exact ⟨rfl, .inr ⟨g, rfl⟩⟩
theorem RvC.nil {B room : Nat} {pd : Option Addr} {v : Value} {s : Option Ds} {W : World} (h : RvC B pd room v s W) : pd.isNone = s.isNone ∧ (pd = none ∨ ∃ g, pd = some ⟨g, 0, none⟩) := by
  cases s with
  | none => obtain rfl : pd = none := h; exact ⟨rfl, .inl rfl⟩
  | some s => obtain ⟨g, rfl, _⟩ := h; exact ⟨rfl, .inr ⟨g, rfl⟩⟩
set_option maxRecDepth 100000 in
theorem dsk_eql (pd : Option Addr) (h : pd = none ∨ ∃ g, pd = some ⟨g, 0, none⟩) (b : Bool) (hb : pd.isNone = b) : ∀ W, (binOp .eql 24 (.pointer pd) (.pointer none)).run Tryz.prog W = .ok (.bool b) W := fun W => by
  subst hb
  rcases h with rfl | ⟨g, rfl⟩ <;> rfl
set_option maxRecDepth 100000 in
theorem ref_eql (pd : Option Addr) (h : pd = none ∨ ∃ g, pd = some ⟨g, 0, none⟩) (b : Bool) (hb : pd.isNone = b) : ∀ W, (binOp .eql 28 (.pointer pd) (.pointer none)).run Tryz.prog W = .ok (.bool b) W := fun W => by
  subst hb
  rcases h with rfl | ⟨g, rfl⟩ <;> rfl
end Go.Proofs.YtgfmkhgdndodkaaGreatDoor
