/- A disk that may not be there, and the document's: each call as one step of a state. -/
import Derived.Test.YtannocdcohofbaaJPd
namespace Go.Proofs.Ytannocdcohofbaa
open Go.RowKit

def lif (f : Ds → Int × Ds) : Option Ds → Int × Option Ds
  | none => (2, none)
  | some s => ((f s).1, some (f s).2)
def DvC (B : Nat) (pd : Option Addr) (room : Nat) (v f : Value) : Option Ds → World → Prop
  | none, _ => pd = none
  | some s, W => ∃ g, pd = some ⟨g, 0, none⟩ ∧ DC B g room v f s W
def DvF (pd : Option Addr) (v f : Value) (b : Nat) : Prop := ∃ g, pd = some ⟨g, 0, none⟩ ∧ DF g v f b
def RvC (B : Nat) (pr : Option Addr) (room : Nat) (v : Value) : Option Ds → World → Prop
  | none, _ => pr = none
  | some s, W => ∃ g, pr = some ⟨g, 0, none⟩ ∧ RC B g room v s W
def RvF (pr : Option Addr) (v : Value) (b : Nat) : Prop := ∃ g, pr = some ⟨g, 0, none⟩ ∧ DE g v b
theorem DvC.comp (B : Nat) (pd : Option Addr) (room : Nat) (v f : Value) (s : Option Ds) : Comp (DvC B pd room v f s) (DvF pd v f) := by
  cases s with
  | none => exact ⟨fun h _ _ => h, fun h k => by obtain ⟨g, e, _⟩ := k; have : pd = none := h; rw [this] at e; cases e⟩
  | some s =>
    refine ⟨fun h hf hE => ?_, fun h k => ?_⟩
    · obtain ⟨g, e, h⟩ := h
      exact ⟨g, e, (Dk.comp B g room v f s).st h hf (fun b hb => hE b ⟨g, e, hb⟩)⟩
    · obtain ⟨g, e, h⟩ := h
      obtain ⟨g', e', k⟩ := k
      rw [e] at e'
      cases e'
      exact (Dk.comp B g room v f s).lt h k
theorem RvC.comp (B : Nat) (pr : Option Addr) (room : Nat) (v : Value) (s : Option Ds) : Comp (RvC B pr room v s) (RvF pr v) := by
  cases s with
  | none => exact ⟨fun h _ _ => h, fun h k => by obtain ⟨g, e, _⟩ := k; have : pr = none := h; rw [this] at e; cases e⟩
  | some s =>
    refine ⟨fun h hf hE => ?_, fun h k => ?_⟩
    · obtain ⟨g, e, h⟩ := h
      exact ⟨g, e, (Rk.comp B g room v s).st h hf (fun b hb => hE b ⟨g, e, hb⟩)⟩
    · obtain ⟨g, e, h⟩ := h
      obtain ⟨g', e', k⟩ := k
      rw [e] at e'
      cases e'
      exact (Rk.comp B g room v s).lt h k
/- What a call leaves. -/
def DvTo (B : Nat) (pd : Option Addr) (room : Nat) (v f : Value) (W : World) (r : Option Ds) (W' : World) : Prop :=
  ∃ v' f', DvC B pd room v' f' r W' ∧ Fr (DvF pd v f) W W' ∧ ∀ b, DvF pd v' f' b → DvF pd v f b ∨ W.heap.size ≤ b
def RvTo (B : Nat) (pr : Option Addr) (room : Nat) (v : Value) (W : World) (r : Option Ds) (W' : World) : Prop :=
  ∃ v', RvC B pr room v' r W' ∧ Fr (RvF pr v) W W' ∧ ∀ b, RvF pr v' b → RvF pr v b ∨ W.heap.size ≤ b
theorem fr_sub {E E' : Nat → Prop} {W W' : World} (h : Fr E W W') (k : ∀ b, E b → E' b) : Fr E' W W' := ⟨h.os, h.tape, h.output, h.size, fun b hb hn => h.block b hb (fun e => hn (k b e))⟩
theorem dv_lift {B g room : Nat} {v f v' f' : Value} {s : Ds} {W W' : World} (h1 : DC B g room v' f' s W') (h2 : Fr (DF g v f) W W') (h3 : ∀ b, DF g v' f' b → DF g v f b ∨ W.heap.size ≤ b) : DvTo B (some ⟨g, 0, none⟩) room v f W (some s) W' :=
  ⟨v', f', ⟨g, rfl, h1⟩, fr_sub h2 (fun b hb => ⟨g, rfl, hb⟩), fun b ⟨g', e, hb⟩ => by cases e; exact (h3 b hb).imp (fun k => ⟨g, rfl, k⟩) id⟩
theorem rv_lift {B g room : Nat} {v v' : Value} {s : Ds} {W W' : World} (h1 : RC B g room v' s W') (h2 : Fr (DE g v) W W') (h3 : ∀ b, DE g v' b → DE g v b ∨ W.heap.size ≤ b) : RvTo B (some ⟨g, 0, none⟩) room v W (some s) W' :=
  ⟨v', ⟨g, rfl, h1⟩, fr_sub h2 (fun b hb => ⟨g, rfl, hb⟩), fun b ⟨g', e, hb⟩ => by cases e; exact (h3 b hb).imp (fun k => ⟨g, rfl, k⟩) id⟩
theorem dv_none {B room : Nat} {v f : Value} (W : World) : DvTo B none room v f W none W := ⟨v, f, rfl, Fr.refl _ _, fun _ h => .inl h⟩
theorem rv_none {B room : Nat} {v : Value} (W : World) : RvTo B none room v W none W := ⟨v, rfl, Fr.refl _ _, fun _ h => .inl h⟩
theorem dv_append {B room : Nat} {pd : Option Addr} {v f : Value} {s : Option Ds} {W : World} (h : DvC B pd room v f s W) (a : Option Addr) (cap : Nat) (ys : List Nat) (hr : RdA W a ys) (hlc : ys.length ≤ cap) (hn : a = none → cap = 0) : Calls Try.prog 17 #[.pointer pd, .slice a ys.length cap] W fun e W' => e = .returned (.int .i64 (lif (apS room · ys) s).1) ∧ DvTo B pd room v f W (lif (apS room · ys) s).2 W' := by
  cases s with
  | none =>
    obtain rfl : pd = none := h
    refine (append_not none _ W (.inl rfl)).mono ?_
    rintro e w' ⟨rfl, rfl⟩
    exact ⟨rfl, dv_none _⟩
  | some s =>
    obtain ⟨g, rfl, h⟩ := h
    refine (d_append h a cap ys hr hlc hn).mono ?_
    rintro e w' ⟨rfl, v', f', h1, h2, h3⟩
    exact ⟨rfl, dv_lift h1 h2 h3⟩
theorem rv_append {B room : Nat} {pr : Option Addr} {v : Value} {s : Option Ds} {W : World} (h : RvC B pr room v s W) (a : Option Addr) (cap : Nat) (ys : List Nat) (hr : RdA W a ys) (hlc : ys.length ≤ cap) (hn : a = none → cap = 0) : Calls Try.prog 18 #[.pointer pr, .slice a ys.length cap] W fun e W' => e = .returned (.int .i64 (lif (apS room · ys) s).1) ∧ RvTo B pr room v W (lif (apS room · ys) s).2 W' := by
  cases s with
  | none =>
    obtain rfl : pr = none := h
    refine (rappend_nil _ W).mono ?_
    rintro e w' ⟨rfl, rfl⟩
    exact ⟨rfl, rv_none _⟩
  | some s =>
    obtain ⟨g, rfl, h⟩ := h
    refine (r_append h a cap ys hr hlc hn).mono ?_
    rintro e w' ⟨rfl, v', h1, h2, h3⟩
    exact ⟨rfl, rv_lift h1 h2 h3⟩
theorem dv_fail {B room : Nat} {pd : Option Addr} {v f : Value} {s : Option Ds} {W : World} (h : DvC B pd room v f s W) (n : Int) (hb : n < 9223372036854775808) : Calls Try.prog 13 #[.pointer pd, .int .i64 n] W fun e W' => e = .returned (.int .i64 (lif (faS · n) s).1) ∧ DvTo B pd room v f W (lif (faS · n) s).2 W' := by
  cases s with
  | none =>
    obtain rfl : pd = none := h
    refine (fail_not none n W (.inl rfl)).mono ?_
    rintro e w' ⟨rfl, rfl⟩
    exact ⟨rfl, dv_none _⟩
  | some s =>
    obtain ⟨g, rfl, h⟩ := h
    refine (d_fail h n hb).mono ?_
    rintro e w' ⟨rfl, v', f', h1, h2, h3⟩
    exact ⟨rfl, dv_lift h1 h2 h3⟩
theorem rv_fail {B room : Nat} {pr : Option Addr} {v : Value} {s : Option Ds} {W : World} (h : RvC B pr room v s W) (n : Int) : Calls Try.prog 14 #[.pointer pr, .int .i64 n] W fun e W' => e = .returned (.int .i64 (lif (faS · n) s).1) ∧ RvTo B pr room v W (lif (faS · n) s).2 W' := by
  cases s with
  | none =>
    obtain rfl : pr = none := h
    refine (rfail_nil n W).mono ?_
    rintro e w' ⟨rfl, rfl⟩
    exact ⟨rfl, rv_none _⟩
  | some s =>
    obtain ⟨g, rfl, h⟩ := h
    refine (r_fail h n).mono ?_
    rintro e w' ⟨rfl, v', h1, h2, h3⟩
    exact ⟨rfl, rv_lift h1 h2 h3⟩
theorem dv_up {B room : Nat} {pd : Option Addr} {v f : Value} {s : Option Ds} {W : World} (h : DvC B pd room v f s W) : Calls Try.prog 15 #[.pointer pd] W fun e W' => e = .returned (.int .i64 (lif upS s).1) ∧ DvTo B pd room v f W (lif upS s).2 W' := by
  cases s with
  | none =>
    obtain rfl : pd = none := h
    refine (up_not none W (.inl rfl)).mono ?_
    rintro e w' ⟨rfl, rfl⟩
    exact ⟨rfl, dv_none _⟩
  | some s =>
    obtain ⟨g, rfl, h⟩ := h
    refine (d_up h).mono ?_
    rintro e w' ⟨rfl, v', f', h1, h2, h3⟩
    exact ⟨rfl, dv_lift h1 h2 h3⟩
theorem rv_up {B room : Nat} {pr : Option Addr} {v : Value} {s : Option Ds} {W : World} (h : RvC B pr room v s W) : Calls Try.prog 16 #[.pointer pr] W fun e W' => e = .returned (.int .i64 (lif upS s).1) ∧ RvTo B pr room v W (lif upS s).2 W' := by
  cases s with
  | none =>
    obtain rfl : pr = none := h
    refine (rup_nil W).mono ?_
    rintro e w' ⟨rfl, rfl⟩
    exact ⟨rfl, rv_none _⟩
  | some s =>
    obtain ⟨g, rfl, h⟩ := h
    refine (r_up h).mono ?_
    rintro e w' ⟨rfl, v', h1, h2, h3⟩
    exact ⟨rfl, rv_lift h1 h2 h3⟩
theorem dv_add {B room : Nat} {pd : Option Addr} {v f : Value} {s : Option Ds} {W : World} (h : DvC B pd room v f s W) (a : Option Addr) (cap : Nat) (ys : List Nat) (hy : ∀ y ∈ ys, y < 256) (hl : ys.length ≤ 140737488355328) (hr : RdA W a ys) : Calls Try.prog 19 #[.pointer pd, .slice a ys.length cap] W fun e W' => e = .returned (.int .i64 (lif (adS room · ys) s).1) ∧ DvTo B pd room v f W (lif (adS room · ys) s).2 W' := by
  cases s with
  | none =>
    obtain rfl : pd = none := h
    refine (add_not none _ W (.inl rfl)).mono ?_
    rintro e w' ⟨rfl, rfl⟩
    exact ⟨rfl, dv_none _⟩
  | some s =>
    obtain ⟨g, rfl, h⟩ := h
    refine (d_add h a cap ys hy hl hr).mono ?_
    rintro e w' ⟨rfl, v', f', h1, h2, h3⟩
    exact ⟨rfl, dv_lift h1 h2 h3⟩
theorem radd_nil (b : Value) (w : World) : Calls Try.prog 20 #[.pointer none, b] w fun e w' => e = .returned (.int .i64 2) ∧ w' = w := by
  have e1 := ref_eql_yes
  go_enter Try.func20, Try.ntmps20
  go_wp2
  go_ret
  exact ⟨rfl, rfl⟩
theorem ropen_nil (w : World) : Calls Try.prog 11 #[.pointer none] w fun e w' => e = .returned (.tuple #[.slice none 0 0, .int .i64 2]) ∧ w' = w := by
  have e1 := ref_eql_yes
  go_enter Try.func11, Try.ntmps11
  go_wp2
  go_ret2
  exact ⟨rfl, rfl⟩
theorem rv_add {B room : Nat} {pr : Option Addr} {v : Value} {s : Option Ds} {W : World} (h : RvC B pr room v s W) (a : Option Addr) (cap : Nat) (ys : List Nat) (hy : ∀ y ∈ ys, y < 256) (hr : RdA W a ys) : Calls Try.prog 20 #[.pointer pr, .slice a ys.length cap] W fun e W' => e = .returned (.int .i64 (lif (adS room · ys) s).1) ∧ RvTo B pr room v W (lif (adS room · ys) s).2 W' := by
  cases s with
  | none =>
    obtain rfl : pr = none := h
    refine (radd_nil _ W).mono ?_
    rintro e w' ⟨rfl, rfl⟩
    exact ⟨rfl, rv_none _⟩
  | some s =>
    obtain ⟨g, rfl, h⟩ := h
    refine (r_add h a cap ys hy hr).mono ?_
    rintro e w' ⟨rfl, v', h1, h2, h3⟩
    exact ⟨rfl, rv_lift h1 h2 h3⟩
/- Open of a disk that is not there. -/
theorem open_not (a : Option Addr) (w : World) (h : NoDk w a) : Calls Try.prog 10 #[.pointer a] w fun e w' => e = .returned (.tuple #[.slice none 0 0, .int .i64 2]) ∧ Below w.heap.size w w' := by
  have HB := hide (bytes_not a w h)
  have HR := hide (read_yes none 0 [] w (by simp) (by simp) (by simp) (.inl rfl))
  rw [rd_nil, used_nil, List.length_nil] at HR
  have HT : Hid (∀ W, Below w.heap.size w W → Calls Try.prog 30 #[.pointer a, .int .i64 0] W fun e w' => e = .returned (.int .i64 2) ∧ w' = W) := fun W hb => trim_not a 0 W (by
    rcases h with h | ⟨g, e, hc⟩
    · exact .inl h
    · exact .inr ⟨g, e, (hb.cell (p := ⟨g, 0, none⟩) (World.block_lt_of_cell? w _ hc)).trans hc⟩)
  clear h
  go_enter Try.func10, Try.ntmps10
  go_wp2_with fail
  refine HB.out.mono ?_
  rintro e w1 ⟨rfl, hw⟩
  subst hw
  go_wp2_with fail
  refine HR.out.mono ?_
  rintro e w2 ⟨v2, vs2, rfl, hrc, hb⟩
  obtain ⟨a2, c2, rfl⟩ := hrc.own.sl
  have B2 := hide hb
  clear hrc hb
  go_wp2_with fail
  refine (HT.out _ B2.out).mono ?_
  rintro e w3 ⟨rfl, hw⟩
  subst hw
  go_wp2
  go_ret2
  exact ⟨rfl, B2.out⟩
def opL : Option Ds → List (List Nat)
  | none => []
  | some s => opR s
def byL : Option Ds → Prop
  | none => True
  | some s => ∀ y ∈ s.xs, y < 256
theorem dv_open {B room : Nat} {pd : Option Addr} {v f : Value} {s : Option Ds} {W : World} (h : DvC B pd room v f s W) (hx : byL s) : Calls Try.prog 10 #[.pointer pd] W fun e W' => ∃ u, e = .returned (.tuple #[u, .int .i64 (lif opS s).1]) ∧ Ans W' W.heap.size u (opL s) ∧ DvTo B pd room v f W (lif opS s).2 W' := by
  cases s with
  | none =>
    obtain rfl : pd = none := h
    refine (open_not none W (.inl rfl)).mono ?_
    rintro e w' ⟨rfl, hb⟩
    exact ⟨_, rfl, Ans.nil _ _, v, f, rfl, Fr.ofBelow hb, fun _ h => .inl h⟩
  | some s =>
    obtain ⟨g, rfl, h⟩ := h
    refine (d_open h hx).mono ?_
    rintro e w' ⟨u, v', f', rfl, ha, h1, h2, h3⟩
    exact ⟨u, rfl, ha, dv_lift h1 h2 h3⟩
theorem rv_open {B room : Nat} {pr : Option Addr} {v : Value} {s : Option Ds} {W : World} (h : RvC B pr room v s W) (hx : byL s) : Calls Try.prog 11 #[.pointer pr] W fun e W' => ∃ u, e = .returned (.tuple #[u, .int .i64 (lif opS s).1]) ∧ Ans W' W.heap.size u (opL s) ∧ RvTo B pr room v W (lif opS s).2 W' := by
  cases s with
  | none =>
    obtain rfl : pr = none := h
    refine (ropen_nil W).mono ?_
    rintro e w' ⟨rfl, rfl⟩
    exact ⟨_, rfl, Ans.nil _ _, rv_none _⟩
  | some s =>
    obtain ⟨g, rfl, h⟩ := h
    refine (r_open h hx).mono ?_
    rintro e w' ⟨u, v', rfl, ha, h1, h2, h3⟩
    exact ⟨u, rfl, ha, rv_lift h1 h2 h3⟩
end Go.Proofs.Ytannocdcohofbaa
