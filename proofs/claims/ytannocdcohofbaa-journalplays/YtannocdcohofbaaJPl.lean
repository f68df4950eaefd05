/- pointsmanlaw05.JournalPlays, walked. -/
import Derived.Test.YtannocdcohofbaaJZ
namespace Go.Proofs.Ytannocdcohofbaa
open Go.RowKit

def s0 (room : Int) : Option Ds := if 1 ≤ room ∧ room ≤ 16777216 then some ⟨[], false, none⟩ else none
theorem dv_new (room : Int) (W : World) : Calls Try.prog 8 #[.int .i64 room] W fun e W' => ∃ pd c, e = .returned (.tuple #[.pointer pd, .int .i64 c]) ∧ DvC W.heap.size pd room.toNat (.slice none 0 0) .nilFunc (s0 room) W' ∧ Below W.heap.size W W' := by
  unfold s0
  by_cases h : 1 ≤ room ∧ room ≤ 16777216
  · rw [if_pos h]
    obtain ⟨r, rfl⟩ : ∃ r : Nat, room = r := ⟨room.toNat, by omega⟩
    refine (new_yes r W (by omega) (by omega)).mono ?_
    rintro e w' ⟨rfl, hd, hb⟩
    exact ⟨_, 0, rfl, ⟨_, rfl, hd⟩, hb⟩
  · rw [if_neg h]
    refine (new_no room W (by omega)).mono ?_
    rintro e w' ⟨rfl, rfl⟩
    exact ⟨none, 1, rfl, rfl, Below.refl _ _⟩
theorem rv_new (room : Int) (W : World) : Calls Try.prog 9 #[.int .i64 room] W fun e W' => ∃ pr c, e = .returned (.tuple #[.pointer pr, .int .i64 c]) ∧ RvC W.heap.size pr room.toNat (.slice none 0 0) (s0 room) W' ∧ Below W.heap.size W W' := by
  unfold s0
  by_cases h : 1 ≤ room ∧ room ≤ 16777216
  · rw [if_pos h]
    obtain ⟨r, rfl⟩ : ∃ r : Nat, room = r := ⟨room.toNat, by omega⟩
    refine (rnew_yes r W (by omega) (by omega)).mono ?_
    rintro e w' ⟨rfl, hd, hb⟩
    exact ⟨_, 0, rfl, ⟨_, rfl, hd⟩, hb⟩
  · rw [if_neg h]
    refine (rnew_no room W (by omega)).mono ?_
    rintro e w' ⟨rfl, rfl⟩
    exact ⟨none, 1, rfl, rfl, Below.refl _ _⟩
def ZC (gz : Nat) (W : World) : Prop := W.cell? ⟨gz, 0, none⟩ = some (.int .i64 0)
theorem ZC.comp (gz : Nat) : Comp (ZC gz) (fun b => b = gz) := ⟨fun h hf hE => hf.cell h (hE gz rfl), fun h e => by rw [e]; exact World.block_lt_of_cell? _ _ h⟩
def OC (go : Nat) (o : Sop) (W : World) : Prop := W.cell? ⟨go, 0, none⟩ = some (.int .u8 (o.k : Nat)) ∧ W.cell? ⟨go, 1, none⟩ = some (.int .i64 o.n) ∧ W.cell? ⟨go, 2, none⟩ = some (.slice o.a o.xs.length o.cap)
theorem OC.comp (go : Nat) (o : Sop) : Comp (OC go o) (fun b => b = go) := ⟨fun h hf hE => ⟨hf.cell h.1 (hE go rfl), hf.cell h.2.1 (hE go rfl), hf.cell h.2.2 (hE go rfl)⟩, fun h e => by rw [e]; exact World.block_lt_of_cell? _ _ h.1⟩
theorem none_comp : Comp (fun _ => True) (fun _ => False) := ⟨fun _ _ _ => trivial, fun _ h => h.elim⟩
/- What the law holds: two disks, the disk of noughts, the operation at hand. -/
abbrev P4 (w W : World) (B B' : Nat) (pd pr : Option Addr) (room gz : Nat) (v f vr : Value) (s t : Option Ds) (C4 : World → Prop) (F4 : Nat → Prop) : Prop :=
  Four w W (DvC B pd room v f s) (DvF pd v f) (RvC B' pr room vr t) (RvF pr vr) (ZC gz) (fun b => b = gz) C4 F4
theorem P4.d {w W W' : World} {B B' : Nat} {pd pr : Option Addr} {room gz : Nat} {v f vr : Value} {s s' t : Option Ds} {C4 : World → Prop} {F4 : Nat → Prop} (h : P4 w W B B' pd pr room gz v f vr s t C4 F4) (k : DvTo B pd room v f W s' W') : ∃ v' f', P4 w W' B B' pd pr room gz v' f' vr s' t C4 F4 := by
  obtain ⟨v', f', h1, h2, h3⟩ := k
  exact ⟨v', f', Four.step1 h h2 (DvC.comp ..) h1 h3⟩
theorem P4.r {w W W' : World} {B B' : Nat} {pd pr : Option Addr} {room gz : Nat} {v f vr : Value} {s t t' : Option Ds} {C4 : World → Prop} {F4 : Nat → Prop} (h : P4 w W B B' pd pr room gz v f vr s t C4 F4) (k : RvTo B' pr room vr W t' W') : ∃ vr', P4 w W' B B' pd pr room gz v f vr' s t' C4 F4 := by
  obtain ⟨v', h1, h2, h3⟩ := k
  exact ⟨v', Four.step2 h h2 (RvC.comp ..) h1 h3⟩
theorem P4.put {w W : World} {B B' : Nat} {pd pr : Option Addr} {room gz : Nat} {v f vr : Value} {s t : Option Ds} {C4 : World → Prop} {F4 : Nat → Prop} (h : P4 w W B B' pd pr room gz v f vr s t (fun _ => True) (fun _ => False)) {W' : World} (hb : Below W.heap.size W W') (k : Comp C4 F4) (c : C4 W') (hn : ∀ b, F4 b → W.heap.size ≤ b) : P4 w W' B B' pd pr room gz v f vr s t C4 F4 :=
  Four.step4 h (Fr.ofBelow hb) k c (fun b hb' => .inr (hn b hb'))
theorem P4.drop {w W : World} {B B' : Nat} {pd pr : Option Addr} {room gz : Nat} {v f vr : Value} {s t : Option Ds} {C4 : World → Prop} {F4 : Nat → Prop} (h : P4 w W B B' pd pr room gz v f vr s t C4 F4) : P4 w W B B' pd pr room gz v f vr s t (fun _ => True) (fun _ => False) :=
  Four.step4 h (Fr.refl _ _) none_comp trivial (fun _ e => e.elim)
def dwn : Option Ds → Bool
  | none => false
  | some s => s.off
theorem dv_down {B room : Nat} {pd : Option Addr} {v f : Value} {s : Option Ds} {W : World} (h : DvC B pd room v f s W) : Calls Try.prog 21 #[.pointer pd] W fun e W' => e = .returned (.bool (dwn s)) ∧ W' = W := by
  cases s with
  | none =>
    obtain rfl : pd = none := h
    exact down_not none W (.inl rfl)
  | some s =>
    obtain ⟨g, rfl, h⟩ := h
    exact down_yes h
theorem rv_down {B room : Nat} {pr : Option Addr} {v : Value} {s : Option Ds} {W : World} (h : RvC B pr room v s W) : Calls Try.prog 22 #[.pointer pr] W fun e W' => e = .returned (.bool (dwn s)) ∧ W' = W := by
  cases s with
  | none =>
    obtain rfl : pr = none := h
    exact rdown_nil W
  | some s =>
    obtain ⟨g, rfl, h⟩ := h
    exact rdown_yes h
def bys : Option Ds → List Nat
  | none => []
  | some s => s.xs
theorem dv_bytes {B room : Nat} {pd : Option Addr} {v f : Value} {s : Option Ds} {W : World} (h : DvC B pd room v f s W) : Calls Try.prog 24 #[.pointer pd] W fun e W' => ∃ u, e = .returned u ∧ Own8 W' W.heap.size u (bys s) ∧ Below W.heap.size W W' := by
  cases s with
  | none =>
    obtain rfl : pd = none := h
    refine (bytes_not none W (.inl rfl)).mono ?_
    rintro e w' ⟨rfl, rfl⟩
    exact ⟨_, rfl, Own8.nil _ _, Below.refl _ _⟩
  | some s =>
    obtain ⟨g, rfl, h⟩ := h
    exact bytes_yes h
theorem rv_bytes {B room : Nat} {pr : Option Addr} {v : Value} {s : Option Ds} {W : World} (h : RvC B pr room v s W) : Calls Try.prog 25 #[.pointer pr] W fun e W' => ∃ u, e = .returned u ∧ Own8 W' W.heap.size u (bys s) ∧ Below W.heap.size W W' := by
  cases s with
  | none =>
    obtain rfl : pr = none := h
    refine (rbytes_nil W).mono ?_
    rintro e w' ⟨rfl, rfl⟩
    exact ⟨_, rfl, Own8.nil _ _, Below.refl _ _⟩
  | some s =>
    obtain ⟨g, rfl, h⟩ := h
    exact rbytes_yes h
theorem bys_len {B room : Nat} {pd : Option Addr} {v f : Value} {s : Option Ds} {W : World} (h : DvC B pd room v f s W) : (bys s).length ≤ 16777216 := by
  cases s with
  | none => exact Nat.zero_le _
  | some s =>
    obtain ⟨g, rfl, h⟩ := h
    exact Nat.le_trans (Dk.le h) (Dk.r1 h)
theorem s0_by (room : Int) : byL (s0 room) := by
  unfold s0
  split
  · intro y hy; simp at hy
  · trivial
theorem P4.start {w w2 w3 : World} {room : Int} {pd pr : Option Addr} (hd : DvC w.heap.size pd room.toNat (.slice none 0 0) .nilFunc (s0 room) w2) (hb2 : Below w.heap.size w w2) (hr : RvC w2.heap.size pr room.toNat (.slice none 0 0) (s0 room) w3) (hb3 : Below w2.heap.size w2 w3) (o : Obj) (hz : (w3.alloc o).cell? ⟨w3.heap.size, 0, none⟩ = some (.int .i64 0)) :
    P4 w (w3.alloc o) w.heap.size w2.heap.size pd pr room.toNat w3.heap.size (.slice none 0 0) .nilFunc (.slice none 0 0) (s0 room) (s0 room) (fun _ => True) (fun _ => False) := by
  have hba : Below w3.heap.size w3 (w3.alloc o) := (Below.refl _ w3).alloc (Nat.le_refl _) o
  have dF : ∀ b, DvF pd (.slice none 0 0) .nilFunc b → w.heap.size ≤ b ∧ b < w2.heap.size := fun b hb => by
    refine ⟨?_, (DvC.comp ..).lt hd hb⟩
    obtain ⟨g, e, hb⟩ := hb
    cases hs : s0 room with
    | none => rw [hs] at hd; have : pd = none := hd; rw [this] at e; cases e
    | some s =>
      rw [hs] at hd
      obtain ⟨g', e', hd⟩ := hd
      rw [e] at e'; cases e'
      rcases hb with hb | ⟨k, hb⟩
      · exact Dk.E hd b hb
      · cases hb
  have rF : ∀ b, RvF pr (.slice none 0 0) b → w2.heap.size ≤ b ∧ b < w3.heap.size := fun b hb => by
    refine ⟨?_, (RvC.comp ..).lt hr hb⟩
    obtain ⟨g, e, hb⟩ := hb
    cases hs : s0 room with
    | none => rw [hs] at hr; have : pr = none := hr; rw [this] at e; cases e
    | some s =>
      rw [hs] at hr
      obtain ⟨g', e', hr⟩ := hr
      rw [e] at e'; cases e'
      rcases hb with hb | hb
      · rw [hb]; exact hr.gB
      · cases hb
  have z2 := hb2.size
  have z3 := hb3.size
  exact ⟨hb2.trans ((hb3.trans (hba.mono z3)).mono z2), DvC.comp .., RvC.comp .., ZC.comp _, none_comp, (DvC.comp ..).st ((DvC.comp ..).st hd (Fr.ofBelow (E := fun _ => False) hb3) (fun _ _ e => e)) (Fr.ofBelow (E := fun _ => False) hba) (fun _ _ e => e), (RvC.comp ..).st hr (Fr.ofBelow (E := fun _ => False) hba) (fun _ _ e => e), hz, trivial, fun b hb => (dF b hb).1, fun b hb => Nat.le_trans z2 (rF b hb).1, fun b hb => by rw [hb]; omega, fun _ e => e.elim,
    fun b h1 h2 => by have := dF b h1; have := rF b h2; omega, fun b h1 h2 => by have := dF b h1; omega, fun _ _ e => e, fun b h1 h2 => by have := rF b h1; omega, fun _ _ e => e, fun _ _ e => e⟩
end Go.Proofs.Ytannocdcohofbaa
