/- pointsmanref04: Trim, Bytes, Append. -/
import Derived.Test.YtgfmkhgdndodkaaGreatDoorRkA
namespace Go.Proofs.YtgfmkhgdndodkaaGreatDoor
open Go.RowKit

theorem Rk.trim {W : World} {B g room k cap p : Nat} {xs : List Nat} {off : Bool} {st : Option Nat} (h : Rk W B g (.slice (some ⟨p, 0, none⟩) xs.length cap) room xs off st) (hk : k ≤ xs.length) : Rk (W.setCell ⟨g, 1, none⟩ (.slice (some ⟨p, 0, none⟩) k cap)) B g (.slice (some ⟨p, 0, none⟩) k cap) room (xs.take k) off st := by
  have := (h.lay (W' := W) (v' := .slice (some ⟨p, 0, none⟩) k cap) (xs' := xs.take k) ⟨rfl, rfl, rfl, Nat.le_refl _, fun _ _ _ => rfl⟩ (h.own.cut k hk) (.inl rfl) (by have := h.le; simp; omega)).1
  exact this
theorem rtrim_yes {B g room n : Nat} {v : Value} {xs : List Nat} {st : Option Nat} {w : World} (hn : n ≤ xs.length) (h : Rk w B g v room xs false st) : Calls Tryz.prog 9 #[.pointer (some ⟨g, 0, none⟩), .int .i64 n] w fun e w' => e = .returned (.int .i64 0) ∧ ∃ v', Rk w' B g v' room (xs.take n) false st ∧ Mv g v v' w w' := by
  have hp := ref_eql_no g
  have c2 := h.c2
  have s1 := h.soft 1
  have g1 : decide ((n : Int) < 0) = false := by simp
  have g2 : decide ((n : Int) > (xs.length : Int)) = false := by simp; omega
  have g3 : decide (xs.length < n) = false := by simp; omega
  obtain ⟨a, cap, rfl, hlc, hnn, hq⟩ := h.own.shape
  have c1 := h.c1
  have HD := hide h
  cases a with
  | none =>
    obtain rfl := hnn rfl
    have hx : xs = [] := List.length_eq_zero_iff.1 (by omega)
    subst hx
    obtain rfl : n = 0 := by simpa using hn
    have HL := hide (h.lay (W' := w) (v' := .slice none 0 0) (xs' := []) ⟨rfl, rfl, rfl, Nat.le_refl _, fun _ _ _ => rfl⟩ (Own8.nil _ _) (.inl rfl) (Nat.zero_le _))
    clear h hq hlc hnn hn
    go_enter Tryz.func9, Tryz.ntmps9
    go_wp2
    go_ret
    exact ⟨rfl, _, HL.out.1, HL.out.2⟩
  | some q =>
    obtain ⟨q1, q2, q3, q4⟩ := hq q rfl
    obtain ⟨p, o, sp⟩ := q
    obtain rfl : o = 0 := q1
    obtain rfl : sp = none := q2
    have HL := hide (h.trim hn)
    have hnc : (n : Int) ≤ (cap : Int) := by omega
    have hM : Hid (Mv g (.slice (some ⟨p, 0, none⟩) xs.length cap) (.slice (some ⟨p, 0, none⟩) n cap) w (w.setCell ⟨g, 1, none⟩ (.slice (some ⟨p, 0, none⟩) n cap))) := ⟨(Fr.refl _ w).set _ _ (.inl rfl), fun b e => .inl e⟩
    clear h hq hnn hn
    go_enter Tryz.func9, Tryz.ntmps9
    go_wp2
    go_ret
    exact ⟨rfl, _, HL.out, hM.out⟩
theorem rbytes_yes {B g room : Nat} {v : Value} {xs : List Nat} {off : Bool} {st : Option Nat} {w : World} (h : Rk w B g v room xs off st) : Calls Tryz.prog 21 #[.pointer (some ⟨g, 0, none⟩)] w fun e w' => ∃ u, e = .returned u ∧ Own8 w' w.heap.size u xs ∧ Below w.heap.size w w' := by
  have hp := ref_neq_yes g
  obtain ⟨a, cap, rfl, hlc, hnn, hq⟩ := h.own.shape
  have c1 := h.c1
  have HR := hide h.own.rd.2
  have hl : xs.length ≤ 16777216 := Nat.le_trans h.le h.r1
  have HN := hide hnn
  clear h hq hnn
  go_enter Tryz.func21, Tryz.ntmps21
  go_wp2_with (first
    | (at_builtin; refine wpList_app8 rfl _ _ rfl w.heap.size _ [] rfl (Own8.nil _ _) a xs.length cap xs rfl rfl HR.out HN.out (by simp; omega) (Nat.le_refl _) ?_; intro v7 w7 O7 G7 K7; have OO7 := hide O7; have B7 := hide (below_own (Below.refl _ w) (Own8.nil w w.heap.size) G7 (Nat.le_refl _)); clear O7 G7 K7))
  go_ret
  exact ⟨v7, rfl, OO7.out, B7.out⟩
theorem rappend_off {B g room : Nat} {v : Value} {xs : List Nat} {st : Option Nat} {w : World} (b : Value) (h : Rk w B g v room xs true st) : Calls Tryz.prog 15 #[.pointer (some ⟨g, 0, none⟩), b] w fun e w' => e = .returned (.int .i64 13) ∧ w' = w := by
  have hp := ref_eql_no g
  have c2 := h.c2
  clear h
  go_enter Tryz.func15, Tryz.ntmps15
  go_wp2
  go_ret
  exact ⟨rfl, rfl⟩
theorem rappend_full {B g room : Nat} {v : Value} {xs : List Nat} {st : Option Nat} {w : World} (a : Option Addr) (m cap : Nat) (hf : room < xs.length + m) (h : Rk w B g v room xs false st) : Calls Tryz.prog 15 #[.pointer (some ⟨g, 0, none⟩), .slice a m cap] w fun e w' => e = .returned (.int .i64 10) ∧ ∃ n, w' = w.drewN n := by
  have hp := ref_eql_no g
  have c2 := h.c2
  obtain ⟨a1, cap1, rfl, _, _, _⟩ := h.own.shape
  have c0 := h.c0
  have c1 := h.c1
  have hr := h.r1
  have hl := h.le
  have hw : IntKind.i64.wrap ((room : Int) - (xs.length : Int)) = ((room - xs.length : Nat) : Int) := by rw [IntKind.wrap_i64]; omega
  have hd : decide ((m : Int) > ((room - xs.length : Nat) : Int)) = true := by simp; omega
  have hd2 : decide ((room - xs.length : Nat) < m) = true := by simp; omega
  clear h
  generalize room - xs.length = R at *
  go_enter Tryz.func15, Tryz.ntmps15
  go_wp2
  go_quiet (fail)
  go_wp2
  go_ret
  exact ⟨rfl, _, rfl⟩
theorem rappend_yes {B g room : Nat} {v : Value} {xs : List Nat} {w : World} (a : Option Addr) (cap : Nat) (ys : List Nat) (hr : RdA w a ys) (hn : a = none → cap = 0) (hf : xs.length + ys.length ≤ room) (h : Rk w B g v room xs false none) : Calls Tryz.prog 15 #[.pointer (some ⟨g, 0, none⟩), .slice a ys.length cap] w fun e w' => e = .returned (.int .i64 0) ∧ ∃ v', Rk w' B g v' room (xs ++ ys) false none ∧ Mv g v v' w w' := by
  have hp := ref_eql_no g
  have HD := hide h
  have HR := hide hr
  have HN := hide hn
  have HF := hide hf
  obtain ⟨a1, cap1, rfl, _, _, _⟩ := h.own.shape
  have c0 := h.c0
  have c1 := h.c1
  have c2 := h.c2
  have c3 : w.cell? ⟨g, 3, none⟩ = some (.bool false) := h.c3
  have s1 := h.soft 1
  have hr1 := h.r1
  have hl := h.le
  have hw : IntKind.i64.wrap ((room : Int) - (xs.length : Int)) = ((room - xs.length : Nat) : Int) := by rw [IntKind.wrap_i64]; omega
  have hd : decide ((ys.length : Int) > ((room - xs.length : Nat) : Int)) = false := by simp; omega
  have hd2 : decide ((room - xs.length : Nat) < ys.length) = false := by simp; omega
  clear h hr hn hf
  generalize room - xs.length = R at *
  go_enter Tryz.func15, Tryz.ntmps15
  go_wp2
  go_quiet (fail)
  have HD2 := hide (HD.out.drewN nq)
  have HR2 : Hid (RdA (w.drewN nq) a ys) := HR.out
  go_wp2_with (first
      | (at_builtin; refine wpList_app8 rfl _ _ rfl B _ xs rfl HD2.out.own a ys.length cap ys rfl rfl HR2.out HN.out (by have := HF.out; omega) HD2.out.BW ?_; intro v7 w7 O7 G7 K7; obtain ⟨a7, n7, p7, rfl⟩ := O7.sl; have L7 := hide (HD2.out.lay G7 O7 K7 (by rw [List.length_append]; exact HF.out)); have c7 := (World.cell?_of_block (w := w.drewN nq) (a := ⟨g, 1, none⟩) (G7.block g HD2.out.lt (fun e => HD2.out.ne e.symm))).trans HD2.out.c1; have s7 := (World.frozen?_of_block (w := w.drewN nq) (a := ⟨g, 1, none⟩) (G7.block g HD2.out.lt (fun e => HD2.out.ne e.symm))).trans (HD2.out.soft 1); clear O7 G7 K7))
  go_ret
  exact ⟨rfl, _, L7.out.1, (Mv.refl g _ w).drewN nq |>.trans L7.out.2⟩
end Go.Proofs.YtgfmkhgdndodkaaGreatDoor
