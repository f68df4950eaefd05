/- pointsmanref04: the document's disk. -/
import Derived.Test.YtgfmkhgdndodkaaGreatDoorDkE
namespace Go.Proofs.YtgfmkhgdndodkaaGreatDoor
open Go.RowKit

structure Rk (W : World) (B g : Nat) (v : Value) (room : Nat) (xs : List Nat) (off : Bool) (st : Option Nat) : Prop where
  gB : B ≤ g
  c0 : W.cell? ⟨g, 0, none⟩ = some (.int .i64 room)
  c1 : W.cell? ⟨g, 1, none⟩ = some v
  c2 : W.cell? ⟨g, 2, none⟩ = some (.bool off)
  c3 : W.cell? ⟨g, 3, none⟩ = some (.bool st.isSome)
  c4 : ∃ n : Int, W.cell? ⟨g, 4, none⟩ = some (.int .i64 n) ∧ ∀ m, st = some m → n = m
  soft : ∀ o, W.frozen? ⟨g, o, none⟩ = false
  own : Own8 W B v xs
  ne : v.ownBlock ≠ some g
  r1 : room ≤ 16777216
  le : xs.length ≤ room
theorem Rk.lt {W : World} {B g room : Nat} {v : Value} {xs : List Nat} {off : Bool} {st : Option Nat} (h : Rk W B g v room xs off st) : g < W.heap.size := World.block_lt_of_cell? W _ h.c0
theorem Rk.vlt {W : World} {B g room : Nat} {v : Value} {xs : List Nat} {off : Bool} {st : Option Nat} (h : Rk W B g v room xs off st) : ∀ b, v.ownBlock = some b → B ≤ b ∧ b < W.heap.size := World.ownsRow.lt h.own
theorem Rk.BW {W : World} {B g room : Nat} {v : Value} {xs : List Nat} {off : Bool} {st : Option Nat} (h : Rk W B g v room xs off st) : B ≤ W.heap.size := by have := h.gB; have := h.lt; omega
theorem Rk.fr {E : Nat → Prop} {W W' : World} {B g room : Nat} {v : Value} {xs : List Nat} {off : Bool} {st : Option Nat} (h : Rk W B g v room xs off st) (hf : Fr E W W') (h1 : ¬ E g) (h2 : ∀ b, v.ownBlock = some b → ¬ E b) : Rk W' B g v room xs off st := by
  obtain ⟨n, hn, hm⟩ := h.c4
  refine ⟨h.gB, hf.cell h.c0 h1, hf.cell h.c1 h1, hf.cell h.c2 h1, hf.cell h.c3 h1, ⟨n, hf.cell hn h1, hm⟩, fun o => ?_, ?_, h.ne, h.r1, h.le⟩
  · exact (World.frozen?_of_block (w := W) (a := ⟨g, o, none⟩) (hf.block g h.lt h1)).trans (h.soft o)
  · refine ⟨h.own.1, ?_⟩
    rcases h.own.2 with h0 | ⟨gr, cap, cur, rfl, hg, hcur, rest⟩
    · exact .inl h0
    · exact .inr ⟨gr, cap, cur, rfl, hg, (hf.block _ (Array.getElem?_eq_some_iff.1 hcur).1 (h2 gr rfl)).trans hcur, rest⟩
theorem Rk.next {W W' : World} {B g room : Nat} {v : Value} {xs : List Nat} {off : Bool} {st : Option Nat} (h : Rk W B g v room xs off st) (hb : Below W.heap.size W W') : Rk W' B g v room xs off st := h.fr (E := fun _ => False) (Fr.ofBelow hb) (fun e => e) (fun _ _ e => e)
theorem Rk.drewN {W : World} {B g room : Nat} {v : Value} {xs : List Nat} {off : Bool} {st : Option Nat} (h : Rk W B g v room xs off st) (n : Nat) : Rk (W.drewN n) B g v room xs off st := h.next ⟨rfl, rfl, rfl, Nat.le_refl _, fun _ _ => rfl⟩
theorem Rk.set2 {W : World} {B g room : Nat} {v : Value} {xs : List Nat} {off : Bool} {st : Option Nat} (h : Rk W B g v room xs off st) (b : Bool) : Rk (W.setCell ⟨g, 2, none⟩ (.bool b)) B g v room xs b st := by
  obtain ⟨n, hn, hm⟩ := h.c4
  exact ⟨h.gB, (set_else W g 2 0 _ (by decide)).trans h.c0, (set_else W g 2 1 _ (by decide)).trans h.c1, World.cell?_setCell_same' _ _ _ (by rw [h.c2]; rfl), (set_else W g 2 3 _ (by decide)).trans h.c3, ⟨n, (set_else W g 2 4 _ (by decide)).trans hn, hm⟩, fun o => by rw [World.frozen?_setCell]; exact h.soft o, h.own.aside g 2 _ h.ne, h.ne, h.r1, h.le⟩
theorem Rk.set3 {W : World} {B g room : Nat} {v : Value} {xs : List Nat} {off : Bool} {st : Option Nat} (h : Rk W B g v room xs off st) : Rk (W.setCell ⟨g, 3, none⟩ (.bool false)) B g v room xs off none := by
  obtain ⟨n, hn, hm⟩ := h.c4
  exact ⟨h.gB, (set_else W g 3 0 _ (by decide)).trans h.c0, (set_else W g 3 1 _ (by decide)).trans h.c1, (set_else W g 3 2 _ (by decide)).trans h.c2, World.cell?_setCell_same' _ _ _ (by rw [h.c3]; rfl), ⟨n, (set_else W g 3 4 _ (by decide)).trans hn, fun m e => by cases e⟩, fun o => by rw [World.frozen?_setCell]; exact h.soft o, h.own.aside g 3 _ h.ne, h.ne, h.r1, h.le⟩
theorem Rk.set34 {W : World} {B g room : Nat} {v : Value} {xs : List Nat} {off : Bool} {st : Option Nat} (h : Rk W B g v room xs off st) (k : Nat) : Rk ((W.setCell ⟨g, 3, none⟩ (.bool true)).setCell ⟨g, 4, none⟩ (.int .i64 k)) B g v room xs off (some k) := by
  obtain ⟨n, hn, hm⟩ := h.c4
  have e : ∀ o, 3 ≠ o → 4 ≠ o → ((W.setCell ⟨g, 3, none⟩ (.bool true)).setCell ⟨g, 4, none⟩ (.int .i64 (k : Int))).cell? ⟨g, o, none⟩ = W.cell? ⟨g, o, none⟩ := fun o h3 h4 => (set_else _ g 4 o _ h4).trans (set_else W g 3 o _ h3)
  refine ⟨h.gB, (e 0 (by decide) (by decide)).trans h.c0, (e 1 (by decide) (by decide)).trans h.c1, (e 2 (by decide) (by decide)).trans h.c2, (set_else _ g 4 3 _ (by decide)).trans (World.cell?_setCell_same' _ _ _ (by rw [h.c3]; rfl)), ⟨k, World.cell?_setCell_same' _ _ _ (by rw [set_else W g 3 4 _ (by decide), hn]; rfl), fun m e => by cases e; rfl⟩, fun o => by rw [World.frozen?_setCell, World.frozen?_setCell]; exact h.soft o, (h.own.aside g 3 _ h.ne).aside g 4 _ h.ne, h.ne, h.r1, h.le⟩
theorem Rk.lay {W W' : World} {B g room : Nat} {v v' : Value} {xs xs' : List Nat} {off : Bool} {st : Option Nat} (h : Rk W B g v room xs off st) (hg : W.grownBy W' v.ownBlock) (ho : Own8 W' B v' xs') (hv : v'.ownBlock = v.ownBlock ∨ v'.ownBlock = some W.heap.size) (hl : xs'.length ≤ room) :
    Rk (W'.setCell ⟨g, 1, none⟩ v') B g v' room xs' off st ∧ Mv g v v' W (W'.setCell ⟨g, 1, none⟩ v') := by
  have hm : Mv g v v' W W' := ⟨Fr.grown hg (fun r e => .inr e), fun b e => by
    rcases hv with e' | e'
    · exact .inl (e' ▸ e)
    · rw [e'] at e; injection e with e; exact .inr (by omega)⟩
  have hgb : W'.heap[g]? = W.heap[g]? := hg.block g h.lt (fun e => h.ne e.symm)
  have hne : v'.ownBlock ≠ some g := fun e => by
    rcases hm.bl g e with e | e
    · exact h.ne e
    · have := h.lt; omega
  have hc : ∀ o, W'.cell? ⟨g, o, none⟩ = W.cell? ⟨g, o, none⟩ := fun o => World.cell?_of_block (w := W) (a := ⟨g, o, none⟩) hgb
  obtain ⟨n, hn, hmm⟩ := h.c4
  refine ⟨⟨h.gB, ?_, ?_, ?_, ?_, ⟨n, ?_, hmm⟩, fun o => ?_, ho.aside g 1 _ hne, hne, h.r1, hl⟩, hm.setg 1 _⟩
  · exact ((set_else W' g 1 0 _ (by decide)).trans (hc 0)).trans h.c0
  · exact World.cell?_setCell_same' _ _ _ (by rw [hc 1, h.c1]; rfl)
  · exact ((set_else W' g 1 2 _ (by decide)).trans (hc 2)).trans h.c2
  · exact ((set_else W' g 1 3 _ (by decide)).trans (hc 3)).trans h.c3
  · exact ((set_else W' g 1 4 _ (by decide)).trans (hc 4)).trans hn
  · rw [World.frozen?_setCell]; exact (World.frozen?_of_block (w := W) (a := ⟨g, o, none⟩) hgb).trans (h.soft o)
set_option maxRecDepth 100000 in
theorem ref_eql_no (g : Nat) : ∀ W, (binOp .eql 28 (.pointer (some ⟨g, 0, none⟩)) (.pointer none)).run Tryz.prog W = .ok (.bool false) W := fun W => by rfl
set_option maxRecDepth 100000 in
theorem ref_eql_yes : ∀ W, (binOp .eql 28 (.pointer none) (.pointer none)).run Tryz.prog W = .ok (.bool true) W := fun W => by rfl
set_option maxRecDepth 100000 in
theorem ref_neq_yes (g : Nat) : ∀ W, (binOp .neq 28 (.pointer (some ⟨g, 0, none⟩)) (.pointer none)).run Tryz.prog W = .ok (.bool true) W := fun W => by rfl
set_option maxRecDepth 100000 in
theorem ref_neq_no : ∀ W, (binOp .neq 28 (.pointer none) (.pointer none)).run Tryz.prog W = .ok (.bool false) W := fun W => by rfl
theorem rnew_yes (room : Nat) (w : World) (h0 : 1 ≤ room) (h1 : room ≤ 16777216) : Calls Tryz.prog 6 #[.int .i64 room] w fun e w' => e = .returned (.tuple #[.pointer (some ⟨w.heap.size, 0, none⟩), .int .i64 0]) ∧ Rk w' w.heap.size w.heap.size (.slice none 0 0) room [] false none ∧ Below w.heap.size w w' := by
  have g1 : decide ((room : Int) < 1) = false := by simp; omega
  have g2 : decide ((room : Int) > 16777216) = false := by simp; omega
  go_enter Tryz.func6, Tryz.ntmps6
  go_wp2
  go_ret2
  have hh : (w.alloc (.cells #[.int .i64 (room : Int), .slice none 0 0, .bool false, .bool false, .int .i64 0] 80)).heap[w.heap.size]? = some (.cells #[.int .i64 (room : Int), .slice none 0 0, .bool false, .bool false, .int .i64 0] 80 (0, 0)) := heap_alloc_new w _
  refine ⟨rfl, ⟨Nat.le_refl _, ?_, ?_, ?_, ?_, ⟨0, ?_, fun m e => by cases e⟩, ?_, Own8.nil _ _, (by intro h; cases h), h1, Nat.zero_le _⟩, (Below.refl _ _).alloc (Nat.le_refl _) _⟩
  · unfold World.cell?; simp only [hh]; rfl
  · unfold World.cell?; simp only [hh]; rfl
  · unfold World.cell?; simp only [hh]; rfl
  · unfold World.cell?; simp only [hh]; rfl
  · unfold World.cell?; simp only [hh]; rfl
  · intro o; unfold World.frozen?; simp only [hh]; simp
theorem rnew_no (room : Int) (w : World) (h : room < 1 ∨ 16777216 < room) : Calls Tryz.prog 6 #[.int .i64 room] w fun e w' => e = .returned (.tuple #[.pointer none, .int .i64 1]) ∧ w' = w := by
  by_cases h0 : room < 1
  · have g1 : decide (room < 1) = true := by simp; omega
    go_enter Tryz.func6, Tryz.ntmps6
    go_wp2
    go_ret2
    exact ⟨rfl, rfl⟩
  · have g1 : decide (room < 1) = false := by simp; omega
    have g2 : decide (room > 16777216) = true := by simp; omega
    go_enter Tryz.func6, Tryz.ntmps6
    go_wp2
    go_ret2
    exact ⟨rfl, rfl⟩
theorem rdown_yes {B g room : Nat} {v : Value} {xs : List Nat} {off : Bool} {st : Option Nat} {w : World} (h : Rk w B g v room xs off st) : Calls Tryz.prog 18 #[.pointer (some ⟨g, 0, none⟩)] w fun e w' => e = .returned (.bool off) ∧ w' = w := by
  have c2 := h.c2
  have hp := ref_neq_yes g
  clear h
  go_enter Tryz.func18, Tryz.ntmps18
  go_wp2
  go_ret
  exact ⟨rfl, rfl⟩
theorem rdown_nil (w : World) : Calls Tryz.prog 18 #[.pointer none] w fun e w' => e = .returned (.bool false) ∧ w' = w := by
  have hp := ref_neq_no
  go_enter Tryz.func18, Tryz.ntmps18
  go_wp2
  go_ret
  exact ⟨rfl, rfl⟩
theorem rup_yes {B g room : Nat} {v : Value} {xs : List Nat} {off : Bool} {st : Option Nat} {w : World} (h : Rk w B g v room xs off st) : Calls Tryz.prog 13 #[.pointer (some ⟨g, 0, none⟩)] w fun e w' => e = .returned (.int .i64 0) ∧ Rk w' B g v room xs false none ∧ Mv g v v w w' := by
  have HD := hide h
  have c2 := h.c2
  have c3 := h.c3
  have s2 := h.soft 2
  have s3 := h.soft 3
  have hp := ref_eql_no g
  clear h
  go_enter Tryz.func13, Tryz.ntmps13
  go_wp2
  go_ret
  exact ⟨rfl, (HD.out.set2 false).set3, ((Mv.refl g v _).setg 2 _).setg 3 _⟩
theorem rup_nil (w : World) : Calls Tryz.prog 13 #[.pointer none] w fun e w' => e = .returned (.int .i64 2) ∧ w' = w := by
  have hp := ref_eql_yes
  go_enter Tryz.func13, Tryz.ntmps13
  go_wp2
  go_ret
  exact ⟨rfl, rfl⟩
theorem rfail_nil (n : Int) (w : World) : Calls Tryz.prog 11 #[.pointer none, .int .i64 n] w fun e w' => e = .returned (.int .i64 2) ∧ w' = w := by
  have hp := ref_eql_yes
  go_enter Tryz.func11, Tryz.ntmps11
  go_wp2
  go_ret
  exact ⟨rfl, rfl⟩
theorem rtrim_nil (n : Int) (w : World) : Calls Tryz.prog 9 #[.pointer none, .int .i64 n] w fun e w' => e = .returned (.int .i64 2) ∧ w' = w := by
  have hp := ref_eql_yes
  go_enter Tryz.func9, Tryz.ntmps9
  go_wp2
  go_ret
  exact ⟨rfl, rfl⟩
theorem rappend_nil (b : Value) (w : World) : Calls Tryz.prog 15 #[.pointer none, b] w fun e w' => e = .returned (.int .i64 2) ∧ w' = w := by
  have hp := ref_eql_yes
  go_enter Tryz.func15, Tryz.ntmps15
  go_wp2
  go_ret
  exact ⟨rfl, rfl⟩
theorem rbytes_nil (w : World) : Calls Tryz.prog 21 #[.pointer none] w fun e w' => e = .returned (.slice none 0 0) ∧ w' = w := by
  have hp := ref_neq_no
  go_enter Tryz.func21, Tryz.ntmps21
  go_wp2
  go_ret
  exact ⟨rfl, rfl⟩
theorem rfail_off {B g room : Nat} {v : Value} {xs : List Nat} {st : Option Nat} {w : World} (n : Int) (h : Rk w B g v room xs true st) : Calls Tryz.prog 11 #[.pointer (some ⟨g, 0, none⟩), .int .i64 n] w fun e w' => e = .returned (.int .i64 13) ∧ w' = w := by
  have hp := ref_eql_no g
  have c2 := h.c2
  clear h
  go_enter Tryz.func11, Tryz.ntmps11
  go_wp2
  go_ret
  exact ⟨rfl, rfl⟩
theorem rfail_neg {B g room : Nat} {v : Value} {xs : List Nat} {st : Option Nat} {w : World} (n : Int) (hn : n < 0) (h : Rk w B g v room xs false st) : Calls Tryz.prog 11 #[.pointer (some ⟨g, 0, none⟩), .int .i64 n] w fun e w' => e = .returned (.int .i64 1) ∧ w' = w := by
  have hp := ref_eql_no g
  have c2 := h.c2
  have hd : decide (n < 0) = true := by simp; omega
  clear h
  go_enter Tryz.func11, Tryz.ntmps11
  go_wp2
  go_ret
  exact ⟨rfl, rfl⟩
theorem rfail_yes {B g room : Nat} {v : Value} {xs : List Nat} {st : Option Nat} {w : World} (n : Nat) (h : Rk w B g v room xs false st) : Calls Tryz.prog 11 #[.pointer (some ⟨g, 0, none⟩), .int .i64 n] w fun e w' => e = .returned (.int .i64 0) ∧ Rk w' B g v room xs false (some n) ∧ Mv g v v w w' := by
  have hp := ref_eql_no g
  have c2 := h.c2
  have c3 := h.c3
  obtain ⟨n0, c4, _⟩ := h.c4
  have s3 := h.soft 3
  have s4 := h.soft 4
  have HD := hide h
  have hd : decide ((n : Int) < 0) = false := by simp
  clear h
  go_enter Tryz.func11, Tryz.ntmps11
  go_wp2
  go_ret
  exact ⟨rfl, HD.out.set34 n, ((Mv.refl g v _).setg 3 _).setg 4 _⟩
theorem rtrim_off {B g room : Nat} {v : Value} {xs : List Nat} {st : Option Nat} {w : World} (n : Int) (h : Rk w B g v room xs true st) : Calls Tryz.prog 9 #[.pointer (some ⟨g, 0, none⟩), .int .i64 n] w fun e w' => e = .returned (.int .i64 13) ∧ w' = w := by
  have hp := ref_eql_no g
  have c2 := h.c2
  clear h
  go_enter Tryz.func9, Tryz.ntmps9
  go_wp2
  go_ret
  exact ⟨rfl, rfl⟩
theorem rtrim_no {B g room : Nat} {v : Value} {xs : List Nat} {st : Option Nat} {w : World} (n : Int) (hn : n < 0 ∨ (xs.length : Int) < n) (h : Rk w B g v room xs false st) : Calls Tryz.prog 9 #[.pointer (some ⟨g, 0, none⟩), .int .i64 n] w fun e w' => e = .returned (.int .i64 1) ∧ w' = w := by
  have hp := ref_eql_no g
  have c2 := h.c2
  obtain ⟨a1, cap1, rfl, _, _, _⟩ := h.own.shape
  have c1 := h.c1
  clear h
  by_cases h0 : n < 0
  · have g1 : decide (n < 0) = true := by simp; omega
    go_enter Tryz.func9, Tryz.ntmps9
    go_wp2
    go_ret
    exact ⟨rfl, rfl⟩
  · have g1 : decide (n < 0) = false := by simp; omega
    have g2 : decide (n > (xs.length : Int)) = true := by simp; omega
    have g3 : decide ((xs.length : Int) < n) = true := by simp; omega
    go_enter Tryz.func9, Tryz.ntmps9
    go_wp2
    go_ret
    exact ⟨rfl, rfl⟩
end Go.Proofs.YtgfmkhgdndodkaaGreatDoor
