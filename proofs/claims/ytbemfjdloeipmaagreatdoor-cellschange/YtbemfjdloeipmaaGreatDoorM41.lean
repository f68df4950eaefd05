/- Pieces of the proof: BnP. -/
import Derived.Test.YtbemfjdloeipmaaGreatDoorM40
import Derived.Deep.RegionLaw
import Derived.Maps.AppendAt
/- keep of a Book's kinds; Ints, Numbers. -/
namespace Go.Proofs.YtbemfjdloeipmaaGreatDoor
open Go.RowKit

theorem GB.num {ht o : Nat} {W : World} {B g : Nat} {vb : Value} {hs : List Hc} (h : GB ht o W B g vb hs) (ho : o ≠ 0) (u : Value) : GB ht o (W.setCell ⟨g, 0, none⟩ u) B g vb hs := by
  have hF : Fr (fun b => b = g) W (W.setCell ⟨g, 0, none⟩ u) := (Fr.refl _ W).set _ _ rfl
  have se : (W.setCell ⟨g, 0, none⟩ u).cell? ⟨g, o, none⟩ = W.cell? ⟨g, o, none⟩ := World.cell?_setCell_other W _ _ _ (fun e => ho (by injection e with _ e; exact e.symm))
  exact ⟨h.gB, se.trans h.co, fun o => by rw [World.frozen?_setCell]; exact h.soft o, owR_fr h.row hF (fun b hb e => h.ne (by rw [hb, e])), h.ne⟩
def BEc (g : Nat) (vb : Value) (b : Nat) : Prop := b = g ∨ vb.ownBlock = some b
theorem GB.lay {ht o : Nat} {W W' : World} {B g : Nat} {vb vb' : Value} {hs ks : List Hc} (h : GB ht o W B g vb hs) (hg : W.grownBy W' vb.ownBlock) (ho : W'.ownsRow B ht 3 vb' ks.length (flatC ks)) (hv : vb'.ownBlock = vb.ownBlock ∨ vb'.ownBlock = some W.heap.size) :
    GB ht o (W'.setCell ⟨g, o, none⟩ vb') B g vb' ks ∧ Fr (BEc g vb) W (W'.setCell ⟨g, o, none⟩ vb') ∧ (∀ b, vb'.ownBlock = some b → vb.ownBlock = some b ∨ W.heap.size ≤ b) ∧ ∀ p, p ≠ o → (W'.setCell ⟨g, o, none⟩ vb').cell? ⟨g, p, none⟩ = W.cell? ⟨g, p, none⟩ := by
  have hgb : W'.heap[g]? = W.heap[g]? := hg.block g h.lt (fun e => h.ne e.symm)
  have hbl : ∀ b, vb'.ownBlock = some b → vb.ownBlock = some b ∨ W.heap.size ≤ b := fun b e => by
    rcases hv with e' | e'
    · exact .inl (e' ▸ e)
    · rw [e'] at e; injection e with e; exact .inr (by omega)
  have hne : vb'.ownBlock ≠ some g := fun e => by
    rcases hbl g e with e | e
    · exact h.ne e
    · have := h.lt; omega
  have hc : ∀ o, W'.cell? ⟨g, o, none⟩ = W.cell? ⟨g, o, none⟩ := fun o => World.cell?_of_block (w := W) (a := ⟨g, o, none⟩) hgb
  have se : ∀ p, p ≠ o → (W'.setCell ⟨g, o, none⟩ vb').cell? ⟨g, p, none⟩ = W.cell? ⟨g, p, none⟩ := fun p hp => (World.cell?_setCell_other W' _ _ _ (fun e => hp (by injection e with _ e; exact e.symm))).trans (hc p)
  have hF : Fr (fun b => b = g) W' (W'.setCell ⟨g, o, none⟩ vb') := (Fr.refl _ W').set _ _ rfl
  refine ⟨⟨h.gB, World.cell?_setCell_same' _ _ _ (by rw [hc o, h.co]; rfl), fun o => ?_, owR_fr ho hF (fun b hb e => hne (by rw [hb, e])), hne⟩, (Fr.grown hg (fun r e => .inr e)).set _ _ (.inl rfl), hbl, se⟩
  rw [World.frozen?_setCell]; exact (World.frozen?_of_block (w := W) (a := ⟨g, o, none⟩) hgb).trans (h.soft o)
/- What keeping leaves: the Book's row is longer by one; its number is one more; its other cells are as they were. -/
structure KeptC (ht o : Nat) (W W' : World) (B g : Nat) (vb vb' : Value) (n : Nat) (ks : List Hc) : Prop where
  bk : GB ht o W' B g vb' ks
  c0 : W'.cell? ⟨g, 0, none⟩ = some (.int .i64 (n : Int))
  fr : Fr (BEc g vb) W W'
  bl : ∀ b, vb'.ownBlock = some b → vb.ownBlock = some b ∨ W.heap.size ≤ b
  cs : ∀ p, p ≠ o → p ≠ 0 → W'.cell? ⟨g, p, none⟩ = W.cell? ⟨g, p, none⟩
theorem Tryz.infoHInt : (Tryz.prog.info? 113).map (fun i => (i.zero, i.size, i.bytes)) = some (some (.agg #[.slice none 0 0, .slice none 0 0, .int .i64 0]), 3, 56) := by kernel_rfl
theorem step_appHInt {ops : Array Oper} {o : Oper} {a : Act} {w : World} {K : Act → World → Prop} {Q : Exit → Act → World → Prop} {E : Prop}
    (hg : o.guard = none) (s x : Operand) (hop : o.op = Op.call { callee := Callee.builtin Builtin.append, args := #[s, x], argTypes := #[43, 43] })
    (B : Nat) (vb : Value) (hs : List Hc) (he : a.eval s = vb) (hown : w.ownsRow B 113 3 vb hs.length (flatC hs)) (p : Nat) (h : Hc) (hx : a.eval x = .slice (some ⟨p, 0, none⟩) 1 1) (h1 : h.v.oneCell' = true) (h2 : h.vl.oneCell' = true)
    (hc : w.cell? ⟨p, 0, none⟩ = some h.v ∧ w.cell? ⟨p, 1, none⟩ = some h.vl ∧ w.cell? ⟨p, 2, none⟩ = some (.int .i64 h.m)) (hl : hs.length ≤ 1000000) (hB : B ≤ w.heap.size)
    (hK : ∀ vb' w', w'.ownsRow B 113 3 vb' (hs ++ [h]).length (flatC (hs ++ [h])) → w.grownBy w' vb.ownBlock → (vb'.ownBlock = vb.ownBlock ∨ vb'.ownBlock = some w.heap.size) → K (a.put o.dst vb') w') :
    if Region.wanted o (yielded ops a.tmps) = true then Oper.wp Tryz.prog o a w K Q else E := by
  have hw : Region.wanted o (yielded ops a.tmps) = true := by simp [Region.wanted, hg]
  rw [if_pos hw]
  obtain ⟨i0, hi0, hz0, hz1, hz2⟩ := info_parts Tryz.infoHInt
  have hsrc : ∀ j u, (flatC [h])[j]? = some u → w.cell? ((⟨p, 0, none⟩ : Addr).add j) = some u := fun j u hu => by
    rw [addC, Nat.zero_add]
    have e : flatC [h] = [h.v, h.vl, .int .i64 h.m] := rfl
    rw [e] at hu
    match j, hu with
    | 0, hu => simp at hu; rw [← hu]; exact hc.1
    | 1, hu => simp at hu; rw [← hu]; exact hc.2.1
    | 2, hu => simp at hu; rw [← hu]; exact hc.2.2
    | j + 3, hu => simp at hu
  have hone : ∀ u ∈ flatC [h], u.oneCell' = true := fun u hu => by
    have e : flatC [h] = [h.v, h.vl, .int .i64 h.m] := rfl
    rw [e] at hu
    simp at hu
    rcases hu with rfl | rfl | rfl
    · exact h1
    · exact h2
    · rfl
  obtain ⟨v', w', hrun, r1, r2, _, r4⟩ := run_append_own_at (P := Tryz.prog) w B 43 o.type 113 i0 (.agg #[.slice none 0 0, .slice none 0 0, .int .i64 0]) 3 56 Tryz.underlying43 hi0 hz0 hz1 hz2 rfl (by decide) vb hs.length (flatC hs) hown ⟨p, 0, none⟩ 1 1 (flatC [h]) rfl hsrc hone (by unfold maxLen; omega) (by omega) hB
  unfold Oper.wp
  simp [execOp, hop, resolve, invoke, builtin, he, hx, hrun, Result.andThen]
  refine hK v' w' ?_ r2 r4
  rw [List.length_append, flatC_append]
  exact r1
set_option maxRecDepth 100000 in
set_option maxHeartbeats 1000000 in
theorem keepInt_bk {W : World} {B g n : Nat} {vb : Value} {hs : List Hc} (h : GB 113 1 W B g vb hs) (c0 : W.cell? ⟨g, 0, none⟩ = some (.int .i64 (n : Int))) (hl : hs.length ≤ 1000000) (hn : n < 100000000) (a : Option Addr) (m c : Nat) :
    Calls Tryz.prog 139 #[.pointer (some ⟨g, 0, none⟩), .slice a m c] W fun e W' => e = .returned (.tuple #[]) ∧ ∃ vb', KeptC 113 1 W W' B g vb vb' (n + 1) (hs ++ [⟨.slice a m c, .slice none 0 0, n + 1, m⟩]) := by
  have h1 : GB 113 1 (W.setCell ⟨g, 0, none⟩ (.int .i64 ((n : Int) + 1))) B g vb hs := h.num (by decide) _
  have hF1 : Hid (Fr (BEc g vb) W (W.setCell ⟨g, 0, none⟩ (.int .i64 ((n : Int) + 1)))) := (Fr.refl _ W).set _ _ (.inl rfl)
  have HCS : Hid (∀ p, p ≠ 1 → p ≠ 0 → (W.setCell ⟨g, 0, none⟩ (.int .i64 ((n : Int) + 1))).cell? ⟨g, p, none⟩ = W.cell? ⟨g, p, none⟩) := fun p _ hp => World.cell?_setCell_other W _ _ _ (fun e => hp (by injection e with _ e; exact e.symm))
  obtain ⟨av, nv, cv, hv⟩ : ∃ a n' c, vb = .slice a n' c := by
    rcases h.row.2 with ⟨e, _⟩ | ⟨r, cap, cur, e, _⟩ <;> exact ⟨_, _, _, e⟩
  subst hv
  have hw : IntKind.i64.wrap ((n : Int) + 1) = (n : Int) + 1 := by rw [IntKind.wrap_i64]; omega
  have s0 := h.soft 0
  have H1 := hide h1
  have c0' : (W.setCell ⟨g, 0, none⟩ (.int .i64 ((n : Int) + 1))).cell? ⟨g, 0, none⟩ = some (.int .i64 ((n : Int) + 1)) := World.cell?_setCell_same' _ _ _ (by rw [c0]; rfl)
  have c2' := h1.co
  have s2' := h1.soft 1
  clear h h1
  go_enter Tryz.func139, Tryz.ntmps139
  go_wp2
  generalize W.setCell ⟨g, 0, none⟩ (.int .i64 ((n : Int) + 1)) = W0 at *
  have H2 := hide (H1.out.next (((Below.refl _ W0).drew).alloc (Nat.le_refl _) (.cells #[.slice a m c, .slice none 0 0, .int .i64 ((n : Int) + 1)] 113)))
  have HX := hide (boxC W0.drew (.slice a m c) (.slice none 0 0) (.int .i64 ((n : Int) + 1)) 113)
  have HF2 : Hid (Fr (BEc g (.slice av nv cv)) W (W0.drew.alloc (.cells #[.slice a m c, .slice none 0 0, .int .i64 ((n : Int) + 1)] 113))) := hF1.out.drew.alloc _
  have hgl := H1.out.lt
  have HC3 : Hid (∀ p, (W0.drew.alloc (.cells #[.slice a m c, .slice none 0 0, .int .i64 ((n : Int) + 1)] 113)).cell? ⟨g, p, none⟩ = W0.cell? ⟨g, p, none⟩) := fun p => World.cell?_of_block (w := W0) (a := ⟨g, p, none⟩) (((Fr.refl (fun _ => False) W0).drew.alloc _).block g hgl (fun e => e))
  have HC0 := hide c0'
  have HBW : Hid (B ≤ W0.heap.size) := by have := H1.out.gB; show _ ≤ _; omega
  clear hw c0 s0 H1
  go_region_law (refine step_appHInt rfl _ _ rfl B _ hs rfl H2.out.row _ ⟨.slice a m c, .slice none 0 0, n + 1, m⟩ rfl rfl rfl HX.out hl (by have := HBW.out; simp; omega) ?_; intro v7 w7 O7 G7 K7; obtain ⟨a7, n7, p7, rfl⟩ : ∃ a n' c, v7 = .slice a n' c := (by rcases O7.2 with ⟨e, _⟩ | ⟨r, cap, cur, e, _⟩ <;> exact ⟨_, _, _, e⟩); have L7 := hide (H2.out.lay G7 O7 K7); have c7 := (World.cell?_of_block (a := ⟨g, 1, none⟩) (G7.block g H2.out.lt (fun e => H2.out.ne e.symm))).trans H2.out.co; have s7 := (World.frozen?_of_block (a := ⟨g, 1, none⟩) (G7.block g H2.out.lt (fun e => H2.out.ne e.symm))).trans (H2.out.soft 1); clear O7 G7 K7)
  all_goals
    go_wp2
    go_end0
    refine ⟨rfl, _, L7.out.1, ?_, HF2.out.trans L7.out.2.1 (fun b _ e => e), fun b hb => ?_, fun p h7 h0 => ?_⟩
    · rw [L7.out.2.2.2 0 (by decide), HC3.out]; exact HC0.out
    · rcases L7.out.2.2.1 b hb with e | e
      · exact .inl e
      · exact .inr (Nat.le_trans HF2.out.size e)
    · rw [L7.out.2.2.2 p h7, HC3.out]; exact HCS.out p h7 h0
theorem Tryz.infoHNumber : (Tryz.prog.info? 132).map (fun i => (i.zero, i.size, i.bytes)) = some (some (.agg #[.slice none 0 0, .slice none 0 0, .int .i64 0]), 3, 56) := by kernel_rfl
theorem step_appHNumber {ops : Array Oper} {o : Oper} {a : Act} {w : World} {K : Act → World → Prop} {Q : Exit → Act → World → Prop} {E : Prop}
    (hg : o.guard = none) (s x : Operand) (hop : o.op = Op.call { callee := Callee.builtin Builtin.append, args := #[s, x], argTypes := #[48, 48] })
    (B : Nat) (vb : Value) (hs : List Hc) (he : a.eval s = vb) (hown : w.ownsRow B 132 3 vb hs.length (flatC hs)) (p : Nat) (h : Hc) (hx : a.eval x = .slice (some ⟨p, 0, none⟩) 1 1) (h1 : h.v.oneCell' = true) (h2 : h.vl.oneCell' = true)
    (hc : w.cell? ⟨p, 0, none⟩ = some h.v ∧ w.cell? ⟨p, 1, none⟩ = some h.vl ∧ w.cell? ⟨p, 2, none⟩ = some (.int .i64 h.m)) (hl : hs.length ≤ 1000000) (hB : B ≤ w.heap.size)
    (hK : ∀ vb' w', w'.ownsRow B 132 3 vb' (hs ++ [h]).length (flatC (hs ++ [h])) → w.grownBy w' vb.ownBlock → (vb'.ownBlock = vb.ownBlock ∨ vb'.ownBlock = some w.heap.size) → K (a.put o.dst vb') w') :
    if Region.wanted o (yielded ops a.tmps) = true then Oper.wp Tryz.prog o a w K Q else E := by
  have hw : Region.wanted o (yielded ops a.tmps) = true := by simp [Region.wanted, hg]
  rw [if_pos hw]
  obtain ⟨i0, hi0, hz0, hz1, hz2⟩ := info_parts Tryz.infoHNumber
  have hsrc : ∀ j u, (flatC [h])[j]? = some u → w.cell? ((⟨p, 0, none⟩ : Addr).add j) = some u := fun j u hu => by
    rw [addC, Nat.zero_add]
    have e : flatC [h] = [h.v, h.vl, .int .i64 h.m] := rfl
    rw [e] at hu
    match j, hu with
    | 0, hu => simp at hu; rw [← hu]; exact hc.1
    | 1, hu => simp at hu; rw [← hu]; exact hc.2.1
    | 2, hu => simp at hu; rw [← hu]; exact hc.2.2
    | j + 3, hu => simp at hu
  have hone : ∀ u ∈ flatC [h], u.oneCell' = true := fun u hu => by
    have e : flatC [h] = [h.v, h.vl, .int .i64 h.m] := rfl
    rw [e] at hu
    simp at hu
    rcases hu with rfl | rfl | rfl
    · exact h1
    · exact h2
    · rfl
  obtain ⟨v', w', hrun, r1, r2, _, r4⟩ := run_append_own_at (P := Tryz.prog) w B 48 o.type 132 i0 (.agg #[.slice none 0 0, .slice none 0 0, .int .i64 0]) 3 56 Tryz.underlying48 hi0 hz0 hz1 hz2 rfl (by decide) vb hs.length (flatC hs) hown ⟨p, 0, none⟩ 1 1 (flatC [h]) rfl hsrc hone (by unfold maxLen; omega) (by omega) hB
  unfold Oper.wp
  simp [execOp, hop, resolve, invoke, builtin, he, hx, hrun, Result.andThen]
  refine hK v' w' ?_ r2 r4
  rw [List.length_append, flatC_append]
  exact r1
set_option maxRecDepth 100000 in
set_option maxHeartbeats 1000000 in
theorem keepNumber_bk {W : World} {B g n : Nat} {vb : Value} {hs : List Hc} (h : GB 132 6 W B g vb hs) (c0 : W.cell? ⟨g, 0, none⟩ = some (.int .i64 (n : Int))) (hl : hs.length ≤ 1000000) (hn : n < 100000000) (a : Option Addr) (m c : Nat) :
    Calls Tryz.prog 138 #[.pointer (some ⟨g, 0, none⟩), .slice a m c] W fun e W' => e = .returned (.tuple #[]) ∧ ∃ vb', KeptC 132 6 W W' B g vb vb' (n + 1) (hs ++ [⟨.slice a m c, .slice none 0 0, n + 1, m⟩]) := by
  have h1 : GB 132 6 (W.setCell ⟨g, 0, none⟩ (.int .i64 ((n : Int) + 1))) B g vb hs := h.num (by decide) _
  have hF1 : Hid (Fr (BEc g vb) W (W.setCell ⟨g, 0, none⟩ (.int .i64 ((n : Int) + 1)))) := (Fr.refl _ W).set _ _ (.inl rfl)
  have HCS : Hid (∀ p, p ≠ 6 → p ≠ 0 → (W.setCell ⟨g, 0, none⟩ (.int .i64 ((n : Int) + 1))).cell? ⟨g, p, none⟩ = W.cell? ⟨g, p, none⟩) := fun p _ hp => World.cell?_setCell_other W _ _ _ (fun e => hp (by injection e with _ e; exact e.symm))
  obtain ⟨av, nv, cv, hv⟩ : ∃ a n' c, vb = .slice a n' c := by
    rcases h.row.2 with ⟨e, _⟩ | ⟨r, cap, cur, e, _⟩ <;> exact ⟨_, _, _, e⟩
  subst hv
  have hw : IntKind.i64.wrap ((n : Int) + 1) = (n : Int) + 1 := by rw [IntKind.wrap_i64]; omega
  have s0 := h.soft 0
  have H1 := hide h1
  have c0' : (W.setCell ⟨g, 0, none⟩ (.int .i64 ((n : Int) + 1))).cell? ⟨g, 0, none⟩ = some (.int .i64 ((n : Int) + 1)) := World.cell?_setCell_same' _ _ _ (by rw [c0]; rfl)
  have c2' := h1.co
  have s2' := h1.soft 6
  clear h h1
  go_enter Tryz.func138, Tryz.ntmps138
  go_wp2
  generalize W.setCell ⟨g, 0, none⟩ (.int .i64 ((n : Int) + 1)) = W0 at *
  have H2 := hide (H1.out.next (((Below.refl _ W0).drew).alloc (Nat.le_refl _) (.cells #[.slice a m c, .slice none 0 0, .int .i64 ((n : Int) + 1)] 132)))
  have HX := hide (boxC W0.drew (.slice a m c) (.slice none 0 0) (.int .i64 ((n : Int) + 1)) 132)
  have HF2 : Hid (Fr (BEc g (.slice av nv cv)) W (W0.drew.alloc (.cells #[.slice a m c, .slice none 0 0, .int .i64 ((n : Int) + 1)] 132))) := hF1.out.drew.alloc _
  have hgl := H1.out.lt
  have HC3 : Hid (∀ p, (W0.drew.alloc (.cells #[.slice a m c, .slice none 0 0, .int .i64 ((n : Int) + 1)] 132)).cell? ⟨g, p, none⟩ = W0.cell? ⟨g, p, none⟩) := fun p => World.cell?_of_block (w := W0) (a := ⟨g, p, none⟩) (((Fr.refl (fun _ => False) W0).drew.alloc _).block g hgl (fun e => e))
  have HC0 := hide c0'
  have HBW : Hid (B ≤ W0.heap.size) := by have := H1.out.gB; show _ ≤ _; omega
  clear hw c0 s0 H1
  go_region_law (refine step_appHNumber rfl _ _ rfl B _ hs rfl H2.out.row _ ⟨.slice a m c, .slice none 0 0, n + 1, m⟩ rfl rfl rfl HX.out hl (by have := HBW.out; simp; omega) ?_; intro v7 w7 O7 G7 K7; obtain ⟨a7, n7, p7, rfl⟩ : ∃ a n' c, v7 = .slice a n' c := (by rcases O7.2 with ⟨e, _⟩ | ⟨r, cap, cur, e, _⟩ <;> exact ⟨_, _, _, e⟩); have L7 := hide (H2.out.lay G7 O7 K7); have c7 := (World.cell?_of_block (a := ⟨g, 6, none⟩) (G7.block g H2.out.lt (fun e => H2.out.ne e.symm))).trans H2.out.co; have s7 := (World.frozen?_of_block (a := ⟨g, 6, none⟩) (G7.block g H2.out.lt (fun e => H2.out.ne e.symm))).trans (H2.out.soft 6); clear O7 G7 K7)
  all_goals
    go_wp2
    go_end0
    refine ⟨rfl, _, L7.out.1, ?_, HF2.out.trans L7.out.2.1 (fun b _ e => e), fun b hb => ?_, fun p h7 h0 => ?_⟩
    · rw [L7.out.2.2.2 0 (by decide), HC3.out]; exact HC0.out
    · rcases L7.out.2.2.1 b hb with e | e
      · exact .inl e
      · exact .inr (Nat.le_trans HF2.out.size e)
    · rw [L7.out.2.2.2 p h7, HC3.out]; exact HCS.out p h7 h0
end Go.Proofs.YtbemfjdloeipmaaGreatDoor
