/- Pieces of the proof: QbP, BqP. -/
import Derived.Test.YtpgkohimcofjnaaGreatDoorM6
import Derived.Deep.RegionLaw
import Derived.Test.YtpgkohimcofjnaaGreatDoorM7
/- keepBlob of a Book. -/
namespace Go.Proofs.YtpgkohimcofjnaaGreatDoor
open Go.RowKit

theorem Tryz.infoHQ : (Tryz.prog.info? 80).map (fun i => (i.zero, i.size, i.bytes)) = some (some (.agg #[.slice none 0 0, .slice none 0 0, .int .i64 0]), 3, 56) := by kernel_rfl
theorem step_appHQ {ops : Array Oper} {o : Oper} {a : Act} {w : World} {K : Act → World → Prop} {Q : Exit → Act → World → Prop} {E : Prop}
    (hg : o.guard = none) (s x : Operand) (hop : o.op = Op.call { callee := Callee.builtin Builtin.append, args := #[s, x], argTypes := #[33, 33] })
    (B : Nat) (vb : Value) (hs : List Hc) (he : a.eval s = vb) (hown : w.ownsRow B 80 3 vb hs.length (flatC hs)) (p : Nat) (h : Hc) (hx : a.eval x = .slice (some ⟨p, 0, none⟩) 1 1) (h1 : h.v.oneCell' = true) (h2 : h.vl.oneCell' = true)
    (hc : w.cell? ⟨p, 0, none⟩ = some h.v ∧ w.cell? ⟨p, 1, none⟩ = some h.vl ∧ w.cell? ⟨p, 2, none⟩ = some (.int .i64 h.m)) (hl : hs.length ≤ 1000000) (hB : B ≤ w.heap.size)
    (hK : ∀ vb' w', w'.ownsRow B 80 3 vb' (hs ++ [h]).length (flatC (hs ++ [h])) → w.grownBy w' vb.ownBlock → (vb'.ownBlock = vb.ownBlock ∨ vb'.ownBlock = some w.heap.size) → K (a.put o.dst vb') w') :
    if Region.wanted o (yielded ops a.tmps) = true then Oper.wp Tryz.prog o a w K Q else E := by
  have hw : Region.wanted o (yielded ops a.tmps) = true := by simp [Region.wanted, hg]
  rw [if_pos hw]
  obtain ⟨i0, hi0, hz0, hz1, hz2⟩ := info_parts Tryz.infoHQ
  have hsrc : ∀ j u, (flatC [h])[j]? = some u → w.cell? ((⟨p, 0, none⟩ : Addr).add j) = some u := fun j u hu => by
    rw [addC, Nat.zero_add]
    have e : flatC [h] = [h.v, h.vl, .int .i64 h.m] := rfl
    rw [e] at hu
    match j, hu with
    | 0, hu => simp at hu; rw [← hu]; exact hc.1
    | 1, hu => simp at hu; rw [← hu]; exact hc.2.1
    | 2, hu => simp at hu; rw [← hu]; exact hc.2.2
    | j + 3, hu => simp at hu
  have hone : ∀ u ∈ flatC [h], u.oneCell' = true := fun u hu => by
    have e : flatC [h] = [h.v, h.vl, .int .i64 h.m] := rfl
    rw [e] at hu
    simp at hu
    rcases hu with rfl | rfl | rfl
    · exact h1
    · exact h2
    · rfl
  obtain ⟨v', w', hrun, r1, r2, _, r4⟩ := run_append_own_at (P := Tryz.prog) w B 33 o.type 80 i0 (.agg #[.slice none 0 0, .slice none 0 0, .int .i64 0]) 3 56 Tryz.underlying33 hi0 hz0 hz1 hz2 rfl (by decide) vb hs.length (flatC hs) hown ⟨p, 0, none⟩ 1 1 (flatC [h]) rfl hsrc hone (by unfold maxLen; omega) (by omega) hB
  unfold Oper.wp
  simp [execOp, hop, resolve, invoke, builtin, he, hx, hrun, Result.andThen]
  refine hK v' w' ?_ r2 r4
  rw [List.length_append, flatC_append]
  exact r1
theorem GB.num {ht o : Nat} {W : World} {B g : Nat} {vb : Value} {hs : List Hc} (h : GB ht o W B g vb hs) (ho : o ≠ 0) (u : Value) : GB ht o (W.setCell ⟨g, 0, none⟩ u) B g vb hs := by
  have hF : Fr (fun b => b = g) W (W.setCell ⟨g, 0, none⟩ u) := (Fr.refl _ W).set _ _ rfl
  have se : (W.setCell ⟨g, 0, none⟩ u).cell? ⟨g, o, none⟩ = W.cell? ⟨g, o, none⟩ := World.cell?_setCell_other W _ _ _ (fun e => ho (by injection e with _ e; exact e.symm))
  exact ⟨h.gB, se.trans h.co, fun o => by rw [World.frozen?_setCell]; exact h.soft o, ownR_fr h.row hF (fun b hb e => h.ne (by rw [hb, e])), h.ne⟩
def BEc (g : Nat) (vb : Value) (b : Nat) : Prop := b = g ∨ vb.ownBlock = some b
theorem GB.lay {ht o : Nat} {W W' : World} {B g : Nat} {vb vb' : Value} {hs ks : List Hc} (h : GB ht o W B g vb hs) (hg : W.grownBy W' vb.ownBlock) (ho : W'.ownsRow B ht 3 vb' ks.length (flatC ks)) (hv : vb'.ownBlock = vb.ownBlock ∨ vb'.ownBlock = some W.heap.size) :
    GB ht o (W'.setCell ⟨g, o, none⟩ vb') B g vb' ks ∧ Fr (BEc g vb) W (W'.setCell ⟨g, o, none⟩ vb') ∧ (∀ b, vb'.ownBlock = some b → vb.ownBlock = some b ∨ W.heap.size ≤ b) ∧ ∀ p, p ≠ o → (W'.setCell ⟨g, o, none⟩ vb').cell? ⟨g, p, none⟩ = W.cell? ⟨g, p, none⟩ := by
  have hgb : W'.heap[g]? = W.heap[g]? := hg.block g h.lt (fun e => h.ne e.symm)
  have hbl : ∀ b, vb'.ownBlock = some b → vb.ownBlock = some b ∨ W.heap.size ≤ b := fun b e => by
    rcases hv with e' | e'
    · exact .inl (e' ▸ e)
    · rw [e'] at e; injection e with e; exact .inr (by omega)
  have hne : vb'.ownBlock ≠ some g := fun e => by
    rcases hbl g e with e | e
    · exact h.ne e
    · have := h.lt; omega
  have hc : ∀ o, W'.cell? ⟨g, o, none⟩ = W.cell? ⟨g, o, none⟩ := fun o => World.cell?_of_block (w := W) (a := ⟨g, o, none⟩) hgb
  have se : ∀ p, p ≠ o → (W'.setCell ⟨g, o, none⟩ vb').cell? ⟨g, p, none⟩ = W.cell? ⟨g, p, none⟩ := fun p hp => (World.cell?_setCell_other W' _ _ _ (fun e => hp (by injection e with _ e; exact e.symm))).trans (hc p)
  have hF : Fr (fun b => b = g) W' (W'.setCell ⟨g, o, none⟩ vb') := (Fr.refl _ W').set _ _ rfl
  refine ⟨⟨h.gB, World.cell?_setCell_same' _ _ _ (by rw [hc o, h.co]; rfl), fun o => ?_, ownR_fr ho hF (fun b hb e => hne (by rw [hb, e])), hne⟩, (Fr.grown hg (fun r e => .inr e)).set _ _ (.inl rfl), hbl, se⟩
  rw [World.frozen?_setCell]; exact (World.frozen?_of_block (w := W) (a := ⟨g, o, none⟩) hgb).trans (h.soft o)
/- What keeping leaves: the Book's row is longer by one; its number is one more; its other cells are as they were. -/
structure KeptQ (W W' : World) (B g : Nat) (vb vb' : Value) (n : Nat) (ks : List Hc) : Prop where
  bk : GB 80 5 W' B g vb' ks
  c0 : W'.cell? ⟨g, 0, none⟩ = some (.int .i64 (n : Int))
  fr : Fr (BEc g vb) W W'
  bl : ∀ b, vb'.ownBlock = some b → vb.ownBlock = some b ∨ W.heap.size ≤ b
  cs : ∀ p, p ≠ 5 → p ≠ 0 → W'.cell? ⟨g, p, none⟩ = W.cell? ⟨g, p, none⟩
set_option maxRecDepth 100000 in
set_option maxHeartbeats 1000000 in
theorem keepBlob_bk {W : World} {B g n : Nat} {vb : Value} {hs : List Hc} (h : GB 80 5 W B g vb hs) (c0 : W.cell? ⟨g, 0, none⟩ = some (.int .i64 (n : Int))) (hl : hs.length ≤ 1000000) (hn : n < 100000000) (a : Option Addr) (m c : Nat) :
    Calls Tryz.prog 18 #[.pointer (some ⟨g, 0, none⟩), .slice a m c] W fun e W' => e = .returned (.tuple #[]) ∧ ∃ vb', KeptQ W W' B g vb vb' (n + 1) (hs ++ [⟨.slice a m c, .slice none 0 0, n + 1, m⟩]) := by
  have h1 : GB 80 5 (W.setCell ⟨g, 0, none⟩ (.int .i64 ((n : Int) + 1))) B g vb hs := h.num (by decide) _
  have hF1 : Hid (Fr (BEc g vb) W (W.setCell ⟨g, 0, none⟩ (.int .i64 ((n : Int) + 1)))) := (Fr.refl _ W).set _ _ (.inl rfl)
  have HCS : Hid (∀ p, p ≠ 5 → p ≠ 0 → (W.setCell ⟨g, 0, none⟩ (.int .i64 ((n : Int) + 1))).cell? ⟨g, p, none⟩ = W.cell? ⟨g, p, none⟩) := fun p _ hp => World.cell?_setCell_other W _ _ _ (fun e => hp (by injection e with _ e; exact e.symm))
  obtain ⟨av, nv, cv, hv⟩ : ∃ a n' c, vb = .slice a n' c := by
    rcases h.row.2 with ⟨e, _⟩ | ⟨r, cap, cur, e, _⟩ <;> exact ⟨_, _, _, e⟩
  subst hv
  have hw : IntKind.i64.wrap ((n : Int) + 1) = (n : Int) + 1 := by rw [IntKind.wrap_i64]; omega
  have s0 := h.soft 0
  have H1 := hide h1
  have c0' : (W.setCell ⟨g, 0, none⟩ (.int .i64 ((n : Int) + 1))).cell? ⟨g, 0, none⟩ = some (.int .i64 ((n : Int) + 1)) := World.cell?_setCell_same' _ _ _ (by rw [c0]; rfl)
  have c2' := h1.co
  have s2' := h1.soft 5
  clear h h1
  go_enter Tryz.func18, Tryz.ntmps18
  go_wp2
  generalize W.setCell ⟨g, 0, none⟩ (.int .i64 ((n : Int) + 1)) = W0 at *
  have H2 := hide (H1.out.next (((Below.refl _ W0).drew).alloc (Nat.le_refl _) (.cells #[.slice a m c, .slice none 0 0, .int .i64 ((n : Int) + 1)] 80)))
  have HX := hide (box3 W0.drew (.slice a m c) (.slice none 0 0) (.int .i64 ((n : Int) + 1)) 80)
  have HF2 : Hid (Fr (BEc g (.slice av nv cv)) W (W0.drew.alloc (.cells #[.slice a m c, .slice none 0 0, .int .i64 ((n : Int) + 1)] 80))) := hF1.out.drew.alloc _
  have hgl := H1.out.lt
  have HC3 : Hid (∀ p, (W0.drew.alloc (.cells #[.slice a m c, .slice none 0 0, .int .i64 ((n : Int) + 1)] 80)).cell? ⟨g, p, none⟩ = W0.cell? ⟨g, p, none⟩) := fun p => World.cell?_of_block (w := W0) (a := ⟨g, p, none⟩) (((Fr.refl (fun _ => False) W0).drew.alloc _).block g hgl (fun e => e))
  have HC0 := hide c0'
  have HBW : Hid (B ≤ W0.heap.size) := by have := H1.out.gB; show _ ≤ _; omega
  clear hw c0 s0 H1
  go_region_law (refine step_appHQ rfl _ _ rfl B _ hs rfl H2.out.row _ ⟨.slice a m c, .slice none 0 0, n + 1, m⟩ rfl rfl rfl HX.out hl (by have := HBW.out; simp; omega) ?_; intro v7 w7 O7 G7 K7; obtain ⟨a7, n7, p7, rfl⟩ : ∃ a n' c, v7 = .slice a n' c := (by rcases O7.2 with ⟨e, _⟩ | ⟨r, cap, cur, e, _⟩ <;> exact ⟨_, _, _, e⟩); have L7 := hide (H2.out.lay G7 O7 K7); have c7 := (World.cell?_of_block (a := ⟨g, 5, none⟩) (G7.block g H2.out.lt (fun e => H2.out.ne e.symm))).trans H2.out.co; have s7 := (World.frozen?_of_block (a := ⟨g, 5, none⟩) (G7.block g H2.out.lt (fun e => H2.out.ne e.symm))).trans (H2.out.soft 5); clear O7 G7 K7)
  all_goals
    go_wp2
    go_end0
    refine ⟨rfl, _, L7.out.1, ?_, HF2.out.trans L7.out.2.1 (fun b _ e => e), fun b hb => ?_, fun p h7 h0 => ?_⟩
    · rw [L7.out.2.2.2 0 (by decide), HC3.out]; exact HC0.out
    · rcases L7.out.2.2.1 b hb with e | e
      · exact .inl e
      · exact .inr (Nat.le_trans HF2.out.size e)
    · rw [L7.out.2.2.2 p h7, HC3.out]; exact HCS.out p h7 h0
end Go.Proofs.YtpgkohimcofjnaaGreatDoor
/- keepByte, Bytes of a Book. -/
namespace Go.Proofs.YtpgkohimcofjnaaGreatDoor
open Go.RowKit

theorem Tryz.infoH : (Tryz.prog.info? 78).map (fun i => (i.zero, i.size, i.bytes)) = some (some (.agg #[.slice none 0 0, .slice none 0 0, .int .i64 0]), 3, 56) := by kernel_rfl
theorem step_appH {ops : Array Oper} {o : Oper} {a : Act} {w : World} {K : Act → World → Prop} {Q : Exit → Act → World → Prop} {E : Prop}
    (hg : o.guard = none) (s x : Operand) (hop : o.op = Op.call { callee := Callee.builtin Builtin.append, args := #[s, x], argTypes := #[30, 30] })
    (B : Nat) (vb : Value) (hs : List Hb) (he : a.eval s = vb) (hown : w.ownsRow B 78 3 vb hs.length (flat hs)) (p : Nat) (h : Hb) (hx : a.eval x = .slice (some ⟨p, 0, none⟩) 1 1) (h1 : h.v.oneCell' = true) (h2 : h.vl.oneCell' = true)
    (hc : w.cell? ⟨p, 0, none⟩ = some h.v ∧ w.cell? ⟨p, 1, none⟩ = some h.vl ∧ w.cell? ⟨p, 2, none⟩ = some (.int .i64 h.m)) (hl : hs.length ≤ 1000000) (hB : B ≤ w.heap.size)
    (hK : ∀ vb' w', w'.ownsRow B 78 3 vb' (hs ++ [h]).length (flat (hs ++ [h])) → w.grownBy w' vb.ownBlock → (vb'.ownBlock = vb.ownBlock ∨ vb'.ownBlock = some w.heap.size) → K (a.put o.dst vb') w') :
    if Region.wanted o (yielded ops a.tmps) = true then Oper.wp Tryz.prog o a w K Q else E := by
  have hw : Region.wanted o (yielded ops a.tmps) = true := by simp [Region.wanted, hg]
  rw [if_pos hw]
  obtain ⟨i0, hi0, hz0, hz1, hz2⟩ := info_parts Tryz.infoH
  have hsrc : ∀ j u, (flat [h])[j]? = some u → w.cell? ((⟨p, 0, none⟩ : Addr).add j) = some u := fun j u hu => by
    rw [add8, Nat.zero_add]
    have e : flat [h] = [h.v, h.vl, .int .i64 h.m] := rfl
    rw [e] at hu
    match j, hu with
    | 0, hu => simp at hu; rw [← hu]; exact hc.1
    | 1, hu => simp at hu; rw [← hu]; exact hc.2.1
    | 2, hu => simp at hu; rw [← hu]; exact hc.2.2
    | j + 3, hu => simp at hu
  have hone : ∀ u ∈ flat [h], u.oneCell' = true := fun u hu => by
    have e : flat [h] = [h.v, h.vl, .int .i64 h.m] := rfl
    rw [e] at hu
    simp at hu
    rcases hu with rfl | rfl | rfl
    · exact h1
    · exact h2
    · rfl
  obtain ⟨v', w', hrun, r1, r2, _, r4⟩ := run_append_own_at (P := Tryz.prog) w B 30 o.type 78 i0 (.agg #[.slice none 0 0, .slice none 0 0, .int .i64 0]) 3 56 Tryz.underlying30 hi0 hz0 hz1 hz2 rfl (by decide) vb hs.length (flat hs) hown ⟨p, 0, none⟩ 1 1 (flat [h]) rfl hsrc hone (by unfold maxLen; omega) (by omega) hB
  unfold Oper.wp
  simp [execOp, hop, resolve, invoke, builtin, he, hx, hrun, Result.andThen]
  refine hK v' w' ?_ r2 r4
  rw [List.length_append, flat_append]
  exact r1
theorem Bk.num {W : World} {B g n : Nat} {vb : Value} {hs : List Hb} (h : Bk W B g vb n hs) (m : Nat) : Bk (W.setCell ⟨g, 0, none⟩ (.int .i64 m)) B g vb m hs := by
  have hF : Fr (fun b => b = g) W (W.setCell ⟨g, 0, none⟩ (.int .i64 m)) := (Fr.refl _ W).set _ _ rfl
  have se : ∀ o, 0 ≠ o → (W.setCell ⟨g, 0, none⟩ (.int .i64 m)).cell? ⟨g, o, none⟩ = W.cell? ⟨g, o, none⟩ := fun o ho => World.cell?_setCell_other W _ _ _ (fun e => ho (by injection e))
  exact ⟨h.gB, World.cell?_setCell_same' _ _ _ (by rw [h.c0]; rfl), fun o o1 o2 o3 o4 => (se o (by omega)).trans (h.cz o o1 o2 o3 o4), (se 2 (by decide)).trans h.c2, fun o => by rw [World.frozen?_setCell]; exact h.soft o, ownsRow_fr h.row hF (fun b hb e => h.ne (by rw [hb, e])), h.ne⟩
def BE (g : Nat) (vb : Value) (b : Nat) : Prop := b = g ∨ vb.ownBlock = some b
theorem Bk.lay {W W' : World} {B g n : Nat} {vb vb' : Value} {hs ks : List Hb} (h : Bk W B g vb n hs) (hg : W.grownBy W' vb.ownBlock) (ho : W'.ownsRow B 78 3 vb' ks.length (flat ks)) (hv : vb'.ownBlock = vb.ownBlock ∨ vb'.ownBlock = some W.heap.size) :
    Bk (W'.setCell ⟨g, 2, none⟩ vb') B g vb' n ks ∧ Fr (BE g vb) W (W'.setCell ⟨g, 2, none⟩ vb') ∧ (∀ b, vb'.ownBlock = some b → vb.ownBlock = some b ∨ W.heap.size ≤ b) ∧ (W'.setCell ⟨g, 2, none⟩ vb').cell? ⟨g, 5, none⟩ = W.cell? ⟨g, 5, none⟩ := by
  have hgb : W'.heap[g]? = W.heap[g]? := hg.block g h.lt (fun e => h.ne e.symm)
  have hbl : ∀ b, vb'.ownBlock = some b → vb.ownBlock = some b ∨ W.heap.size ≤ b := fun b e => by
    rcases hv with e' | e'
    · exact .inl (e' ▸ e)
    · rw [e'] at e; injection e with e; exact .inr (by omega)
  have hne : vb'.ownBlock ≠ some g := fun e => by
    rcases hbl g e with e | e
    · exact h.ne e
    · have := h.lt; omega
  have hc : ∀ o, W'.cell? ⟨g, o, none⟩ = W.cell? ⟨g, o, none⟩ := fun o => World.cell?_of_block (w := W) (a := ⟨g, o, none⟩) hgb
  have se : ∀ o, 2 ≠ o → (W'.setCell ⟨g, 2, none⟩ vb').cell? ⟨g, o, none⟩ = W.cell? ⟨g, o, none⟩ := fun o ho => (World.cell?_setCell_other W' _ _ _ (fun e => ho (by injection e))).trans (hc o)
  have hF : Fr (fun b => b = g) W' (W'.setCell ⟨g, 2, none⟩ vb') := (Fr.refl _ W').set _ _ rfl
  refine ⟨⟨h.gB, (se 0 (by decide)).trans h.c0, fun o o1 o2 o3 o4 => (se o (by omega)).trans (h.cz o o1 o2 o3 o4), World.cell?_setCell_same' _ _ _ (by rw [hc 2, h.c2]; rfl), fun o => ?_, ownsRow_fr ho hF (fun b hb e => hne (by rw [hb, e])), hne⟩, (Fr.grown hg (fun r e => .inr e)).set _ _ (.inl rfl), hbl, se 5 (by decide)⟩
  rw [World.frozen?_setCell]; exact (World.frozen?_of_block (w := W) (a := ⟨g, o, none⟩) hgb).trans (h.soft o)
set_option maxRecDepth 100000 in
set_option maxHeartbeats 1000000 in
theorem keepByte_bk {W : World} {B g n : Nat} {vb : Value} {hs : List Hb} (h : Bk W B g vb n hs) (hl : hs.length ≤ 1000000) (hn : n < 100000000) (a : Option Addr) (m c : Nat) (xs : List Nat) :
    Calls Tryz.prog 17 #[.pointer (some ⟨g, 0, none⟩), .slice a m c] W fun e W' => e = .returned (.tuple #[]) ∧ ∃ vb', Bk W' B g vb' (n + 1) (hs ++ [⟨.slice a m c, .slice none 0 0, n + 1, xs⟩]) ∧ Fr (BE g vb) W W' ∧ (∀ b, vb'.ownBlock = some b → vb.ownBlock = some b ∨ W.heap.size ≤ b) ∧ W'.cell? ⟨g, 5, none⟩ = W.cell? ⟨g, 5, none⟩ := by
  have h1 : Bk (W.setCell ⟨g, 0, none⟩ (.int .i64 ((n : Int) + 1))) B g vb (n + 1) hs := h.num (n + 1)
  have hF1 : Hid (Fr (BE g vb) W (W.setCell ⟨g, 0, none⟩ (.int .i64 ((n : Int) + 1)))) := (Fr.refl _ W).set _ _ (.inl rfl)
  have HC5 : Hid ((W.setCell ⟨g, 0, none⟩ (.int .i64 ((n : Int) + 1))).cell? ⟨g, 5, none⟩ = W.cell? ⟨g, 5, none⟩) := World.cell?_setCell_other W _ _ _ (fun e => by injection e with _ e; cases e)
  obtain ⟨av, nv, cv, hv⟩ : ∃ a n' c, vb = .slice a n' c := by
    rcases h.row.2 with ⟨e, _⟩ | ⟨r, cap, cur, e, _⟩ <;> exact ⟨_, _, _, e⟩
  subst hv
  have hw : IntKind.i64.wrap ((n : Int) + 1) = (n : Int) + 1 := by rw [IntKind.wrap_i64]; omega
  have c0 := h.c0
  have s0 := h.soft 0
  have hsz : Hid ((W.setCell ⟨g, 0, none⟩ (.int .i64 ((n : Int) + 1))).heap.size = W.heap.size) := by show _ = _; simp
  have H1 := hide h1
  have c0' : (W.setCell ⟨g, 0, none⟩ (.int .i64 ((n : Int) + 1))).cell? ⟨g, 0, none⟩ = some (.int .i64 ((n : Int) + 1)) := h1.c0
  have c2' := h1.c2
  have s2' := h1.soft 2
  clear h h1
  go_enter Tryz.func17, Tryz.ntmps17
  go_wp2
  generalize W.setCell ⟨g, 0, none⟩ (.int .i64 ((n : Int) + 1)) = W0 at *
  have H2 := hide (H1.out.next (((Below.refl _ W0).drew).alloc (Nat.le_refl _) (.cells #[.slice a m c, .slice none 0 0, .int .i64 ((n : Int) + 1)] 78)))
  have hbx := box3 W0.drew (.slice a m c) (.slice none 0 0) (.int .i64 ((n : Int) + 1)) 78
  have HX := hide hbx
  have HF2 : Hid (Fr (BE g (.slice av nv cv)) W (W0.drew.alloc (.cells #[.slice a m c, .slice none 0 0, .int .i64 ((n : Int) + 1)] 78))) := hF1.out.drew.alloc _
  have hgl := H1.out.lt
  have HC6 : Hid ((W0.drew.alloc (.cells #[.slice a m c, .slice none 0 0, .int .i64 ((n : Int) + 1)] 78)).cell? ⟨g, 5, none⟩ = W.cell? ⟨g, 5, none⟩) := (World.cell?_of_block (w := W0) (a := ⟨g, 5, none⟩) (((Fr.refl (fun _ => False) W0).drew.alloc _).block g hgl (fun e => e))).trans HC5.out
  have HBW : Hid (B ≤ W0.heap.size) := by have := H1.out.gB; show _ ≤ _; omega
  clear hbx hw c0 s0 H1
  go_region_law (refine step_appH rfl _ _ rfl B _ hs rfl H2.out.row _ ⟨.slice a m c, .slice none 0 0, n + 1, xs⟩ rfl rfl rfl HX.out hl (by have := HBW.out; simp; omega) ?_; intro v7 w7 O7 G7 K7; obtain ⟨a7, n7, p7, rfl⟩ : ∃ a n' c, v7 = .slice a n' c := (by rcases O7.2 with ⟨e, _⟩ | ⟨r, cap, cur, e, _⟩ <;> exact ⟨_, _, _, e⟩); have L7 := hide (H2.out.lay G7 O7 K7); have c7 := (World.cell?_of_block (a := ⟨g, 2, none⟩) (G7.block g H2.out.lt (fun e => H2.out.ne e.symm))).trans H2.out.c2; have s7 := (World.frozen?_of_block (a := ⟨g, 2, none⟩) (G7.block g H2.out.lt (fun e => H2.out.ne e.symm))).trans (H2.out.soft 2); clear O7 G7 K7)
  all_goals
    go_wp2
    go_end0
    refine ⟨rfl, _, L7.out.1, HF2.out.trans L7.out.2.1 (fun b _ e => e), fun b hb => ?_, L7.out.2.2.2.trans HC6.out⟩
    rcases L7.out.2.2.1 b hb with e | e
    · exact .inl e
    · exact .inr (Nat.le_trans HF2.out.size e)
/- A list of bytes is kept. -/
theorem bytes_bok {W : World} {B g n : Nat} {vb v : Value} {hs : List Hb} {xs : List Nat} (h : Bok W B g vb n hs) (hl : hs.length < 100000) (hn : n < 100000) (ho : Own8 W B v xs) (hx : xs.length ≤ 100000000) (s1 : v.ownBlock ≠ some g) (s2 : ∀ b, v.ownBlock = some b → vb.ownBlock ≠ some b) (s3 : ∀ x ∈ hs, ∀ b, x.v.ownBlock = some b → v.ownBlock ≠ some b) :
    Calls Tryz.prog 9 #[.pointer (some ⟨g, 0, none⟩), v] W fun e W' => e = .returned (.tuple #[]) ∧ ∃ vb', Bok W' B g vb' (n + 1) (hs ++ [⟨v, .slice none 0 0, n + 1, xs⟩]) ∧ Fr (BE g vb) W W' ∧ (∀ b, vb'.ownBlock = some b → vb.ownBlock = some b ∨ W.heap.size ≤ b) ∧ W'.cell? ⟨g, 5, none⟩ = W.cell? ⟨g, 5, none⟩ := by
  obtain ⟨a, m, c, hv⟩ := ho.slc
  subst hv
  have HK := hide (keepByte_bk h.bk (by omega) (by omega) a m c xs)
  have HB := hide h
  have HO := hide ho
  have HS2 := hide s2
  have HS3 := hide s3
  have HS1 := hide s1
  clear h ho s1 s2 s3
  go_enter Tryz.func9, Tryz.ntmps9
  go_wp2_with fail
  refine HK.out.mono ?_
  rintro e W' ⟨rfl, vb', hb, hf, hbl, h5⟩
  have hR : Hid (∃ vb', Bok W' B g vb' (n + 1) (hs ++ [⟨.slice a m c, .slice none 0 0, n + 1, xs⟩]) ∧ Fr (BE g vb) W W' ∧ (∀ b, vb'.ownBlock = some b → vb.ownBlock = some b ∨ W.heap.size ≤ b) ∧ W'.cell? ⟨g, 5, none⟩ = W.cell? ⟨g, 5, none⟩) := by
    have sb : ∀ x ∈ hs, ∀ b, x.v.ownBlock = some b → ¬ BE g vb b := fun x hx b hb e => by
      rcases e with e | e
      · exact HB.out.sep.g x hx (by rw [hb, e])
      · exact HB.out.sep.b x hx b hb e
    have nb : ∀ b, (Value.slice a m c).ownBlock = some b → ¬ BE g vb b := fun b hb e => by
      rcases e with e | e
      · exact HS1.out (by rw [hb, e])
      · exact HS2.out b hb e
    refine ⟨vb', ⟨hb, ⟨fun x hx => ?_, fun x hx b hb' e => ?_, fun i j hi hj hne b hbi hbj => ?_⟩, fun x hx => ?_, fun x hx => ?_, by simp; omega⟩, hf, hbl, h5⟩
    · rcases List.mem_append.1 hx with hx | hx
      · exact HB.out.sep.g x hx
      · simp at hx; subst hx; exact HS1.out
    · rcases List.mem_append.1 hx with hx | hx
      · rcases hbl b e with e | e
        · exact HB.out.sep.b x hx b hb' e
        · have := (World.ownsRow.lt (HB.out.ow x hx) b hb').2; omega
      · simp at hx; subst hx
        rcases hbl b e with e | e
        · exact HS2.out b hb' e
        · have := (World.ownsRow.lt HO.out b hb').2; omega
    · by_cases h1 : i < hs.length
      · rw [List.getElem_append_left h1] at hbi
        by_cases h2 : j < hs.length
        · rw [List.getElem_append_left h2] at hbj
          exact HB.out.sep.p i j h1 h2 hne b hbi hbj
        · have : j = hs.length := by simp at hj; omega
          subst this
          simp only [List.getElem_concat_length] at hbj
          exact HS3.out _ (List.getElem_mem h1) b hbi hbj
      · have : i = hs.length := by simp at hi; omega
        subst this
        simp only [List.getElem_concat_length] at hbi
        have h2 : j < hs.length := by simp at hj; omega
        rw [List.getElem_append_left h2] at hbj
        exact HS3.out _ (List.getElem_mem h2) b hbj hbi
    · rcases List.mem_append.1 hx with hx | hx
      · exact (HB.out.ow x hx).fr hf (sb x hx)
      · simp at hx; subst hx; exact HO.out.fr hf nb
    · rcases List.mem_append.1 hx with hx | hx
      · exact HB.out.lim x hx
      · simp at hx; subst hx; exact ⟨by assumption, by show n + 1 < _; omega, _, _, _, rfl⟩
  clear hb hf hbl h5 HB HO HS1 HS2 HS3 HK
  go_wp2
  go_end0
  exact ⟨rfl, hR.out⟩
/- A Book that was told nothing. -/
theorem Bok.new {W : World} {B g : Nat} (hB : B ≤ g) (hh : ∃ t, W.heap[g]? = some (.cells #[.int .i64 0, .slice none 0 0, .slice none 0 0, .slice none 0 0, .slice none 0 0, .slice none 0 0, .slice none 0 0, .slice none 0 0, .slice none 0 0, .slice none 0 0, .slice none 0 0, .slice none 0 0, .slice none 0 0, .slice none 0 0, .slice none 0 0, .slice none 0 0, .slice none 0 0, .slice none 0 0, .slice none 0 0, .slice none 0 0, .slice none 0 0, .slice none 0 0, .slice none 0 0, .slice none 0 0, .slice none 0 0, .slice none 0 0, .slice none 0 0, .slice none 0 0, .slice none 0 0, .slice none 0 0, .slice none 0 0] t (0, 0))) : Bok W B g (.slice none 0 0) 0 [] := by
  obtain ⟨t, hh⟩ := hh
  have hc : ∀ o, 1 ≤ o → o ≤ 30 → W.cell? ⟨g, o, none⟩ = some (.slice none 0 0) := fun o h1 h2 => by
    unfold World.cell?; simp only [hh]
    match o, h1, h2 with
    | 1, _, _ => rfl | 2, _, _ => rfl | 3, _, _ => rfl | 4, _, _ => rfl | 5, _, _ => rfl | 6, _, _ => rfl | 7, _, _ => rfl | 8, _, _ => rfl | 9, _, _ => rfl | 10, _, _ => rfl
    | 11, _, _ => rfl | 12, _, _ => rfl | 13, _, _ => rfl | 14, _, _ => rfl | 15, _, _ => rfl | 16, _, _ => rfl | 17, _, _ => rfl | 18, _, _ => rfl | 19, _, _ => rfl | 20, _, _ => rfl
    | 21, _, _ => rfl | 22, _, _ => rfl | 23, _, _ => rfl | 24, _, _ => rfl | 25, _, _ => rfl | 26, _, _ => rfl | 27, _, _ => rfl | 28, _, _ => rfl | 29, _, _ => rfl | 30, _, _ => rfl
    | o + 31, _, h => omega
  refine ⟨⟨hB, ?_, fun o h1 h2 _ _ => hc o h1 h2, hc 2 (by decide) (by decide), fun o => ?_, World.ownsRow_nil W B _ _, by intro h; cases h⟩, ⟨fun x hx => by simp at hx, fun x hx => by simp at hx, fun i j hi => by simp at hi⟩, fun x hx => by simp at hx, fun x hx => by simp at hx, by simp⟩
  · unfold World.cell?; simp only [hh]; rfl
  · unfold World.frozen?; simp only [hh]; simp
end Go.Proofs.YtpgkohimcofjnaaGreatDoor
