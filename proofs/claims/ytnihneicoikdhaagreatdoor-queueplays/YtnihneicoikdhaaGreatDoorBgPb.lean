/- keepByte of a Book; Bytes. -/
import Derived.Test.YtnihneicoikdhaaGreatDoorBgP
namespace Go.Proofs.YtnihneicoikdhaaGreatDoor
open Go.RowKit

theorem Tryz.infoHByte : (Tryz.prog.info? 130).map (fun i => (i.zero, i.size, i.bytes)) = some (some (.agg #[.slice none 0 0, .slice none 0 0, .int .i64 0]), 3, 56) := by kernel_rfl
theorem step_appHByte {ops : Array Oper} {o : Oper} {a : Act} {w : World} {K : Act → World → Prop} {Q : Exit → Act → World → Prop} {E : Prop}
    (hg : o.guard = none) (s x : Operand) (hop : o.op = Op.call { callee := Callee.builtin Builtin.append, args := #[s, x], argTypes := #[40, 40] })
    (B : Nat) (vb : Value) (hs : List Hc) (he : a.eval s = vb) (hown : w.ownsRow B 130 3 vb hs.length (flatC hs)) (p : Nat) (h : Hc) (hx : a.eval x = .slice (some ⟨p, 0, none⟩) 1 1) (h1 : h.v.oneCell' = true) (h2 : h.vl.oneCell' = true)
    (hc : w.cell? ⟨p, 0, none⟩ = some h.v ∧ w.cell? ⟨p, 1, none⟩ = some h.vl ∧ w.cell? ⟨p, 2, none⟩ = some (.int .i64 h.m)) (hl : hs.length ≤ 1000000) (hB : B ≤ w.heap.size)
    (hK : ∀ vb' w', w'.ownsRow B 130 3 vb' (hs ++ [h]).length (flatC (hs ++ [h])) → w.grownBy w' vb.ownBlock → (vb'.ownBlock = vb.ownBlock ∨ vb'.ownBlock = some w.heap.size) → K (a.put o.dst vb') w') :
    if Region.wanted o (yielded ops a.tmps) = true then Oper.wp Tryz.prog o a w K Q else E := by
  have hw : Region.wanted o (yielded ops a.tmps) = true := by simp [Region.wanted, hg]
  rw [if_pos hw]
  obtain ⟨i0, hi0, hz0, hz1, hz2⟩ := info_parts Tryz.infoHByte
  have hsrc : ∀ j u, (flatC [h])[j]? = some u → w.cell? ((⟨p, 0, none⟩ : Addr).add j) = some u := fun j u hu => by
    rw [addC, Nat.zero_add]
    have e : flatC [h] = [h.v, h.vl, .int .i64 h.m] := rfl
    rw [e] at hu
    match j, hu with
    | 0, hu => simp at hu; rw [← hu]; exact hc.1
    | 1, hu => simp at hu; rw [← hu]; exact hc.2.1
    | 2, hu => simp at hu; rw [← hu]; exact hc.2.2
    | j + 3, hu => simp at hu
  have hone : ∀ u ∈ flatC [h], u.oneCell' = true := fun u hu => by
    have e : flatC [h] = [h.v, h.vl, .int .i64 h.m] := rfl
    rw [e] at hu
    simp at hu
    rcases hu with rfl | rfl | rfl
    · exact h1
    · exact h2
    · rfl
  obtain ⟨v', w', hrun, r1, r2, _, r4⟩ := run_append_own_at (P := Tryz.prog) w B 40 o.type 130 i0 (.agg #[.slice none 0 0, .slice none 0 0, .int .i64 0]) 3 56 Tryz.underlying40 hi0 hz0 hz1 hz2 rfl (by decide) vb hs.length (flatC hs) hown ⟨p, 0, none⟩ 1 1 (flatC [h]) rfl hsrc hone (by unfold maxLen; omega) (by omega) hB
  unfold Oper.wp
  simp [execOp, hop, resolve, invoke, builtin, he, hx, hrun, Result.andThen]
  refine hK v' w' ?_ r2 r4
  rw [List.length_append, flatC_append]
  exact r1
set_option maxRecDepth 100000 in
set_option maxHeartbeats 1000000 in
theorem keepByte_bk {W : World} {B g n : Nat} {vb : Value} {hs : List Hc} (h : GB 130 2 W B g vb hs) (c0 : W.cell? ⟨g, 0, none⟩ = some (.int .i64 (n : Int))) (hl : hs.length ≤ 1000000) (hn : n < 100000000) (a : Option Addr) (m c : Nat) :
    Calls Tryz.prog 30 #[.pointer (some ⟨g, 0, none⟩), .slice a m c] W fun e W' => e = .returned (.tuple #[]) ∧ ∃ vb', KeptC 130 2 W W' B g vb vb' (n + 1) (hs ++ [⟨.slice a m c, .slice none 0 0, n + 1, m⟩]) := by
  have h1 : GB 130 2 (W.setCell ⟨g, 0, none⟩ (.int .i64 ((n : Int) + 1))) B g vb hs := h.num (by decide) _
  have hF1 : Hid (Fr (BEc g vb) W (W.setCell ⟨g, 0, none⟩ (.int .i64 ((n : Int) + 1)))) := (Fr.refl _ W).set _ _ (.inl rfl)
  have HCS : Hid (∀ p, p ≠ 2 → p ≠ 0 → (W.setCell ⟨g, 0, none⟩ (.int .i64 ((n : Int) + 1))).cell? ⟨g, p, none⟩ = W.cell? ⟨g, p, none⟩) := fun p _ hp => World.cell?_setCell_other W _ _ _ (fun e => hp (by injection e with _ e; exact e.symm))
  obtain ⟨av, nv, cv, hv⟩ : ∃ a n' c, vb = .slice a n' c := by
    rcases h.row.2 with ⟨e, _⟩ | ⟨r, cap, cur, e, _⟩ <;> exact ⟨_, _, _, e⟩
  subst hv
  have hw : IntKind.i64.wrap ((n : Int) + 1) = (n : Int) + 1 := by rw [IntKind.wrap_i64]; omega
  have s0 := h.soft 0
  have H1 := hide h1
  have c0' : (W.setCell ⟨g, 0, none⟩ (.int .i64 ((n : Int) + 1))).cell? ⟨g, 0, none⟩ = some (.int .i64 ((n : Int) + 1)) := World.cell?_setCell_same' _ _ _ (by rw [c0]; rfl)
  have c2' := h1.co
  have s2' := h1.soft 2
  clear h h1
  go_enter Tryz.func30, Tryz.ntmps30
  go_wp2
  generalize W.setCell ⟨g, 0, none⟩ (.int .i64 ((n : Int) + 1)) = W0 at *
  have H2 := hide (H1.out.next (((Below.refl _ W0).drew).alloc (Nat.le_refl _) (.cells #[.slice a m c, .slice none 0 0, .int .i64 ((n : Int) + 1)] 130)))
  have HX := hide (boxC W0.drew (.slice a m c) (.slice none 0 0) (.int .i64 ((n : Int) + 1)) 130)
  have HF2 : Hid (Fr (BEc g (.slice av nv cv)) W (W0.drew.alloc (.cells #[.slice a m c, .slice none 0 0, .int .i64 ((n : Int) + 1)] 130))) := hF1.out.drew.alloc _
  have hgl := H1.out.lt
  have HC3 : Hid (∀ p, (W0.drew.alloc (.cells #[.slice a m c, .slice none 0 0, .int .i64 ((n : Int) + 1)] 130)).cell? ⟨g, p, none⟩ = W0.cell? ⟨g, p, none⟩) := fun p => World.cell?_of_block (w := W0) (a := ⟨g, p, none⟩) (((Fr.refl (fun _ => False) W0).drew.alloc _).block g hgl (fun e => e))
  have HC0 := hide c0'
  have HBW : Hid (B ≤ W0.heap.size) := by have := H1.out.gB; show _ ≤ _; omega
  clear hw c0 s0 H1
  go_region_law (refine step_appHByte rfl _ _ rfl B _ hs rfl H2.out.row _ ⟨.slice a m c, .slice none 0 0, n + 1, m⟩ rfl rfl rfl HX.out hl (by have := HBW.out; simp; omega) ?_; intro v7 w7 O7 G7 K7; obtain ⟨a7, n7, p7, rfl⟩ : ∃ a n' c, v7 = .slice a n' c := (by rcases O7.2 with ⟨e, _⟩ | ⟨r, cap, cur, e, _⟩ <;> exact ⟨_, _, _, e⟩); have L7 := hide (H2.out.lay G7 O7 K7); have c7 := (World.cell?_of_block (a := ⟨g, 2, none⟩) (G7.block g H2.out.lt (fun e => H2.out.ne e.symm))).trans H2.out.co; have s7 := (World.frozen?_of_block (a := ⟨g, 2, none⟩) (G7.block g H2.out.lt (fun e => H2.out.ne e.symm))).trans (H2.out.soft 2); clear O7 G7 K7)
  all_goals
    go_wp2
    go_end0
    refine ⟨rfl, _, L7.out.1, ?_, HF2.out.trans L7.out.2.1 (fun b _ e => e), fun b hb => ?_, fun p h7 h0 => ?_⟩
    · rw [L7.out.2.2.2 0 (by decide), HC3.out]; exact HC0.out
    · rcases L7.out.2.2.1 b hb with e | e
      · exact .inl e
      · exact .inr (Nat.le_trans HF2.out.size e)
    · rw [L7.out.2.2.2 p h7, HC3.out]; exact HCS.out p h7 h0
theorem Bytes_ok (d : Kd) (hd : d.ht = 130) : KeepOk d 14 2 := by
  intro W B g n vb hs hb c0 hl hn a m c
  have HK := hide (keepByte_bk (hd ▸ hb) c0 hl hn a m c)
  rw [hd]
  clear hb c0 hd
  go_enter Tryz.func14, Tryz.ntmps14
  go_wp2_with fail
  refine HK.out.mono ?_
  rintro e W' ⟨rfl, vb', hk⟩
  have R1 := hide hk
  clear hk HK
  go_wp2
  go_end0
  exact ⟨rfl, _, R1.out⟩
end Go.Proofs.YtnihneicoikdhaaGreatDoor
