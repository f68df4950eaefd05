/- Pieces of the proof: GwP, GwC, StoreZ, LWw. -/
import Derived.Test.YtfanhdjebmdniaaGreatDoorM14
import Derived.Deep.RegionLaw
import Derived.Test.YtfanhdjebmdniaaGreatDoorM5
import Derived.Laws.IdiomCopy
import Derived.Test.YtfanhdjebmdniaaGreatDoorM12
/- keepWord, Words of a Book. -/
namespace Go.Proofs.YtfanhdjebmdniaaGreatDoor
open Go.RowKit

theorem Tryz.infoHW : (Tryz.prog.info? 94).map (fun i => (i.zero, i.size, i.bytes)) = some (some (.agg #[.slice none 0 0, .slice none 0 0, .int .i64 0]), 3, 56) := by kernel_rfl
theorem step_appHW {ops : Array Oper} {o : Oper} {a : Act} {w : World} {K : Act → World → Prop} {Q : Exit → Act → World → Prop} {E : Prop}
    (hg : o.guard = none) (s x : Operand) (hop : o.op = Op.call { callee := Callee.builtin Builtin.append, args := #[s, x], argTypes := #[33, 33] })
    (B : Nat) (vb : Value) (hs : List Hc) (he : a.eval s = vb) (hown : w.ownsRow B 94 3 vb hs.length (flatC hs)) (p : Nat) (h : Hc) (hx : a.eval x = .slice (some ⟨p, 0, none⟩) 1 1) (h1 : h.v.oneCell' = true) (h2 : h.vl.oneCell' = true)
    (hc : w.cell? ⟨p, 0, none⟩ = some h.v ∧ w.cell? ⟨p, 1, none⟩ = some h.vl ∧ w.cell? ⟨p, 2, none⟩ = some (.int .i64 h.m)) (hl : hs.length ≤ 1000000) (hB : B ≤ w.heap.size)
    (hK : ∀ vb' w', w'.ownsRow B 94 3 vb' (hs ++ [h]).length (flatC (hs ++ [h])) → w.grownBy w' vb.ownBlock → (vb'.ownBlock = vb.ownBlock ∨ vb'.ownBlock = some w.heap.size) → K (a.put o.dst vb') w') :
    if Region.wanted o (yielded ops a.tmps) = true then Oper.wp Tryz.prog o a w K Q else E := by
  have hw : Region.wanted o (yielded ops a.tmps) = true := by simp [Region.wanted, hg]
  rw [if_pos hw]
  obtain ⟨i0, hi0, hz0, hz1, hz2⟩ := info_parts Tryz.infoHW
  have hsrc : ∀ j u, (flatC [h])[j]? = some u → w.cell? ((⟨p, 0, none⟩ : Addr).add j) = some u := fun j u hu => by
    rw [addC, Nat.zero_add]
    have e : flatC [h] = [h.v, h.vl, .int .i64 h.m] := rfl
    rw [e] at hu
    match j, hu with
    | 0, hu => simp at hu; rw [← hu]; exact hc.1
    | 1, hu => simp at hu; rw [← hu]; exact hc.2.1
    | 2, hu => simp at hu; rw [← hu]; exact hc.2.2
    | j + 3, hu => simp at hu
  have hone : ∀ u ∈ flatC [h], u.oneCell' = true := fun u hu => by
    have e : flatC [h] = [h.v, h.vl, .int .i64 h.m] := rfl
    rw [e] at hu
    simp at hu
    rcases hu with rfl | rfl | rfl
    · exact h1
    · exact h2
    · rfl
  obtain ⟨v', w', hrun, r1, r2, _, r4⟩ := run_append_own_at (P := Tryz.prog) w B 33 o.type 94 i0 (.agg #[.slice none 0 0, .slice none 0 0, .int .i64 0]) 3 56 Tryz.underlying33 hi0 hz0 hz1 hz2 rfl (by decide) vb hs.length (flatC hs) hown ⟨p, 0, none⟩ 1 1 (flatC [h]) rfl hsrc hone (by unfold maxLen; omega) (by omega) hB
  unfold Oper.wp
  simp [execOp, hop, resolve, invoke, builtin, he, hx, hrun, Result.andThen]
  refine hK v' w' ?_ r2 r4
  rw [List.length_append, flatC_append]
  exact r1
theorem GB.num {ht o : Nat} {W : World} {B g : Nat} {vb : Value} {hs : List Hc} (h : GB ht o W B g vb hs) (ho : o ≠ 0) (u : Value) : GB ht o (W.setCell ⟨g, 0, none⟩ u) B g vb hs := by
  have hF : Fr (fun b => b = g) W (W.setCell ⟨g, 0, none⟩ u) := (Fr.refl _ W).set _ _ rfl
  have se : (W.setCell ⟨g, 0, none⟩ u).cell? ⟨g, o, none⟩ = W.cell? ⟨g, o, none⟩ := World.cell?_setCell_other W _ _ _ (fun e => ho (by injection e with _ e; exact e.symm))
  exact ⟨h.gB, se.trans h.co, fun o => by rw [World.frozen?_setCell]; exact h.soft o, ownR_fr h.row hF (fun b hb e => h.ne (by rw [hb, e])), h.ne⟩
def BEc (g : Nat) (vb : Value) (b : Nat) : Prop := b = g ∨ vb.ownBlock = some b
theorem GB.lay {ht o : Nat} {W W' : World} {B g : Nat} {vb vb' : Value} {hs ks : List Hc} (h : GB ht o W B g vb hs) (hg : W.grownBy W' vb.ownBlock) (ho : W'.ownsRow B ht 3 vb' ks.length (flatC ks)) (hv : vb'.ownBlock = vb.ownBlock ∨ vb'.ownBlock = some W.heap.size) :
    GB ht o (W'.setCell ⟨g, o, none⟩ vb') B g vb' ks ∧ Fr (BEc g vb) W (W'.setCell ⟨g, o, none⟩ vb') ∧ (∀ b, vb'.ownBlock = some b → vb.ownBlock = some b ∨ W.heap.size ≤ b) ∧ ∀ p, p ≠ o → (W'.setCell ⟨g, o, none⟩ vb').cell? ⟨g, p, none⟩ = W.cell? ⟨g, p, none⟩ := by
  have hgb : W'.heap[g]? = W.heap[g]? := hg.block g h.lt (fun e => h.ne e.symm)
  have hbl : ∀ b, vb'.ownBlock = some b → vb.ownBlock = some b ∨ W.heap.size ≤ b := fun b e => by
    rcases hv with e' | e'
    · exact .inl (e' ▸ e)
    · rw [e'] at e; injection e with e; exact .inr (by omega)
  have hne : vb'.ownBlock ≠ some g := fun e => by
    rcases hbl g e with e | e
    · exact h.ne e
    · have := h.lt; omega
  have hc : ∀ o, W'.cell? ⟨g, o, none⟩ = W.cell? ⟨g, o, none⟩ := fun o => World.cell?_of_block (w := W) (a := ⟨g, o, none⟩) hgb
  have se : ∀ p, p ≠ o → (W'.setCell ⟨g, o, none⟩ vb').cell? ⟨g, p, none⟩ = W.cell? ⟨g, p, none⟩ := fun p hp => (World.cell?_setCell_other W' _ _ _ (fun e => hp (by injection e with _ e; exact e.symm))).trans (hc p)
  have hF : Fr (fun b => b = g) W' (W'.setCell ⟨g, o, none⟩ vb') := (Fr.refl _ W').set _ _ rfl
  refine ⟨⟨h.gB, World.cell?_setCell_same' _ _ _ (by rw [hc o, h.co]; rfl), fun o => ?_, ownR_fr ho hF (fun b hb e => hne (by rw [hb, e])), hne⟩, (Fr.grown hg (fun r e => .inr e)).set _ _ (.inl rfl), hbl, se⟩
  rw [World.frozen?_setCell]; exact (World.frozen?_of_block (w := W) (a := ⟨g, o, none⟩) hgb).trans (h.soft o)
/- What keeping leaves: the Book's row is longer by one; its number is one more; its other cells are as they were. -/
structure KeptW (W W' : World) (B g : Nat) (vb vb' : Value) (n : Nat) (ks : List Hc) : Prop where
  bk : GB 94 7 W' B g vb' ks
  c0 : W'.cell? ⟨g, 0, none⟩ = some (.int .i64 (n : Int))
  fr : Fr (BEc g vb) W W'
  bl : ∀ b, vb'.ownBlock = some b → vb.ownBlock = some b ∨ W.heap.size ≤ b
  cs : ∀ p, p ≠ 7 → p ≠ 0 → W'.cell? ⟨g, p, none⟩ = W.cell? ⟨g, p, none⟩
set_option maxRecDepth 100000 in
set_option maxHeartbeats 1000000 in
theorem keepWord_bk {W : World} {B g n : Nat} {vb : Value} {hs : List Hc} (h : GB 94 7 W B g vb hs) (c0 : W.cell? ⟨g, 0, none⟩ = some (.int .i64 (n : Int))) (hl : hs.length ≤ 1000000) (hn : n < 100000000) (a : Option Addr) (m c : Nat) :
    Calls Tryz.prog 19 #[.pointer (some ⟨g, 0, none⟩), .slice a m c] W fun e W' => e = .returned (.tuple #[]) ∧ ∃ vb', KeptW W W' B g vb vb' (n + 1) (hs ++ [⟨.slice a m c, .slice none 0 0, n + 1, m⟩]) := by
  have h1 : GB 94 7 (W.setCell ⟨g, 0, none⟩ (.int .i64 ((n : Int) + 1))) B g vb hs := h.num (by decide) _
  have hF1 : Hid (Fr (BEc g vb) W (W.setCell ⟨g, 0, none⟩ (.int .i64 ((n : Int) + 1)))) := (Fr.refl _ W).set _ _ (.inl rfl)
  have HCS : Hid (∀ p, p ≠ 7 → p ≠ 0 → (W.setCell ⟨g, 0, none⟩ (.int .i64 ((n : Int) + 1))).cell? ⟨g, p, none⟩ = W.cell? ⟨g, p, none⟩) := fun p _ hp => World.cell?_setCell_other W _ _ _ (fun e => hp (by injection e with _ e; exact e.symm))
  obtain ⟨av, nv, cv, hv⟩ : ∃ a n' c, vb = .slice a n' c := by
    rcases h.row.2 with ⟨e, _⟩ | ⟨r, cap, cur, e, _⟩ <;> exact ⟨_, _, _, e⟩
  subst hv
  have hw : IntKind.i64.wrap ((n : Int) + 1) = (n : Int) + 1 := by rw [IntKind.wrap_i64]; omega
  have s0 := h.soft 0
  have H1 := hide h1
  have c0' : (W.setCell ⟨g, 0, none⟩ (.int .i64 ((n : Int) + 1))).cell? ⟨g, 0, none⟩ = some (.int .i64 ((n : Int) + 1)) := World.cell?_setCell_same' _ _ _ (by rw [c0]; rfl)
  have c2' := h1.co
  have s2' := h1.soft 7
  clear h h1
  go_enter Tryz.func19, Tryz.ntmps19
  go_wp2
  generalize W.setCell ⟨g, 0, none⟩ (.int .i64 ((n : Int) + 1)) = W0 at *
  have H2 := hide (H1.out.next (((Below.refl _ W0).drew).alloc (Nat.le_refl _) (.cells #[.slice a m c, .slice none 0 0, .int .i64 ((n : Int) + 1)] 94)))
  have HX := hide (boxC W0.drew (.slice a m c) (.slice none 0 0) (.int .i64 ((n : Int) + 1)) 94)
  have HF2 : Hid (Fr (BEc g (.slice av nv cv)) W (W0.drew.alloc (.cells #[.slice a m c, .slice none 0 0, .int .i64 ((n : Int) + 1)] 94))) := hF1.out.drew.alloc _
  have hgl := H1.out.lt
  have HC3 : Hid (∀ p, (W0.drew.alloc (.cells #[.slice a m c, .slice none 0 0, .int .i64 ((n : Int) + 1)] 94)).cell? ⟨g, p, none⟩ = W0.cell? ⟨g, p, none⟩) := fun p => World.cell?_of_block (w := W0) (a := ⟨g, p, none⟩) (((Fr.refl (fun _ => False) W0).drew.alloc _).block g hgl (fun e => e))
  have HC0 := hide c0'
  have HBW : Hid (B ≤ W0.heap.size) := by have := H1.out.gB; show _ ≤ _; omega
  clear hw c0 s0 H1
  go_region_law (refine step_appHW rfl _ _ rfl B _ hs rfl H2.out.row _ ⟨.slice a m c, .slice none 0 0, n + 1, m⟩ rfl rfl rfl HX.out hl (by have := HBW.out; simp; omega) ?_; intro v7 w7 O7 G7 K7; obtain ⟨a7, n7, p7, rfl⟩ : ∃ a n' c, v7 = .slice a n' c := (by rcases O7.2 with ⟨e, _⟩ | ⟨r, cap, cur, e, _⟩ <;> exact ⟨_, _, _, e⟩); have L7 := hide (H2.out.lay G7 O7 K7); have c7 := (World.cell?_of_block (a := ⟨g, 7, none⟩) (G7.block g H2.out.lt (fun e => H2.out.ne e.symm))).trans H2.out.co; have s7 := (World.frozen?_of_block (a := ⟨g, 7, none⟩) (G7.block g H2.out.lt (fun e => H2.out.ne e.symm))).trans (H2.out.soft 7); clear O7 G7 K7)
  all_goals
    go_wp2
    go_end0
    refine ⟨rfl, _, L7.out.1, ?_, HF2.out.trans L7.out.2.1 (fun b _ e => e), fun b hb => ?_, fun p h7 h0 => ?_⟩
    · rw [L7.out.2.2.2 0 (by decide), HC3.out]; exact HC0.out
    · rcases L7.out.2.2.1 b hb with e | e
      · exact .inl e
      · exact .inr (Nat.le_trans HF2.out.size e)
    · rw [L7.out.2.2.2 p h7, HC3.out]; exact HCS.out p h7 h0
/- A list of words is kept. -/
theorem words_bok {W : World} {B g n : Nat} {vb v : Value} {hs : List Hc} {len : Nat} {xs : List Value} (h : BokW W B g vb hs) (c0 : W.cell? ⟨g, 0, none⟩ = some (.int .i64 (n : Int))) (hl : hs.length < 1000) (hn : n < 1000) (ho : W.ownsRow B 68 6 v len xs) (hx : len ≤ 100000000) (s1 : v.ownBlock ≠ some g) (s2 : ∀ b, v.ownBlock = some b → vb.ownBlock ≠ some b) (s3 : ∀ x ∈ hs, ∀ b, x.v.ownBlock = some b → v.ownBlock ≠ some b) :
    Calls Tryz.prog 10 #[.pointer (some ⟨g, 0, none⟩), v] W fun e W' => e = .returned (.tuple #[]) ∧ ∃ vb', BokW W' B g vb' (hs ++ [⟨v, .slice none 0 0, n + 1, len⟩]) ∧ W'.cell? ⟨g, 0, none⟩ = some (.int .i64 ((n + 1 : Nat) : Int)) ∧ Fr (BEc g vb) W W' ∧ ∀ b, vb'.ownBlock = some b → vb.ownBlock = some b ∨ W.heap.size ≤ b := by
  obtain ⟨a, c, hv⟩ := ownR_shape ho
  subst hv
  have HK := hide (keepWord_bk h.bk c0 (by omega) (by omega) a len c)
  have HB := hide h
  have HO := hide ho
  have HS2 := hide s2
  have HS3 := hide s3
  have HS1 := hide s1
  clear h ho s1 s2 s3 c0
  go_enter Tryz.func10, Tryz.ntmps10
  go_wp2_with fail
  refine HK.out.mono ?_
  rintro e W' ⟨rfl, vb', hk⟩
  have hR : Hid (∃ vb', BokW W' B g vb' (hs ++ [⟨.slice a len c, .slice none 0 0, n + 1, len⟩]) ∧ W'.cell? ⟨g, 0, none⟩ = some (.int .i64 ((n + 1 : Nat) : Int)) ∧ Fr (BEc g vb) W W' ∧ ∀ b, vb'.ownBlock = some b → vb.ownBlock = some b ∨ W.heap.size ≤ b) := by
    have sb : ∀ x ∈ hs, ∀ b, x.v.ownBlock = some b → ¬ BEc g vb b := fun x hx b hb e => by
      rcases e with e | e
      · exact HB.out.sep.g x hx (by rw [hb, e])
      · exact HB.out.sep.b x hx b hb e
    have nb : ∀ b, (Value.slice a len c).ownBlock = some b → ¬ BEc g vb b := fun b hb e => by
      rcases e with e | e
      · exact HS1.out (by rw [hb, e])
      · exact HS2.out b hb e
    refine ⟨vb', ⟨hk.bk, fun o h1 h2 h3 => by rw [hk.cs o h3 (by omega)]; exact HB.out.cz o h1 h2 h3, ⟨fun x hx => ?_, fun x hx b hb' e => ?_, fun i j hi hj hne b hbi hbj => ?_⟩, fun x hx => ?_, fun x hx => ?_, by simp; omega⟩, hk.c0, hk.fr, hk.bl⟩
    · rcases List.mem_append.1 hx with hx | hx
      · exact HB.out.sep.g x hx
      · simp at hx; subst hx; exact HS1.out
    · rcases List.mem_append.1 hx with hx | hx
      · rcases hk.bl b e with e | e
        · exact HB.out.sep.b x hx b hb' e
        · obtain ⟨ys, hy⟩ := HB.out.ow x hx
          have := (World.ownsRow.lt hy b hb').2; omega
      · simp at hx; subst hx
        rcases hk.bl b e with e | e
        · exact HS2.out b hb' e
        · have := (World.ownsRow.lt HO.out b hb').2; omega
    · by_cases h1 : i < hs.length
      · rw [List.getElem_append_left h1] at hbi
        by_cases h2 : j < hs.length
        · rw [List.getElem_append_left h2] at hbj
          exact HB.out.sep.p i j h1 h2 hne b hbi hbj
        · have : j = hs.length := by simp at hj; omega
          subst this
          simp only [List.getElem_concat_length] at hbj
          exact HS3.out _ (List.getElem_mem h1) b hbi hbj
      · have : i = hs.length := by simp at hi; omega
        subst this
        simp only [List.getElem_concat_length] at hbi
        have h2 : j < hs.length := by simp at hj; omega
        rw [List.getElem_append_left h2] at hbj
        exact HS3.out _ (List.getElem_mem h2) b hbj hbi
    · rcases List.mem_append.1 hx with hx | hx
      · exact (HB.out.ow x hx).imp fun _ hy => ownR_fr hy hk.fr (sb x hx)
      · simp at hx; subst hx; exact ⟨xs, ownR_fr HO.out hk.fr nb⟩
    · rcases List.mem_append.1 hx with hx | hx
      · exact HB.out.lim x hx
      · simp at hx; subst hx; exact ⟨by assumption, by show n + 1 < _; omega, _, _, _, rfl⟩
  clear hk HB HO HS1 HS2 HS3 HK
  go_wp2
  go_end0
  exact ⟨rfl, hR.out⟩
/- A Book that was told nothing. -/
theorem BokW.new {W : World} {B g : Nat} (hB : B ≤ g) (hh : ∃ t, W.heap[g]? = some (.cells #[.int .i64 0, .slice none 0 0, .slice none 0 0, .slice none 0 0, .slice none 0 0, .slice none 0 0, .slice none 0 0, .slice none 0 0, .slice none 0 0, .slice none 0 0, .slice none 0 0, .slice none 0 0, .slice none 0 0, .slice none 0 0, .slice none 0 0, .slice none 0 0, .slice none 0 0, .slice none 0 0, .slice none 0 0, .slice none 0 0, .slice none 0 0, .slice none 0 0, .slice none 0 0, .slice none 0 0, .slice none 0 0, .slice none 0 0, .slice none 0 0, .slice none 0 0, .slice none 0 0, .slice none 0 0, .slice none 0 0] t (0, 0))) : BokW W B g (.slice none 0 0) [] ∧ W.cell? ⟨g, 0, none⟩ = some (.int .i64 ((0 : Nat) : Int)) := by
  obtain ⟨t, hh⟩ := hh
  have hc : ∀ o, 1 ≤ o → o ≤ 30 → W.cell? ⟨g, o, none⟩ = some (.slice none 0 0) := fun o h1 h2 => by
    unfold World.cell?; simp only [hh]
    match o, h1, h2 with
    | 1, _, _ => rfl | 2, _, _ => rfl | 3, _, _ => rfl | 4, _, _ => rfl | 5, _, _ => rfl | 6, _, _ => rfl | 7, _, _ => rfl | 8, _, _ => rfl | 9, _, _ => rfl | 10, _, _ => rfl
    | 11, _, _ => rfl | 12, _, _ => rfl | 13, _, _ => rfl | 14, _, _ => rfl | 15, _, _ => rfl | 16, _, _ => rfl | 17, _, _ => rfl | 18, _, _ => rfl | 19, _, _ => rfl | 20, _, _ => rfl
    | 21, _, _ => rfl | 22, _, _ => rfl | 23, _, _ => rfl | 24, _, _ => rfl | 25, _, _ => rfl | 26, _, _ => rfl | 27, _, _ => rfl | 28, _, _ => rfl | 29, _, _ => rfl | 30, _, _ => rfl
    | o + 31, _, h => omega
  refine ⟨⟨⟨hB, hc 7 (by decide) (by decide), fun o => ?_, World.ownsRow_nil W B _ _, by intro h; cases h⟩, fun o h1 h2 _ => hc o h1 h2, ⟨fun x hx => by simp at hx, fun x hx => by simp at hx, fun i j hi => by simp at hi⟩, fun x hx => by simp at hx, fun x hx => by simp at hx, by simp⟩, ?_⟩
  · unfold World.frozen?; simp only [hh]; simp
  · unfold World.cell?; simp only [hh]; rfl
end Go.Proofs.YtfanhdjebmdniaaGreatDoor
/- A Book's marks of words. -/
namespace Go.Proofs.YtfanhdjebmdniaaGreatDoor
open Go.RowKit

def sW (n : Nat) : ByteArray := txt (35 :: Lib.decDigits n)
theorem hash_txt (l : List UInt8) : (⟨#[35]⟩ : ByteArray) ++ txt l = txt (35 :: l) := by
  apply ByteArray.ext
  rw [ByteArray.data_append]
  apply Array.ext'
  simp [txt]
theorem dc_le (v : Nat) : (Lib.decDigits v).length ≤ v + 1 := by
  induction v using Nat.strongRecOn with
  | _ v ih =>
    by_cases h : v < 10
    · rw [dc_small h]; simp
    · rw [dc_big h, List.length_append, List.length_singleton]
      have := ih (v / 10) (by omega)
      omega
theorem wordS (n : Nat) (hn : n < 1000000000) (W : World) (hL : Ld W) : Calls Tryz.prog 203 #[.int .i64 (n : Int)] W fun e w' => e = .returned (.string (sW n)) ∧ Below W.heap.size W w' := by
  have HI := hide (itoa_any n (by omega) W hL)
  have HT : Hid ((⟨#[35]⟩ : ByteArray) ++ txt (Lib.decDigits n) = sW n) := hash_txt _
  have hs : ¬ 9223372036854775807 < 1 + (txt (Lib.decDigits n)).size := by rw [txt_size]; have := dc_le n; omega
  generalize txt (Lib.decDigits n) = T at *
  generalize sW n = S at *
  clear hL
  go_enter Tryz.func203, Tryz.ntmps203
  go_wp2_with fail
  refine HI.out.mono ?_
  rintro e w1 ⟨rfl, hb⟩
  have HB := hide hb
  clear hb
  go_wp2
  go_ret
  exact ⟨by rw [HT.out]; rfl, HB.out⟩
theorem marksW {w0 : World} (hL : Ld w0) : MarksW sW w0.heap.size w0 := by
  intro m hm W hW
  have HI := hide (fun W2 (h : Below W.heap.size W W2) => wordS m hm W2 ((hL.below hW).below h))
  generalize sW m = S at *
  clear hL hW
  go_enter Tryz.func129, Tryz.ntmps129
  go_wp2_with fail
  refine (HI.out _ ((Below.refl _ _).alloc (Nat.le_refl _) _)).mono ?_
  rintro e w1 ⟨rfl, hb⟩
  have hblk : w1.heap[W.heap.size]? = some (.cells #[.int .u8 0, .string ⟨#[]⟩, .int .i64 0, .int .u64 0, .int .u64 0, .int .i64 0] 68 (0, 0)) := (hb.block _ (by simp)).trans (heap_alloc_new W _)
  have HW : Hid (Below W.heap.size W w1) := ((Below.refl _ _).alloc (Nat.le_refl _) _).trans (hb.mono (by simp))
  obtain ⟨⟨k0, k1, k2, k3, k4, k5⟩, f0, f1, f2, f3, f4, f5⟩ := cells_of6 hblk
  have HBk := hide hblk
  clear hblk hb
  go_wp2
  have hg := cells_of6 (set6_got HBk.out (.int .u8 0) (.string S) (.int .i64 0) (.int .u64 0) (.int .u64 0) (.int .i64 0))
  have HBB := hide (set6_below HW.out (Nat.le_refl _) (.int .u8 0) (.string S) (.int .i64 0) (.int .u64 0) (.int .u64 0) (.int .i64 0))
  unfold set6 at hg
  obtain ⟨⟨q0, q1, q2, q3, q4, q5⟩, _⟩ := hg
  exact bodyPost_ret (v := .agg #[.int .u8 0, .string S, .int .i64 0, .int .u64 0, .int .u64 0, .int .i64 0]) (by simp [results, Tryz.results129, go_sem, q0, q1, q2, q3, q4, q5]) rfl ⟨rfl, HBB.out⟩
theorem isMarkW {w0 : World} (hL : Ld w0) : IsW sW w0.heap.size w0 := by
  intro m hm W hW
  have HI := hide (fun W2 (h : Below W.heap.size W W2) => wordS m hm W2 ((hL.below hW).below h))
  generalize sW m = S at *
  clear hL hW
  have hx : (S.toList == S.toList) = true := by simp
  go_enter Tryz.func159, Tryz.ntmps159
  go_wp2
  go_region_with (go_at_call 203; refine (HI.out _ (((Below.refl _ _).alloc (Nat.le_refl _) _).drew)).mono ?_; rintro e w1 ⟨rfl, hb⟩; have c1 : w1.cell? ⟨W.heap.size, 1, none⟩ = some (.string S) := (hb.cell (p := ⟨W.heap.size, 1, none⟩) (by simp)).trans (by unfold World.cell?; rw [show (World.drew (W.alloc (.cells #[.int .u8 0, .string S, .int .i64 0, .int .u64 0, .int .u64 0, .int .i64 0] 68))).heap[W.heap.size]? = _ from heap_alloc_new W _]; rfl); have HB := hide (((Below.refl _ _).alloc (Nat.le_refl _) _).drew.trans (hb.mono (by simp))); clear hb)
  all_goals
    go_wp2
    go_ret
    exact ⟨rfl, HB.out⟩
end Go.Proofs.YtfanhdjebmdniaaGreatDoor
/- A store of what lies there already. No program stands in it. -/
namespace Go.Proofs.YtfanhdjebmdniaaGreatDoor
open Go.RowKit

theorem setCell_same {w : World} {b o : Nat} {v : Value} {cs : Array Value} {e : TypeId} {fr : Nat × Nat} (hb : w.heap[b]? = some (.cells cs e fr)) (hv : cs[o]? = some v) : w.setCell ⟨b, o, none⟩ v = w := by
  have h : (w.setCell ⟨b, o, none⟩ v).heap = w.heap := by
    apply Array.ext_getElem?
    intro i
    by_cases hi : i = b
    · subst hi
      rw [heap_setCell_same hb, hb]
      congr 2
      apply Array.ext_getElem?
      intro j
      rw [Array.getElem?_setIfInBounds]
      split
      · rename_i e; subst e
        obtain ⟨hlt, hv'⟩ := Array.getElem?_eq_some_iff.1 hv
        rw [if_pos hlt, hv]
      · rfl
    · exact Below.heap_setCell _ _ _ _ hi
  unfold World.setCell at h ⊢
  simp only at h
  rw [h]
theorem setCells_same {w : World} {b : Nat} {cs : Array Value} {e : TypeId} {fr : Nat × Nat} (hb : w.heap[b]? = some (.cells cs e fr)) : ∀ (vs : List Value) (o : Nat), (∀ j v, vs[j]? = some v → cs[o + j]? = some v) → w.setCells b o vs = w := by
  intro vs
  induction vs with
  | nil => intro o _; rfl
  | cons v r ih =>
    intro o h
    show (w.setCell ⟨b, o, none⟩ v).setCells b (o + 1) r = w
    rw [setCell_same hb (by have := h 0 v rfl; simpa using this)]
    exact ih (o + 1) (fun j u hu => by have := h (j + 1) u (by simpa using hu); rw [← this]; congr 1; omega)
theorem wpList_storeZ {P : Program} {w : World} {ops : Array Oper} {rest : List Oper} {o : Oper} {a : Act} {Q : Exit → Act → World → Prop} (hg : o.guard = none) (t : TypeId) (x y : Operand) (ho : o.op = .store t x y) (b : Nat) (cs : Array Value) (e : TypeId)
    (hx : a.eval x = .pointer (some ⟨b, 0, none⟩)) (hy : a.eval y = .agg cs) (hs : ∀ w, (sizeOf t).run P w = .ok cs.size w) (hb : w.heap[b]? = some (.cells cs e (0, 0))) (one : ∀ v ∈ cs.toList, v.oneCell' = true)
    (hK : wpList P ops Q rest (a.put o.dst undef) w) : wpList P ops Q (o :: rest) a w := by
  refine wpList_plain hg fun K hK' => ?_
  have h1 : (storeCells ⟨b, 0, none⟩ cs.toList 0).run P w = .ok () w := by
    rw [run_storeCells_cells (P := P) b 0 cs.toList 0 w (fun j hj => ?_) (fun j _ => ?_) one]
    · rw [setCells_same hb cs.toList (0 + 0) (fun j v hv => by rw [Nat.zero_add, ← Array.getElem?_toList]; exact hv)]
    · unfold World.cell?
      simp only [hb, Nat.zero_add]
      simp at hj
      simp [hj]
    · unfold World.frozen?; simp only [hb]; simp
  have h2 : (Instr.storeAt t (.pointer (some ⟨b, 0, none⟩)) (.agg cs)).run P w = .ok () w := by
    simp [Instr.storeAt, Instr.sureAddr, storeVar, hs, Value.cells, h1, Result.andThen]
  have h3 : (execOp a.eval o).run P w = .ok .skip w := by
    simp [execOp, ho, hx, hy, h2, Result.andThen]
  unfold Oper.wp
  rw [h3, Oper.upon_skip]
  exact hK' _ _ hK
end Go.Proofs.YtfanhdjebmdniaaGreatDoor
/- LexWords: its walk. -/
namespace Go.Proofs.YtfanhdjebmdniaaGreatDoor
open Go.RowKit

def bk0 : Array Value := #[.int .i64 0, .slice none 0 0, .slice none 0 0, .slice none 0 0, .slice none 0 0, .slice none 0 0, .slice none 0 0, .slice none 0 0, .slice none 0 0, .slice none 0 0, .slice none 0 0, .slice none 0 0, .slice none 0 0, .slice none 0 0, .slice none 0 0, .slice none 0 0, .slice none 0 0, .slice none 0 0, .slice none 0 0, .slice none 0 0, .slice none 0 0, .slice none 0 0, .slice none 0 0, .slice none 0 0, .slice none 0 0, .slice none 0 0, .slice none 0 0, .slice none 0 0, .slice none 0 0, .slice none 0 0, .slice none 0 0]
theorem bk0_one : ∀ v ∈ bk0.toList, v.oneCell' = true := by
  intro v hv
  simp [bk0] at hv
  rcases hv with rfl | rfl <;> rfl
set_option maxRecDepth 100000 in
theorem bk_size : ∀ w : World, (sizeOf 58).run Tryz.prog w = .ok bk0.size w := fun w => by rfl
theorem one_alloc (W : World) (cs : Array Value) (t : TypeId) : (W.alloc (.cells cs t)).heap[W.heap.size]? = some (.cells cs t (0, 0)) := heap_alloc_new W _
theorem tk_len (r : List UInt8) (n : Nat) (ys : List (Wd × Nat)) (h : tk r n = .ok ys) : ys.length ≤ r.length := by
  induction hl : r.length using Nat.strongRecOn generalizing r n ys with
  | _ k ih =>
    by_cases hr : r = []
    · rw [hr, tk_nil] at h; cases h; simp
    · cases hw : wdA r with
      | mk o r' =>
        cases o with
        | none => rw [tk_none hr hw] at h; cases h
        | some x =>
          rw [tk_some hr hw] at h
          have hless := wdA_less hw
          have hsk := skip_le r'
          cases ht : tk (skip r') (n + c10 r' - c10 (skip r')) with
          | error k' => rw [ht] at h; cases h
          | ok zs =>
            rw [ht] at h
            have := ih _ (by omega) _ _ _ ht rfl
            cases h
            simp
            omega
theorem toks_len {s : List UInt8} {ys : List (Wd × Nat)} (h : toks s = .ok ys) (hs : s.length ≤ 65536) : ys.length ≤ 65536 := by
  have h1 := tk_len _ _ _ h
  have h2 := skip_le s
  omega
/- Both sides have one answer. -/
def GivesW (f : Nat) (s : List UInt8) (n e : Int) (xs : List (Wd × Nat)) (W : World) : Prop := Calls Tryz.prog f #[.string (txt s)] W fun r w' => ∃ v, r = .returned (.tuple #[v, .int .i64 n, .int .i64 e]) ∧ OwnW w' W.heap.size v xs ∧ Below W.heap.size W w'
theorem gives_of {f : Nat} {s : List UInt8} {n e : Int} {xs : List (Wd × Nat)} {W : World} (h : Calls Tryz.prog f #[.string (txt s)] W fun r w' => WordsPost s W r w')
    (hb : 65536 < s.length → n = 0 ∧ e = 3 ∧ xs = []) (he : ∀ k : Nat, s.length ≤ 65536 → toks s = .error k → n = k ∧ e = 4 ∧ xs = []) (ho : ∀ ys, s.length ≤ 65536 → toks s = .ok ys → n = 0 ∧ e = 0 ∧ xs = ys) : GivesW f s n e xs W := by
  refine h.mono fun r w' hp => ?_
  obtain ⟨hbl, ⟨h1, h2⟩ | ⟨h1, ⟨k, h2, h3⟩ | ⟨ys, v, h2, h3, h4, h5⟩⟩⟩ := hp
  · obtain ⟨rfl, rfl, rfl⟩ := hb h1
    exact ⟨_, h2, OwnW.nil _ _, hbl⟩
  · obtain ⟨rfl, rfl, rfl⟩ := he k h1 h2
    exact ⟨_, h3, OwnW.nil _ _, hbl⟩
  · obtain ⟨rfl, rfl, rfl⟩ := ho ys h1 h2
    exact ⟨_, h5, h4, hbl⟩
theorem words_one (s : List UInt8) (hs : s.length ≤ 9223372036854775807) : ∃ (n e : Int) (xs : List (Wd × Nat)), xs.length ≤ 65536 ∧ (∀ W, Ls W → GivesW 7 s n e xs W) ∧ (∀ W, GivesW 8 s n e xs W) := by
  by_cases hb : 65536 < s.length
  · refine ⟨0, 3, [], by simp, fun W hL => gives_of (words_any s W hL hs) (fun _ => ⟨rfl, rfl, rfl⟩) (fun k h => by omega) (fun ys h => by omega), fun W => gives_of (wordsR s W hs) (fun _ => ⟨rfl, rfl, rfl⟩) (fun k h => by omega) (fun ys h => by omega)⟩
  · cases ht : toks s with
    | error k =>
      refine ⟨k, 4, [], by simp, fun W hL => gives_of (words_any s W hL hs) (fun h => by omega) (fun k' _ h2 => ?_) (fun ys _ h2 => ?_), fun W => gives_of (wordsR s W hs) (fun h => by omega) (fun k' _ h2 => ?_) (fun ys _ h2 => ?_)⟩
      all_goals rw [ht] at h2; cases h2
      all_goals exact ⟨rfl, rfl, rfl⟩
    | ok ys =>
      have hl : ys.length ≤ 65536 := toks_len ht (by omega)
      refine ⟨0, 0, ys, hl, fun W hL => gives_of (words_any s W hL hs) (fun h => by omega) (fun k' _ h2 => ?_) (fun ys _ h2 => ?_), fun W => gives_of (wordsR s W hs) (fun h => by omega) (fun k' _ h2 => ?_) (fun ys _ h2 => ?_)⟩
      all_goals rw [ht] at h2; cases h2
      all_goals exact ⟨rfl, rfl, rfl⟩
set_option maxRecDepth 100000 in
set_option maxHeartbeats 4000000 in
theorem lexWords_any (s : List UInt8) (w : World) (hL : Ls w) (hs : s.length ≤ 9223372036854775807) : Calls Tryz.prog 3 #[.string (txt s)] w fun e w' => e = .returned (.bool true) ∧ Below w.heap.size w w' := by
  obtain ⟨n, er, xs, hxl, G1, G2⟩ := words_one s hs
  have HG1 := hide G1; have HG2 := hide G2; have HX := hide hxl; have HLs := hide hL
  have HMk := hide (marksW hL.ld); have HIs := hide (isMarkW hL.ld)
  unfold GivesW at HG1 HG2
  clear G1 G2 hxl hL hs
  generalize txt s = T at *
  go_enter Tryz.func3, Tryz.ntmps3
  go_wp2_with fail
  refine (HG1.out _ HLs.out).mono ?_
  rintro e w1 ⟨va, rfl, hoa, hb1⟩
  have OA1 := hide hoa
  have B1 := hide hb1
  clear hoa hb1
  go_wp2_with fail
  refine (HG1.out _ (HLs.out.below B1.out)).mono ?_
  rintro e w2 ⟨vm, rfl, hom, hb2⟩
  have OM2 := hide hom
  have OA2 : Hid (OwnW w2 w.heap.size va xs) := ownR_below OA1.out hb2
  have B2 : Hid (Below w.heap.size w w2) := B1.out.trans (hb2.mono B1.out.size)
  clear hom hb2
  go_wp2_with fail
  refine (HG2.out _).mono ?_
  rintro e w3 ⟨vu, rfl, hou, hb3⟩
  have OU3 := hide hou
  have OM3 : Hid (OwnW w3 w1.heap.size vm xs) := ownR_below OM2.out hb3
  have OA3 : Hid (OwnW w3 w.heap.size va xs) := ownR_below OA2.out hb3
  have B3 : Hid (Below w.heap.size w w3) := B2.out.trans (hb3.mono B2.out.size)
  clear hou hb3
  have HS1 := hide (sameW_yes xs va vu w3 (by have := HX.out; omega) OA3.out.sl OU3.out.sl)
  go_wp2_with fail
  refine HS1.out.mono ?_
  rintro e w4 ⟨rfl, hb4⟩
  have HS2 := hide (sameW_yes xs vm vu w4 (by have := HX.out; omega) (OM3.out.sl.keep hb4) (OU3.out.sl.keep hb4))
  have B34 := hide hb4
  clear hb4 HS1
  go_wp2_with fail
  refine HS2.out.mono ?_
  rintro e w5 ⟨rfl, hb5⟩
  have B35 : Hid (Below w3.heap.size w3 w5) := B34.out.trans (hb5.mono B34.out.size)
  have B5 : Hid (Below w.heap.size w w5) := B3.out.trans (B35.out.mono B3.out.size)
  have OM5 : Hid (OwnW w5 w1.heap.size vm xs) := ownR_below OM3.out B35.out
  have OA5 : Hid (OwnW w5 w.heap.size va xs) := ownR_below OA3.out B35.out
  clear hb5 HS2
  have z1 := B1.out.size
  have SEP : Hid (∀ b, va.ownBlock = some b → vm.ownBlock ≠ some b) := fun b e1 e2 => by
    have g1 := (World.ownsRow.lt OA1.out b e1).2
    have g2 := (World.ownsRow.lt OM2.out b e2).1
    omega
  have BN := hide (BokW.new (W := w5.alloc (.cells bk0 58)) (B := w.heap.size) (g := w5.heap.size) B5.out.size ⟨_, one_alloc w5 bk0 58⟩)
  have BL : Hid (Below w5.heap.size w5 (w5.alloc (.cells bk0 58))) := (Below.refl _ _).alloc (Nat.le_refl _) _
  have OA6 : Hid (World.ownsRow (w5.alloc (.cells bk0 58)) w.heap.size 68 6 va xs.length (wcs xs)) := ownR_below OA5.out BL.out
  have OM6 : Hid (World.ownsRow (w5.alloc (.cells bk0 58)) w.heap.size 68 6 vm xs.length (wcs xs)) := ownR_lower (ownR_below OM5.out BL.out) z1
  have B6 : Hid (Below w.heap.size w (w5.alloc (.cells bk0 58))) := B5.out.trans (BL.out.mono B5.out.size)
  have NA : Hid (va.ownBlock ≠ some w5.heap.size) := fun e => by have := (World.ownsRow.lt OA5.out _ e).2; omega
  have NM : Hid (vm.ownBlock ≠ some w5.heap.size) := fun e => by have := (World.ownsRow.lt OM5.out _ e).2; omega
  clear OA5 OM5 OA3 OM3 OU3 OA2 OM2 OA1 z1
  go_wp2_with (refine wpList_storeZ rfl 58 _ _ rfl _ bk0 58 rfl rfl bk_size (one_alloc _ _ _) bk0_one ?_)
  change Calls Tryz.prog 10 #[.pointer (some ⟨w5.heap.size, 0, none⟩), va] (w5.alloc (.cells bk0 58)) _
  generalize w5.alloc (.cells bk0 58) = W6 at *
  generalize w5.heap.size = g at *
  refine (words_bok BN.out.1 BN.out.2 (by simp) (by omega) OA6.out (by have := HX.out; omega) NA.out (fun b _ e => by cases e) (fun x hx => by simp at hx)).mono ?_
  rintro e w7 ⟨rfl, vb7, K7, c7, f7, l7⟩
  have M7 : Hid (World.ownsRow w7 w.heap.size 68 6 vm xs.length (wcs xs)) := ownR_fr OM6.out f7 (fun b hb e => by
    rcases e with e | e
    · exact NM.out (by rw [hb, e])
    · cases e)
  have N7 : Hid (∀ b, vm.ownBlock = some b → vb7.ownBlock ≠ some b) := fun b hb e => by
    rcases l7 b e with e | e
    · cases e
    · have := (World.ownsRow.lt OM6.out b hb).2; omega
  have B7 : Hid (Below w.heap.size w w7) := B6.out.trans (f7.below (fun b e => by
    rcases e with e | e
    · rw [e]; exact BN.out.1.bk.gB
    · cases e) B6.out.size)
  have HK7 := hide K7; have HC7 := hide c7
  clear K7 c7 f7 l7 OM6 OA6 B6 BL
  go_wp2_with fail
  refine (words_bok HK7.out HC7.out (by simp) (by omega) M7.out (by have := HX.out; omega) NM.out N7.out (fun x hx b hb => by simp at hx; subst hx; exact SEP.out b hb)).mono ?_
  rintro e w8 ⟨rfl, vb8, K8, c8, f8, l8⟩
  have B8 : Hid (Below w.heap.size w w8) := B7.out.trans (f8.below (fun b e => by
    rcases e with e | e
    · rw [e]; exact HK7.out.bk.gB
    · exact (HK7.out.bk.vlt b e).1) B7.out.size)
  have HK8 := hide K8
  clear K8 c8 f8 l8 HC7 M7 N7
  go_wp2_with fail
  refine (apartW_yes HMk.out HIs.out (Nat.le_refl _) B8.out HK8.out).mono ?_
  rintro e w9 ⟨rfl, f9⟩
  have B9 : Hid (Below w.heap.size w w9) := B8.out.trans (f9.below (GEc.ge HK8.out.ow HK8.out.bk.vlt) B8.out.size)
  clear f9 HK8
  go_wp2
  go_ret
  exact ⟨rfl, B9.out⟩
end Go.Proofs.YtfanhdjebmdniaaGreatDoor
