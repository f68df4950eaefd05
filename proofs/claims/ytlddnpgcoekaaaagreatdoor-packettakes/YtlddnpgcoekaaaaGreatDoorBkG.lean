/- growByte of a Book. -/
import Derived.Test.YtlddnpgcoekaaaaGreatDoorBkF
import Derived.ArgAppend
namespace Go.Proofs.YtlddnpgcoekaaaaGreatDoor
open Go.RowKit

/- 'append(v, y)', v of one's own: in its place, or somewhere new, and then all else is as it was. -/
theorem wpList_app1 {w : World} {ops : Array Oper} {rest : List Oper} {o : Oper} {a : Act} {Q : Exit → Act → World → Prop} (hgd : o.guard = none) (s x : Operand) (ho : o.op = .call { callee := .builtin .append, args := #[s, x], argTypes := #[22, 22] })
    (B : Nat) (v : Value) (xs : List Nat) (hs : a.eval s = v) (hown : Own8 w B v xs) (p y : Nat) (hx : a.eval x = .slice (some ⟨p, 0, none⟩) 1 1) (hr : RdA w (some ⟨p, 0, none⟩) [y])
    (hl : xs.length ≤ 1000000000) (hB : B ≤ w.heap.size)
    (h : ∀ v' w', Own8 w' B v' (xs ++ [y]) → (v'.ownBlock = v.ownBlock ∧ w.grownBy w' v.ownBlock) ∨ (w.grownBy w' none ∧ ∀ b, v'.ownBlock = some b → w.heap.size ≤ b) → wpList Tryz.prog ops Q rest (a.put o.dst v') w') :
    wpList Tryz.prog ops Q (o :: rest) a w := by
  obtain ⟨i0, hi0, hz0, hz1, hz2⟩ := info_parts Tryz.info8
  obtain ⟨p', off, e, _, hc⟩ := hr.some (by simp)
  injection e with e
  injection e with e1 e2
  subst e1 e2
  rcases hown.2 with ⟨rfl, hn⟩ | ⟨g, cap, cur, rfl, hg, hcur, h1, h2, h3, h4⟩
  · have hx0 : xs = [] := List.length_eq_zero_iff.1 hn
    subst hx0
    refine wpList_append_grows w hgd s x 22 ho 5 i0 (.int .u8 0) 1 1 Tryz.underlying22 hi0 hz0 hz1 hz2 rfl (by decide) none 0 0 [] hs (fun _ => ⟨rfl, rfl⟩) rfl (fun _ e => by cases e) ⟨p, 0, none⟩ 1 1 (u8s [y]) hx rfl (rdA_src hc) (u8s_one [y]) (by omega) (by unfold maxLen; omega) (by omega) ?_
    intro v' w' r1 r2
    have ho' : Own8 w' w.heap.size v' ([] ++ [y]) := r1
    exact h v' w' (ownsRow_lower ho' hB) (.inr ⟨r2, fun b hb => (World.ownsRow.lt ho' b hb).1⟩)
  · by_cases hfit : xs.length + 1 ≤ cap
    · refine wpList_append_fits w hgd s x 22 ho B 5 i0 1 Tryz.underlying22 hi0 hz1 g xs.length cap (u8s xs) hs hown ⟨p, 0, none⟩ 1 1 (u8s [y]) hx rfl (rdA_src hc) (u8s_one [y]) hfit ?_
      intro w' r1 r2
      refine h _ w' ?_ (.inl ⟨rfl, r2⟩)
      unfold Own8
      rw [List.length_append, u8s_append]
      exact r1
    · have hcell : ∀ b, (some (⟨g, 0, none⟩ : Addr)) = some b → ∀ j u, (u8s xs)[j]? = some u → w.cell? (b.add j) = some u := fun b e j u hu => by
        cases e; exact World.ownsRow.cells hown (g := g) rfl j u hu
      refine wpList_append_grows w hgd s x 22 ho 5 i0 (.int .u8 0) 1 1 Tryz.underlying22 hi0 hz0 hz1 hz2 rfl (by decide) (some ⟨g, 0, none⟩) xs.length cap (u8s xs) hs (fun e => by cases e) (by rw [u8s_length, Nat.mul_one]) hcell ⟨p, 0, none⟩ 1 1 (u8s [y]) hx rfl (rdA_src hc) (u8s_one [y]) (by omega) (by unfold maxLen; omega) (by omega) ?_
      intro v' w' r1 r2
      have ho' : Own8 w' w.heap.size v' (xs ++ [y]) := by
        unfold Own8
        rw [List.length_append, u8s_append]
        exact r1
      exact h v' w' (ownsRow_lower ho' hB) (.inr ⟨r2, fun b hb => (World.ownsRow.lt ho' b hb).1⟩)
/- Bytes that can be read off a value, at the head of a row. -/
def RdV (W : World) (v : Value) (xs : List Nat) : Prop := ∃ a c, v = .slice a xs.length c ∧ RdA W a xs ∧ ∀ q, a = some q → q.off = 0 ∧ q.spot = none
theorem RdV.fr {E : Nat → Prop} {W W' : World} {v : Value} {xs : List Nat} (h : RdV W v xs) (hf : Fr E W W') (hn : ∀ b, v.ownBlock = some b → ¬ E b) : RdV W' v xs := by
  obtain ⟨a, c, rfl, hr, hq⟩ := h
  refine ⟨a, c, rfl, ?_, hq⟩
  rcases hr with e | ⟨p, off, rfl, hp, hc⟩
  · exact .inl e
  · exact .inr ⟨p, off, rfl, Nat.lt_of_lt_of_le hp hf.size, fun i hi => hf.cell (hc i hi) (hn p rfl)⟩
theorem Own8.rdV {W : World} {B : Nat} {v : Value} {xs : List Nat} (h : Own8 W B v xs) : RdV W v xs := by
  obtain ⟨a, c, rfl, _, _, hq⟩ := h.shape
  exact ⟨a, c, rfl, h.rd.2, fun q e => ⟨(hq q e).1, (hq q e).2.1⟩⟩
structure GIn (W1 wi : World) (B : Nat) (v lv : Value) (n m q : Nat) : Prop where
  ow : Own8 wi B lv (List.replicate (n + q) (mk8 m))
  rd : RdV wi v (List.replicate n (mk8 m))
  fr : Fr (fun b => v.ownBlock = some b) W1 wi
  bl : ∀ b, lv.ownBlock = some b → v.ownBlock = some b ∨ W1.heap.size ≤ b
theorem GIn.next {W1 wi w' : World} {B : Nat} {v lv : Value} {n m q : Nat} (h : GIn W1 wi B v lv n m q) (hb : Below wi.heap.size wi w') : GIn W1 w' B v lv n m q :=
  ⟨h.ow.below hb, h.rd.fr (E := fun _ => False) (Fr.ofBelow hb) (fun _ _ e => e), h.fr.trans (E' := fun _ => False) (Fr.ofBelow hb) (fun _ _ e => e.elim), h.bl⟩
theorem GIn.step {W1 wi w' : World} {B : Nat} {v lv lv' : Value} {n m q : Nat} (h : GIn W1 wi B v lv n m q) (ho : Own8 w' B lv' (List.replicate (n + q) (mk8 m) ++ [mk8 m])) (hd : (lv'.ownBlock = lv.ownBlock ∧ wi.grownBy w' lv.ownBlock) ∨ (wi.grownBy w' none ∧ ∀ b, lv'.ownBlock = some b → wi.heap.size ≤ b)) : GIn W1 w' B v lv' n m (q + 1) := by
  have ho2 : Own8 w' B lv' (List.replicate (n + (q + 1)) (mk8 m)) := by
    rw [show n + (q + 1) = (n + q) + 1 by omega, List.replicate_succ']; exact ho
  rcases hd with ⟨e, hg⟩ | ⟨hg, hb⟩
  · have hf : Fr (fun b => lv.ownBlock = some b) wi w' := Fr.grown hg (fun r e => e)
    refine ⟨ho2, ?_, h.fr.trans hf (fun b hb e' => ?_), fun b hb => h.bl b (e ▸ hb)⟩
    · by_cases hv : ∃ b, v.ownBlock = some b ∧ lv.ownBlock = some b
      · obtain ⟨b, hv1, hv2⟩ := hv
        obtain ⟨a, c, hva, hr, hq⟩ := h.rd
        obtain ⟨a', c', rfl, _, _, hq'⟩ := ho2.shape
        subst hva
        cases a with
        | none => cases hv1
        | some z =>
          cases a' with
          | none => rw [hv2] at e; cases e
          | some z' =>
            obtain ⟨z1, z2⟩ := hq z rfl
            obtain ⟨z3, z4, _⟩ := hq' z' rfl
            have e1 : z.block = b := by cases hv1; rfl
            have e2 : z'.block = b := by rw [hv2] at e; cases e; rfl
            have ez : z = z' := by
              obtain ⟨zb, zo, zs⟩ := z
              obtain ⟨zb', zo', zs'⟩ := z'
              simp only at z1 z2 z3 z4 e1 e2
              subst z1 z2 z3 z4 e1 e2
              rfl
            subst ez
            refine ⟨_, _, rfl, ?_, hq⟩
            have hr2 := ho2.rd.2
            rcases hr2 with e0 | ⟨p, off, e0, hp, hc⟩
            · left
              have := congrArg List.length e0
              simp at this
            · refine .inr ⟨p, off, e0, hp, fun i hi => ?_⟩
              have hi' : i < n := by simpa using hi
              have := hc i (by simp; omega)
              simpa using this
      · exact h.rd.fr hf (fun b hb e' => hv ⟨b, hb, e'⟩)
    · rcases h.bl b e' with e' | e'
      · exact e'
      · omega
  · refine ⟨ho2, h.rd.fr (E := fun _ => False) (Fr.grown hg (fun r e => by cases e)) (fun _ _ e => e), h.fr.trans (E' := fun _ => False) (Fr.grown hg (fun r e => by cases e)) (fun _ _ e => e.elim), fun b hb' => .inr (Nat.le_trans h.fr.size (hb b hb'))⟩
def GE (hs : List Hb) (vb : Value) (b : Nat) : Prop := LE hs b ∨ vb.ownBlock = some b
/- What holds of the lists while they are growing. -/
structure Gr (W wr : World) (B g : Nat) (vb : Value) (n : Nat) (hs ks : List Hb) (k : Nat) : Prop where
  bk : Bk wr B g vb n ks
  sep : Sep g vb ks
  lim : ∀ x ∈ ks, x.xs.length ≤ 100000000 ∧ x.m < 1000000000 ∧ ∃ a n c, x.vl = .slice a n c
  dn : ∀ j (hj : j < ks.length), j < k → Own8 wr B ks[j].vl (List.replicate (ks[j].xs.length + 40) (mk8 ks[j].m)) ∧ RdV wr ks[j].v (List.replicate ks[j].xs.length (mk8 ks[j].m)) ∧ (∀ b, ks[j].vl.ownBlock = some b → vb.ownBlock ≠ some b) ∧ ∀ i (hi : i < ks.length), k ≤ i → ∀ b, ks[j].vl.ownBlock = some b → ks[i].v.ownBlock ≠ some b
  td : ∀ j (hj : j < ks.length), k ≤ j → Own8 wr B ks[j].v (List.replicate ks[j].xs.length (mk8 ks[j].m))
  fr : Fr (GE hs vb) W wr
  le : ∀ b, LE ks b → LE hs b
theorem Gr.next {W wr w' : World} {B g n k : Nat} {vb : Value} {hs ks : List Hb} (h : Gr W wr B g vb n hs ks k) (hb : Below wr.heap.size wr w') : Gr W w' B g vb n hs ks k :=
  ⟨h.bk.next hb, h.sep, h.lim, fun j hj hk => ⟨(h.dn j hj hk).1.below hb, (h.dn j hj hk).2.1.fr (E := fun _ => False) (Fr.ofBelow hb) (fun _ _ e => e), (h.dn j hj hk).2.2⟩, fun j hj hk => (h.td j hj hk).below hb, h.fr.trans (E' := fun _ => False) (Fr.ofBelow hb) (fun _ _ e => e.elim), h.le⟩
theorem Sep.set {g : Nat} {vb : Value} {ks : List Hb} (s : Sep g vb ks) {k : Nat} (hk : k < ks.length) (u : Value) : Sep g vb (ks.set k { ks[k] with vl := u }) := by
  have hv : ∀ j (hj : j < (ks.set k { ks[k] with vl := u }).length), (ks.set k { ks[k] with vl := u })[j].v = (ks[j]'(by simpa using hj)).v := fun j hj => by
    rw [List.getElem_set]; split
    · rename_i e; subst e; rfl
    · rfl
  refine ⟨fun x hx => ?_, fun x hx => ?_, fun i j hi hj hne => ?_⟩
  · obtain ⟨j, hj, rfl⟩ := List.getElem_of_mem hx
    rw [hv]; exact s.g _ (List.getElem_mem _)
  · obtain ⟨j, hj, rfl⟩ := List.getElem_of_mem hx
    rw [hv]; exact s.b _ (List.getElem_mem _)
  · rw [hv, hv]; exact s.p i j _ _ hne
end Go.Proofs.YtlddnpgcoekaaaaGreatDoor
