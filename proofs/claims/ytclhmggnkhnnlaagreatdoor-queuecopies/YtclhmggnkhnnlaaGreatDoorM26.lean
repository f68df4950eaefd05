/- Pieces of the proof: BgP. -/
import Derived.Test.YtclhmggnkhnnlaaGreatDoorM25
import Derived.Deep.RegionLaw
import Derived.Maps.AppendAt
/- A list is kept in a Book: what that leaves, of any kind. -/
namespace Go.Proofs.YtclhmggnkhnnlaaGreatDoor
open Go.RowKit

theorem GB.num {ht o : Nat} {W : World} {B g : Nat} {vb : Value} {hs : List Hc} (h : GB ht o W B g vb hs) (ho : o ≠ 0) (u : Value) : GB ht o (W.setCell ⟨g, 0, none⟩ u) B g vb hs := by
  have hF : Fr (fun b => b = g) W (W.setCell ⟨g, 0, none⟩ u) := (Fr.refl _ W).set _ _ rfl
  have se : (W.setCell ⟨g, 0, none⟩ u).cell? ⟨g, o, none⟩ = W.cell? ⟨g, o, none⟩ := World.cell?_setCell_other W _ _ _ (fun e => ho (by injection e with _ e; exact e.symm))
  exact ⟨h.gB, se.trans h.co, fun o => by rw [World.frozen?_setCell]; exact h.soft o, owR_fr h.row hF (fun b hb e => h.ne (by rw [hb, e])), h.ne⟩
def BEc (g : Nat) (vb : Value) (b : Nat) : Prop := b = g ∨ vb.ownBlock = some b
theorem GB.lay {ht o : Nat} {W W' : World} {B g : Nat} {vb vb' : Value} {hs ks : List Hc} (h : GB ht o W B g vb hs) (hg : W.grownBy W' vb.ownBlock) (ho : W'.ownsRow B ht 3 vb' ks.length (flatC ks)) (hv : vb'.ownBlock = vb.ownBlock ∨ vb'.ownBlock = some W.heap.size) :
    GB ht o (W'.setCell ⟨g, o, none⟩ vb') B g vb' ks ∧ Fr (BEc g vb) W (W'.setCell ⟨g, o, none⟩ vb') ∧ (∀ b, vb'.ownBlock = some b → vb.ownBlock = some b ∨ W.heap.size ≤ b) ∧ ∀ p, p ≠ o → (W'.setCell ⟨g, o, none⟩ vb').cell? ⟨g, p, none⟩ = W.cell? ⟨g, p, none⟩ := by
  have hgb : W'.heap[g]? = W.heap[g]? := hg.block g h.lt (fun e => h.ne e.symm)
  have hbl : ∀ b, vb'.ownBlock = some b → vb.ownBlock = some b ∨ W.heap.size ≤ b := fun b e => by
    rcases hv with e' | e'
    · exact .inl (e' ▸ e)
    · rw [e'] at e; injection e with e; exact .inr (by omega)
  have hne : vb'.ownBlock ≠ some g := fun e => by
    rcases hbl g e with e | e
    · exact h.ne e
    · have := h.lt; omega
  have hc : ∀ o, W'.cell? ⟨g, o, none⟩ = W.cell? ⟨g, o, none⟩ := fun o => World.cell?_of_block (w := W) (a := ⟨g, o, none⟩) hgb
  have se : ∀ p, p ≠ o → (W'.setCell ⟨g, o, none⟩ vb').cell? ⟨g, p, none⟩ = W.cell? ⟨g, p, none⟩ := fun p hp => (World.cell?_setCell_other W' _ _ _ (fun e => hp (by injection e with _ e; exact e.symm))).trans (hc p)
  have hF : Fr (fun b => b = g) W' (W'.setCell ⟨g, o, none⟩ vb') := (Fr.refl _ W').set _ _ rfl
  refine ⟨⟨h.gB, World.cell?_setCell_same' _ _ _ (by rw [hc o, h.co]; rfl), fun o => ?_, owR_fr ho hF (fun b hb e => hne (by rw [hb, e])), hne⟩, (Fr.grown hg (fun r e => .inr e)).set _ _ (.inl rfl), hbl, se⟩
  rw [World.frozen?_setCell]; exact (World.frozen?_of_block (w := W) (a := ⟨g, o, none⟩) hgb).trans (h.soft o)
/- What keeping leaves: the Book's row is longer by one; its number is one more; its other cells are as they were. -/
structure KeptC (ht o : Nat) (W W' : World) (B g : Nat) (vb vb' : Value) (n : Nat) (ks : List Hc) : Prop where
  bk : GB ht o W' B g vb' ks
  c0 : W'.cell? ⟨g, 0, none⟩ = some (.int .i64 (n : Int))
  fr : Fr (BEc g vb) W W'
  bl : ∀ b, vb'.ownBlock = some b → vb.ownBlock = some b ∨ W.heap.size ≤ b
  cs : ∀ p, p ≠ o → p ≠ 0 → W'.cell? ⟨g, p, none⟩ = W.cell? ⟨g, p, none⟩
def upd {α : Type} (f : Nat → α) (o : Nat) (x : α) : Nat → α := fun j => if j = o then x else f j
theorem upd_same {α : Type} (f : Nat → α) (o : Nat) (x : α) : upd f o x o = x := by simp [upd]
theorem upd_ne {α : Type} (f : Nat → α) {o j : Nat} (x : α) (h : j ≠ o) : upd f o x j = f j := by simp [upd, h]
theorem BokG.keep {K : Nat → Kd} {W W' : World} {B g n o len c : Nat} {v : Nat → Value} {hs : Nat → List Hc} {a : Option Addr} {xs : List Value} {vb' : Value} (ok : KdOk K) (h : BokG K W B g v hs) (ho : OoB o) (hown : W.ownsRow B (K o).et (K o).c (.slice a len c) len xs) (hx : len ≤ mxK o) (hlen : (hs o).length < 1000000) (hn : n + 1 < 1000000000) (s1 : (Value.slice a len c).ownBlock ≠ some g) (s3 : ∀ x ∈ hs o, ∀ b, x.v.ownBlock = some b → (Value.slice a len c).ownBlock ≠ some b)
    (hk : KeptC (K o).ht o W W' B g (v o) vb' (n + 1) (hs o ++ [⟨.slice a len c, .slice none 0 0, n + 1, len⟩])) : BokG K W' B g (upd v o vb') (upd hs o (hs o ++ [⟨.slice a len c, .slice none 0 0, n + 1, len⟩])) := by
  have nE : ∀ {e c n : Nat} {v1 : Value} {xs : List Value}, W.ownsRow B e c v1 n xs → e ≠ (K o).ht → v1.ownBlock ≠ some g → ∀ b, v1.ownBlock = some b → ¬ BEc g (v o) b := fun hw hne hg b hb hE => by
    rcases hE with e | e
    · exact hg (by rw [hb, e])
    · obtain ⟨c1, e1⟩ := row_ty hw hb
      obtain ⟨c2, e2⟩ := row_ty (h.bk o ho).row e
      exact hne (ty_ne e1 e2)
  have OW : ∀ x ∈ hs o ++ [(⟨.slice a len c, .slice none 0 0, n + 1, len⟩ : Hc)], (∃ n ys, W.ownsRow B (K o).et (K o).c x.v n ys) ∧ (∃ xs, W'.ownsRow B (K o).et (K o).c x.v x.n xs) ∧ x.v.ownBlock ≠ some g ∧ x.n ≤ mxK o ∧ x.m < 1000000000 ∧ ∃ a n c, x.vl = .slice a n c := fun x hm => by
    rcases List.mem_append.1 hm with hm | hm
    · obtain ⟨ys, hy⟩ := h.own o ho x hm
      exact ⟨⟨_, ys, hy⟩, ⟨ys, owR_fr hy hk.fr (nE hy (ok.eh o o ho ho) ((h.sep o ho).g x hm))⟩, (h.sep o ho).g x hm, h.lim o ho x hm⟩
    · simp at hm; subst hm
      exact ⟨⟨_, xs, hown⟩, ⟨xs, owR_fr hown hk.fr (nE hown (ok.eh o o ho ho) s1)⟩, s1, hx, hn, _, _, _, rfl⟩
  have SS : SepC g vb' (hs o ++ [⟨.slice a len c, .slice none 0 0, n + 1, len⟩]) := by
    refine ⟨fun x hm => (OW x hm).2.2.1, fun x hm b hb' e => ?_, fun i j hi hj hne b hbi hbj => ?_⟩
    · obtain ⟨_, ys, hy⟩ := (OW x hm).1
      rcases hk.bl b e with e | e
      · obtain ⟨c1, e1⟩ := row_ty hy hb'
        obtain ⟨c2, e2⟩ := row_ty (h.bk o ho).row e
        exact ok.eh o o ho ho (ty_ne e1 e2)
      · have := (World.ownsRow.lt hy b hb').2; omega
    · by_cases h1 : i < (hs o).length
      · rw [List.getElem_append_left h1] at hbi
        by_cases h2 : j < (hs o).length
        · rw [List.getElem_append_left h2] at hbj
          exact (h.sep o ho).p i j h1 h2 hne b hbi hbj
        · have : j = (hs o).length := by simp at hj; omega
          subst this
          simp only [List.getElem_concat_length] at hbj
          exact s3 _ (List.getElem_mem h1) b hbi hbj
      · have : i = (hs o).length := by simp at hi; omega
        subst this
        simp only [List.getElem_concat_length] at hbi
        have h2 : j < (hs o).length := by simp at hj; omega
        rw [List.getElem_append_left h2] at hbj
        exact s3 _ (List.getElem_mem h2) b hbj hbi
  refine ⟨fun j hj => ?_, fun j hj => ?_, fun j hj => ?_, fun j hj => ?_, fun j hj => ?_⟩ <;> by_cases e : j = o
  · subst e; rw [upd_same, upd_same]; exact hk.bk
  · rw [upd_ne _ _ e, upd_ne _ _ e]
    have hj0 := h.bk j hj
    exact ⟨hj0.gB, (hk.cs j e (by have := hj.1; omega)).trans hj0.co, hk.bk.soft, owR_fr hj0.row hk.fr (nE hj0.row (ok.hh j o hj ho e) hj0.ne), hj0.ne⟩
  · subst e; rw [upd_same, upd_same]; exact SS
  · rw [upd_ne _ _ e, upd_ne _ _ e]; exact h.sep j hj
  · subst e; rw [upd_same]; exact fun x hm => (OW x hm).2.1
  · rw [upd_ne _ _ e]; exact fun x hm => by
      obtain ⟨ys, hy⟩ := h.own j hj x hm
      exact ⟨ys, owR_fr hy hk.fr (nE hy (ok.eh j o hj ho) ((h.sep j hj).g x hm))⟩
  · subst e; rw [upd_same]; exact fun x hm => (OW x hm).2.2.2
  · rw [upd_ne _ _ e]; exact h.lim j hj
  · subst e; rw [upd_same]; simp; omega
  · rw [upd_ne _ _ e]; exact h.len j hj
/- A call that keeps a list. -/
def KeepOk (d : Kd) (F o : Nat) : Prop := ∀ W B g n vb hs, GB d.ht o W B g vb hs → W.cell? ⟨g, 0, none⟩ = some (.int .i64 ((n : Nat) : Int)) → hs.length ≤ 1000000 → n < 100000000 → ∀ (a : Option Addr) (m c : Nat), Calls Tryz.prog F #[.pointer (some ⟨g, 0, none⟩), .slice a m c] W fun e W' => e = .returned (.tuple #[]) ∧ ∃ vb', KeptC d.ht o W W' B g vb vb' (n + 1) (hs ++ [⟨.slice a m c, .slice none 0 0, n + 1, m⟩])
end Go.Proofs.YtclhmggnkhnnlaaGreatDoor
