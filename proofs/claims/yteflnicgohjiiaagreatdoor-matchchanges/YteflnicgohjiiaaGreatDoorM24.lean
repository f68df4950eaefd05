/- Pieces of the proof: BgP, BgQ. -/
import Derived.Test.YteflnicgohjiiaaGreatDoorM22
import Derived.Deep.RegionLaw
import Derived.Maps.AppendAt
import Derived.Test.YteflnicgohjiiaaGreatDoorM23
/- A list is kept in a Book: what that leaves, of any kind. -/
namespace Go.Proofs.YteflnicgohjiiaaGreatDoor
open Go.RowKit

theorem GB.num {ht o : Nat} {W : World} {B g : Nat} {vb : Value} {hs : List Hc} (h : GB ht o W B g vb hs) (ho : o ≠ 0) (u : Value) : GB ht o (W.setCell ⟨g, 0, none⟩ u) B g vb hs := by
  have hF : Fr (fun b => b = g) W (W.setCell ⟨g, 0, none⟩ u) := (Fr.refl _ W).set _ _ rfl
  have se : (W.setCell ⟨g, 0, none⟩ u).cell? ⟨g, o, none⟩ = W.cell? ⟨g, o, none⟩ := World.cell?_setCell_other W _ _ _ (fun e => ho (by injection e with _ e; exact e.symm))
  exact ⟨h.gB, se.trans h.co, fun o => by rw [World.frozen?_setCell]; exact h.soft o, owR_fr h.row hF (fun b hb e => h.ne (by rw [hb, e])), h.ne⟩
def BEc (g : Nat) (vb : Value) (b : Nat) : Prop := b = g ∨ vb.ownBlock = some b
theorem GB.lay {ht o : Nat} {W W' : World} {B g : Nat} {vb vb' : Value} {hs ks : List Hc} (h : GB ht o W B g vb hs) (hg : W.grownBy W' vb.ownBlock) (ho : W'.ownsRow B ht 3 vb' ks.length (flatC ks)) (hv : vb'.ownBlock = vb.ownBlock ∨ vb'.ownBlock = some W.heap.size) :
    GB ht o (W'.setCell ⟨g, o, none⟩ vb') B g vb' ks ∧ Fr (BEc g vb) W (W'.setCell ⟨g, o, none⟩ vb') ∧ (∀ b, vb'.ownBlock = some b → vb.ownBlock = some b ∨ W.heap.size ≤ b) ∧ ∀ p, p ≠ o → (W'.setCell ⟨g, o, none⟩ vb').cell? ⟨g, p, none⟩ = W.cell? ⟨g, p, none⟩ := by
  have hgb : W'.heap[g]? = W.heap[g]? := hg.block g h.lt (fun e => h.ne e.symm)
  have hbl : ∀ b, vb'.ownBlock = some b → vb.ownBlock = some b ∨ W.heap.size ≤ b := fun b e => by
    rcases hv with e' | e'
    · exact .inl (e' ▸ e)
    · rw [e'] at e; injection e with e; exact .inr (by omega)
  have hne : vb'.ownBlock ≠ some g := fun e => by
    rcases hbl g e with e | e
    · exact h.ne e
    · have := h.lt; omega
  have hc : ∀ o, W'.cell? ⟨g, o, none⟩ = W.cell? ⟨g, o, none⟩ := fun o => World.cell?_of_block (w := W) (a := ⟨g, o, none⟩) hgb
  have se : ∀ p, p ≠ o → (W'.setCell ⟨g, o, none⟩ vb').cell? ⟨g, p, none⟩ = W.cell? ⟨g, p, none⟩ := fun p hp => (World.cell?_setCell_other W' _ _ _ (fun e => hp (by injection e with _ e; exact e.symm))).trans (hc p)
  have hF : Fr (fun b => b = g) W' (W'.setCell ⟨g, o, none⟩ vb') := (Fr.refl _ W').set _ _ rfl
  refine ⟨⟨h.gB, World.cell?_setCell_same' _ _ _ (by rw [hc o, h.co]; rfl), fun o => ?_, owR_fr ho hF (fun b hb e => hne (by rw [hb, e])), hne⟩, (Fr.grown hg (fun r e => .inr e)).set _ _ (.inl rfl), hbl, se⟩
  rw [World.frozen?_setCell]; exact (World.frozen?_of_block (w := W) (a := ⟨g, o, none⟩) hgb).trans (h.soft o)
/- What keeping leaves: the Book's row is longer by one; its number is one more; its other cells are as they were. -/
structure KeptC (ht o : Nat) (W W' : World) (B g : Nat) (vb vb' : Value) (n : Nat) (ks : List Hc) : Prop where
  bk : GB ht o W' B g vb' ks
  c0 : W'.cell? ⟨g, 0, none⟩ = some (.int .i64 (n : Int))
  fr : Fr (BEc g vb) W W'
  bl : ∀ b, vb'.ownBlock = some b → vb.ownBlock = some b ∨ W.heap.size ≤ b
  cs : ∀ p, p ≠ o → p ≠ 0 → W'.cell? ⟨g, p, none⟩ = W.cell? ⟨g, p, none⟩
def upd {α : Type} (f : Nat → α) (o : Nat) (x : α) : Nat → α := fun j => if j = o then x else f j
theorem upd_same {α : Type} (f : Nat → α) (o : Nat) (x : α) : upd f o x o = x := by simp [upd]
theorem upd_ne {α : Type} (f : Nat → α) {o j : Nat} (x : α) (h : j ≠ o) : upd f o x j = f j := by simp [upd, h]
theorem BokG.keep {K : Nat → Kd} {W W' : World} {B g n o len c : Nat} {v : Nat → Value} {hs : Nat → List Hc} {a : Option Addr} {xs : List Value} {vb' : Value} (ok : KdOk K) (h : BokG K W B g v hs) (ho : OoB o) (hown : W.ownsRow B (K o).et (K o).c (.slice a len c) len xs) (hx : len ≤ 100000000) (hlen : (hs o).length < 1000000) (hn : n + 1 < 1000000000) (s1 : (Value.slice a len c).ownBlock ≠ some g) (s3 : ∀ x ∈ hs o, ∀ b, x.v.ownBlock = some b → (Value.slice a len c).ownBlock ≠ some b)
    (hk : KeptC (K o).ht o W W' B g (v o) vb' (n + 1) (hs o ++ [⟨.slice a len c, .slice none 0 0, n + 1, len⟩])) : BokG K W' B g (upd v o vb') (upd hs o (hs o ++ [⟨.slice a len c, .slice none 0 0, n + 1, len⟩])) := by
  have nE : ∀ {e c n : Nat} {v1 : Value} {xs : List Value}, W.ownsRow B e c v1 n xs → e ≠ (K o).ht → v1.ownBlock ≠ some g → ∀ b, v1.ownBlock = some b → ¬ BEc g (v o) b := fun hw hne hg b hb hE => by
    rcases hE with e | e
    · exact hg (by rw [hb, e])
    · obtain ⟨c1, e1⟩ := row_ty hw hb
      obtain ⟨c2, e2⟩ := row_ty (h.bk o ho).row e
      exact hne (ty_ne e1 e2)
  have OW : ∀ x ∈ hs o ++ [(⟨.slice a len c, .slice none 0 0, n + 1, len⟩ : Hc)], (∃ n ys, W.ownsRow B (K o).et (K o).c x.v n ys) ∧ (∃ xs, W'.ownsRow B (K o).et (K o).c x.v x.n xs) ∧ x.v.ownBlock ≠ some g ∧ x.n ≤ 100000000 ∧ x.m < 1000000000 ∧ ∃ a n c, x.vl = .slice a n c := fun x hm => by
    rcases List.mem_append.1 hm with hm | hm
    · obtain ⟨ys, hy⟩ := h.own o ho x hm
      exact ⟨⟨_, ys, hy⟩, ⟨ys, owR_fr hy hk.fr (nE hy (ok.eh o o ho ho) ((h.sep o ho).g x hm))⟩, (h.sep o ho).g x hm, h.lim o ho x hm⟩
    · simp at hm; subst hm
      exact ⟨⟨_, xs, hown⟩, ⟨xs, owR_fr hown hk.fr (nE hown (ok.eh o o ho ho) s1)⟩, s1, hx, hn, _, _, _, rfl⟩
  have SS : SepC g vb' (hs o ++ [⟨.slice a len c, .slice none 0 0, n + 1, len⟩]) := by
    refine ⟨fun x hm => (OW x hm).2.2.1, fun x hm b hb' e => ?_, fun i j hi hj hne b hbi hbj => ?_⟩
    · obtain ⟨_, ys, hy⟩ := (OW x hm).1
      rcases hk.bl b e with e | e
      · obtain ⟨c1, e1⟩ := row_ty hy hb'
        obtain ⟨c2, e2⟩ := row_ty (h.bk o ho).row e
        exact ok.eh o o ho ho (ty_ne e1 e2)
      · have := (World.ownsRow.lt hy b hb').2; omega
    · by_cases h1 : i < (hs o).length
      · rw [List.getElem_append_left h1] at hbi
        by_cases h2 : j < (hs o).length
        · rw [List.getElem_append_left h2] at hbj
          exact (h.sep o ho).p i j h1 h2 hne b hbi hbj
        · have : j = (hs o).length := by simp at hj; omega
          subst this
          simp only [List.getElem_concat_length] at hbj
          exact s3 _ (List.getElem_mem h1) b hbi hbj
      · have : i = (hs o).length := by simp at hi; omega
        subst this
        simp only [List.getElem_concat_length] at hbi
        have h2 : j < (hs o).length := by simp at hj; omega
        rw [List.getElem_append_left h2] at hbj
        exact s3 _ (List.getElem_mem h2) b hbj hbi
  refine ⟨fun j hj => ?_, fun j hj => ?_, fun j hj => ?_, fun j hj => ?_, fun j hj => ?_⟩ <;> by_cases e : j = o
  · subst e; rw [upd_same, upd_same]; exact hk.bk
  · rw [upd_ne _ _ e, upd_ne _ _ e]
    have hj0 := h.bk j hj
    exact ⟨hj0.gB, (hk.cs j e (by have := hj.1; omega)).trans hj0.co, hk.bk.soft, owR_fr hj0.row hk.fr (nE hj0.row (ok.hh j o hj ho e) hj0.ne), hj0.ne⟩
  · subst e; rw [upd_same, upd_same]; exact SS
  · rw [upd_ne _ _ e, upd_ne _ _ e]; exact h.sep j hj
  · subst e; rw [upd_same]; exact fun x hm => (OW x hm).2.1
  · rw [upd_ne _ _ e]; exact fun x hm => by
      obtain ⟨ys, hy⟩ := h.own j hj x hm
      exact ⟨ys, owR_fr hy hk.fr (nE hy (ok.eh j o hj ho) ((h.sep j hj).g x hm))⟩
  · subst e; rw [upd_same]; exact fun x hm => (OW x hm).2.2.2
  · rw [upd_ne _ _ e]; exact h.lim j hj
  · subst e; rw [upd_same]; simp; omega
  · rw [upd_ne _ _ e]; exact h.len j hj
/- A call that keeps a list. -/
def KeepOk (d : Kd) (F o : Nat) : Prop := ∀ W B g n vb hs, GB d.ht o W B g vb hs → W.cell? ⟨g, 0, none⟩ = some (.int .i64 ((n : Nat) : Int)) → hs.length ≤ 1000000 → n < 100000000 → ∀ (a : Option Addr) (m c : Nat), Calls Tryz.prog F #[.pointer (some ⟨g, 0, none⟩), .slice a m c] W fun e W' => e = .returned (.tuple #[]) ∧ ∃ vb', KeptC d.ht o W W' B g vb vb' (n + 1) (hs ++ [⟨.slice a m c, .slice none 0 0, n + 1, m⟩])
end Go.Proofs.YteflnicgohjiiaaGreatDoor
/- A Book, and lists that it has not been told yet: each with its kind, its value, its length. -/
namespace Go.Proofs.YteflnicgohjiiaaGreatDoor
open Go.RowKit

structure BoG (K : Nat → Kd) (live : Nat → Bool) (w Wg W : World) (n : Nat) (v : Nat → Value) (hs : Nat → List Hc) (us : List (Nat × Value × Nat)) : Prop where
  bl : Below w.heap.size w W
  wg : w.heap.size ≤ Wg.heap.size
  fg : Below Wg.heap.size Wg W
  gv : ∀ o, OoB o → ∀ b, (v o).ownBlock = some b → Wg.heap.size ≤ b
  bo : BokG K W w.heap.size Wg.heap.size v hs
  z : ∀ o, OoB o → live o = false → v o = .slice none 0 0 ∧ hs o = []
  c0 : W.cell? ⟨Wg.heap.size, 0, none⟩ = some (.int .i64 ((n : Nat) : Int))
  ln : ∀ o, OoB o → (hs o).length ≤ n
  ow : ∀ u ∈ us, OoB u.1 ∧ live u.1 = true ∧ (∃ xs, W.ownsRow w.heap.size (K u.1).et (K u.1).c u.2.1 u.2.2 xs) ∧ u.2.2 ≤ 100000000 ∧ u.2.1.ownBlock ≠ some Wg.heap.size
  s3 : ∀ u ∈ us, ∀ x ∈ hs u.1, ∀ b, x.v.ownBlock = some b → u.2.1.ownBlock ≠ some b
  s4 : us.Pairwise (fun u u' => u.1 = u'.1 → ∀ b, u.2.1.ownBlock = some b → u'.2.1.ownBlock ≠ some b)
theorem oob1 : OoB 1 := ⟨by decide, by decide⟩
theorem BoG.BW {K : Nat → Kd} {live : Nat → Bool} {w Wg W : World} {n : Nat} {v : Nat → Value} {hs : Nat → List Hc} {us : List (Nat × Value × Nat)} (h : BoG K live w Wg W n v hs us) : Wg.heap.size < W.heap.size := (h.bo.bk 1 oob1).lt
theorem BoG.next {K : Nat → Kd} {live : Nat → Bool} {w Wg W W' : World} {n : Nat} {v : Nat → Value} {hs : Nat → List Hc} {us : List (Nat × Value × Nat)} (h : BoG K live w Wg W n v hs us) (hb : Below W.heap.size W W') : BoG K live w Wg W' n v hs us := by
  have hf : Fr (fun _ => False) W W' := Fr.ofBelow hb
  exact ⟨h.bl.trans (hb.mono h.bl.size), h.wg, h.fg.trans (hb.mono h.fg.size), h.gv, ⟨fun o ho => (h.bo.bk o ho).next hb, h.bo.sep, fun o ho x hx => (h.bo.own o ho x hx).imp fun _ hy => owR_below hy hb, h.bo.lim, h.bo.len⟩, h.z, hf.cell h.c0 (fun e => e), h.ln, fun u hu => ⟨(h.ow u hu).1, (h.ow u hu).2.1, (h.ow u hu).2.2.1.imp fun _ hy => owR_below hy hb, (h.ow u hu).2.2.2⟩, h.s3, h.s4⟩
theorem BoG.tell {K : Nat → Kd} {live : Nat → Bool} {w Wg W : World} {n F : Nat} {v : Nat → Value} {hs : Nat → List Hc} {u : Nat × Value × Nat} {us : List (Nat × Value × Nat)} (ok : KdOk K) (h : BoG K live w Wg W n v hs (u :: us)) (hF : KeepOk (K u.1) F u.1) (hn : n < 900000) :
    Calls Tryz.prog F #[.pointer (some ⟨Wg.heap.size, 0, none⟩), u.2.1] W fun e W' => e = .returned (.tuple #[]) ∧ ∃ v' hs', BoG K live w Wg W' (n + 1) v' hs' us ∧ Below Wg.heap.size Wg W' ∧ Fr (BEc Wg.heap.size (v u.1)) W W' := by
  obtain ⟨o, vv, len⟩ := u
  obtain ⟨ho, hlv, ⟨xs, u1⟩, u2, u3⟩ := h.ow _ (List.mem_cons_self ..)
  have s3 := h.s3 _ (List.mem_cons_self ..)
  have s4 := List.pairwise_cons.1 h.s4
  simp only at *
  obtain ⟨a, c, rfl⟩ := owR_shape u1
  have hl := h.ln o ho
  refine (hF W _ _ n (v o) (hs o) (h.bo.bk o ho) h.c0 (by omega) (by omega) a len c).mono ?_
  rintro e W' ⟨rfl, vb', hk⟩
  have hE : ∀ b, BEc Wg.heap.size (v o) b → Wg.heap.size ≤ b := fun b k => by
    rcases k with k | k
    · omega
    · exact h.gv o ho b k
  have hG := h.fg.trans (hk.fr.below hE (Nat.le_of_lt h.BW))
  have nE : ∀ {e c n : Nat} {v1 : Value} {xs : List Value}, W.ownsRow w.heap.size e c v1 n xs → e ≠ (K o).ht → v1.ownBlock ≠ some Wg.heap.size → ∀ b, v1.ownBlock = some b → ¬ BEc Wg.heap.size (v o) b := fun hw hne hg b hb hE => by
    rcases hE with e | e
    · exact hg (by rw [hb, e])
    · obtain ⟨c1, e1⟩ := row_ty hw hb
      obtain ⟨c2, e2⟩ := row_ty (h.bo.bk o ho).row e
      exact hne (ty_ne e1 e2)
  refine ⟨rfl, upd v o vb', upd hs o (hs o ++ [⟨.slice a len c, .slice none 0 0, n + 1, len⟩]), ⟨h.bl.trans ((hk.fr.below hE (Nat.le_of_lt h.BW)).mono h.wg), h.wg, hG, fun j hj b hb => ?_, h.bo.keep ok ho u1 u2 (by omega) (by omega) u3 s3 hk, fun j hj hz => ?_, hk.c0, fun j hj => ?_, fun x hx => ?_, fun x hx y hy b hyb => ?_, s4.2⟩, hG, hk.fr⟩
  · by_cases e : j = o
    · subst e; rw [upd_same] at hb
      rcases hk.bl b hb with k | k
      · exact h.gv j hj b k
      · have := h.BW; omega
    · rw [upd_ne _ _ e] at hb; exact h.gv j hj b hb
  · have e : j ≠ o := fun e => by subst e; rw [hlv] at hz; cases hz
    rw [upd_ne _ _ e, upd_ne _ _ e]; exact h.z j hj hz
  · by_cases e : j = o
    · subst e; rw [upd_same]; simp; omega
    · rw [upd_ne _ _ e]; have := h.ln j hj; omega
  · obtain ⟨x0, x1, ⟨ys, x2⟩, x3, x4⟩ := h.ow x (List.mem_cons_of_mem _ hx)
    exact ⟨x0, x1, ⟨ys, owR_fr x2 hk.fr (nE x2 (ok.eh _ _ x0 ho) x4)⟩, x3, x4⟩
  · by_cases e : x.1 = o
    · rw [e, upd_same] at hy
      rcases List.mem_append.1 hy with hy | hy
      · exact h.s3 x (List.mem_cons_of_mem _ hx) y (e ▸ hy) b hyb
      · rw [List.mem_singleton.1 hy] at hyb
        exact s4.1 x hx e.symm b hyb
    · rw [upd_ne _ _ e] at hy
      exact h.s3 x (List.mem_cons_of_mem _ hx) y hy b hyb
theorem BoG.apart {K : Nat → Kd} {live : Nat → Bool} {w Wg W : World} {n : Nat} {v : Nat → Value} {hs : Nat → List Hc} (ok : KdOk K) (O : BookOk K live w w.heap.size) (h : BoG K live w Wg W n v hs []) : Calls Tryz.prog 20 #[.pointer (some ⟨Wg.heap.size, 0, none⟩)] W fun e W' => e = .returned (.bool true) ∧ Below w.heap.size w W' :=
  apartG O (h.bo.st ok h.z) (h.bo.fill h.bl (Nat.le_refl _))
def bk0 : Array Value := #[.int .i64 0, .slice none 0 0, .slice none 0 0, .slice none 0 0, .slice none 0 0, .slice none 0 0, .slice none 0 0, .slice none 0 0, .slice none 0 0, .slice none 0 0, .slice none 0 0, .slice none 0 0, .slice none 0 0, .slice none 0 0, .slice none 0 0, .slice none 0 0, .slice none 0 0, .slice none 0 0, .slice none 0 0, .slice none 0 0, .slice none 0 0, .slice none 0 0, .slice none 0 0, .slice none 0 0, .slice none 0 0, .slice none 0 0, .slice none 0 0, .slice none 0 0, .slice none 0 0, .slice none 0 0, .slice none 0 0]
theorem BoG.start {K : Nat → Kd} {live : Nat → Bool} {w W : World} {us : List (Nat × Value × Nat)} (bl : Below w.heap.size w W) (ow : ∀ u ∈ us, OoB u.1 ∧ live u.1 = true ∧ (∃ xs, W.ownsRow w.heap.size (K u.1).et (K u.1).c u.2.1 u.2.2 xs) ∧ u.2.2 ≤ 100000000) (s4 : us.Pairwise (fun u u' => u.1 = u'.1 → ∀ b, u.2.1.ownBlock = some b → u'.2.1.ownBlock ≠ some b)) (t : TypeId) : BoG K live w W (W.alloc (.cells bk0 t)) 0 (fun _ => .slice none 0 0) (fun _ => []) us := by
  have ba : Below W.heap.size W (W.alloc (.cells bk0 t)) := (Below.refl _ W).alloc (Nat.le_refl _) _
  have hn : (W.alloc (.cells bk0 t)).heap[W.heap.size]? = some (.cells bk0 t (0, 0)) := heap_alloc_new W _
  have hc : ∀ o, OoB o → (W.alloc (.cells bk0 t)).cell? ⟨W.heap.size, o, none⟩ = some (.slice none 0 0) := fun o h => by
    obtain ⟨h1, h2⟩ := h
    unfold World.cell?; simp only [hn]
    match o, h1, h2 with
    | 1, _, _ => rfl | 2, _, _ => rfl | 3, _, _ => rfl | 4, _, _ => rfl | 5, _, _ => rfl | 6, _, _ => rfl | 7, _, _ => rfl | 8, _, _ => rfl | 9, _, _ => rfl | 10, _, _ => rfl
    | 11, _, _ => rfl | 12, _, _ => rfl | 13, _, _ => rfl | 14, _, _ => rfl | 15, _, _ => rfl | 16, _, _ => rfl | 17, _, _ => rfl | 18, _, _ => rfl | 19, _, _ => rfl | 20, _, _ => rfl
    | 21, _, _ => rfl | 22, _, _ => rfl | 23, _, _ => rfl | 24, _, _ => rfl | 25, _, _ => rfl | 26, _, _ => rfl | 27, _, _ => rfl | 28, _, _ => rfl | 29, _, _ => rfl | 30, _, _ => rfl
    | o + 31, _, h => omega
  have c0 : (W.alloc (.cells bk0 t)).cell? ⟨W.heap.size, 0, none⟩ = some (.int .i64 ((0 : Nat) : Int)) := by unfold World.cell?; simp only [hn]; rfl
  have sf : ∀ o, (W.alloc (.cells bk0 t)).frozen? ⟨W.heap.size, o, none⟩ = false := fun o => by unfold World.frozen?; simp only [hn]; simp
  have sp : SepC W.heap.size (.slice none 0 0) [] := ⟨fun x hx => by simp at hx, fun x hx => by simp at hx, fun i j hi => by simp at hi⟩
  refine ⟨bl.trans (ba.mono bl.size), bl.size, ba, (fun o _ b e => by cases e), ⟨fun o ho => ⟨bl.size, hc o ho, sf, World.ownsRow_nil _ _ _ _, by intro h; cases h⟩, fun o _ => sp, fun o _ x hx => by simp at hx, fun o _ x hx => by simp at hx, fun o _ => by simp⟩, fun o _ _ => ⟨rfl, rfl⟩, c0, fun o _ => by simp, fun u hu => ?_, fun u hu x hx => by simp at hx, s4⟩
  obtain ⟨h1, h2, ⟨xs, h3⟩, h4⟩ := ow u hu
  refine ⟨h1, h2, ⟨xs, owR_below h3 ba⟩, h4, fun e => ?_⟩
  have := (World.ownsRow.lt h3 _ e).2
  omega
end Go.Proofs.YteflnicgohjiiaaGreatDoor
