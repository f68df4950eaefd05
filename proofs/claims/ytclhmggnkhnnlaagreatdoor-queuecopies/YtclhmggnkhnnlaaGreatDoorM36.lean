/- Pieces of the proof: BgQ. -/
import Derived.Test.YtclhmggnkhnnlaaGreatDoorM35
import Derived.Test.YtclhmggnkhnnlaaGreatDoorM26
/- A Book, and lists that it has not been told yet: each with its kind, its value, its length. -/
namespace Go.Proofs.YtclhmggnkhnnlaaGreatDoor
open Go.RowKit

structure BoG (K : Nat → Kd) (live : Nat → Bool) (w Wg W : World) (n : Nat) (v : Nat → Value) (hs : Nat → List Hc) (us : List (Nat × Value × Nat)) : Prop where
  bl : Below w.heap.size w W
  wg : w.heap.size ≤ Wg.heap.size
  fg : Below Wg.heap.size Wg W
  gv : ∀ o, OoB o → ∀ b, (v o).ownBlock = some b → Wg.heap.size ≤ b
  bo : BokG K W w.heap.size Wg.heap.size v hs
  z : ∀ o, OoB o → live o = false → v o = .slice none 0 0 ∧ hs o = []
  c0 : W.cell? ⟨Wg.heap.size, 0, none⟩ = some (.int .i64 ((n : Nat) : Int))
  ln : ∀ o, OoB o → (hs o).length ≤ n
  ow : ∀ u ∈ us, OoB u.1 ∧ live u.1 = true ∧ (∃ xs, W.ownsRow w.heap.size (K u.1).et (K u.1).c u.2.1 u.2.2 xs) ∧ u.2.2 ≤ mxK u.1 ∧ u.2.1.ownBlock ≠ some Wg.heap.size
  s3 : ∀ u ∈ us, ∀ x ∈ hs u.1, ∀ b, x.v.ownBlock = some b → u.2.1.ownBlock ≠ some b
  s4 : us.Pairwise (fun u u' => u.1 = u'.1 → ∀ b, u.2.1.ownBlock = some b → u'.2.1.ownBlock ≠ some b)
theorem oob1 : OoB 1 := ⟨by decide, by decide⟩
theorem BoG.BW {K : Nat → Kd} {live : Nat → Bool} {w Wg W : World} {n : Nat} {v : Nat → Value} {hs : Nat → List Hc} {us : List (Nat × Value × Nat)} (h : BoG K live w Wg W n v hs us) : Wg.heap.size < W.heap.size := (h.bo.bk 1 oob1).lt
theorem BoG.next {K : Nat → Kd} {live : Nat → Bool} {w Wg W W' : World} {n : Nat} {v : Nat → Value} {hs : Nat → List Hc} {us : List (Nat × Value × Nat)} (h : BoG K live w Wg W n v hs us) (hb : Below W.heap.size W W') : BoG K live w Wg W' n v hs us := by
  have hf : Fr (fun _ => False) W W' := Fr.ofBelow hb
  exact ⟨h.bl.trans (hb.mono h.bl.size), h.wg, h.fg.trans (hb.mono h.fg.size), h.gv, ⟨fun o ho => (h.bo.bk o ho).next hb, h.bo.sep, fun o ho x hx => (h.bo.own o ho x hx).imp fun _ hy => owR_below hy hb, h.bo.lim, h.bo.len⟩, h.z, hf.cell h.c0 (fun e => e), h.ln, fun u hu => ⟨(h.ow u hu).1, (h.ow u hu).2.1, (h.ow u hu).2.2.1.imp fun _ hy => owR_below hy hb, (h.ow u hu).2.2.2⟩, h.s3, h.s4⟩
theorem BoG.tell {K : Nat → Kd} {live : Nat → Bool} {w Wg W : World} {n F : Nat} {v : Nat → Value} {hs : Nat → List Hc} {u : Nat × Value × Nat} {us : List (Nat × Value × Nat)} (ok : KdOk K) (h : BoG K live w Wg W n v hs (u :: us)) (hF : KeepOk (K u.1) F u.1) (hn : n < 900000) :
    Calls Tryz.prog F #[.pointer (some ⟨Wg.heap.size, 0, none⟩), u.2.1] W fun e W' => e = .returned (.tuple #[]) ∧ ∃ v' hs', BoG K live w Wg W' (n + 1) v' hs' us ∧ Below Wg.heap.size Wg W' ∧ Fr (BEc Wg.heap.size (v u.1)) W W' := by
  obtain ⟨o, vv, len⟩ := u
  obtain ⟨ho, hlv, ⟨xs, u1⟩, u2, u3⟩ := h.ow _ (List.mem_cons_self ..)
  have s3 := h.s3 _ (List.mem_cons_self ..)
  have s4 := List.pairwise_cons.1 h.s4
  simp only at *
  obtain ⟨a, c, rfl⟩ := owR_shape u1
  have hl := h.ln o ho
  refine (hF W _ _ n (v o) (hs o) (h.bo.bk o ho) h.c0 (by omega) (by omega) a len c).mono ?_
  rintro e W' ⟨rfl, vb', hk⟩
  have hE : ∀ b, BEc Wg.heap.size (v o) b → Wg.heap.size ≤ b := fun b k => by
    rcases k with k | k
    · omega
    · exact h.gv o ho b k
  have hG := h.fg.trans (hk.fr.below hE (Nat.le_of_lt h.BW))
  have nE : ∀ {e c n : Nat} {v1 : Value} {xs : List Value}, W.ownsRow w.heap.size e c v1 n xs → e ≠ (K o).ht → v1.ownBlock ≠ some Wg.heap.size → ∀ b, v1.ownBlock = some b → ¬ BEc Wg.heap.size (v o) b := fun hw hne hg b hb hE => by
    rcases hE with e | e
    · exact hg (by rw [hb, e])
    · obtain ⟨c1, e1⟩ := row_ty hw hb
      obtain ⟨c2, e2⟩ := row_ty (h.bo.bk o ho).row e
      exact hne (ty_ne e1 e2)
  refine ⟨rfl, upd v o vb', upd hs o (hs o ++ [⟨.slice a len c, .slice none 0 0, n + 1, len⟩]), ⟨h.bl.trans ((hk.fr.below hE (Nat.le_of_lt h.BW)).mono h.wg), h.wg, hG, fun j hj b hb => ?_, h.bo.keep ok ho u1 u2 (by omega) (by omega) u3 s3 hk, fun j hj hz => ?_, hk.c0, fun j hj => ?_, fun x hx => ?_, fun x hx y hy b hyb => ?_, s4.2⟩, hG, hk.fr⟩
  · by_cases e : j = o
    · subst e; rw [upd_same] at hb
      rcases hk.bl b hb with k | k
      · exact h.gv j hj b k
      · have := h.BW; omega
    · rw [upd_ne _ _ e] at hb; exact h.gv j hj b hb
  · have e : j ≠ o := fun e => by subst e; rw [hlv] at hz; cases hz
    rw [upd_ne _ _ e, upd_ne _ _ e]; exact h.z j hj hz
  · by_cases e : j = o
    · subst e; rw [upd_same]; simp; omega
    · rw [upd_ne _ _ e]; have := h.ln j hj; omega
  · obtain ⟨x0, x1, ⟨ys, x2⟩, x3, x4⟩ := h.ow x (List.mem_cons_of_mem _ hx)
    exact ⟨x0, x1, ⟨ys, owR_fr x2 hk.fr (nE x2 (ok.eh _ _ x0 ho) x4)⟩, x3, x4⟩
  · by_cases e : x.1 = o
    · rw [e, upd_same] at hy
      rcases List.mem_append.1 hy with hy | hy
      · exact h.s3 x (List.mem_cons_of_mem _ hx) y (e ▸ hy) b hyb
      · rw [List.mem_singleton.1 hy] at hyb
        exact s4.1 x hx e.symm b hyb
    · rw [upd_ne _ _ e] at hy
      exact h.s3 x (List.mem_cons_of_mem _ hx) y hy b hyb
theorem BoG.apart {K : Nat → Kd} {live : Nat → Bool} {w Wg W : World} {n : Nat} {v : Nat → Value} {hs : Nat → List Hc} (ok : KdOk K) (O : BookOk K live w w.heap.size) (h : BoG K live w Wg W n v hs []) : Calls Tryz.prog 15 #[.pointer (some ⟨Wg.heap.size, 0, none⟩)] W fun e W' => e = .returned (.bool true) ∧ Below w.heap.size w W' :=
  apartG O (h.bo.st ok h.z) (h.bo.fill h.bl (Nat.le_refl _))
def bk0 : Array Value := #[.int .i64 0, .slice none 0 0, .slice none 0 0, .slice none 0 0, .slice none 0 0, .slice none 0 0, .slice none 0 0, .slice none 0 0, .slice none 0 0, .slice none 0 0, .slice none 0 0, .slice none 0 0, .slice none 0 0, .slice none 0 0, .slice none 0 0, .slice none 0 0, .slice none 0 0, .slice none 0 0, .slice none 0 0, .slice none 0 0, .slice none 0 0, .slice none 0 0, .slice none 0 0, .slice none 0 0, .slice none 0 0, .slice none 0 0, .slice none 0 0, .slice none 0 0, .slice none 0 0, .slice none 0 0, .slice none 0 0]
theorem BoG.start {K : Nat → Kd} {live : Nat → Bool} {w W : World} {us : List (Nat × Value × Nat)} (bl : Below w.heap.size w W) (ow : ∀ u ∈ us, OoB u.1 ∧ live u.1 = true ∧ (∃ xs, W.ownsRow w.heap.size (K u.1).et (K u.1).c u.2.1 u.2.2 xs) ∧ u.2.2 ≤ mxK u.1) (s4 : us.Pairwise (fun u u' => u.1 = u'.1 → ∀ b, u.2.1.ownBlock = some b → u'.2.1.ownBlock ≠ some b)) (t : TypeId) : BoG K live w W (W.alloc (.cells bk0 t)) 0 (fun _ => .slice none 0 0) (fun _ => []) us := by
  have ba : Below W.heap.size W (W.alloc (.cells bk0 t)) := (Below.refl _ W).alloc (Nat.le_refl _) _
  have hn : (W.alloc (.cells bk0 t)).heap[W.heap.size]? = some (.cells bk0 t (0, 0)) := heap_alloc_new W _
  have hc : ∀ o, OoB o → (W.alloc (.cells bk0 t)).cell? ⟨W.heap.size, o, none⟩ = some (.slice none 0 0) := fun o h => by
    obtain ⟨h1, h2⟩ := h
    unfold World.cell?; simp only [hn]
    match o, h1, h2 with
    | 1, _, _ => rfl | 2, _, _ => rfl | 3, _, _ => rfl | 4, _, _ => rfl | 5, _, _ => rfl | 6, _, _ => rfl | 7, _, _ => rfl | 8, _, _ => rfl | 9, _, _ => rfl | 10, _, _ => rfl
    | 11, _, _ => rfl | 12, _, _ => rfl | 13, _, _ => rfl | 14, _, _ => rfl | 15, _, _ => rfl | 16, _, _ => rfl | 17, _, _ => rfl | 18, _, _ => rfl | 19, _, _ => rfl | 20, _, _ => rfl
    | 21, _, _ => rfl | 22, _, _ => rfl | 23, _, _ => rfl | 24, _, _ => rfl | 25, _, _ => rfl | 26, _, _ => rfl | 27, _, _ => rfl | 28, _, _ => rfl | 29, _, _ => rfl | 30, _, _ => rfl
    | o + 31, _, h => omega
  have c0 : (W.alloc (.cells bk0 t)).cell? ⟨W.heap.size, 0, none⟩ = some (.int .i64 ((0 : Nat) : Int)) := by unfold World.cell?; simp only [hn]; rfl
  have sf : ∀ o, (W.alloc (.cells bk0 t)).frozen? ⟨W.heap.size, o, none⟩ = false := fun o => by unfold World.frozen?; simp only [hn]; simp
  have sp : SepC W.heap.size (.slice none 0 0) [] := ⟨fun x hx => by simp at hx, fun x hx => by simp at hx, fun i j hi => by simp at hi⟩
  refine ⟨bl.trans (ba.mono bl.size), bl.size, ba, (fun o _ b e => by cases e), ⟨fun o ho => ⟨bl.size, hc o ho, sf, World.ownsRow_nil _ _ _ _, by intro h; cases h⟩, fun o _ => sp, fun o _ x hx => by simp at hx, fun o _ x hx => by simp at hx, fun o _ => by simp⟩, fun o _ _ => ⟨rfl, rfl⟩, c0, fun o _ => by simp, fun u hu => ?_, fun u hu x hx => by simp at hx, s4⟩
  obtain ⟨h1, h2, ⟨xs, h3⟩, h4⟩ := ow u hu
  refine ⟨h1, h2, ⟨xs, owR_below h3 ba⟩, h4, fun e => ?_⟩
  have := (World.ownsRow.lt h3 _ e).2
  omega
end Go.Proofs.YtclhmggnkhnnlaaGreatDoor
