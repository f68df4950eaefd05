/- A Book, and lists that it has not been told yet, beside other things that change. -/
import Derived.Test.YtnihneicoikdhaaGreatDoorBgA
import Derived.Test.YtnihneicoikdhaaGreatDoorBgP
namespace Go.Proofs.YtnihneicoikdhaaGreatDoor
open Go.RowKit

structure BoR (K : Nat → Kd) (live : Nat → Bool) (w : World) (gb : Nat) (W : World) (n : Nat) (v : Nat → Value) (hs : Nat → List Hc) (us : List (Nat × Value × Nat)) : Prop where
  bl : Below w.heap.size w W
  bo : BokG K W w.heap.size gb v hs
  z : ∀ o, OoB o → live o = false → v o = .slice none 0 0 ∧ hs o = []
  c0 : W.cell? ⟨gb, 0, none⟩ = some (.int .i64 ((n : Nat) : Int))
  ln : ∀ o, OoB o → (hs o).length ≤ n
  ow : ∀ u ∈ us, OoB u.1 ∧ live u.1 = true ∧ (∃ xs, W.ownsRow w.heap.size (K u.1).et (K u.1).c u.2.1 u.2.2 xs) ∧ u.2.2 ≤ mxK u.1 ∧ u.2.1.ownBlock ≠ some gb
  s3 : ∀ u ∈ us, ∀ x ∈ hs u.1, ∀ b, x.v.ownBlock = some b → u.2.1.ownBlock ≠ some b
  s4 : us.Pairwise (fun u u' => u.1 = u'.1 → ∀ b, u.2.1.ownBlock = some b → u'.2.1.ownBlock ≠ some b)
theorem oob1R : OoB 1 := ⟨by decide, by decide⟩
def OutK (K : Nat → Kd) (t : Nat) : Prop := ∀ o, OoB o → t ≠ (K o).et ∧ t ≠ (K o).ht
section
variable {K : Nat → Kd} {live : Nat → Bool} {w W W' : World} {gb n : Nat} {v : Nat → Value} {hs : Nat → List Hc} {us : List (Nat × Value × Nat)}
theorem BoR.lt (h : BoR K live w gb W n v hs us) : w.heap.size ≤ gb ∧ gb < W.heap.size := ⟨(h.bo.bk 1 oob1R).gB, (h.bo.bk 1 oob1R).lt⟩
theorem BoR.fr {E : Nat → Prop} (h : BoR K live w gb W n v hs us) (hf : Fr E W W') (hE : ∀ b, E b → w.heap.size ≤ b ∧ b ≠ gb ∧ ∃ cs t f, W.heap[b]? = some (.cells cs t f) ∧ OutK K t) : BoR K live w gb W' n v hs us := by
  have ng : ¬ E gb := fun e => (hE gb e).2.1 rfl
  have nt : ∀ {c e k : Nat} {v1 : Value} {xs : List Value}, W.ownsRow w.heap.size e c v1 k xs → ∀ o, OoB o → (e = (K o).et ∨ e = (K o).ht) → ∀ b, v1.ownBlock = some b → ¬ E b := fun hw o ho he b hb e => by
    obtain ⟨_, _, cs, t, f, h1, h2⟩ := hE b e
    obtain ⟨c2, h3⟩ := row_ty hw hb
    rw [h1] at h3
    injection h3 with h3
    injection h3 with _ h3 _
    rcases he with he | he
    · exact (h2 o ho).1 (h3.trans he)
    · exact (h2 o ho).2 (h3.trans he)
  exact ⟨h.bl.trans (hf.below (fun b e => (hE b e).1) h.bl.size), ⟨fun o ho => (h.bo.bk o ho).fr hf ng (nt (h.bo.bk o ho).row o ho (.inr rfl)), h.bo.sep, fun o ho x hx => (h.bo.own o ho x hx).imp fun _ hy => owR_fr hy hf (nt hy o ho (.inl rfl)), h.bo.lim, h.bo.len⟩, h.z, hf.cell h.c0 ng, h.ln, fun u hu => ⟨(h.ow u hu).1, (h.ow u hu).2.1, (h.ow u hu).2.2.1.imp fun _ hy => owR_fr hy hf (nt hy _ (h.ow u hu).1 (.inl rfl)), (h.ow u hu).2.2.2⟩, h.s3, h.s4⟩
theorem BoR.next (h : BoR K live w gb W n v hs us) (hb : Below W.heap.size W W') : BoR K live w gb W' n v hs us := h.fr (E := fun _ => False) (Fr.ofBelow hb) (fun _ e => e.elim)
/- A list that is new joins those that are not told yet. -/
theorem BoR.ins {us1 us2 : List (Nat × Value × Nat)} (h : BoR K live w gb W n v hs (us1 ++ us2)) (u : Nat × Value × Nat) (h1 : OoB u.1) (h2 : live u.1 = true) (h3 : ∃ xs, W.ownsRow w.heap.size (K u.1).et (K u.1).c u.2.1 u.2.2 xs) (h4 : u.2.2 ≤ mxK u.1) (h5 : u.2.1.ownBlock ≠ some gb)
    (h6 : ∀ x ∈ hs u.1, ∀ b, x.v.ownBlock = some b → u.2.1.ownBlock ≠ some b) (h7 : ∀ u' ∈ us1 ++ us2, u'.1 = u.1 → ∀ b, u'.2.1.ownBlock = some b → u.2.1.ownBlock ≠ some b) : BoR K live w gb W n v hs (us1 ++ u :: us2) := by
  refine ⟨h.bl, h.bo, h.z, h.c0, h.ln, fun x hx => ?_, fun x hx => ?_, ?_⟩
  · rcases List.mem_append.1 hx with hx | hx
    · exact h.ow x (List.mem_append.2 (.inl hx))
    · rcases List.mem_cons.1 hx with rfl | hx
      · exact ⟨h1, h2, h3, h4, h5⟩
      · exact h.ow x (List.mem_append.2 (.inr hx))
  · rcases List.mem_append.1 hx with hx | hx
    · exact h.s3 x (List.mem_append.2 (.inl hx))
    · rcases List.mem_cons.1 hx with rfl | hx
      · exact h6
      · exact h.s3 x (List.mem_append.2 (.inr hx))
  · obtain ⟨p1, p2, p3⟩ := List.pairwise_append.1 h.s4
    refine List.pairwise_append.2 ⟨p1, List.pairwise_cons.2 ⟨fun x hx e b hb hb' => ?_, p2⟩, fun x hx y hy => ?_⟩
    · exact h7 x (List.mem_append.2 (.inr hx)) e.symm b hb' hb
    · rcases List.mem_cons.1 hy with rfl | hy
      · exact h7 x (List.mem_append.2 (.inl hx))
      · exact p3 x hx y hy
/- A new one: it lies beyond a world at which the Book stood. -/
theorem BoR.add {us1 us2 : List (Nat × Value × Nat)} {W0 : World} {xs : List Value} (h0 : BoR K live w gb W0 n v hs (us1 ++ us2)) (h : BoR K live w gb W n v hs (us1 ++ us2)) (u : Nat × Value × Nat) (h1 : OoB u.1) (h2 : live u.1 = true) (h3 : W.ownsRow W0.heap.size (K u.1).et (K u.1).c u.2.1 u.2.2 xs) (h4 : u.2.2 ≤ mxK u.1) : BoR K live w gb W n v hs (us1 ++ u :: us2) := by
  have hge : ∀ b, u.2.1.ownBlock = some b → W0.heap.size ≤ b := fun b hb => (World.ownsRow.lt h3 b hb).1
  refine h.ins u h1 h2 ⟨xs, owR_lower h3 h0.bl.size⟩ h4 (fun e => ?_) (fun x hx b hb e => ?_) (fun u' hu' _ b hb e => ?_)
  · have := hge _ e; have := h0.lt.2; omega
  · obtain ⟨ys, hy⟩ := h0.bo.own _ h1 x hx
    have := hge _ e; have := (World.ownsRow.lt hy b hb).2; omega
  · obtain ⟨ys, hy⟩ := (h0.ow u' hu').2.2.1
    have := hge _ e; have := (World.ownsRow.lt hy b hb).2; omega
theorem BoR.tell {F : Nat} {u : Nat × Value × Nat} (ok : KdOk K) (h : BoR K live w gb W n v hs (u :: us)) (hF : KeepOk (K u.1) F u.1) (hn : n < 900000) :
    Calls Tryz.prog F #[.pointer (some ⟨gb, 0, none⟩), u.2.1] W fun e W' => e = .returned (.tuple #[]) ∧ ∃ v' hs', BoR K live w gb W' (n + 1) v' hs' us ∧ Fr (BEc gb (v u.1)) W W' := by
  obtain ⟨o, vv, len⟩ := u
  obtain ⟨ho, hlv, ⟨xs, u1⟩, u2, u3⟩ := h.ow _ (List.mem_cons_self ..)
  have s3 := h.s3 _ (List.mem_cons_self ..)
  have s4 := List.pairwise_cons.1 h.s4
  simp only at *
  obtain ⟨a, c, rfl⟩ := owR_shape u1
  have hl := h.ln o ho
  refine (hF W _ _ n (v o) (hs o) (h.bo.bk o ho) h.c0 (by omega) (by omega) a len c).mono ?_
  rintro e W' ⟨rfl, vb', hk⟩
  have hE : ∀ b, BEc gb (v o) b → w.heap.size ≤ b := fun b k => by
    rcases k with k | k
    · have := h.lt.1; omega
    · exact ((h.bo.bk o ho).vlt b k).1
  have nE : ∀ {e c n : Nat} {v1 : Value} {xs : List Value}, W.ownsRow w.heap.size e c v1 n xs → e ≠ (K o).ht → v1.ownBlock ≠ some gb → ∀ b, v1.ownBlock = some b → ¬ BEc gb (v o) b := fun hw hne hg b hb hE => by
    rcases hE with e | e
    · exact hg (by rw [hb, e])
    · obtain ⟨c1, e1⟩ := row_ty hw hb
      obtain ⟨c2, e2⟩ := row_ty (h.bo.bk o ho).row e
      exact hne (ty_ne e1 e2)
  refine ⟨rfl, upd v o vb', upd hs o (hs o ++ [⟨.slice a len c, .slice none 0 0, n + 1, len⟩]), ⟨h.bl.trans (hk.fr.below hE h.bl.size), h.bo.keep ok ho u1 u2 (by omega) (by omega) u3 s3 hk, fun j hj hz => ?_, hk.c0, fun j hj => ?_, fun x hx => ?_, fun x hx y hy b hyb => ?_, s4.2⟩, hk.fr⟩
  · have e : j ≠ o := fun e => by subst e; rw [hlv] at hz; cases hz
    rw [upd_ne _ _ e, upd_ne _ _ e]; exact h.z j hj hz
  · by_cases e : j = o
    · subst e; rw [upd_same]; simp; omega
    · rw [upd_ne _ _ e]; have := h.ln j hj; omega
  · obtain ⟨x0, x1, ⟨ys, x2⟩, x3, x4⟩ := h.ow x (List.mem_cons_of_mem _ hx)
    exact ⟨x0, x1, ⟨ys, owR_fr x2 hk.fr (nE x2 (ok.eh _ _ x0 ho) x4)⟩, x3, x4⟩
  · by_cases e : x.1 = o
    · rw [e, upd_same] at hy
      rcases List.mem_append.1 hy with hy | hy
      · exact h.s3 x (List.mem_cons_of_mem _ hx) y (e ▸ hy) b hyb
      · rw [List.mem_singleton.1 hy] at hyb
        exact s4.1 x hx e.symm b hyb
    · rw [upd_ne _ _ e] at hy
      exact h.s3 x (List.mem_cons_of_mem _ hx) y hy b hyb
theorem BoR.apart (ok : KdOk K) (O : BookOk K live w w.heap.size) (h : BoR K live w gb W n v hs us) : Calls Tryz.prog 17 #[.pointer (some ⟨gb, 0, none⟩)] W fun e W' => e = .returned (.bool true) ∧ Below w.heap.size w W' :=
  apartG O (h.bo.st ok h.z) (h.bo.fill h.bl (Nat.le_refl _))
end
def bk0 : Array Value := #[.int .i64 0, .slice none 0 0, .slice none 0 0, .slice none 0 0, .slice none 0 0, .slice none 0 0, .slice none 0 0, .slice none 0 0, .slice none 0 0, .slice none 0 0, .slice none 0 0, .slice none 0 0, .slice none 0 0, .slice none 0 0, .slice none 0 0, .slice none 0 0, .slice none 0 0, .slice none 0 0, .slice none 0 0, .slice none 0 0, .slice none 0 0, .slice none 0 0, .slice none 0 0, .slice none 0 0, .slice none 0 0, .slice none 0 0, .slice none 0 0, .slice none 0 0, .slice none 0 0, .slice none 0 0, .slice none 0 0]
theorem BoR.start {K : Nat → Kd} {live : Nat → Bool} {w W : World} (bl : Below w.heap.size w W) (t : TypeId) : BoR K live w W.heap.size (W.alloc (.cells bk0 t)) 0 (fun _ => .slice none 0 0) (fun _ => []) [] := by
  have ba : Below W.heap.size W (W.alloc (.cells bk0 t)) := (Below.refl _ W).alloc (Nat.le_refl _) _
  have hn : (W.alloc (.cells bk0 t)).heap[W.heap.size]? = some (.cells bk0 t (0, 0)) := heap_alloc_new W _
  have hc : ∀ o, OoB o → (W.alloc (.cells bk0 t)).cell? ⟨W.heap.size, o, none⟩ = some (.slice none 0 0) := fun o h => by
    obtain ⟨h1, h2⟩ := h
    unfold World.cell?; simp only [hn]
    match o, h1, h2 with
    | 1, _, _ => rfl | 2, _, _ => rfl | 3, _, _ => rfl | 4, _, _ => rfl | 5, _, _ => rfl | 6, _, _ => rfl | 7, _, _ => rfl | 8, _, _ => rfl | 9, _, _ => rfl | 10, _, _ => rfl
    | 11, _, _ => rfl | 12, _, _ => rfl | 13, _, _ => rfl | 14, _, _ => rfl | 15, _, _ => rfl | 16, _, _ => rfl | 17, _, _ => rfl | 18, _, _ => rfl | 19, _, _ => rfl | 20, _, _ => rfl
    | 21, _, _ => rfl | 22, _, _ => rfl | 23, _, _ => rfl | 24, _, _ => rfl | 25, _, _ => rfl | 26, _, _ => rfl | 27, _, _ => rfl | 28, _, _ => rfl | 29, _, _ => rfl | 30, _, _ => rfl
    | o + 31, _, h => omega
  have c0 : (W.alloc (.cells bk0 t)).cell? ⟨W.heap.size, 0, none⟩ = some (.int .i64 ((0 : Nat) : Int)) := by unfold World.cell?; simp only [hn]; rfl
  have sf : ∀ o, (W.alloc (.cells bk0 t)).frozen? ⟨W.heap.size, o, none⟩ = false := fun o => by unfold World.frozen?; simp only [hn]; simp
  have sp : SepC W.heap.size (.slice none 0 0) [] := ⟨fun x hx => by simp at hx, fun x hx => by simp at hx, fun i j hi => by simp at hi⟩
  exact ⟨bl.trans (ba.mono bl.size), ⟨fun o ho => ⟨bl.size, hc o ho, sf, World.ownsRow_nil _ _ _ _, by intro h; cases h⟩, fun o _ => sp, fun o _ x hx => by simp at hx, fun o _ x hx => by simp at hx, fun o _ => by simp⟩, fun o _ _ => ⟨rfl, rfl⟩, c0, fun o _ => by simp, fun u hu => by simp at hu, fun u hu => by simp at hu, List.Pairwise.nil⟩
end Go.Proofs.YtnihneicoikdhaaGreatDoor
