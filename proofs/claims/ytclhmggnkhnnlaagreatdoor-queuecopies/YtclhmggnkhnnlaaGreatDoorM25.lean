/- Pieces of the proof: BgK. -/
import Derived.Test.YtclhmggnkhnnlaaGreatDoorM13
/- A Book of any kinds: what stands while its lists are filled, grow, are looked at. -/
namespace Go.Proofs.YtclhmggnkhnnlaaGreatDoor
open Go.RowKit

/- A kind: the type of its held rows, of its elements, the cells of an element, the cells of a mark. -/
structure Kd where
  ht : Nat
  et : Nat
  c : Nat
  mrk : Nat → List Value
abbrev OoB (o : Nat) : Prop := 1 ≤ o ∧ o ≤ 30
structure KdOk (K : Nat → Kd) : Prop where
  len : ∀ o, OoB o → ∀ m, ((K o).mrk m).length = (K o).c
  ee : ∀ i j, OoB i → OoB j → i ≠ j → (K i).et ≠ (K j).et
  hh : ∀ i j, OoB i → OoB j → i ≠ j → (K i).ht ≠ (K j).ht
  eh : ∀ i j, OoB i → OoB j → (K i).et ≠ (K j).ht
abbrev FlK (d : Kd) (o : Nat) (W wr : World) (B g : Nat) (v : Value) (hs : List Hc) (k : Nat) : Prop := FlC d.ht o d.et d.c d.mrk W wr B g v hs k
abbrev GrK (d : Kd) (o : Nat) (W wr : World) (B g : Nat) (v : Value) (hs ks : List Hc) (k : Nat) : Prop := GrC d.ht o d.et d.c d.mrk W wr B g v hs ks k
def LimC (o : Nat) (hs : List Hc) : Prop := ∀ x ∈ hs, x.n ≤ mxK o ∧ x.m < 1000000000 ∧ ∃ a n c, x.vl = .slice a n c
/- A Book in whose lists no memory is shared. -/
structure BokG (K : Nat → Kd) (W : World) (B g : Nat) (v : Nat → Value) (hs : Nat → List Hc) : Prop where
  bk : ∀ o, OoB o → GB (K o).ht o W B g (v o) (hs o)
  sep : ∀ o, OoB o → SepC g (v o) (hs o)
  own : ∀ o, OoB o → ∀ x ∈ hs o, ∃ xs, W.ownsRow B (K o).et (K o).c x.v x.n xs
  lim : ∀ o, OoB o → LimC o (hs o)
  len : ∀ o, OoB o → (hs o).length ≤ 1000000
/- What no filling changes. -/
structure StB (K : Nat → Kd) (live : Nat → Bool) (g : Nat) (v : Nat → Value) (hs : Nat → List Hc) : Prop where
  ok : KdOk K
  sep : ∀ o, OoB o → SepC g (v o) (hs o)
  lim : ∀ o, OoB o → LimC o (hs o)
  len : ∀ o, OoB o → (hs o).length ≤ 1000000
  z : ∀ o, OoB o → live o = false → v o = .slice none 0 0 ∧ hs o = []
  x : ∀ i j, OoB i → OoB j → i ≠ j → ∀ b, GEc (hs i) (v i) b → ¬ GEc (hs j) (v j) b
  ng : ∀ o, OoB o → ¬ GEc (hs o) (v o) g
theorem BokG.ty {K : Nat → Kd} {W : World} {B g : Nat} {v : Nat → Value} {hs : Nat → List Hc} (h : BokG K W B g v hs) {o : Nat} (ho : OoB o) {b : Nat} (hb : GEc (hs o) (v o) b) : ∃ e c, W.heap[b]? = some (.cells c e (0, 0)) ∧ (e = (K o).et ∨ e = (K o).ht) := by
  rcases hb with ⟨x, hx, e⟩ | e
  · obtain ⟨xs, h1⟩ := h.own o ho x hx
    obtain ⟨c, hc⟩ := row_ty h1 e
    exact ⟨_, c, hc, .inl rfl⟩
  · obtain ⟨c, hc⟩ := row_ty (h.bk o ho).row e
    exact ⟨_, c, hc, .inr rfl⟩
theorem BokG.st {K : Nat → Kd} {live : Nat → Bool} {W : World} {B g : Nat} {v : Nat → Value} {hs : Nat → List Hc} (h : BokG K W B g v hs) (ok : KdOk K) (z : ∀ o, OoB o → live o = false → v o = .slice none 0 0 ∧ hs o = []) : StB K live g v hs := by
  refine ⟨ok, h.sep, h.lim, h.len, z, fun i j hi hj hne b h1 h2 => ?_, fun o ho e => ?_⟩
  · obtain ⟨e1, c1, q1, r1⟩ := h.ty hi h1
    obtain ⟨e2, c2, q2, r2⟩ := h.ty hj h2
    have e := ty_ne q1 q2
    rcases r1 with rfl | rfl <;> rcases r2 with rfl | rfl
    · exact ok.ee i j hi hj hne e
    · exact ok.eh i j hi hj e
    · exact ok.eh j i hj hi e.symm
    · exact ok.hh i j hi hj hne e
  · rcases e with e | e
    · exact (h.sep o ho).nE.1 e
    · exact (h.bk o ho).ne e
theorem FlC.move {ht o et c : Nat} {mk : Nat → List Value} {E : Nat → Prop} {W W' : World} {B g k : Nat} {vb : Value} {hs : List Hc} (h : FlC ht o et c mk W W B g vb hs k) (hf : Fr E W W') (h1 : ¬ E g) (h2 : ∀ b, GEc hs vb b → ¬ E b) : FlC ht o et c mk W' W' B g vb hs k :=
  ⟨h.bk.fr hf h1 (fun b hb => h2 b (.inr hb)), fun j hj hk => owR_fr (h.dn j hj hk) hf (fun b hb => h2 b (.inl ⟨_, List.getElem_mem hj, hb⟩)), fun j hj hk => (h.td j hj hk).imp fun _ hx => owR_fr hx hf (fun b hb => h2 b (.inl ⟨_, List.getElem_mem hj, hb⟩)), Fr.refl _ _⟩
/- The kinds below t are filled. -/
structure FillI (K : Nat → Kd) (w0 W : World) (B g : Nat) (v : Nat → Value) (hs : Nat → List Hc) (t : Nat) : Prop where
  bl : Below B w0 W
  wB : B ≤ w0.heap.size
  dn : ∀ o, OoB o → o < t → FlK (K o) o W W B g (v o) (hs o) (hs o).length
  td : ∀ o, OoB o → t ≤ o → FlK (K o) o W W B g (v o) (hs o) 0
theorem FillI.step {K : Nat → Kd} {live : Nat → Bool} {w0 W : World} {B g : Nat} {v : Nat → Value} {hs : Nat → List Hc} {t : Nat} {W' : World} (S : StB K live g v hs) (I : FillI K w0 W B g v hs t) (ht : OoB t) (h : FlK (K t) t W W' B g (v t) (hs t) (hs t).length) : FillI K w0 W' B g v hs (t + 1) := by
  have hE : ∀ b, LEc (hs t) b → B ≤ b := fun b hb => by
    obtain ⟨x, hx, e⟩ := hb
    obtain ⟨j, hj, rfl⟩ := List.getElem_of_mem hx
    obtain ⟨xs, ho⟩ := (I.td t ht (Nat.le_refl _)).td j hj (Nat.zero_le _)
    exact (World.ownsRow.lt ho b e).1
  have mv : ∀ o, OoB o → o ≠ t → ∀ k, FlK (K o) o W W B g (v o) (hs o) k → FlK (K o) o W' W' B g (v o) (hs o) k := fun o ho hne k hk => FlC.move hk h.fr (fun e => S.ng t ht (.inl e)) (fun b hb e => S.x o t ho ht hne b hb (.inl e))
  refine ⟨I.bl.trans (h.fr.below hE (Nat.le_trans I.wB I.bl.size)), I.wB, fun o ho hlt => ?_, fun o ho hle => ?_⟩
  · by_cases e : o = t
    · subst e; exact ⟨h.bk, h.dn, h.td, Fr.refl _ _⟩
    · exact mv o ho e _ (I.dn o ho (by omega))
  · exact mv o ho (by omega) _ (I.td o ho (by omega))
def FillOk (d : Kd) (lv : Bool) (w0 : World) (B F o : Nat) : Prop := ∀ W g v hs, Below B w0 W → (lv = false → v = .slice none 0 0 ∧ hs = []) → FlK d o W W B g v hs 0 → SepC g v hs → LimC o hs → hs.length ≤ 1000000 → Calls Tryz.prog F #[.pointer (some ⟨g, 0, none⟩)] W fun e W' => e = .returned (.tuple #[]) ∧ FlK d o W W' B g v hs hs.length
theorem FillI.call {K : Nat → Kd} {live : Nat → Bool} {w0 W : World} {B g : Nat} {v : Nat → Value} {hs : Nat → List Hc} {t : Nat} {F : Nat} (S : StB K live g v hs) (I : FillI K w0 W B g v hs t) (ht : OoB t) (hF : FillOk (K t) (live t) w0 B F t) : Calls Tryz.prog F #[.pointer (some ⟨g, 0, none⟩)] W fun e W' => e = .returned (.tuple #[]) ∧ FillI K w0 W' B g v hs (t + 1) := by
  refine (hF W g (v t) (hs t) I.bl (S.z t ht) (I.td t ht (Nat.le_refl _)) (S.sep t ht) (S.lim t ht) (S.len t ht)).mono ?_
  rintro e W' ⟨rfl, h⟩
  exact ⟨rfl, I.step S ht h⟩
theorem BokG.fill {K : Nat → Kd} {w0 W : World} {B g : Nat} {v : Nat → Value} {hs : Nat → List Hc} (h : BokG K W B g v hs) (bl : Below B w0 W) (wB : B ≤ w0.heap.size) : FillI K w0 W B g v hs 1 :=
  ⟨bl, wB, fun o ho hlt => by have := ho.1; omega, fun o ho _ => ⟨h.bk o ho, fun j _ hk => by omega, fun j hj _ => h.own o ho _ (List.getElem_mem hj), Fr.refl _ _⟩⟩
/- What grew of one kind stands while another one grows. -/
theorem GrC.move {ht o et c : Nat} {mk : Nat → List Value} (hmk : ∀ m, (mk m).length = c) {W wr w' : World} {B g : Nat} {vb : Value} {hs ks : List Hc} {E : Nat → Prop} (h : GrC ht o et c mk W wr B g vb hs ks ks.length) (hf : Fr E wr w') (h1 : ¬ E g) (h2 : ∀ b, LEc hs b → ¬ E b) (h3 : ∀ b cur, wr.heap[b]? = some (.cells cur et (0, 0)) → ¬ E b) (h4 : ∀ b, vb.ownBlock = some b → ¬ E b) : GrC ht o et c mk w' w' B g vb hs ks ks.length := by
  refine ⟨h.bk.fr hf h1 h4, h.sep, h.lim, fun j hj hk => ?_, fun j hj hk => by omega, Fr.refl _ _, h.le⟩
  obtain ⟨d1, d2, d3⟩ := h.dn j hj hk
  refine ⟨owR_fr d1 hf (fun b hb => ?_), d2.fr (hmk _) hf (fun b hb => h2 b (h.le b ⟨_, List.getElem_mem hj, hb⟩)), d3⟩
  obtain ⟨cur, hc⟩ := row_ty d1 hb
  exact h3 b cur hc
theorem GrC.move0 {ht o et c : Nat} {mk : Nat → List Value} {W w' : World} {B g : Nat} {vb : Value} {hs : List Hc} {E : Nat → Prop} (h : GrC ht o et c mk W W B g vb hs hs 0) (hf : Fr E W w') (h1 : ¬ E g) (h2 : ∀ b, GEc hs vb b → ¬ E b) : GrC ht o et c mk w' w' B g vb hs hs 0 :=
  ⟨h.bk.fr hf h1 (fun b hb => h2 b (.inr hb)), h.sep, h.lim, fun j _ hk => by omega, fun j hj hk => owR_fr (h.td j hj hk) hf (fun b hb => h2 b (.inl ⟨_, List.getElem_mem hj, hb⟩)), Fr.refl _ _, h.le⟩
/- The kinds below t have grown. -/
structure GrowI (K : Nat → Kd) (w0 W : World) (B g : Nat) (v : Nat → Value) (hs : Nat → List Hc) (t : Nat) : Prop where
  bl : Below B w0 W
  wB : B ≤ w0.heap.size
  dn : ∀ o, OoB o → o < t → ∃ ks, ks.length = (hs o).length ∧ GrK (K o) o W W B g (v o) (hs o) ks ks.length
  td : ∀ o, OoB o → t ≤ o → GrK (K o) o W W B g (v o) (hs o) (hs o) 0
theorem FillI.grow {K : Nat → Kd} {live : Nat → Bool} {w0 W : World} {B g : Nat} {v : Nat → Value} {hs : Nat → List Hc} (S : StB K live g v hs) (I : FillI K w0 W B g v hs 31) : GrowI K w0 W B g v hs 1 :=
  ⟨I.bl, I.wB, fun o ho hlt => by have := ho.1; omega, fun o ho _ => (I.dn o ho (by have := ho.2; omega)).grow (S.sep o ho) (S.lim o ho) (Fr.refl _ _)⟩
theorem GrowI.step {K : Nat → Kd} {live : Nat → Bool} {w0 W : World} {B g : Nat} {v : Nat → Value} {hs : Nat → List Hc} {t : Nat} {W' : World} {kt : List Hc} (S : StB K live g v hs) (I : GrowI K w0 W B g v hs t) (ht : OoB t) (hkl : kt.length = (hs t).length) (h : GrK (K t) t W W' B g (v t) (hs t) kt kt.length) : GrowI K w0 W' B g v hs (t + 1) := by
  have T := I.td t ht (Nat.le_refl _)
  have hE : ∀ b, GEc (hs t) (v t) b → B ≤ b := fun b hb => by
    rcases hb with ⟨x, hx, e⟩ | hb
    · obtain ⟨j, hj, rfl⟩ := List.getElem_of_mem hx
      exact (World.ownsRow.lt (T.td j hj (Nat.zero_le _)) b e).1
    · exact (T.bk.vlt b hb).1
  have h3 : ∀ o, OoB o → o ≠ t → ∀ b cur, W.heap[b]? = some (.cells cur (K o).et (0, 0)) → ¬ GEc (hs t) (v t) b := fun o ho hne b cur hh e => by
    rcases e with ⟨x, hx, e⟩ | e
    · obtain ⟨j, hj, rfl⟩ := List.getElem_of_mem hx
      obtain ⟨c2, e2⟩ := row_ty (T.td j hj (Nat.zero_le _)) e
      exact S.ok.ee o t ho ht hne (ty_ne hh e2)
    · obtain ⟨c2, e2⟩ := row_ty T.bk.row e
      exact S.ok.eh o t ho ht (ty_ne hh e2)
  refine ⟨I.bl.trans (h.fr.below hE (Nat.le_trans I.wB I.bl.size)), I.wB, fun o ho hlt => ?_, fun o ho hle => ?_⟩
  · by_cases e : o = t
    · subst e; exact ⟨kt, hkl, ⟨h.bk, h.sep, h.lim, h.dn, h.td, Fr.refl _ _, h.le⟩⟩
    · obtain ⟨ks, hl, hG⟩ := I.dn o ho (by omega)
      exact ⟨ks, hl, GrC.move (S.ok.len o ho) hG h.fr (S.ng t ht) (fun b hb => S.x o t ho ht e b (.inl hb)) (h3 o ho e) (fun b hb => S.x o t ho ht e b (.inr hb))⟩
  · exact GrC.move0 (I.td o ho (by omega)) h.fr (S.ng t ht) (S.x o t ho ht (by omega))
def GrowOk (d : Kd) (lv : Bool) (w0 : World) (B F o : Nat) : Prop := ∀ W g v hs, Below B w0 W → (lv = false → v = .slice none 0 0 ∧ hs = []) → GrK d o W W B g v hs hs 0 → hs.length ≤ 1000000 → Calls Tryz.prog F #[.pointer (some ⟨g, 0, none⟩)] W fun e W' => e = .returned (.tuple #[]) ∧ ∃ ks, ks.length = hs.length ∧ GrK d o W W' B g v hs ks ks.length
theorem GrowI.call {K : Nat → Kd} {live : Nat → Bool} {w0 W : World} {B g : Nat} {v : Nat → Value} {hs : Nat → List Hc} {t : Nat} {F : Nat} (S : StB K live g v hs) (I : GrowI K w0 W B g v hs t) (ht : OoB t) (hF : GrowOk (K t) (live t) w0 B F t) : Calls Tryz.prog F #[.pointer (some ⟨g, 0, none⟩)] W fun e W' => e = .returned (.tuple #[]) ∧ GrowI K w0 W' B g v hs (t + 1) := by
  refine (hF W g (v t) (hs t) I.bl (S.z t ht) (I.td t ht (Nat.le_refl _)) (S.len t ht)).mono ?_
  rintro e W' ⟨rfl, ks, hl, h⟩
  exact ⟨rfl, I.step S ht hl h⟩
theorem GrowI.next {K : Nat → Kd} {live : Nat → Bool} {w0 W : World} {B g : Nat} {v : Nat → Value} {hs : Nat → List Hc} {W' : World} (S : StB K live g v hs) (I : GrowI K w0 W B g v hs 31) (hb : Below W.heap.size W W') : GrowI K w0 W' B g v hs 31 := by
  refine ⟨I.bl.trans (hb.mono (Nat.le_trans I.wB I.bl.size)), I.wB, fun o ho hlt => ?_, fun o ho hle => by have := ho.2; omega⟩
  obtain ⟨ks, hl, hG⟩ := I.dn o ho hlt
  have h := GrC.next (S.ok.len o ho) hG hb
  exact ⟨ks, hl, ⟨h.bk, h.sep, h.lim, h.dn, h.td, Fr.refl _ _, h.le⟩⟩
def LookOk (d : Kd) (lv : Bool) (w0 : World) (B F o : Nat) : Prop := ∀ W g v hs ks, Below B w0 W → (lv = false → v = .slice none 0 0 ∧ ks = []) → GrK d o W W B g v hs ks ks.length → ks.length ≤ 1000000 → Calls Tryz.prog F #[.pointer (some ⟨g, 0, none⟩)] W fun e W' => e = .returned (.bool true) ∧ Below W.heap.size W W'
theorem GrowI.look {K : Nat → Kd} {live : Nat → Bool} {w0 W : World} {B g : Nat} {v : Nat → Value} {hs : Nat → List Hc} {t : Nat} {F : Nat} (S : StB K live g v hs) (I : GrowI K w0 W B g v hs 31) (ht : OoB t) (hF : LookOk (K t) (live t) w0 B F t) : Calls Tryz.prog F #[.pointer (some ⟨g, 0, none⟩)] W fun e W' => e = .returned (.bool true) ∧ GrowI K w0 W' B g v hs 31 := by
  obtain ⟨ks, hl, hG⟩ := I.dn t ht (by have := ht.2; omega)
  refine (hF W g (v t) (hs t) ks I.bl (fun e => ⟨(S.z t ht e).1, List.length_eq_zero_iff.1 (by rw [hl, (S.z t ht e).2]; rfl)⟩) hG (by have := S.len t ht; omega)).mono ?_
  rintro e W' ⟨rfl, hb⟩
  exact ⟨rfl, I.next S hb⟩
theorem fillOk_no {d : Kd} {w0 : World} {B F o : Nat} (h : ∀ g W, W.cell? ⟨g, o, none⟩ = some (.slice none 0 0) → Calls Tryz.prog F #[.pointer (some ⟨g, 0, none⟩)] W fun e w' => e = .returned (.tuple #[]) ∧ w' = W) : FillOk d false w0 B F o := by
  intro W g v hs _ z hF _ _ _
  obtain ⟨rfl, rfl⟩ := z rfl
  refine (h g W hF.bk.co).mono ?_
  rintro e W' ⟨rfl, rfl⟩
  exact ⟨rfl, hF⟩
theorem growOk_no {d : Kd} {w0 : World} {B F o : Nat} (h : ∀ g W, W.cell? ⟨g, o, none⟩ = some (.slice none 0 0) → Calls Tryz.prog F #[.pointer (some ⟨g, 0, none⟩)] W fun e w' => e = .returned (.tuple #[]) ∧ w' = W) : GrowOk d false w0 B F o := by
  intro W g v hs _ z hF _
  obtain ⟨rfl, rfl⟩ := z rfl
  refine (h g W hF.bk.co).mono ?_
  rintro e W' ⟨rfl, rfl⟩
  exact ⟨rfl, [], rfl, hF⟩
theorem lookOk_no {d : Kd} {w0 : World} {B F o : Nat} (h : ∀ g W, W.cell? ⟨g, o, none⟩ = some (.slice none 0 0) → Calls Tryz.prog F #[.pointer (some ⟨g, 0, none⟩)] W fun e w' => e = .returned (.bool true) ∧ w' = W) : LookOk d false w0 B F o := by
  intro W g v hs ks _ z hF _
  obtain ⟨rfl, rfl⟩ := z rfl
  refine (h g W hF.bk.co).mono ?_
  rintro e W' ⟨rfl, rfl⟩
  exact ⟨rfl, Below.refl _ _⟩
end Go.Proofs.YtclhmggnkhnnlaaGreatDoor
