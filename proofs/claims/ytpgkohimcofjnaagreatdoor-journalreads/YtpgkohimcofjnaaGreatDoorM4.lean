/- Pieces of the proof: QbM, BqM. -/
import Derived.Test.YtpgkohimcofjnaaGreatDoorM2
import Derived.Test.YtpgkohimcofjnaaGreatDoorM1
/- A Book's lists of lists of bytes: their marks are memory of their own. -/
namespace Go.Proofs.YtpgkohimcofjnaaGreatDoor
open Go.RowKit

/- A mark: one byte, in a block of its own that is not older than lo. -/
def BM (lo m : Nat) (W : World) (u : Value) : Prop := ∃ b c, u = .slice (some ⟨b, 0, none⟩) 1 c ∧ lo ≤ b ∧ W.heap[b]? = some (.cells #[.int .u8 ((1 + m % 250 : Nat) : Int)] 5 (0, 0))
theorem BM.fr {lo m : Nat} {W W' : World} {u : Value} {E : Nat → Prop} (h : BM lo m W u) (hf : Fr E W W') (hn : ∀ b cur, lo ≤ b → W.heap[b]? = some (.cells cur 5 (0, 0)) → ¬ E b) : BM lo m W' u := by
  obtain ⟨b, c, e, hb, hh⟩ := h
  exact ⟨b, c, e, hb, (hf.block b (Array.getElem?_eq_some_iff.1 hh).1 (hn b _ hb hh)).trans hh⟩
theorem BM.next {lo m : Nat} {W W' : World} {u : Value} (h : BM lo m W u) (hb : Below W.heap.size W W') : BM lo m W' u := h.fr (E := fun _ => False) (Fr.ofBelow hb) (fun _ _ _ _ e => e)
theorem BM.one {lo m : Nat} {W : World} {u : Value} (h : BM lo m W u) : u.oneCell' = true := by
  obtain ⟨b, c, rfl, _⟩ := h
  rfl
/- A block of a row of lists holds no bytes. -/
theorem row_ty {B e c n : Nat} {W : World} {v : Value} {xs : List Value} (h : W.ownsRow B e c v n xs) {b : Nat} (hb : v.ownBlock = some b) : ∃ cur, W.heap[b]? = some (.cells cur e (0, 0)) := by
  rcases h.2 with ⟨rfl, _⟩ | ⟨g, cap, cur, rfl, _, hh, _⟩
  · cases hb
  · have e : g = b := by simpa [Value.ownBlock] using hb
    subst e
    exact ⟨cur, hh⟩
theorem ty_ne {W : World} {b e e' : Nat} {cur cur' : Array Value} {f f' : Nat × Nat} (h : W.heap[b]? = some (.cells cur e f)) (h' : W.heap[b]? = some (.cells cur' e' f')) : e = e' := by
  rw [h] at h'
  injection h' with h'
  injection h'
theorem blob_ne {B n lo : Nat} {W : World} {v : Value} {xs : List Value} (h : W.ownsRow B 22 1 v n xs) : ∀ b cur, lo ≤ b → W.heap[b]? = some (.cells cur 5 (0, 0)) → ¬ v.ownBlock = some b := fun b cur _ hh e => by
  obtain ⟨cur', h'⟩ := row_ty h e
  have := ty_ne hh h'
  exact absurd this (by decide)
/- A list that can be read, all its items marks. -/
def RdQ (lo m : Nat) (W : World) (v : Value) (n : Nat) : Prop := ∃ a cap, v = .slice a n cap ∧ ∀ j, j < n → ∃ p u, a = some ⟨p, 0, none⟩ ∧ W.cell? ⟨p, j, none⟩ = some u ∧ BM lo m W u
theorem RdQ.fr {lo m : Nat} {E : Nat → Prop} {W W' : World} {v : Value} {n : Nat} (h : RdQ lo m W v n) (hf : Fr E W W') (h1 : ∀ b, v.ownBlock = some b → ¬ E b) (h2 : ∀ b cur, lo ≤ b → W.heap[b]? = some (.cells cur 5 (0, 0)) → ¬ E b) : RdQ lo m W' v n := by
  obtain ⟨a, cap, rfl, hc⟩ := h
  refine ⟨a, cap, rfl, fun j hj => ?_⟩
  obtain ⟨p, u, rfl, q1, q2⟩ := hc j hj
  exact ⟨p, u, rfl, hf.cell q1 (h1 p rfl), q2.fr hf h2⟩
theorem ownR_rdQ {lo m : Nat} {W : World} {B : Nat} {v : Value} {n : Nat} {xs : List Value} (h : W.ownsRow B 22 1 v n xs) (hx : ∀ u ∈ xs, BM lo m W u) : RdQ lo m W v n := by
  have hl := h.1
  rcases h.2 with ⟨h0, h1⟩ | ⟨g, cap, cur, e, _⟩
  · subst h1; exact ⟨_, _, h0, fun j hj => by omega⟩
  · refine ⟨_, _, e, fun j hj => ⟨g, xs[j]'(by omega), rfl, ?_, hx _ (List.getElem_mem _)⟩⟩
    have := World.ownsRow.cellAt (e ▸ h) j (by omega)
    rw [this, List.getElem?_eq_getElem]
/- What holds of the lists while they are being filled. -/
structure FlQ (W wr : World) (B g lo : Nat) (vb : Value) (hs : List Hc) (k : Nat) : Prop where
  bk : GB 80 5 wr B g vb hs
  dn : ∀ j (hj : j < hs.length), j < k → ∃ xs, wr.ownsRow B 22 1 hs[j].v hs[j].n xs ∧ ∀ u ∈ xs, BM lo hs[j].m wr u
  td : ∀ j (hj : j < hs.length), k ≤ j → ∃ xs, wr.ownsRow B 22 1 hs[j].v hs[j].n xs
  fr : Fr (LEc hs) W wr
theorem FlQ.next {W wr w' : World} {B g lo k : Nat} {vb : Value} {hs : List Hc} (h : FlQ W wr B g lo vb hs k) (hb : Below wr.heap.size wr w') : FlQ W w' B g lo vb hs k :=
  ⟨h.bk.next hb, fun j hj hk => (h.dn j hj hk).imp fun _ hx => ⟨ownR_below hx.1 hb, fun u hu => (hx.2 u hu).next hb⟩, fun j hj hk => (h.td j hj hk).imp fun _ hx => ownR_below hx hb, h.fr.trans (E' := fun _ => False) (Fr.ofBelow hb) (fun _ _ e => e.elim)⟩
theorem FlQ.step {W wr w' : World} {B g lo k : Nat} {vb : Value} {hs : List Hc} (h : FlQ W wr B g lo vb hs k) (s : SepC g vb hs) (hk : k < hs.length) (hf : Fr (fun b => hs[k].v.ownBlock = some b) wr w') (ho : ∃ xs, w'.ownsRow B 22 1 hs[k].v hs[k].n xs ∧ ∀ u ∈ xs, BM lo hs[k].m w' u) : FlQ W w' B g lo vb hs (k + 1) := by
  obtain ⟨xk, hk0⟩ := h.td k hk (Nat.le_refl _)
  have hne := blob_ne (lo := lo) hk0
  refine ⟨h.bk.fr hf (s.g _ (List.getElem_mem hk)) (fun b hb e => s.b _ (List.getElem_mem hk) b e hb), fun j hj hjk => ?_, fun j hj hjk => ?_, h.fr.trans hf (fun b _ e => ⟨_, List.getElem_mem hk, e⟩)⟩
  · by_cases e : j = k
    · subst e; exact ho
    · exact (h.dn j hj (by omega)).imp fun _ hx => ⟨ownR_fr hx.1 hf (fun b hb e' => s.p j k hj hk e b hb e'), fun u hu => (hx.2 u hu).fr hf hne⟩
  · exact (h.td j hj (by omega)).imp fun _ hx => ownR_fr hx hf (fun b hb e' => s.p j k hj hk (by omega) b hb e')
structure FlInQ (lo m : Nat) (W1 wi : World) (B : Nat) (v : Value) (n q : Nat) : Prop where
  ow : ∃ ds rest, ds.length = q ∧ wi.ownsRow B 22 1 v n (ds ++ rest) ∧ ∀ u ∈ ds, BM lo m wi u
  fr : Fr (fun b => v.ownBlock = some b) W1 wi
/- The next item is written. -/
theorem FlInQ.put {lo m : Nat} {W1 wi : World} {B g n cap q : Nat} (h : FlInQ lo m W1 wi B (.slice (some ⟨g, 0, none⟩) n cap) n q) (hq : q < n) {u : Value} (hu : BM lo m wi u) : FlInQ lo m W1 (wi.setCell ⟨g, q, none⟩ u) B (.slice (some ⟨g, 0, none⟩) n cap) n (q + 1) := by
  obtain ⟨ds, rest, hd, ho, hb⟩ := h.ow
  have hl := ho.1
  rw [List.length_append] at hl
  obtain ⟨r0, rest', rfl⟩ : ∃ r0 rest', rest = r0 :: rest' := by
    cases rest with
    | nil => simp at hl; omega
    | cons a b => exact ⟨a, b, rfl⟩
  have hne := blob_ne (lo := lo) ho
  have hf : Fr (fun b => (Value.slice (some ⟨g, 0, none⟩) n cap).ownBlock = some b) wi (wi.setCell ⟨g, q, none⟩ u) := (Fr.refl _ wi).set _ _ rfl
  have hs := (World.ownsRow.stored ho q u).1
  rw [List.set_append_right _ _ (by omega), hd, Nat.sub_self, List.set_cons_zero] at hs
  refine ⟨⟨ds ++ [u], rest', by simp [hd], by rw [List.append_assoc]; exact hs, fun x hx => ?_⟩, h.fr.trans hf (fun _ _ e => e)⟩
  rcases List.mem_append.1 hx with hx | hx
  · exact (hb x hx).fr hf hne
  · simp at hx; subst hx; exact hu.fr hf hne
theorem FlInQ.next {lo m : Nat} {W1 wi w' : World} {B : Nat} {v : Value} {n q : Nat} (h : FlInQ lo m W1 wi B v n q) (hb : Below wi.heap.size wi w') : FlInQ lo m W1 w' B v n q := by
  obtain ⟨ds, rest, hd, ho, hx⟩ := h.ow
  exact ⟨⟨ds, rest, hd, ownR_below ho hb, fun u hu => (hx u hu).next hb⟩, h.fr.trans (E' := fun _ => False) (Fr.ofBelow hb) (fun _ _ e => e.elim)⟩
theorem FlInQ.at {lo m : Nat} {W1 wi : World} {B g n cap q : Nat} (h : FlInQ lo m W1 wi B (.slice (some ⟨g, 0, none⟩) n cap) n q) (hq : q < n) : (∃ r, wi.cell? ⟨g, q, none⟩ = some r) ∧ ∀ j, wi.frozen? ⟨g, j, none⟩ = false := by
  obtain ⟨ds, rest, hd, ho, hx⟩ := h.ow
  have hl := ho.1
  have := World.ownsRow.cellAt ho q (by omega)
  rw [List.getElem?_eq_getElem (by omega)] at this
  exact ⟨⟨_, this⟩, fun j => World.ownsRow.frozenAt ho j⟩
theorem FlInQ.done {lo m : Nat} {W1 wi : World} {B n : Nat} {v : Value} (h : FlInQ lo m W1 wi B v n n) : ∃ xs, wi.ownsRow B 22 1 v n xs ∧ ∀ u ∈ xs, BM lo m wi u := by
  obtain ⟨ds, rest, hd, ho, hx⟩ := h.ow
  have hl := ho.1
  rw [List.length_append] at hl
  have hr : rest = [] := List.length_eq_zero_iff.1 (by omega)
  rw [hr, List.append_nil] at ho
  exact ⟨ds, ho, hx⟩
/- What holds of the lists while they are growing. -/
structure GInQ (lo m : Nat) (W1 wi : World) (B : Nat) (v lv : Value) (n q : Nat) : Prop where
  ow : ∃ xs, wi.ownsRow B 22 1 lv (n + q) xs ∧ ∀ u ∈ xs, BM lo m wi u
  rd : RdQ lo m wi v n
  fr : Fr (fun b => v.ownBlock = some b) W1 wi
  bl : ∀ b, lv.ownBlock = some b → v.ownBlock = some b ∨ W1.heap.size ≤ b
theorem GInQ.next {lo m : Nat} {W1 wi w' : World} {B : Nat} {v lv : Value} {n q : Nat} (h : GInQ lo m W1 wi B v lv n q) (hb : Below wi.heap.size wi w') : GInQ lo m W1 w' B v lv n q :=
  ⟨h.ow.imp fun _ hx => ⟨ownR_below hx.1 hb, fun u hu => (hx.2 u hu).next hb⟩, h.rd.fr (E := fun _ => False) (Fr.ofBelow hb) (fun _ _ e => e) (fun _ _ _ _ e => e), h.fr.trans (E' := fun _ => False) (Fr.ofBelow hb) (fun _ _ e => e.elim), h.bl⟩
theorem GInQ.step {lo m : Nat} {W1 wi w' : World} {B : Nat} {v lv lv' : Value} {n q : Nat} {xs : List Value} {u : Value} (h : GInQ lo m W1 wi B v lv n q) (hx : wi.ownsRow B 22 1 lv (n + q) xs) (hxb : ∀ x ∈ xs, BM lo m wi x) (hu : BM lo m wi u) (ho : w'.ownsRow B 22 1 lv' (n + q + 1) (xs ++ [u])) (hd : (lv'.ownBlock = lv.ownBlock ∧ wi.grownBy w' lv.ownBlock) ∨ (wi.grownBy w' none ∧ ∀ b, lv'.ownBlock = some b → wi.heap.size ≤ b)) : GInQ lo m W1 w' B v lv' n (q + 1) := by
  have hne := blob_ne (lo := lo) hx
  rcases hd with ⟨e, hg⟩ | ⟨hg, hb⟩
  · have hf : Fr (fun b => lv.ownBlock = some b) wi w' := Fr.grown hg (fun r e => e)
    have hall : ∀ x ∈ xs ++ [u], BM lo m w' x := fun x hx => by
      rcases List.mem_append.1 hx with hx | hx
      · exact (hxb x hx).fr hf hne
      · simp at hx; subst hx; exact hu.fr hf hne
    refine ⟨⟨_, ho, hall⟩, ?_, h.fr.trans hf (fun b hb e' => ?_), fun b hb => h.bl b (e ▸ hb)⟩
    · by_cases hv : ∃ b, v.ownBlock = some b ∧ lv.ownBlock = some b
      · obtain ⟨b, hv1, hv2⟩ := hv
        obtain ⟨a, cap, hva, hc⟩ := h.rd
        subst hva
        obtain ⟨g', c', hv'⟩ := ownR_some ho (by omega)
        subst hv'
        have e2 : g' = b := by rw [hv2] at e; cases e; rfl
        subst e2
        have hl := ho.1
        refine ⟨a, cap, rfl, fun j hj => ?_⟩
        obtain ⟨p, _, rfl, _⟩ := hc j hj
        have e1 : p = g' := by cases hv1; rfl
        subst e1
        refine ⟨p, (xs ++ [u])[j]'(by omega), rfl, ?_, hall _ (List.getElem_mem _)⟩
        rw [World.ownsRow.cellAt ho j (by omega), List.getElem?_eq_getElem]
      · exact h.rd.fr hf (fun b hb e' => hv ⟨b, hb, e'⟩) hne
    · rcases h.bl b e' with e' | e'
      · exact e'
      · omega
  · have hf : Fr (fun _ => False) wi w' := Fr.grown hg (fun r e => by cases e)
    refine ⟨⟨_, ho, fun x hx => ?_⟩, h.rd.fr hf (fun _ _ e => e) (fun _ _ _ _ e => e), h.fr.trans hf (fun _ _ e => e.elim), fun b hb' => .inr (Nat.le_trans h.fr.size (hb b hb'))⟩
    rcases List.mem_append.1 hx with hx | hx
    · exact (hxb x hx).fr hf (fun _ _ _ _ e => e)
    · simp at hx; subst hx; exact hu.fr hf (fun _ _ _ _ e => e)
structure GrQ (W wr : World) (B g lo : Nat) (vb : Value) (hs ks : List Hc) (k : Nat) : Prop where
  bk : GB 80 5 wr B g vb ks
  sep : SepC g vb ks
  lim : ∀ x ∈ ks, x.n ≤ 100000000 ∧ x.m < 1000000000 ∧ ∃ a n c, x.vl = .slice a n c
  dn : ∀ j (hj : j < ks.length), j < k → (∃ xs, wr.ownsRow B 22 1 ks[j].vl (ks[j].n + 40) xs ∧ ∀ u ∈ xs, BM lo ks[j].m wr u) ∧ RdQ lo ks[j].m wr ks[j].v ks[j].n ∧ (∀ b, ks[j].vl.ownBlock = some b → vb.ownBlock ≠ some b) ∧ ∀ i (hi : i < ks.length), k ≤ i → ∀ b, ks[j].vl.ownBlock = some b → ks[i].v.ownBlock ≠ some b
  td : ∀ j (hj : j < ks.length), k ≤ j → ∃ xs, wr.ownsRow B 22 1 ks[j].v ks[j].n xs ∧ ∀ u ∈ xs, BM lo ks[j].m wr u
  fr : Fr (GEc hs vb) W wr
  le : ∀ b, LEc ks b → LEc hs b
theorem GrQ.next {W wr w' : World} {B g lo k : Nat} {vb : Value} {hs ks : List Hc} (h : GrQ W wr B g lo vb hs ks k) (hb : Below wr.heap.size wr w') : GrQ W w' B g lo vb hs ks k :=
  ⟨h.bk.next hb, h.sep, h.lim, fun j hj hk => ⟨(h.dn j hj hk).1.imp fun _ hx => ⟨ownR_below hx.1 hb, fun u hu => (hx.2 u hu).next hb⟩, (h.dn j hj hk).2.1.fr (E := fun _ => False) (Fr.ofBelow hb) (fun _ _ e => e) (fun _ _ _ _ e => e), (h.dn j hj hk).2.2⟩, fun j hj hk => (h.td j hj hk).imp fun _ hx => ⟨ownR_below hx.1 hb, fun u hu => (hx.2 u hu).next hb⟩, h.fr.trans (E' := fun _ => False) (Fr.ofBelow hb) (fun _ _ e => e.elim), h.le⟩
theorem held_ne {B n lo : Nat} {W : World} {v : Value} {xs : List Value} (h : W.ownsRow B 80 3 v n xs) : ∀ b cur, lo ≤ b → W.heap[b]? = some (.cells cur 5 (0, 0)) → ¬ v.ownBlock = some b := fun b cur _ hh e => by
  obtain ⟨cur', h'⟩ := row_ty h e
  have := ty_ne hh h'
  exact absurd this (by decide)
theorem GrQ.step {W W1 wi : World} {B g lo k r cap : Nat} {N : Nat} {hs ks : List Hc} {lv : Value} (hN : ks.length = N) (h : GrQ W W1 B g lo (.slice (some ⟨r, 0, none⟩) N cap) hs ks k) (hk : k < ks.length) (hi : GInQ lo ks[k].m W1 wi B ks[k].v lv ks[k].n 40) :
    GrQ W (wi.setCell ⟨r, 3 * k + 1, none⟩ lv) B g lo (.slice (some ⟨r, 0, none⟩) N cap) hs (ks.set k { ks[k] with vl := lv }) (k + 1) := by
  subst hN
  have hrW : r < W1.heap.size := (h.bk.vlt r rfl).2
  have sb := h.sep.b
  have hset : Fr (fun b => b = r) wi (wi.setCell ⟨r, 3 * k + 1, none⟩ lv) := (Fr.refl _ wi).set _ _ rfl
  have gv : ∀ j (hj : j < (ks.set k { ks[k] with vl := lv }).length), (ks.set k { ks[k] with vl := lv })[j].v = (ks[j]'(by simpa using hj)).v ∧ (ks.set k { ks[k] with vl := lv })[j].m = (ks[j]'(by simpa using hj)).m ∧ (ks.set k { ks[k] with vl := lv })[j].n = (ks[j]'(by simpa using hj)).n := fun j hj => by
    rw [List.getElem_set]; split
    · rename_i e; subst e; exact ⟨rfl, rfl, rfl⟩
    · exact ⟨rfl, rfl, rfl⟩
  have gk : ∀ (hj : k < (ks.set k { ks[k] with vl := lv }).length), (ks.set k { ks[k] with vl := lv })[k].vl = lv := fun hj => by rw [List.getElem_set_self]
  have gn : ∀ j (hj : j < (ks.set k { ks[k] with vl := lv }).length), j ≠ k → (ks.set k { ks[k] with vl := lv })[j].vl = (ks[j]'(by simpa using hj)).vl := fun j hj hne => by
    rw [List.getElem_set_ne (by omega)]
  have vr : ∀ j (hj : j < ks.length) b, ks[j].v.ownBlock = some b → b ≠ r := fun j hj b hb e => sb _ (List.getElem_mem hj) b hb (by rw [e]; rfl)
  have hbk : GB 80 5 wi B g (.slice (some ⟨r, 0, none⟩) ks.length cap) ks := h.bk.fr hi.fr (h.sep.g _ (List.getElem_mem hk)) (fun b hb e => sb _ (List.getElem_mem hk) b e hb)
  have lr : ∀ b, lv.ownBlock = some b → b ≠ r := fun b hb => by
    rcases hi.bl b hb with e | e
    · exact vr k hk b e
    · omega
  obtain ⟨xk, hxk, _⟩ := h.td k hk (Nat.le_refl _)
  have ne1 := blob_ne (lo := lo) hxk
  have ne2 : ∀ b cur, lo ≤ b → wi.heap[b]? = some (.cells cur 5 (0, 0)) → ¬ b = r := fun b cur hb hh e => held_ne (lo := lo) hbk.row b cur hb hh (by rw [e]; rfl)
  obtain ⟨xo, hxo, hxb⟩ := hi.ow
  refine ⟨hbk.put hk lv, h.sep.set hk lv, fun x hx => ?_, fun j hj hjk => ?_, fun j hj hjk => ?_, ?_, fun b hb => ?_⟩
  · obtain ⟨j, hj, rfl⟩ := List.getElem_of_mem hx
    have hj' : j < ks.length := by simpa using hj
    obtain ⟨_, g2, g3⟩ := gv j hj
    have hl := h.lim _ (List.getElem_mem hj')
    rw [g2, g3]
    refine ⟨hl.1, hl.2.1, ?_⟩
    by_cases e : j = k
    · subst e; rw [gk]; obtain ⟨a, c, e⟩ := ownR_shape hxo; exact ⟨_, _, _, e⟩
    · rw [gn j hj e]; exact hl.2.2
  · have hj' : j < ks.length := by simpa using hj
    obtain ⟨g1, g2, g3⟩ := gv j hj
    by_cases e : j = k
    · subst e
      rw [gk, g1, g2, g3]
      refine ⟨⟨xo, ownR_fr hxo hset (fun b hb e => lr b hb e), fun u hu => (hxb u hu).fr hset ne2⟩, hi.rd.fr hset (fun b hb e => vr j hj' b hb e) ne2, fun b hb e => lr b hb (by injection e with e; exact e.symm), fun i hii hji b hb => ?_⟩
      have hi' : i < ks.length := by simpa using hii
      rw [(gv i hii).1]
      rcases hi.bl b hb with e | e
      · exact h.sep.p j i hj' hi' (by omega) b e
      · intro e2; obtain ⟨xi, hxi, _⟩ := h.td i hi' (by omega); have := (World.ownsRow.lt hxi b e2).2; omega
    · obtain ⟨⟨xd, d1, d1b⟩, d2, d3, d4⟩ := h.dn j hj' (by omega)
      rw [gn j hj e, g1, g2, g3]
      refine ⟨⟨xd, ownR_fr (ownR_fr d1 hi.fr (fun b hb e => d4 k hk (Nat.le_refl _) b hb e)) hset (fun b hb e => d3 b hb (by rw [e]; rfl)), fun u hu => ((d1b u hu).fr hi.fr ne1).fr hset ne2⟩, (d2.fr hi.fr (fun b hb e' => h.sep.p j k hj' hk e b hb e') ne1).fr hset (fun b hb e => vr j hj' b hb e) ne2, d3, fun i hii hji b hb => ?_⟩
      rw [(gv i hii).1]
      exact d4 i (by simpa using hii) (by omega) b hb
  · have hj' : j < ks.length := by simpa using hj
    obtain ⟨g1, g2, g3⟩ := gv j hj
    rw [g1, g2, g3]
    obtain ⟨xt, t1, t2⟩ := h.td j hj' (by omega)
    exact ⟨xt, ownR_fr (ownR_fr t1 hi.fr (fun b hb e => h.sep.p j k hj' hk (by omega) b hb e)) hset (fun b hb e => vr j hj' b hb e), fun u hu => ((t2 u hu).fr hi.fr ne1).fr hset ne2⟩
  · exact (h.fr.trans hi.fr (fun b _ e => .inl (h.le b ⟨_, List.getElem_mem hk, e⟩))).set _ _ (.inr rfl)
  · obtain ⟨x, hx, e⟩ := hb
    obtain ⟨j, hj, rfl⟩ := List.getElem_of_mem hx
    rw [(gv j hj).1] at e
    exact h.le b ⟨_, List.getElem_mem _, e⟩
end Go.Proofs.YtpgkohimcofjnaaGreatDoor
/- A Book that was told lists of bytes alone, as it lies in memory. -/
namespace Go.Proofs.YtpgkohimcofjnaaGreatDoor
open Go.RowKit

/- One kept list: its value, the value that grew out of it, its number, its bytes. -/
structure Hb where
  v : Value
  vl : Value
  m : Nat
  xs : List Nat
def flat (hs : List Hb) : List Value := hs.flatMap (fun h => [h.v, h.vl, .int .i64 h.m])
theorem flat_length (hs : List Hb) : (flat hs).length = hs.length * 3 := by
  induction hs with
  | nil => rfl
  | cons h r ih => simp [flat, List.flatMap_cons] at ih ⊢; omega
theorem flat_append (hs ks : List Hb) : flat (hs ++ ks) = flat hs ++ flat ks := by simp [flat]
theorem flat_get {hs : List Hb} {i : Nat} (h : i < hs.length) : (flat hs)[3 * i]? = some hs[i].v ∧ (flat hs)[3 * i + 1]? = some hs[i].vl ∧ (flat hs)[3 * i + 2]? = some (.int .i64 hs[i].m) := by
  induction hs generalizing i with
  | nil => simp at h
  | cons a r ih =>
    have e : flat (a :: r) = a.v :: a.vl :: .int .i64 a.m :: flat r := by simp [flat]
    rw [e]
    cases i with
    | zero => exact ⟨rfl, rfl, rfl⟩
    | succ i =>
      have := ih (i := i) (by simpa using h)
      rw [show 3 * (i + 1) = 3 * i + 1 + 1 + 1 by omega]
      simp only [List.getElem?_cons_succ, List.getElem_cons_succ]
      exact this
theorem flat_set {hs : List Hb} {i : Nat} (h : i < hs.length) (u : Value) : (flat hs).set (3 * i + 1) u = flat (hs.set i { hs[i] with vl := u }) := by
  induction hs generalizing i with
  | nil => simp at h
  | cons a r ih =>
    have e : ∀ b : Hb, ∀ q, flat (b :: q) = b.v :: b.vl :: .int .i64 b.m :: flat q := fun b q => by simp [flat]
    cases i with
    | zero => rw [e]; simp only [List.set_cons_zero, List.getElem_cons_zero, e]; rfl
    | succ i =>
      have := ih (i := i) (by simpa using h)
      rw [e, show 3 * (i + 1) + 1 = 3 * i + 1 + 1 + 1 + 1 by omega]
      simp only [List.set_cons_succ, List.getElem_cons_succ, e]
      rw [show 3 * i + 1 = 3 * i + 1 from rfl] at this
      rw [this]
structure Bk (W : World) (B g : Nat) (vb : Value) (n : Nat) (hs : List Hb) : Prop where
  gB : B ≤ g
  c0 : W.cell? ⟨g, 0, none⟩ = some (.int .i64 n)
  cz : ∀ o, 1 ≤ o → o ≤ 30 → o ≠ 2 → o ≠ 5 → W.cell? ⟨g, o, none⟩ = some (.slice none 0 0)
  c2 : W.cell? ⟨g, 2, none⟩ = some vb
  soft : ∀ o, W.frozen? ⟨g, o, none⟩ = false
  row : W.ownsRow B 78 3 vb hs.length (flat hs)
  ne : vb.ownBlock ≠ some g
theorem Bk.lt {W : World} {B g n : Nat} {vb : Value} {hs : List Hb} (h : Bk W B g vb n hs) : g < W.heap.size := World.block_lt_of_cell? W _ h.c0
theorem Bk.vlt {W : World} {B g n : Nat} {vb : Value} {hs : List Hb} (h : Bk W B g vb n hs) : ∀ b, vb.ownBlock = some b → B ≤ b ∧ b < W.heap.size := World.ownsRow.lt h.row
theorem ownsRow_lower {W : World} {B B' e size n : Nat} {v : Value} {xs : List Value} (h : W.ownsRow B e size v n xs) (hb : B' ≤ B) : W.ownsRow B' e size v n xs := by
  refine ⟨h.1, ?_⟩
  rcases h.2 with h0 | ⟨gr, cap, cur, e, hg, rest⟩
  · exact .inl h0
  · exact .inr ⟨gr, cap, cur, e, Nat.le_trans hb hg, rest⟩
theorem ownsRow_fr {E : Nat → Prop} {W W' : World} {B e size n : Nat} {v : Value} {xs : List Value} (h : W.ownsRow B e size v n xs) (hf : Fr E W W') (hn : ∀ b, v.ownBlock = some b → ¬ E b) : W'.ownsRow B e size v n xs := by
  refine ⟨h.1, ?_⟩
  rcases h.2 with h0 | ⟨gr, cap, cur, rfl, hg, hcur, rest⟩
  · exact .inl h0
  · exact .inr ⟨gr, cap, cur, rfl, hg, (hf.block _ (Array.getElem?_eq_some_iff.1 hcur).1 (hn gr rfl)).trans hcur, rest⟩
theorem Own8.fr {E : Nat → Prop} {W W' : World} {B : Nat} {v : Value} {xs : List Nat} (h : Own8 W B v xs) (hf : Fr E W W') (hn : ∀ b, v.ownBlock = some b → ¬ E b) : Own8 W' B v xs := ownsRow_fr h hf hn
theorem Bk.fr {E : Nat → Prop} {W W' : World} {B g n : Nat} {vb : Value} {hs : List Hb} (h : Bk W B g vb n hs) (hf : Fr E W W') (h1 : ¬ E g) (h2 : ∀ b, vb.ownBlock = some b → ¬ E b) : Bk W' B g vb n hs := by
  refine ⟨h.gB, hf.cell h.c0 h1, fun o o1 o2 o3 o4 => hf.cell (h.cz o o1 o2 o3 o4) h1, hf.cell h.c2 h1, fun o => ?_, ownsRow_fr h.row hf h2, h.ne⟩
  exact (World.frozen?_of_block (w := W) (a := ⟨g, o, none⟩) (hf.block g h.lt h1)).trans (h.soft o)
theorem Bk.next {W W' : World} {B g n : Nat} {vb : Value} {hs : List Hb} (h : Bk W B g vb n hs) (hb : Below W.heap.size W W') : Bk W' B g vb n hs := h.fr (E := fun _ => False) (Fr.ofBelow hb) (fun e => e) (fun _ _ e => e)
/- The kept lists lie apart from the book, from its row, and from one another. -/
structure Sep (g : Nat) (vb : Value) (hs : List Hb) : Prop where
  g : ∀ h ∈ hs, h.v.ownBlock ≠ some g
  b : ∀ h ∈ hs, ∀ k, h.v.ownBlock = some k → vb.ownBlock ≠ some k
  p : ∀ i j (hi : i < hs.length) (hj : j < hs.length), i ≠ j → ∀ k, hs[i].v.ownBlock = some k → hs[j].v.ownBlock ≠ some k
/- The cells of the i-th row. -/
theorem Bk.at {W : World} {B g n : Nat} {vb : Value} {hs : List Hb} (h : Bk W B g vb n hs) {i : Nat} (hi : i < hs.length) : ∃ r cap, vb = .slice (some ⟨r, 0, none⟩) hs.length cap ∧ r < W.heap.size ∧ B ≤ r ∧ hs.length ≤ cap ∧ W.cell? ⟨r, 3 * i, none⟩ = some hs[i].v ∧ W.cell? ⟨r, 3 * i + 1, none⟩ = some hs[i].vl ∧ W.cell? ⟨r, 3 * i + 2, none⟩ = some (.int .i64 hs[i].m) ∧ ∀ o, W.frozen? ⟨r, o, none⟩ = false := by
  rcases h.row.2 with ⟨_, hn⟩ | ⟨r, cap, cur, hv, hr, hcur, h1, h2, h3, h4⟩
  · omega
  · have hc : ∀ j u, (flat hs)[j]? = some u → W.cell? ⟨r, j, none⟩ = some u := fun j u hu => by
      have := World.ownsRow.cells (hv ▸ h.row) (g := r) rfl j u hu
      rwa [add8, Nat.zero_add] at this
    obtain ⟨f1, f2, f3⟩ := flat_get hi
    refine ⟨r, cap, hv, (Array.getElem?_eq_some_iff.1 hcur).1, hr, h1, hc _ _ f1, hc _ _ f2, hc _ _ f3, fun o => ?_⟩
    unfold World.frozen?; simp only [hcur]; simp
/- The i-th row's grown value is written. -/
theorem Bk.put {W : World} {B g n r cap : Nat} {hs : List Hb} (h : Bk W B g (.slice (some ⟨r, 0, none⟩) hs.length cap) n hs) {i : Nat} (hi : i < hs.length) (u : Value) : Bk (W.setCell ⟨r, 3 * i + 1, none⟩ u) B g (.slice (some ⟨r, 0, none⟩) hs.length cap) n (hs.set i { hs[i] with vl := u }) := by
  have hrg : r ≠ g := fun e => h.ne (by rw [e]; rfl)
  have hF : Fr (fun b => b = r) W (W.setCell ⟨r, 3 * i + 1, none⟩ u) := (Fr.refl _ W).set _ _ rfl
  refine ⟨h.gB, hF.cell h.c0 (fun e => hrg e.symm), fun o o1 o2 o3 o4 => hF.cell (h.cz o o1 o2 o3 o4) (fun e => hrg e.symm), hF.cell h.c2 (fun e => hrg e.symm), fun o => by rw [World.frozen?_setCell]; exact h.soft o, ?_, h.ne⟩
  rcases h.row.2 with ⟨e, _⟩ | ⟨r', cap', cur, hv, hr, hcur, h1, h2, h3, h4⟩
  · cases e
  · injection hv with e1 e2 e3
    injection e1 with e1
    injection e1 with e1
    subst e1 e3
    refine ⟨by rw [flat_length, List.length_set], .inr ⟨r, cap, _, by rw [List.length_set], hr, heap_setCell_same hcur _, by rw [List.length_set]; exact h1, h2, by simpa using h3, ?_⟩⟩
    rw [List.length_set, Array.toList_setIfInBounds, List.take_set, h4, flat_set hi]
end Go.Proofs.YtpgkohimcofjnaaGreatDoor
