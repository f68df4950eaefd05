/- Pieces of the proof: GkMm, TwH, Class. -/
import Derived.Test.YtlipcmonlhdgfaaGreatM2
import Derived.Deep.RegionHeld3
import Derived.BigQuiet
/- A Book's lists of one kind, as they lie in memory: held rows of the type ht at the Book's cell o; elements of the type et, of c cells; a mark's cells are mk. -/
namespace Go.Proofs.YtlipcmonlhdgfaaGreat
open Go.RowKit

/- One kept list: its value, the value that grew out of it, its number, its length. -/
structure Hc where
  v : Value
  vl : Value
  m : Nat
  n : Nat
def flatC (hs : List Hc) : List Value := hs.flatMap (fun h => [h.v, h.vl, .int .i64 h.m])
theorem flatC_length (hs : List Hc) : (flatC hs).length = hs.length * 3 := by
  induction hs with
  | nil => rfl
  | cons h r ih => simp [flatC, List.flatMap_cons] at ih ⊢; omega
theorem flatC_append (hs ks : List Hc) : flatC (hs ++ ks) = flatC hs ++ flatC ks := by simp [flatC]
theorem flatC_get {hs : List Hc} {i : Nat} (h : i < hs.length) : (flatC hs)[3 * i]? = some hs[i].v ∧ (flatC hs)[3 * i + 1]? = some hs[i].vl ∧ (flatC hs)[3 * i + 2]? = some (.int .i64 hs[i].m) := by
  induction hs generalizing i with
  | nil => simp at h
  | cons a r ih =>
    have e : flatC (a :: r) = a.v :: a.vl :: .int .i64 a.m :: flatC r := by simp [flatC]
    rw [e]
    cases i with
    | zero => exact ⟨rfl, rfl, rfl⟩
    | succ i =>
      have := ih (i := i) (by simpa using h)
      rw [show 3 * (i + 1) = 3 * i + 1 + 1 + 1 by omega]
      simp only [List.getElem?_cons_succ, List.getElem_cons_succ]
      exact this
theorem flatC_set {hs : List Hc} {i : Nat} (h : i < hs.length) (u : Value) : (flatC hs).set (3 * i + 1) u = flatC (hs.set i { hs[i] with vl := u }) := by
  induction hs generalizing i with
  | nil => simp at h
  | cons a r ih =>
    have e : ∀ b : Hc, ∀ q, flatC (b :: q) = b.v :: b.vl :: .int .i64 b.m :: flatC q := fun b q => by simp [flatC]
    cases i with
    | zero => rw [e]; simp only [List.set_cons_zero, List.getElem_cons_zero, e]; rfl
    | succ i =>
      have := ih (i := i) (by simpa using h)
      rw [e, show 3 * (i + 1) + 1 = 3 * i + 1 + 1 + 1 + 1 by omega]
      simp only [List.set_cons_succ, List.getElem_cons_succ, e]
      rw [this]
structure GB (ht o : Nat) (W : World) (B g : Nat) (vb : Value) (hs : List Hc) : Prop where
  gB : B ≤ g
  co : W.cell? ⟨g, o, none⟩ = some vb
  soft : ∀ o, W.frozen? ⟨g, o, none⟩ = false
  row : W.ownsRow B ht 3 vb hs.length (flatC hs)
  ne : vb.ownBlock ≠ some g
theorem owR_fr {E : Nat → Prop} {W W' : World} {B e size n : Nat} {v : Value} {xs : List Value} (h : W.ownsRow B e size v n xs) (hf : Fr E W W') (hn : ∀ b, v.ownBlock = some b → ¬ E b) : W'.ownsRow B e size v n xs := by
  refine ⟨h.1, ?_⟩
  rcases h.2 with h0 | ⟨gr, cap, cur, rfl, hg, hcur, rest⟩
  · exact .inl h0
  · exact .inr ⟨gr, cap, cur, rfl, hg, (hf.block _ (Array.getElem?_eq_some_iff.1 hcur).1 (hn gr rfl)).trans hcur, rest⟩
theorem owR_lower {W : World} {B B' e size n : Nat} {v : Value} {xs : List Value} (h : W.ownsRow B e size v n xs) (hb : B' ≤ B) : W.ownsRow B' e size v n xs := by
  refine ⟨h.1, ?_⟩
  rcases h.2 with h0 | ⟨gr, cap, cur, e, hg, rest⟩
  · exact .inl h0
  · exact .inr ⟨gr, cap, cur, e, Nat.le_trans hb hg, rest⟩
theorem owR_shape {W : World} {B e size n : Nat} {v : Value} {xs : List Value} (h : W.ownsRow B e size v n xs) : ∃ a c, v = .slice a n c := by
  rcases h.2 with ⟨h0, h1⟩ | ⟨gr, cap, cur, e, _⟩
  · subst h1; exact ⟨_, _, h0⟩
  · exact ⟨_, _, e⟩
theorem owR_some {W : World} {B e size n : Nat} {v : Value} {xs : List Value} (h : W.ownsRow B e size v n xs) (hn : 0 < n) : ∃ g c, v = .slice (some ⟨g, 0, none⟩) n c := by
  rcases h.2 with ⟨h0, h1⟩ | ⟨gr, cap, cur, e, _⟩
  · omega
  · exact ⟨_, _, e⟩
theorem GB.lt {ht o : Nat} {W : World} {B g : Nat} {vb : Value} {hs : List Hc} (h : GB ht o W B g vb hs) : g < W.heap.size := World.block_lt_of_cell? W _ h.co
theorem GB.vlt {ht o : Nat} {W : World} {B g : Nat} {vb : Value} {hs : List Hc} (h : GB ht o W B g vb hs) : ∀ b, vb.ownBlock = some b → B ≤ b ∧ b < W.heap.size := World.ownsRow.lt h.row
theorem GB.fr {ht o : Nat} {E : Nat → Prop} {W W' : World} {B g : Nat} {vb : Value} {hs : List Hc} (h : GB ht o W B g vb hs) (hf : Fr E W W') (h1 : ¬ E g) (h2 : ∀ b, vb.ownBlock = some b → ¬ E b) : GB ht o W' B g vb hs := by
  refine ⟨h.gB, hf.cell h.co h1, fun o => ?_, owR_fr h.row hf h2, h.ne⟩
  exact (World.frozen?_of_block (w := W) (a := ⟨g, o, none⟩) (hf.block g h.lt h1)).trans (h.soft o)
theorem GB.next {ht o : Nat} {W W' : World} {B g : Nat} {vb : Value} {hs : List Hc} (h : GB ht o W B g vb hs) (hb : Below W.heap.size W W') : GB ht o W' B g vb hs := h.fr (E := fun _ => False) (Fr.ofBelow hb) (fun e => e) (fun _ _ e => e)
/- The kept lists lie apart from the book, from its row, and from one another. -/
structure SepC (g : Nat) (vb : Value) (hs : List Hc) : Prop where
  g : ∀ h ∈ hs, h.v.ownBlock ≠ some g
  b : ∀ h ∈ hs, ∀ k, h.v.ownBlock = some k → vb.ownBlock ≠ some k
  p : ∀ i j (hi : i < hs.length) (hj : j < hs.length), i ≠ j → ∀ k, hs[i].v.ownBlock = some k → hs[j].v.ownBlock ≠ some k
theorem addC (b o j : Nat) : (⟨b, o, none⟩ : Addr).add j = ⟨b, o + j, none⟩ := by rw [Addr.add_mid]
/- The cells of the i-th row. -/
theorem GB.at {ht o : Nat} {W : World} {B g : Nat} {vb : Value} {hs : List Hc} (h : GB ht o W B g vb hs) {i : Nat} (hi : i < hs.length) : ∃ r cap, vb = .slice (some ⟨r, 0, none⟩) hs.length cap ∧ r < W.heap.size ∧ B ≤ r ∧ hs.length ≤ cap ∧ W.cell? ⟨r, 3 * i, none⟩ = some hs[i].v ∧ W.cell? ⟨r, 3 * i + 1, none⟩ = some hs[i].vl ∧ W.cell? ⟨r, 3 * i + 2, none⟩ = some (.int .i64 hs[i].m) ∧ ∀ o, W.frozen? ⟨r, o, none⟩ = false := by
  rcases h.row.2 with ⟨_, hn⟩ | ⟨r, cap, cur, hv, hr, hcur, h1, h2, h3, h4⟩
  · omega
  · have hc : ∀ j u, (flatC hs)[j]? = some u → W.cell? ⟨r, j, none⟩ = some u := fun j u hu => by
      have := World.ownsRow.cells (hv ▸ h.row) (g := r) rfl j u hu
      rwa [addC, Nat.zero_add] at this
    obtain ⟨f1, f2, f3⟩ := flatC_get hi
    refine ⟨r, cap, hv, (Array.getElem?_eq_some_iff.1 hcur).1, hr, h1, hc _ _ f1, hc _ _ f2, hc _ _ f3, fun o => ?_⟩
    unfold World.frozen?; simp only [hcur]; simp
/- The i-th row's grown value is written. -/
theorem GB.put {ht o : Nat} {W : World} {B g r cap : Nat} {hs : List Hc} (h : GB ht o W B g (.slice (some ⟨r, 0, none⟩) hs.length cap) hs) {i : Nat} (hi : i < hs.length) (u : Value) : GB ht o (W.setCell ⟨r, 3 * i + 1, none⟩ u) B g (.slice (some ⟨r, 0, none⟩) hs.length cap) (hs.set i { hs[i] with vl := u }) := by
  have hrg : r ≠ g := fun e => h.ne (by rw [e]; rfl)
  have hF : Fr (fun b => b = r) W (W.setCell ⟨r, 3 * i + 1, none⟩ u) := (Fr.refl _ W).set _ _ rfl
  have hs2 := (World.ownsRow.stored h.row (3 * i + 1) u).1
  rw [flatC_set hi] at hs2
  refine ⟨h.gB, hF.cell h.co (fun e => hrg e.symm), fun o => by rw [World.frozen?_setCell]; exact h.soft o, ?_, h.ne⟩
  rw [List.length_set]; exact hs2
/- Marks. -/
def mks (k : List Value) (n : Nat) : List Value := (List.replicate n k).flatten
theorem mks_zero (k : List Value) : mks k 0 = [] := rfl
theorem mks_cons (k : List Value) (n : Nat) : mks k (n + 1) = k ++ mks k n := by simp [mks, List.replicate_succ]
theorem mks_snoc (k : List Value) (n : Nat) : mks k (n + 1) = mks k n ++ k := by
  induction n with
  | zero => simp [mks]
  | succ n ih => rw [mks_cons, ih, ← List.append_assoc, ← mks_cons, ih]
theorem mks_length {k : List Value} {c : Nat} (hk : k.length = c) (n : Nat) : (mks k n).length = n * c := by
  induction n with
  | zero => simp [mks]
  | succ n ih => rw [mks_cons, List.length_append, ih, hk, Nat.succ_mul, Nat.add_comm]
theorem mks_app (k : List Value) (n q : Nat) : mks k (n + q) = mks k n ++ mks k q := by
  induction q with
  | zero => simp [mks]
  | succ q ih => rw [← Nat.add_assoc, mks_snoc, ih, mks_snoc, List.append_assoc]
theorem mks_pre {k : List Value} {c : Nat} (hk : k.length = c) {n n' j : Nat} (hn : n ≤ n') (hj : j < n * c) : (mks k n')[j]? = (mks k n)[j]? := by
  obtain ⟨q, rfl⟩ := Nat.exists_eq_add_of_le hn
  rw [mks_app, List.getElem?_append_left (by rw [mks_length hk]; exact hj)]
theorem mks_get {k : List Value} {c : Nat} (hk : k.length = c) {n q j : Nat} (hq : q < n) (hj : j < c) : (mks k n)[q * c + j]? = k[j]? := by
  obtain ⟨r, rfl⟩ := Nat.exists_eq_add_of_le (Nat.succ_le_of_lt hq)
  rw [Nat.succ_eq_add_one, mks_app, mks_snoc, List.getElem?_append_left (by rw [List.length_append, mks_length hk, hk]; omega), List.getElem?_append_right (by rw [mks_length hk]; omega), mks_length hk, Nat.add_sub_cancel_left]
/- Marks that can be read off a value, at the head of a row. -/
def RdM (c : Nat) (W : World) (v : Value) (n : Nat) (k : List Value) : Prop := ∃ a cap, v = .slice a n cap ∧ ∀ j, j < n * c → ∃ p, a = some ⟨p, 0, none⟩ ∧ W.cell? ⟨p, j, none⟩ = (mks k n)[j]?
theorem RdM.fr {c : Nat} {E : Nat → Prop} {W W' : World} {v : Value} {n : Nat} {k : List Value} (hk : k.length = c) (h : RdM c W v n k) (hf : Fr E W W') (hn : ∀ b, v.ownBlock = some b → ¬ E b) : RdM c W' v n k := by
  obtain ⟨a, cap, rfl, hc⟩ := h
  refine ⟨a, cap, rfl, fun j hj => ?_⟩
  obtain ⟨p, rfl, h2⟩ := hc j hj
  have hs : j < (mks k n).length := by rw [mks_length hk]; exact hj
  rw [List.getElem?_eq_getElem hs] at h2 ⊢
  exact ⟨p, rfl, hf.cell h2 (hn p rfl)⟩
theorem owR_rdM {c et : Nat} {W : World} {B : Nat} {v : Value} {n : Nat} {k : List Value} (h : W.ownsRow B et c v n (mks k n)) : RdM c W v n k := by
  rcases h.2 with ⟨h0, h1⟩ | ⟨g, cap, cur, e, _⟩
  · subst h1; exact ⟨_, _, h0, fun j hj => by omega⟩
  · refine ⟨_, _, e, fun j hj => ⟨g, rfl, ?_⟩⟩
    exact World.ownsRow.cellAt (e ▸ h) j hj
/- What holds of the lists while they are being filled. -/
def LEc (hs : List Hc) (b : Nat) : Prop := ∃ x ∈ hs, x.v.ownBlock = some b
structure FlC (ht o et c : Nat) (mk : Nat → List Value) (W wr : World) (B g : Nat) (vb : Value) (hs : List Hc) (k : Nat) : Prop where
  bk : GB ht o wr B g vb hs
  dn : ∀ j (hj : j < hs.length), j < k → wr.ownsRow B et c hs[j].v hs[j].n (mks (mk hs[j].m) hs[j].n)
  td : ∀ j (hj : j < hs.length), k ≤ j → ∃ xs, wr.ownsRow B et c hs[j].v hs[j].n xs
  fr : Fr (LEc hs) W wr
theorem SepC.nE {g : Nat} {vb : Value} {hs : List Hc} (s : SepC g vb hs) : ¬ LEc hs g ∧ ∀ b, vb.ownBlock = some b → ¬ LEc hs b := by
  constructor
  · rintro ⟨x, hx, e⟩; exact s.g x hx e
  · rintro b hb ⟨x, hx, e⟩; exact s.b x hx b e hb
theorem owR_below {B et c n : Nat} {W W' : World} {v : Value} {xs : List Value} (h : W.ownsRow B et c v n xs) (hb : Below W.heap.size W W') : W'.ownsRow B et c v n xs := owR_fr h (E := fun _ => False) (Fr.ofBelow hb) (fun _ _ e => e)
theorem FlC.next {ht o et c : Nat} {mk : Nat → List Value} {W wr w' : World} {B g k : Nat} {vb : Value} {hs : List Hc} (h : FlC ht o et c mk W wr B g vb hs k) (hb : Below wr.heap.size wr w') : FlC ht o et c mk W w' B g vb hs k :=
  ⟨h.bk.next hb, fun j hj hk => owR_below (h.dn j hj hk) hb, fun j hj hk => (h.td j hj hk).imp fun _ hx => owR_below hx hb, h.fr.trans (E' := fun _ => False) (Fr.ofBelow hb) (fun _ _ e => e.elim)⟩
/- The k-th list was filled. -/
theorem FlC.step {ht o et c : Nat} {mk : Nat → List Value} {W wr w' : World} {B g k : Nat} {vb : Value} {hs : List Hc} (h : FlC ht o et c mk W wr B g vb hs k) (s : SepC g vb hs) (hk : k < hs.length) (hf : Fr (fun b => hs[k].v.ownBlock = some b) wr w') (ho : w'.ownsRow B et c hs[k].v hs[k].n (mks (mk hs[k].m) hs[k].n)) : FlC ht o et c mk W w' B g vb hs (k + 1) := by
  refine ⟨h.bk.fr hf (s.g _ (List.getElem_mem hk)) (fun b hb e => s.b _ (List.getElem_mem hk) b e hb), fun j hj hjk => ?_, fun j hj hjk => ?_, h.fr.trans hf (fun b _ e => ⟨_, List.getElem_mem hk, e⟩)⟩
  · by_cases e : j = k
    · subst e; exact ho
    · exact owR_fr (h.dn j hj (by omega)) hf (fun b hb e' => s.p j k hj hk e b hb e')
  · exact (h.td j hj (by omega)).imp fun _ hx => owR_fr hx hf (fun b hb e' => s.p j k hj hk (by omega) b hb e')
structure FlInC (et c : Nat) (mk : List Value) (W1 wi : World) (B : Nat) (v : Value) (n q : Nat) : Prop where
  ow : ∃ rest, wi.ownsRow B et c v n (mks mk q ++ rest)
  fr : Fr (fun b => v.ownBlock = some b) W1 wi
/- What holds of the lists while they are growing. -/
structure GInC (et c : Nat) (mk : List Value) (W1 wi : World) (B : Nat) (v lv : Value) (n q : Nat) : Prop where
  ow : wi.ownsRow B et c lv (n + q) (mks mk (n + q))
  rd : RdM c wi v n mk
  fr : Fr (fun b => v.ownBlock = some b) W1 wi
  bl : ∀ b, lv.ownBlock = some b → v.ownBlock = some b ∨ W1.heap.size ≤ b
theorem GInC.next {et c : Nat} {mk : List Value} (hk : mk.length = c) {W1 wi w' : World} {B : Nat} {v lv : Value} {n q : Nat} (h : GInC et c mk W1 wi B v lv n q) (hb : Below wi.heap.size wi w') : GInC et c mk W1 w' B v lv n q :=
  ⟨owR_below h.ow hb, h.rd.fr hk (E := fun _ => False) (Fr.ofBelow hb) (fun _ _ e => e), h.fr.trans (E' := fun _ => False) (Fr.ofBelow hb) (fun _ _ e => e.elim), h.bl⟩
theorem GInC.step {et c : Nat} {mk : List Value} (hk : mk.length = c) {W1 wi w' : World} {B : Nat} {v lv lv' : Value} {n q : Nat} (h : GInC et c mk W1 wi B v lv n q) (ho : w'.ownsRow B et c lv' (n + q + 1) (mks mk (n + q) ++ mk)) (hd : (lv'.ownBlock = lv.ownBlock ∧ wi.grownBy w' lv.ownBlock) ∨ (wi.grownBy w' none ∧ ∀ b, lv'.ownBlock = some b → wi.heap.size ≤ b)) : GInC et c mk W1 w' B v lv' n (q + 1) := by
  have ho2 : w'.ownsRow B et c lv' (n + (q + 1)) (mks mk (n + (q + 1))) := by rw [← Nat.add_assoc, mks_snoc]; exact ho
  rcases hd with ⟨e, hg⟩ | ⟨hg, hb⟩
  · have hf : Fr (fun b => lv.ownBlock = some b) wi w' := Fr.grown hg (fun r e => e)
    refine ⟨ho2, ?_, h.fr.trans hf (fun b hb e' => ?_), fun b hb => h.bl b (e ▸ hb)⟩
    · by_cases hv : ∃ b, v.ownBlock = some b ∧ lv.ownBlock = some b
      · obtain ⟨b, hv1, hv2⟩ := hv
        obtain ⟨a, cap, hva, hc⟩ := h.rd
        subst hva
        obtain ⟨g', c', hv'⟩ := owR_some ho2 (by omega)
        subst hv'
        have e2 : g' = b := by rw [hv2] at e; cases e; rfl
        subst e2
        refine ⟨a, cap, rfl, fun j hj => ?_⟩
        obtain ⟨p, rfl, _⟩ := hc j hj
        have e1 : p = g' := by cases hv1; rfl
        subst e1
        refine ⟨p, rfl, ?_⟩
        have h1 : n * c ≤ (n + (q + 1)) * c := Nat.mul_le_mul_right _ (by omega)
        rw [World.ownsRow.cellAt ho2 j (by omega), mks_pre hk (by omega) hj]
      · exact h.rd.fr hk hf (fun b hb e' => hv ⟨b, hb, e'⟩)
    · rcases h.bl b e' with e' | e'
      · exact e'
      · omega
  · refine ⟨ho2, h.rd.fr hk (E := fun _ => False) (Fr.grown hg (fun r e => by cases e)) (fun _ _ e => e), h.fr.trans (E' := fun _ => False) (Fr.grown hg (fun r e => by cases e)) (fun _ _ e => e.elim), fun b hb' => .inr (Nat.le_trans h.fr.size (hb b hb'))⟩
/- How long a list of a kind may be. -/
def mxK : Nat → Nat | 2 => 140737488351232 | _ => 100000000
theorem mxK_le (o : Nat) : mxK o ≤ 140737488351232 := by unfold mxK; split <;> omega
theorem le_mxK (o : Nat) : 100000000 ≤ mxK o := by unfold mxK; split <;> omega
def GEc (hs : List Hc) (vb : Value) (b : Nat) : Prop := LEc hs b ∨ vb.ownBlock = some b
structure GrC (ht o et c : Nat) (mk : Nat → List Value) (W wr : World) (B g : Nat) (vb : Value) (hs ks : List Hc) (k : Nat) : Prop where
  bk : GB ht o wr B g vb ks
  sep : SepC g vb ks
  lim : ∀ x ∈ ks, x.n ≤ mxK o ∧ x.m < 1000000000 ∧ ∃ a n c, x.vl = .slice a n c
  dn : ∀ j (hj : j < ks.length), j < k → wr.ownsRow B et c ks[j].vl (ks[j].n + 40) (mks (mk ks[j].m) (ks[j].n + 40)) ∧ RdM c wr ks[j].v ks[j].n (mk ks[j].m) ∧ (∀ b, ks[j].vl.ownBlock = some b → vb.ownBlock ≠ some b) ∧ ∀ i (hi : i < ks.length), k ≤ i → ∀ b, ks[j].vl.ownBlock = some b → ks[i].v.ownBlock ≠ some b
  td : ∀ j (hj : j < ks.length), k ≤ j → wr.ownsRow B et c ks[j].v ks[j].n (mks (mk ks[j].m) ks[j].n)
  fr : Fr (GEc hs vb) W wr
  le : ∀ b, LEc ks b → LEc hs b
theorem GrC.next {ht o et c : Nat} {mk : Nat → List Value} (hmk : ∀ m, (mk m).length = c) {W wr w' : World} {B g k : Nat} {vb : Value} {hs ks : List Hc} (h : GrC ht o et c mk W wr B g vb hs ks k) (hb : Below wr.heap.size wr w') : GrC ht o et c mk W w' B g vb hs ks k :=
  ⟨h.bk.next hb, h.sep, h.lim, fun j hj hk => ⟨owR_below (h.dn j hj hk).1 hb, (h.dn j hj hk).2.1.fr (hmk _) (E := fun _ => False) (Fr.ofBelow hb) (fun _ _ e => e), (h.dn j hj hk).2.2⟩, fun j hj hk => owR_below (h.td j hj hk) hb, h.fr.trans (E' := fun _ => False) (Fr.ofBelow hb) (fun _ _ e => e.elim), h.le⟩
theorem SepC.set {g : Nat} {vb : Value} {ks : List Hc} (s : SepC g vb ks) {k : Nat} (hk : k < ks.length) (u : Value) : SepC g vb (ks.set k { ks[k] with vl := u }) := by
  have hv : ∀ j (hj : j < (ks.set k { ks[k] with vl := u }).length), (ks.set k { ks[k] with vl := u })[j].v = (ks[j]'(by simpa using hj)).v := fun j hj => by
    rw [List.getElem_set]; split
    · rename_i e; subst e; rfl
    · rfl
  refine ⟨fun x hx => ?_, fun x hx => ?_, fun i j hi hj hne => ?_⟩
  · obtain ⟨j, hj, rfl⟩ := List.getElem_of_mem hx
    rw [hv]; exact s.g _ (List.getElem_mem _)
  · obtain ⟨j, hj, rfl⟩ := List.getElem_of_mem hx
    rw [hv]; exact s.b _ (List.getElem_mem _)
  · rw [hv, hv]; exact s.p i j _ _ hne
theorem GrC.step {ht o et c : Nat} {mk : Nat → List Value} (hmk : ∀ m, (mk m).length = c) {W W1 wi : World} {B g k r cap : Nat} {N : Nat} {hs ks : List Hc} {lv : Value} (hN : ks.length = N) (h : GrC ht o et c mk W W1 B g (.slice (some ⟨r, 0, none⟩) N cap) hs ks k) (hk : k < ks.length) (hi : GInC et c (mk ks[k].m) W1 wi B ks[k].v lv ks[k].n 40) :
    GrC ht o et c mk W (wi.setCell ⟨r, 3 * k + 1, none⟩ lv) B g (.slice (some ⟨r, 0, none⟩) N cap) hs (ks.set k { ks[k] with vl := lv }) (k + 1) := by
  subst hN
  have hrW : r < W1.heap.size := (h.bk.vlt r rfl).2
  have sb := h.sep.b
  have hset : Fr (fun b => b = r) wi (wi.setCell ⟨r, 3 * k + 1, none⟩ lv) := (Fr.refl _ wi).set _ _ rfl
  have gv : ∀ j (hj : j < (ks.set k { ks[k] with vl := lv }).length), (ks.set k { ks[k] with vl := lv })[j].v = (ks[j]'(by simpa using hj)).v ∧ (ks.set k { ks[k] with vl := lv })[j].m = (ks[j]'(by simpa using hj)).m ∧ (ks.set k { ks[k] with vl := lv })[j].n = (ks[j]'(by simpa using hj)).n := fun j hj => by
    rw [List.getElem_set]; split
    · rename_i e; subst e; exact ⟨rfl, rfl, rfl⟩
    · exact ⟨rfl, rfl, rfl⟩
  have gk : ∀ (hj : k < (ks.set k { ks[k] with vl := lv }).length), (ks.set k { ks[k] with vl := lv })[k].vl = lv := fun hj => by rw [List.getElem_set_self]
  have gn : ∀ j (hj : j < (ks.set k { ks[k] with vl := lv }).length), j ≠ k → (ks.set k { ks[k] with vl := lv })[j].vl = (ks[j]'(by simpa using hj)).vl := fun j hj hne => by
    rw [List.getElem_set_ne (by omega)]
  have vr : ∀ j (hj : j < ks.length) b, ks[j].v.ownBlock = some b → b ≠ r := fun j hj b hb e => sb _ (List.getElem_mem hj) b hb (by rw [e]; rfl)
  have hbk : GB ht o wi B g (.slice (some ⟨r, 0, none⟩) ks.length cap) ks := h.bk.fr hi.fr (h.sep.g _ (List.getElem_mem hk)) (fun b hb e => sb _ (List.getElem_mem hk) b e hb)
  have lr : ∀ b, lv.ownBlock = some b → b ≠ r := fun b hb => by
    rcases hi.bl b hb with e | e
    · exact vr k hk b e
    · omega
  refine ⟨hbk.put hk lv, h.sep.set hk lv, fun x hx => ?_, fun j hj hjk => ?_, fun j hj hjk => ?_, ?_, fun b hb => ?_⟩
  · obtain ⟨j, hj, rfl⟩ := List.getElem_of_mem hx
    have hj' : j < ks.length := by simpa using hj
    obtain ⟨_, g2, g3⟩ := gv j hj
    have hl := h.lim _ (List.getElem_mem hj')
    rw [g2, g3]
    refine ⟨hl.1, hl.2.1, ?_⟩
    by_cases e : j = k
    · subst e; rw [gk]; obtain ⟨a, c, e⟩ := owR_shape hi.ow; exact ⟨_, _, _, e⟩
    · rw [gn j hj e]; exact hl.2.2
  · have hj' : j < ks.length := by simpa using hj
    obtain ⟨g1, g2, g3⟩ := gv j hj
    by_cases e : j = k
    · subst e
      rw [gk, g1, g2, g3]
      refine ⟨owR_fr hi.ow hset (fun b hb e => lr b hb e), hi.rd.fr (hmk _) hset (fun b hb e => vr j hj' b hb e), fun b hb e => lr b hb (by injection e with e; exact e.symm), fun i hii hji b hb => ?_⟩
      have hi' : i < ks.length := by simpa using hii
      rw [(gv i hii).1]
      rcases hi.bl b hb with e | e
      · exact h.sep.p j i hj' hi' (by omega) b e
      · intro e2; have := (World.ownsRow.lt (h.td i hi' (by omega)) b e2).2; omega
    · obtain ⟨d1, d2, d3, d4⟩ := h.dn j hj' (by omega)
      rw [gn j hj e, g1, g2, g3]
      refine ⟨owR_fr (owR_fr d1 hi.fr (fun b hb e => d4 k hk (Nat.le_refl _) b hb e)) hset (fun b hb e => d3 b hb (by rw [e]; rfl)), (d2.fr (hmk _) hi.fr (fun b hb e' => h.sep.p j k hj' hk e b hb e')).fr (hmk _) hset (fun b hb e => vr j hj' b hb e), d3, fun i hii hji b hb => ?_⟩
      rw [(gv i hii).1]
      exact d4 i (by simpa using hii) (by omega) b hb
  · have hj' : j < ks.length := by simpa using hj
    obtain ⟨g1, g2, g3⟩ := gv j hj
    rw [g1, g2, g3]
    exact owR_fr (owR_fr (h.td j hj' (by omega)) hi.fr (fun b hb e => h.sep.p j k hj' hk (by omega) b hb e)) hset (fun b hb e => vr j hj' b hb e)
  · exact (h.fr.trans hi.fr (fun b _ e => .inl (h.le b ⟨_, List.getElem_mem hk, e⟩))).set _ _ (.inr rfl)
  · obtain ⟨x, hx, e⟩ := hb
    obtain ⟨j, hj, rfl⟩ := List.getElem_of_mem hx
    rw [(gv j hj).1] at e
    exact h.le b ⟨_, List.getElem_mem _, e⟩
/- What was filled can grow. -/
theorem FlC.grow {ht o et c : Nat} {mk : Nat → List Value} {W wr : World} {B g : Nat} {vb : Value} {hs : List Hc} (h : FlC ht o et c mk W wr B g vb hs hs.length) (s : SepC g vb hs) (hl : ∀ x ∈ hs, x.n ≤ mxK o ∧ x.m < 1000000000 ∧ ∃ a n c, x.vl = .slice a n c) {W2 : World} (hf : Fr (fun _ => False) wr W2) : GrC ht o et c mk W2 W2 B g vb hs hs 0 :=
  ⟨h.bk.fr hf (fun e => e) (fun _ _ e => e), s, hl, fun j hj hk => by omega, fun j hj _ => owR_fr (h.dn j hj hj) hf (fun _ _ e => e), Fr.refl _ _, fun _ e => e⟩
end Go.Proofs.YtlipcmonlhdgfaaGreat
/- While a struct is laid anew in a drawn region (cut out of TwE; no program). -/
namespace Go.Proofs.YtlipcmonlhdgfaaGreat
open Go.RowKit

theorem own_openQ {W : World} {B e c g n cap : Nat} {xs : List Value} (h : W.ownsRow B e c (.slice (some ⟨g, 0, none⟩) n cap) n xs) : B ≤ g ∧ ∃ cur : Array Value, W.heap[g]? = some (.cells cur e (0, 0)) ∧ n ≤ cap ∧ cap ≤ maxLen ∧ cur.size = cap * c ∧ cur.toList.take (n * c) = xs := by
  rcases h.2 with ⟨h1, _⟩ | ⟨g', cap', cur, h1, h2, h3, h4, h5, h6, h7⟩
  · cases h1
  · injection h1 with e1 e2 e3
    injection e1 with e1
    injection e1 with e1
    subst e1 e3
    exact ⟨h2, cur, h3, h4, h5, h6, h7⟩
theorem own_blk {W W' : World} {B e c g n cap : Nat} {xs : List Value} (h : W.ownsRow B e c (.slice (some ⟨g, 0, none⟩) n cap) n xs) (hb : W'.heap[g]? = W.heap[g]?) : W'.ownsRow B e c (.slice (some ⟨g, 0, none⟩) n cap) n xs := by
  obtain ⟨h1, cur, h2, h3, h4, h5, h6⟩ := own_openQ h
  exact ⟨h.1, .inr ⟨g, cap, cur, rfl, h1, hb.trans h2, h3, h4, h5, h6⟩⟩
theorem cel_of {w : World} {b : Nat} {A : Array Value} {e : TypeId} (h : w.heap[b]? = some (.cells A e (0, 0))) (j : Nat) {u : Value} (hu : A[j]? = some u) : w.cell? ⟨b, j, none⟩ = some u := by unfold World.cell?; simp only [h]; exact hu
theorem setAll_size (b : Nat) : ∀ (cs : List Value) (W : World) (o : Nat), (setAll b W o cs).heap.size = W.heap.size
  | [], _, _ => rfl
  | x :: xs, W, o => (setAll_size b xs (W.setCell ⟨b, o, none⟩ x) (o + 1)).trans (by simp [World.setCell])
def TwX (W : World) (T K : Nat) (A : Array Value) (w' : World) : Prop := Below W.heap.size W w' ∧ w'.heap[W.heap.size]? = some (.cells A T (0, 0)) ∧ (∃ cur : Array Value, w'.heap[W.heap.size + 1]? = some (.cells cur T (0, 0)) ∧ cur.size = K) ∧ W.heap.size + 2 ≤ w'.heap.size
theorem TwX.start {W : World} {T K : Nat} {A Z : Array Value} (hz : Z.size = K) : TwX W T K A ((W.alloc (.cells A T)).alloc (.cells Z T)).drew := by
  refine ⟨(below2 W _ _).drew, ?_, ⟨Z, ?_, hz⟩, by show _ ≤ ((W.alloc _).alloc _).heap.size; simp⟩
  · exact (Below.heap_alloc (W.alloc (.cells A T)) _ _ (by simp)).trans (heap_alloc_new W _)
  · have h := heap_alloc_new (W.alloc (.cells A T)) (.cells Z T)
    rw [World.size_alloc] at h
    exact h
theorem TwX.next {W : World} {T K : Nat} {A : Array Value} {w w' : World} (h : TwX W T K A w) (hb : Below w.heap.size w w') : TwX W T K A w' := by
  obtain ⟨h1, h2, ⟨cur, h3, h4⟩, h5⟩ := h
  exact ⟨h1.trans (hb.mono h1.size), (hb.block _ (by omega)).trans h2, ⟨cur, (hb.block _ (by omega)).trans h3, h4⟩, Nat.le_trans h5 hb.size⟩
theorem TwX.store {W : World} {T K : Nat} {A : Array Value} {w w' : World} {cs : List Value} (h : TwX W T K A w) (hl : cs.length = K) (e : w' = setAll (W.heap.size + 1) w 0 cs) : TwX W T K A w' ∧ w'.heap[W.heap.size + 1]? = some (.cells cs.toArray T (0, 0)) ∧ w'.heap.size = w.heap.size ∧ ∀ b, b < w.heap.size → b ≠ W.heap.size + 1 → w'.heap[b]? = w.heap[b]? := by
  obtain ⟨h1, h2, ⟨cur, h3, h4⟩, h5⟩ := h
  have F := fr_all (W.heap.size + 1) cs w 0
  rw [← e] at F
  have g := got0 h3 (h4.trans hl.symm)
  rw [← e] at g
  have hs : w'.heap.size = w.heap.size := by rw [e]; exact setAll_size _ _ _ _
  have hne : ∀ b, b < w.heap.size → b ≠ W.heap.size + 1 → w'.heap[b]? = w.heap[b]? := fun b hb hn => F.block b hb hn
  have hw := h1.size
  refine ⟨⟨⟨F.os.trans h1.os, F.tape.trans h1.tape, F.output.trans h1.output, by omega, fun b hb => (hne b (by omega) (by omega)).trans (h1.block b hb)⟩, (hne _ (by omega) (by omega)).trans h2, ⟨_, g, by simpa using hl⟩, by omega⟩, g, hs, hne⟩
end Go.Proofs.YtlipcmonlhdgfaaGreat
/- A drawn region walked once, in the text's order, over a class of worlds of one's own: its callees may make memory, and operations whose guard says no are passed over. No program stands in it. -/
namespace Go.Proofs.YtlipcmonlhdgfaaGreat
open Go

theorem wp_region_class {P : Program} {X : Type} (f : X → World) {id : Nat} {Q : Exit → Act → World → Prop} {a : Act} {w : World} {l : List Oper} (hm : P.follows .mixedOrders = true) (hB : Region.lexB .any l.toArray = true) (hC : ∃ x, { w with drawn := w.drawn + 1 } = f x)
    (h : wpQuiet P l.toArray (fun w' => ∃ x, w' = f x) (fun a' => ∀ w', (∃ x, w' = f x) → Q .normal a' w') l a) : (Code.region id l.toArray true).wp P Q a w :=
  wp_region_quiet (C := fun w' => ∃ x, w' = f x) hm hB hC (by simpa using h)
theorem class_of (S : World → Prop) (w0 : World) (h : S w0) : ∃ (X : Type) (f : X → World), Nonempty X ∧ (∀ x, S (f x)) ∧ ∀ w', S w' → ∃ x, w' = f x :=
  ⟨{ w // S w }, Subtype.val, ⟨⟨w0, h⟩⟩, fun x => x.2, fun w' h => ⟨⟨w', h⟩, rfl⟩⟩
end Go.Proofs.YtlipcmonlhdgfaaGreat
