/- Pieces of the proof: GkM, GkN, PaG, PaX. -/
import Derived.Test.YtcfopkaomknmjaaGreatDoorM5
import Derived.ArgAppend
import Derived.Test.YtcfopkaomknmjaaGreatDoorM9
/- A Book's lists of one kind, as they lie in memory: held rows of the type ht at the Book's cell o; elements of the type et, of c cells; a mark's cells are mk. -/
namespace Go.Proofs.YtcfopkaomknmjaaGreatDoor
open Go.RowKit

/- One kept list: its value, the value that grew out of it, its number, its length. -/
structure Hc where
  v : Value
  vl : Value
  m : Nat
  n : Nat
def flatC (hs : List Hc) : List Value := hs.flatMap (fun h => [h.v, h.vl, .int .i64 h.m])
theorem flatC_length (hs : List Hc) : (flatC hs).length = hs.length * 3 := by
  induction hs with
  | nil => rfl
  | cons h r ih => simp [flatC, List.flatMap_cons] at ih ⊢; omega
theorem flatC_append (hs ks : List Hc) : flatC (hs ++ ks) = flatC hs ++ flatC ks := by simp [flatC]
theorem flatC_get {hs : List Hc} {i : Nat} (h : i < hs.length) : (flatC hs)[3 * i]? = some hs[i].v ∧ (flatC hs)[3 * i + 1]? = some hs[i].vl ∧ (flatC hs)[3 * i + 2]? = some (.int .i64 hs[i].m) := by
  induction hs generalizing i with
  | nil => simp at h
  | cons a r ih =>
    have e : flatC (a :: r) = a.v :: a.vl :: .int .i64 a.m :: flatC r := by simp [flatC]
    rw [e]
    cases i with
    | zero => exact ⟨rfl, rfl, rfl⟩
    | succ i =>
      have := ih (i := i) (by simpa using h)
      rw [show 3 * (i + 1) = 3 * i + 1 + 1 + 1 by omega]
      simp only [List.getElem?_cons_succ, List.getElem_cons_succ]
      exact this
theorem flatC_set {hs : List Hc} {i : Nat} (h : i < hs.length) (u : Value) : (flatC hs).set (3 * i + 1) u = flatC (hs.set i { hs[i] with vl := u }) := by
  induction hs generalizing i with
  | nil => simp at h
  | cons a r ih =>
    have e : ∀ b : Hc, ∀ q, flatC (b :: q) = b.v :: b.vl :: .int .i64 b.m :: flatC q := fun b q => by simp [flatC]
    cases i with
    | zero => rw [e]; simp only [List.set_cons_zero, List.getElem_cons_zero, e]; rfl
    | succ i =>
      have := ih (i := i) (by simpa using h)
      rw [e, show 3 * (i + 1) + 1 = 3 * i + 1 + 1 + 1 + 1 by omega]
      simp only [List.set_cons_succ, List.getElem_cons_succ, e]
      rw [this]
structure GB (ht o : Nat) (W : World) (B g : Nat) (vb : Value) (hs : List Hc) : Prop where
  gB : B ≤ g
  co : W.cell? ⟨g, o, none⟩ = some vb
  soft : ∀ o, W.frozen? ⟨g, o, none⟩ = false
  row : W.ownsRow B ht 3 vb hs.length (flatC hs)
  ne : vb.ownBlock ≠ some g
theorem ownR_fr {E : Nat → Prop} {W W' : World} {B e size n : Nat} {v : Value} {xs : List Value} (h : W.ownsRow B e size v n xs) (hf : Fr E W W') (hn : ∀ b, v.ownBlock = some b → ¬ E b) : W'.ownsRow B e size v n xs := by
  refine ⟨h.1, ?_⟩
  rcases h.2 with h0 | ⟨gr, cap, cur, rfl, hg, hcur, rest⟩
  · exact .inl h0
  · exact .inr ⟨gr, cap, cur, rfl, hg, (hf.block _ (Array.getElem?_eq_some_iff.1 hcur).1 (hn gr rfl)).trans hcur, rest⟩
theorem ownR_lower {W : World} {B B' e size n : Nat} {v : Value} {xs : List Value} (h : W.ownsRow B e size v n xs) (hb : B' ≤ B) : W.ownsRow B' e size v n xs := by
  refine ⟨h.1, ?_⟩
  rcases h.2 with h0 | ⟨gr, cap, cur, e, hg, rest⟩
  · exact .inl h0
  · exact .inr ⟨gr, cap, cur, e, Nat.le_trans hb hg, rest⟩
theorem ownR_shape {W : World} {B e size n : Nat} {v : Value} {xs : List Value} (h : W.ownsRow B e size v n xs) : ∃ a c, v = .slice a n c := by
  rcases h.2 with ⟨h0, h1⟩ | ⟨gr, cap, cur, e, _⟩
  · subst h1; exact ⟨_, _, h0⟩
  · exact ⟨_, _, e⟩
theorem ownR_some {W : World} {B e size n : Nat} {v : Value} {xs : List Value} (h : W.ownsRow B e size v n xs) (hn : 0 < n) : ∃ g c, v = .slice (some ⟨g, 0, none⟩) n c := by
  rcases h.2 with ⟨h0, h1⟩ | ⟨gr, cap, cur, e, _⟩
  · omega
  · exact ⟨_, _, e⟩
theorem GB.lt {ht o : Nat} {W : World} {B g : Nat} {vb : Value} {hs : List Hc} (h : GB ht o W B g vb hs) : g < W.heap.size := World.block_lt_of_cell? W _ h.co
theorem GB.vlt {ht o : Nat} {W : World} {B g : Nat} {vb : Value} {hs : List Hc} (h : GB ht o W B g vb hs) : ∀ b, vb.ownBlock = some b → B ≤ b ∧ b < W.heap.size := World.ownsRow.lt h.row
theorem GB.fr {ht o : Nat} {E : Nat → Prop} {W W' : World} {B g : Nat} {vb : Value} {hs : List Hc} (h : GB ht o W B g vb hs) (hf : Fr E W W') (h1 : ¬ E g) (h2 : ∀ b, vb.ownBlock = some b → ¬ E b) : GB ht o W' B g vb hs := by
  refine ⟨h.gB, hf.cell h.co h1, fun o => ?_, ownR_fr h.row hf h2, h.ne⟩
  exact (World.frozen?_of_block (w := W) (a := ⟨g, o, none⟩) (hf.block g h.lt h1)).trans (h.soft o)
theorem GB.next {ht o : Nat} {W W' : World} {B g : Nat} {vb : Value} {hs : List Hc} (h : GB ht o W B g vb hs) (hb : Below W.heap.size W W') : GB ht o W' B g vb hs := h.fr (E := fun _ => False) (Fr.ofBelow hb) (fun e => e) (fun _ _ e => e)
/- The kept lists lie apart from the book, from its row, and from one another. -/
structure SepC (g : Nat) (vb : Value) (hs : List Hc) : Prop where
  g : ∀ h ∈ hs, h.v.ownBlock ≠ some g
  b : ∀ h ∈ hs, ∀ k, h.v.ownBlock = some k → vb.ownBlock ≠ some k
  p : ∀ i j (hi : i < hs.length) (hj : j < hs.length), i ≠ j → ∀ k, hs[i].v.ownBlock = some k → hs[j].v.ownBlock ≠ some k
theorem addC (b o j : Nat) : (⟨b, o, none⟩ : Addr).add j = ⟨b, o + j, none⟩ := by rw [Addr.add_mid]
/- The cells of the i-th row. -/
theorem GB.at {ht o : Nat} {W : World} {B g : Nat} {vb : Value} {hs : List Hc} (h : GB ht o W B g vb hs) {i : Nat} (hi : i < hs.length) : ∃ r cap, vb = .slice (some ⟨r, 0, none⟩) hs.length cap ∧ r < W.heap.size ∧ B ≤ r ∧ hs.length ≤ cap ∧ W.cell? ⟨r, 3 * i, none⟩ = some hs[i].v ∧ W.cell? ⟨r, 3 * i + 1, none⟩ = some hs[i].vl ∧ W.cell? ⟨r, 3 * i + 2, none⟩ = some (.int .i64 hs[i].m) ∧ ∀ o, W.frozen? ⟨r, o, none⟩ = false := by
  rcases h.row.2 with ⟨_, hn⟩ | ⟨r, cap, cur, hv, hr, hcur, h1, h2, h3, h4⟩
  · omega
  · have hc : ∀ j u, (flatC hs)[j]? = some u → W.cell? ⟨r, j, none⟩ = some u := fun j u hu => by
      have := World.ownsRow.cells (hv ▸ h.row) (g := r) rfl j u hu
      rwa [addC, Nat.zero_add] at this
    obtain ⟨f1, f2, f3⟩ := flatC_get hi
    refine ⟨r, cap, hv, (Array.getElem?_eq_some_iff.1 hcur).1, hr, h1, hc _ _ f1, hc _ _ f2, hc _ _ f3, fun o => ?_⟩
    unfold World.frozen?; simp only [hcur]; simp
/- The i-th row's grown value is written. -/
theorem GB.put {ht o : Nat} {W : World} {B g r cap : Nat} {hs : List Hc} (h : GB ht o W B g (.slice (some ⟨r, 0, none⟩) hs.length cap) hs) {i : Nat} (hi : i < hs.length) (u : Value) : GB ht o (W.setCell ⟨r, 3 * i + 1, none⟩ u) B g (.slice (some ⟨r, 0, none⟩) hs.length cap) (hs.set i { hs[i] with vl := u }) := by
  have hrg : r ≠ g := fun e => h.ne (by rw [e]; rfl)
  have hF : Fr (fun b => b = r) W (W.setCell ⟨r, 3 * i + 1, none⟩ u) := (Fr.refl _ W).set _ _ rfl
  have hs2 := (World.ownsRow.stored h.row (3 * i + 1) u).1
  rw [flatC_set hi] at hs2
  refine ⟨h.gB, hF.cell h.co (fun e => hrg e.symm), fun o => by rw [World.frozen?_setCell]; exact h.soft o, ?_, h.ne⟩
  rw [List.length_set]; exact hs2
/- Marks. -/
def mks (k : List Value) (n : Nat) : List Value := (List.replicate n k).flatten
theorem mks_zero (k : List Value) : mks k 0 = [] := rfl
theorem mks_cons (k : List Value) (n : Nat) : mks k (n + 1) = k ++ mks k n := by simp [mks, List.replicate_succ]
theorem mks_snoc (k : List Value) (n : Nat) : mks k (n + 1) = mks k n ++ k := by
  induction n with
  | zero => simp [mks]
  | succ n ih => rw [mks_cons, ih, ← List.append_assoc, ← mks_cons, ih]
theorem mks_length {k : List Value} {c : Nat} (hk : k.length = c) (n : Nat) : (mks k n).length = n * c := by
  induction n with
  | zero => simp [mks]
  | succ n ih => rw [mks_cons, List.length_append, ih, hk, Nat.succ_mul, Nat.add_comm]
theorem mks_app (k : List Value) (n q : Nat) : mks k (n + q) = mks k n ++ mks k q := by
  induction q with
  | zero => simp [mks]
  | succ q ih => rw [← Nat.add_assoc, mks_snoc, ih, mks_snoc, List.append_assoc]
theorem mks_pre {k : List Value} {c : Nat} (hk : k.length = c) {n n' j : Nat} (hn : n ≤ n') (hj : j < n * c) : (mks k n')[j]? = (mks k n)[j]? := by
  obtain ⟨q, rfl⟩ := Nat.exists_eq_add_of_le hn
  rw [mks_app, List.getElem?_append_left (by rw [mks_length hk]; exact hj)]
theorem mks_get {k : List Value} {c : Nat} (hk : k.length = c) {n q j : Nat} (hq : q < n) (hj : j < c) : (mks k n)[q * c + j]? = k[j]? := by
  obtain ⟨r, rfl⟩ := Nat.exists_eq_add_of_le (Nat.succ_le_of_lt hq)
  rw [Nat.succ_eq_add_one, mks_app, mks_snoc, List.getElem?_append_left (by rw [List.length_append, mks_length hk, hk]; omega), List.getElem?_append_right (by rw [mks_length hk]; omega), mks_length hk, Nat.add_sub_cancel_left]
/- Marks that can be read off a value, at the head of a row. -/
def RdM (c : Nat) (W : World) (v : Value) (n : Nat) (k : List Value) : Prop := ∃ a cap, v = .slice a n cap ∧ ∀ j, j < n * c → ∃ p, a = some ⟨p, 0, none⟩ ∧ W.cell? ⟨p, j, none⟩ = (mks k n)[j]?
theorem RdM.fr {c : Nat} {E : Nat → Prop} {W W' : World} {v : Value} {n : Nat} {k : List Value} (hk : k.length = c) (h : RdM c W v n k) (hf : Fr E W W') (hn : ∀ b, v.ownBlock = some b → ¬ E b) : RdM c W' v n k := by
  obtain ⟨a, cap, rfl, hc⟩ := h
  refine ⟨a, cap, rfl, fun j hj => ?_⟩
  obtain ⟨p, rfl, h2⟩ := hc j hj
  have hs : j < (mks k n).length := by rw [mks_length hk]; exact hj
  rw [List.getElem?_eq_getElem hs] at h2 ⊢
  exact ⟨p, rfl, hf.cell h2 (hn p rfl)⟩
theorem ownR_rdM {c et : Nat} {W : World} {B : Nat} {v : Value} {n : Nat} {k : List Value} (h : W.ownsRow B et c v n (mks k n)) : RdM c W v n k := by
  rcases h.2 with ⟨h0, h1⟩ | ⟨g, cap, cur, e, _⟩
  · subst h1; exact ⟨_, _, h0, fun j hj => by omega⟩
  · refine ⟨_, _, e, fun j hj => ⟨g, rfl, ?_⟩⟩
    exact World.ownsRow.cellAt (e ▸ h) j hj
/- What holds of the lists while they are being filled. -/
def LEc (hs : List Hc) (b : Nat) : Prop := ∃ x ∈ hs, x.v.ownBlock = some b
structure FlC (ht o et c : Nat) (mk : Nat → List Value) (W wr : World) (B g : Nat) (vb : Value) (hs : List Hc) (k : Nat) : Prop where
  bk : GB ht o wr B g vb hs
  dn : ∀ j (hj : j < hs.length), j < k → wr.ownsRow B et c hs[j].v hs[j].n (mks (mk hs[j].m) hs[j].n)
  td : ∀ j (hj : j < hs.length), k ≤ j → ∃ xs, wr.ownsRow B et c hs[j].v hs[j].n xs
  fr : Fr (LEc hs) W wr
theorem SepC.nE {g : Nat} {vb : Value} {hs : List Hc} (s : SepC g vb hs) : ¬ LEc hs g ∧ ∀ b, vb.ownBlock = some b → ¬ LEc hs b := by
  constructor
  · rintro ⟨x, hx, e⟩; exact s.g x hx e
  · rintro b hb ⟨x, hx, e⟩; exact s.b x hx b e hb
theorem ownR_below {B et c n : Nat} {W W' : World} {v : Value} {xs : List Value} (h : W.ownsRow B et c v n xs) (hb : Below W.heap.size W W') : W'.ownsRow B et c v n xs := ownR_fr h (E := fun _ => False) (Fr.ofBelow hb) (fun _ _ e => e)
theorem FlC.next {ht o et c : Nat} {mk : Nat → List Value} {W wr w' : World} {B g k : Nat} {vb : Value} {hs : List Hc} (h : FlC ht o et c mk W wr B g vb hs k) (hb : Below wr.heap.size wr w') : FlC ht o et c mk W w' B g vb hs k :=
  ⟨h.bk.next hb, fun j hj hk => ownR_below (h.dn j hj hk) hb, fun j hj hk => (h.td j hj hk).imp fun _ hx => ownR_below hx hb, h.fr.trans (E' := fun _ => False) (Fr.ofBelow hb) (fun _ _ e => e.elim)⟩
/- The k-th list was filled. -/
theorem FlC.step {ht o et c : Nat} {mk : Nat → List Value} {W wr w' : World} {B g k : Nat} {vb : Value} {hs : List Hc} (h : FlC ht o et c mk W wr B g vb hs k) (s : SepC g vb hs) (hk : k < hs.length) (hf : Fr (fun b => hs[k].v.ownBlock = some b) wr w') (ho : w'.ownsRow B et c hs[k].v hs[k].n (mks (mk hs[k].m) hs[k].n)) : FlC ht o et c mk W w' B g vb hs (k + 1) := by
  refine ⟨h.bk.fr hf (s.g _ (List.getElem_mem hk)) (fun b hb e => s.b _ (List.getElem_mem hk) b e hb), fun j hj hjk => ?_, fun j hj hjk => ?_, h.fr.trans hf (fun b _ e => ⟨_, List.getElem_mem hk, e⟩)⟩
  · by_cases e : j = k
    · subst e; exact ho
    · exact ownR_fr (h.dn j hj (by omega)) hf (fun b hb e' => s.p j k hj hk e b hb e')
  · exact (h.td j hj (by omega)).imp fun _ hx => ownR_fr hx hf (fun b hb e' => s.p j k hj hk (by omega) b hb e')
structure FlInC (et c : Nat) (mk : List Value) (W1 wi : World) (B : Nat) (v : Value) (n q : Nat) : Prop where
  ow : ∃ rest, wi.ownsRow B et c v n (mks mk q ++ rest)
  fr : Fr (fun b => v.ownBlock = some b) W1 wi
/- What holds of the lists while they are growing. -/
structure GInC (et c : Nat) (mk : List Value) (W1 wi : World) (B : Nat) (v lv : Value) (n q : Nat) : Prop where
  ow : wi.ownsRow B et c lv (n + q) (mks mk (n + q))
  rd : RdM c wi v n mk
  fr : Fr (fun b => v.ownBlock = some b) W1 wi
  bl : ∀ b, lv.ownBlock = some b → v.ownBlock = some b ∨ W1.heap.size ≤ b
theorem GInC.next {et c : Nat} {mk : List Value} (hk : mk.length = c) {W1 wi w' : World} {B : Nat} {v lv : Value} {n q : Nat} (h : GInC et c mk W1 wi B v lv n q) (hb : Below wi.heap.size wi w') : GInC et c mk W1 w' B v lv n q :=
  ⟨ownR_below h.ow hb, h.rd.fr hk (E := fun _ => False) (Fr.ofBelow hb) (fun _ _ e => e), h.fr.trans (E' := fun _ => False) (Fr.ofBelow hb) (fun _ _ e => e.elim), h.bl⟩
theorem GInC.step {et c : Nat} {mk : List Value} (hk : mk.length = c) {W1 wi w' : World} {B : Nat} {v lv lv' : Value} {n q : Nat} (h : GInC et c mk W1 wi B v lv n q) (ho : w'.ownsRow B et c lv' (n + q + 1) (mks mk (n + q) ++ mk)) (hd : (lv'.ownBlock = lv.ownBlock ∧ wi.grownBy w' lv.ownBlock) ∨ (wi.grownBy w' none ∧ ∀ b, lv'.ownBlock = some b → wi.heap.size ≤ b)) : GInC et c mk W1 w' B v lv' n (q + 1) := by
  have ho2 : w'.ownsRow B et c lv' (n + (q + 1)) (mks mk (n + (q + 1))) := by rw [← Nat.add_assoc, mks_snoc]; exact ho
  rcases hd with ⟨e, hg⟩ | ⟨hg, hb⟩
  · have hf : Fr (fun b => lv.ownBlock = some b) wi w' := Fr.grown hg (fun r e => e)
    refine ⟨ho2, ?_, h.fr.trans hf (fun b hb e' => ?_), fun b hb => h.bl b (e ▸ hb)⟩
    · by_cases hv : ∃ b, v.ownBlock = some b ∧ lv.ownBlock = some b
      · obtain ⟨b, hv1, hv2⟩ := hv
        obtain ⟨a, cap, hva, hc⟩ := h.rd
        subst hva
        obtain ⟨g', c', hv'⟩ := ownR_some ho2 (by omega)
        subst hv'
        have e2 : g' = b := by rw [hv2] at e; cases e; rfl
        subst e2
        refine ⟨a, cap, rfl, fun j hj => ?_⟩
        obtain ⟨p, rfl, _⟩ := hc j hj
        have e1 : p = g' := by cases hv1; rfl
        subst e1
        refine ⟨p, rfl, ?_⟩
        have h1 : n * c ≤ (n + (q + 1)) * c := Nat.mul_le_mul_right _ (by omega)
        rw [World.ownsRow.cellAt ho2 j (by omega), mks_pre hk (by omega) hj]
      · exact h.rd.fr hk hf (fun b hb e' => hv ⟨b, hb, e'⟩)
    · rcases h.bl b e' with e' | e'
      · exact e'
      · omega
  · refine ⟨ho2, h.rd.fr hk (E := fun _ => False) (Fr.grown hg (fun r e => by cases e)) (fun _ _ e => e), h.fr.trans (E' := fun _ => False) (Fr.grown hg (fun r e => by cases e)) (fun _ _ e => e.elim), fun b hb' => .inr (Nat.le_trans h.fr.size (hb b hb'))⟩
def GEc (hs : List Hc) (vb : Value) (b : Nat) : Prop := LEc hs b ∨ vb.ownBlock = some b
structure GrC (ht o et c : Nat) (mk : Nat → List Value) (W wr : World) (B g : Nat) (vb : Value) (hs ks : List Hc) (k : Nat) : Prop where
  bk : GB ht o wr B g vb ks
  sep : SepC g vb ks
  lim : ∀ x ∈ ks, x.n ≤ 100000000 ∧ x.m < 1000000000 ∧ ∃ a n c, x.vl = .slice a n c
  dn : ∀ j (hj : j < ks.length), j < k → wr.ownsRow B et c ks[j].vl (ks[j].n + 40) (mks (mk ks[j].m) (ks[j].n + 40)) ∧ RdM c wr ks[j].v ks[j].n (mk ks[j].m) ∧ (∀ b, ks[j].vl.ownBlock = some b → vb.ownBlock ≠ some b) ∧ ∀ i (hi : i < ks.length), k ≤ i → ∀ b, ks[j].vl.ownBlock = some b → ks[i].v.ownBlock ≠ some b
  td : ∀ j (hj : j < ks.length), k ≤ j → wr.ownsRow B et c ks[j].v ks[j].n (mks (mk ks[j].m) ks[j].n)
  fr : Fr (GEc hs vb) W wr
  le : ∀ b, LEc ks b → LEc hs b
theorem GrC.next {ht o et c : Nat} {mk : Nat → List Value} (hmk : ∀ m, (mk m).length = c) {W wr w' : World} {B g k : Nat} {vb : Value} {hs ks : List Hc} (h : GrC ht o et c mk W wr B g vb hs ks k) (hb : Below wr.heap.size wr w') : GrC ht o et c mk W w' B g vb hs ks k :=
  ⟨h.bk.next hb, h.sep, h.lim, fun j hj hk => ⟨ownR_below (h.dn j hj hk).1 hb, (h.dn j hj hk).2.1.fr (hmk _) (E := fun _ => False) (Fr.ofBelow hb) (fun _ _ e => e), (h.dn j hj hk).2.2⟩, fun j hj hk => ownR_below (h.td j hj hk) hb, h.fr.trans (E' := fun _ => False) (Fr.ofBelow hb) (fun _ _ e => e.elim), h.le⟩
theorem SepC.set {g : Nat} {vb : Value} {ks : List Hc} (s : SepC g vb ks) {k : Nat} (hk : k < ks.length) (u : Value) : SepC g vb (ks.set k { ks[k] with vl := u }) := by
  have hv : ∀ j (hj : j < (ks.set k { ks[k] with vl := u }).length), (ks.set k { ks[k] with vl := u })[j].v = (ks[j]'(by simpa using hj)).v := fun j hj => by
    rw [List.getElem_set]; split
    · rename_i e; subst e; rfl
    · rfl
  refine ⟨fun x hx => ?_, fun x hx => ?_, fun i j hi hj hne => ?_⟩
  · obtain ⟨j, hj, rfl⟩ := List.getElem_of_mem hx
    rw [hv]; exact s.g _ (List.getElem_mem _)
  · obtain ⟨j, hj, rfl⟩ := List.getElem_of_mem hx
    rw [hv]; exact s.b _ (List.getElem_mem _)
  · rw [hv, hv]; exact s.p i j _ _ hne
theorem GrC.step {ht o et c : Nat} {mk : Nat → List Value} (hmk : ∀ m, (mk m).length = c) {W W1 wi : World} {B g k r cap : Nat} {N : Nat} {hs ks : List Hc} {lv : Value} (hN : ks.length = N) (h : GrC ht o et c mk W W1 B g (.slice (some ⟨r, 0, none⟩) N cap) hs ks k) (hk : k < ks.length) (hi : GInC et c (mk ks[k].m) W1 wi B ks[k].v lv ks[k].n 40) :
    GrC ht o et c mk W (wi.setCell ⟨r, 3 * k + 1, none⟩ lv) B g (.slice (some ⟨r, 0, none⟩) N cap) hs (ks.set k { ks[k] with vl := lv }) (k + 1) := by
  subst hN
  have hrW : r < W1.heap.size := (h.bk.vlt r rfl).2
  have sb := h.sep.b
  have hset : Fr (fun b => b = r) wi (wi.setCell ⟨r, 3 * k + 1, none⟩ lv) := (Fr.refl _ wi).set _ _ rfl
  have gv : ∀ j (hj : j < (ks.set k { ks[k] with vl := lv }).length), (ks.set k { ks[k] with vl := lv })[j].v = (ks[j]'(by simpa using hj)).v ∧ (ks.set k { ks[k] with vl := lv })[j].m = (ks[j]'(by simpa using hj)).m ∧ (ks.set k { ks[k] with vl := lv })[j].n = (ks[j]'(by simpa using hj)).n := fun j hj => by
    rw [List.getElem_set]; split
    · rename_i e; subst e; exact ⟨rfl, rfl, rfl⟩
    · exact ⟨rfl, rfl, rfl⟩
  have gk : ∀ (hj : k < (ks.set k { ks[k] with vl := lv }).length), (ks.set k { ks[k] with vl := lv })[k].vl = lv := fun hj => by rw [List.getElem_set_self]
  have gn : ∀ j (hj : j < (ks.set k { ks[k] with vl := lv }).length), j ≠ k → (ks.set k { ks[k] with vl := lv })[j].vl = (ks[j]'(by simpa using hj)).vl := fun j hj hne => by
    rw [List.getElem_set_ne (by omega)]
  have vr : ∀ j (hj : j < ks.length) b, ks[j].v.ownBlock = some b → b ≠ r := fun j hj b hb e => sb _ (List.getElem_mem hj) b hb (by rw [e]; rfl)
  have hbk : GB ht o wi B g (.slice (some ⟨r, 0, none⟩) ks.length cap) ks := h.bk.fr hi.fr (h.sep.g _ (List.getElem_mem hk)) (fun b hb e => sb _ (List.getElem_mem hk) b e hb)
  have lr : ∀ b, lv.ownBlock = some b → b ≠ r := fun b hb => by
    rcases hi.bl b hb with e | e
    · exact vr k hk b e
    · omega
  refine ⟨hbk.put hk lv, h.sep.set hk lv, fun x hx => ?_, fun j hj hjk => ?_, fun j hj hjk => ?_, ?_, fun b hb => ?_⟩
  · obtain ⟨j, hj, rfl⟩ := List.getElem_of_mem hx
    have hj' : j < ks.length := by simpa using hj
    obtain ⟨_, g2, g3⟩ := gv j hj
    have hl := h.lim _ (List.getElem_mem hj')
    rw [g2, g3]
    refine ⟨hl.1, hl.2.1, ?_⟩
    by_cases e : j = k
    · subst e; rw [gk]; obtain ⟨a, c, e⟩ := ownR_shape hi.ow; exact ⟨_, _, _, e⟩
    · rw [gn j hj e]; exact hl.2.2
  · have hj' : j < ks.length := by simpa using hj
    obtain ⟨g1, g2, g3⟩ := gv j hj
    by_cases e : j = k
    · subst e
      rw [gk, g1, g2, g3]
      refine ⟨ownR_fr hi.ow hset (fun b hb e => lr b hb e), hi.rd.fr (hmk _) hset (fun b hb e => vr j hj' b hb e), fun b hb e => lr b hb (by injection e with e; exact e.symm), fun i hii hji b hb => ?_⟩
      have hi' : i < ks.length := by simpa using hii
      rw [(gv i hii).1]
      rcases hi.bl b hb with e | e
      · exact h.sep.p j i hj' hi' (by omega) b e
      · intro e2; have := (World.ownsRow.lt (h.td i hi' (by omega)) b e2).2; omega
    · obtain ⟨d1, d2, d3, d4⟩ := h.dn j hj' (by omega)
      rw [gn j hj e, g1, g2, g3]
      refine ⟨ownR_fr (ownR_fr d1 hi.fr (fun b hb e => d4 k hk (Nat.le_refl _) b hb e)) hset (fun b hb e => d3 b hb (by rw [e]; rfl)), (d2.fr (hmk _) hi.fr (fun b hb e' => h.sep.p j k hj' hk e b hb e')).fr (hmk _) hset (fun b hb e => vr j hj' b hb e), d3, fun i hii hji b hb => ?_⟩
      rw [(gv i hii).1]
      exact d4 i (by simpa using hii) (by omega) b hb
  · have hj' : j < ks.length := by simpa using hj
    obtain ⟨g1, g2, g3⟩ := gv j hj
    rw [g1, g2, g3]
    exact ownR_fr (ownR_fr (h.td j hj' (by omega)) hi.fr (fun b hb e => h.sep.p j k hj' hk (by omega) b hb e)) hset (fun b hb e => vr j hj' b hb e)
  · exact (h.fr.trans hi.fr (fun b _ e => .inl (h.le b ⟨_, List.getElem_mem hk, e⟩))).set _ _ (.inr rfl)
  · obtain ⟨x, hx, e⟩ := hb
    obtain ⟨j, hj, rfl⟩ := List.getElem_of_mem hx
    rw [(gv j hj).1] at e
    exact h.le b ⟨_, List.getElem_mem _, e⟩
/- What was filled can grow. -/
theorem FlC.grow {ht o et c : Nat} {mk : Nat → List Value} {W wr : World} {B g : Nat} {vb : Value} {hs : List Hc} (h : FlC ht o et c mk W wr B g vb hs hs.length) (s : SepC g vb hs) (hl : ∀ x ∈ hs, x.n ≤ 100000000 ∧ x.m < 1000000000 ∧ ∃ a n c, x.vl = .slice a n c) {W2 : World} (hf : Fr (fun _ => False) wr W2) : GrC ht o et c mk W2 W2 B g vb hs hs 0 :=
  ⟨h.bk.fr hf (fun e => e) (fun _ _ e => e), s, hl, fun j hj hk => by omega, fun j hj _ => ownR_fr (h.dn j hj hj) hf (fun _ _ e => e), Fr.refl _ _, fun _ e => e⟩
end Go.Proofs.YtcfopkaomknmjaaGreatDoor
/- One element is put behind a row of one's own: in its place, or somewhere new, and then all else is as it was. -/
namespace Go.Proofs.YtcfopkaomknmjaaGreatDoor
open Go.RowKit

theorem wpList_appC {P : Program} {w : World} {ops : Array Oper} {rest : List Oper} {o : Oper} {a : Act} {Q : Exit → Act → World → Prop} (hgd : o.guard = none) (s x : Operand) (t : TypeId) (ho : o.op = .call { callee := .builtin .append, args := #[s, x], argTypes := #[t, t] })
    (et : TypeId) (i0 : TypeInfo) (z : Value) (c bytes : Nat) (hu : P.underlying t = some (.slice et)) (hi0 : P.info? et = some i0) (hz0 : i0.zero = some z) (hz1 : i0.size = c) (hz2 : i0.bytes = bytes) (hz3 : z.cells.size = c) (hc0 : 0 < c) (hby : bytes ≤ 100000)
    (B : Nat) (v : Value) (n : Nat) (xs : List Value) (hs : a.eval s = v) (hown : w.ownsRow B et c v n xs) (p : Nat) (ys : List Value) (hx : a.eval x = .slice (some ⟨p, 0, none⟩) 1 1) (hyl : ys.length = c) (hr : ∀ j u, ys[j]? = some u → w.cell? ((⟨p, 0, none⟩ : Addr).add j) = some u) (hone : ∀ u ∈ ys, u.oneCell' = true)
    (hl : n ≤ 1000000000) (hB : B ≤ w.heap.size)
    (h : ∀ v' w', w'.ownsRow B et c v' (n + 1) (xs ++ ys) → (v'.ownBlock = v.ownBlock ∧ w.grownBy w' v.ownBlock) ∨ (w.grownBy w' none ∧ ∀ b, v'.ownBlock = some b → w.heap.size ≤ b) → wpList P ops Q rest (a.put o.dst v') w') :
    wpList P ops Q (o :: rest) a w := by
  have hbb : (n + 1) * bytes ≤ 140737488355328 := by
    have : (n + 1) * bytes ≤ (1000000000 + 1) * 100000 := Nat.mul_le_mul (by omega) hby
    omega
  have hyl1 : ys.length = 1 * c := by omega
  have hown0 := hown
  rcases hown.2 with ⟨rfl, hn⟩ | ⟨g, cap, cur, rfl, hg, hcur, h1, h2, h3, h4⟩
  · subst hn
    have hx0 : xs = [] := List.length_eq_zero_iff.1 (by have := hown.1; omega)
    subst hx0
    refine wpList_append_grows w hgd s x t ho et i0 z c bytes hu hi0 hz0 hz1 hz2 hz3 hc0 none 0 0 [] hs (fun _ => ⟨rfl, rfl⟩) (by simp) (fun _ e => by cases e) ⟨p, 0, none⟩ 1 1 ys hx hyl1 hr hone (by omega) (by unfold maxLen; omega) hbb ?_
    intro v' w' r1 r2
    exact h v' w' (ownR_lower r1 hB) (.inr ⟨r2, fun b hb => (World.ownsRow.lt r1 b hb).1⟩)
  · by_cases hfit : n + 1 ≤ cap
    · refine wpList_append_fits w hgd s x t ho B et i0 c hu hi0 hz1 g n cap xs hs hown0 ⟨p, 0, none⟩ 1 1 ys hx hyl1 hr hone hfit ?_
      intro w' r1 r2
      exact h _ w' r1 (.inl ⟨rfl, r2⟩)
    · have hcell : ∀ b, (some (⟨g, 0, none⟩ : Addr)) = some b → ∀ j u, xs[j]? = some u → w.cell? (b.add j) = some u := fun b e j u hu => by
        cases e; exact World.ownsRow.cells hown0 (g := g) rfl j u hu
      refine wpList_append_grows w hgd s x t ho et i0 z c bytes hu hi0 hz0 hz1 hz2 hz3 hc0 (some ⟨g, 0, none⟩) n cap xs hs (fun e => by cases e) hown0.1 hcell ⟨p, 0, none⟩ 1 1 ys hx hyl1 hr hone (by omega) (by unfold maxLen; omega) hbb ?_
      intro v' w' r1 r2
      exact h v' w' (ownR_lower r1 hB) (.inr ⟨r2, fun b hb => (World.ownsRow.lt r1 b hb).1⟩)
theorem cells_newC (w : World) (cs : List Value) (t : TypeId) : ∀ j u, cs[j]? = some u → (w.alloc (.cells cs.toArray t)).cell? ((⟨w.heap.size, 0, none⟩ : Addr).add j) = some u := by
  intro j u hj
  have e : (⟨w.heap.size, 0, none⟩ : Addr).add j = ⟨w.heap.size, j, none⟩ := by rw [Addr.add_mid, Nat.zero_add]
  rw [e, World.cell?_alloc_new]
  simpa using hj
end Go.Proofs.YtcfopkaomknmjaaGreatDoor
/- package parse: lists that are read, as they lie. -/
namespace Go.Proofs.YtcfopkaomknmjaaGreatDoor
open Go.RowKit

def Sl (W : World) (X : Nat → Prop) (v : Value) (n k : Nat) (vs : List Value) : Prop :=
  ∃ a cap, v = .slice a n cap ∧ vs.length = n * k ∧ (n ≤ cap ∧ n ≤ maxLen) ∧ (a = none → cap = 0) ∧ (n = 0 ∨ ∃ b, a = some ⟨b, 0, none⟩ ∧ X b ∧ b < W.heap.size ∧ ∀ i (h : i < vs.length), W.cell? ⟨b, i, none⟩ = some vs[i])
theorem Sl.mono {W : World} {X Y : Nat → Prop} {v : Value} {n k : Nat} {vs : List Value} (h : Sl W X v n k vs) (hm : ∀ b, X b → Y b) : Sl W Y v n k vs := by
  obtain ⟨a, cap, h1, h2, h3, h5, h4⟩ := h
  refine ⟨a, cap, h1, h2, h3, h5, ?_⟩
  rcases h4 with h4 | ⟨b, e, hx, hl, hc⟩
  · exact .inl h4
  · exact .inr ⟨b, e, hm b hx, hl, hc⟩
theorem Sl.frame {W W' : World} {X : Nat → Prop} {v : Value} {n k : Nat} {vs : List Value} (h : Sl W X v n k vs) (hs : W.heap.size ≤ W'.heap.size) (hf : ∀ b, X b → b < W.heap.size → W'.heap[b]? = W.heap[b]?) : Sl W' X v n k vs := by
  obtain ⟨a, cap, h1, h2, h3, h5, h4⟩ := h
  refine ⟨a, cap, h1, h2, h3, h5, ?_⟩
  rcases h4 with h4 | ⟨b, e, hx, hl, hc⟩
  · exact .inl h4
  · exact .inr ⟨b, e, hx, by omega, fun i hi => (World.cell?_of_block (w := W) (a := ⟨b, i, none⟩) (hf b hx hl)).trans (hc i hi)⟩
theorem Sl.own {W : World} {B : Nat} {e : TypeId} {k n : Nat} {v : Value} {vs : List Value} (h : W.ownsRow B e k v n vs) (X : Nat → Prop) (hX : ∀ b, v.ownBlock = some b → B ≤ b → b < W.heap.size → X b) : Sl W X v n k vs := by
  rcases h.2 with ⟨rfl, rfl⟩ | ⟨g, cap, cur, rfl, hg, hcur, h1, h2, h3, h4⟩
  · exact ⟨none, 0, rfl, h.1, ⟨Nat.le_refl _, Nat.zero_le _⟩, fun _ => rfl, .inl rfl⟩
  · have hl := (Array.getElem?_eq_some_iff.1 hcur).1
    refine ⟨_, cap, rfl, h.1, ⟨h1, Nat.le_trans h1 h2⟩, fun e => by (cases e), .inr ⟨g, rfl, hX g rfl hg hl, hl, fun i hi => ?_⟩⟩
    rw [World.ownsRow.cellAt h i (by rw [← h.1]; exact hi), List.getElem?_eq_getElem hi]
def mkAgg (cs : List Value) : Value := .agg cs.toArray
def mkOne (cs : List Value) : Value := cs.headD undef
/- A list as it lies. -/
def ListR {α : Type} (rep : Rep α) (mk : List Value → Value) (K : Nat) : Rep (List α) := fun W X v l =>
  ∃ css : List (List Value), Sl W X v l.length K css.flatten ∧ css.length = l.length ∧ ∀ i (h : i < css.length) (h' : i < l.length), css[i].length = K ∧ rep W X (mk css[i]) l[i]
theorem ListR.ok {α : Type} {rep : Rep α} (hr : RepOk rep) (mk : List Value → Value) (K : Nat) : RepOk (ListR rep mk K) where
  mono := fun ⟨css, h1, h2, h3⟩ hm => ⟨css, h1.mono hm, h2, fun i h h' => ⟨(h3 i h h').1, hr.mono (h3 i h h').2 hm⟩⟩
  frame := fun ⟨css, h1, h2, h3⟩ hs hf => ⟨css, h1.frame hs hf, h2, fun i h h' => ⟨(h3 i h h').1, hr.frame (h3 i h h').2 hs hf⟩⟩
/- A list that is being read: the reader is at k, so many items lie in a row of one's own. -/
structure Lp {α : Type} (rep : Rep α) (mk : List Value → Value) (K e : Nat) (W0 W : World) (p q : Nat) (L : List (Wd × Nat)) (dm sm : Value) (k n : Nat) (v : Value) (l : List α) (css : List (List Value)) : Prop where
  rr : Rp W0 W p q L k dm sm
  own : W.ownsRow W0.heap.size e K v n css.flatten
  nl : n = l.length
  len : css.length = l.length
  el : ∀ i (h : i < css.length) (h' : i < l.length), css[i].length = K ∧ rep W (fun b => Bn W0 W b ∧ v.ownBlock ≠ some b) (mk css[i]) l[i]
theorem Lp.start {α : Type} {rep : Rep α} {mk : List Value → Value} {K e : Nat} {W0 : World} {p q : Nat} {L : List (Wd × Nat)} {dm sm : Value} {k : Nat} (h : Rp W0 W0 p q L k dm sm) : Lp rep mk K e W0 W0 p q L dm sm k 0 (.slice none 0 0) [] [] :=
  ⟨h, World.ownsRow_nil _ _ _ _, rfl, rfl, fun i h _ => by simp at h⟩
theorem Rp.grown {w W W' : World} {p q : Nat} {L : List (Wd × Nat)} {k : Nat} {dm sm : Value} {row : Option Nat} (h : Rp w W p q L k dm sm) (hg : W.grownBy W' row) (hr : ∀ r, row = some r → w.heap.size ≤ r) : Rp w W' p q L k dm sm := by
  have hf : Fr (fun b => row = some b) W W' := Fr.grown hg (fun r e => e)
  have np : ¬ row = some p := fun e => by have := hr p e; have := h.pl; omega
  have nq : ¬ row = some q := fun e => by have := hr q e; have := h.ql; omega
  obtain ⟨cap, hb, hl⟩ := h.blk
  refine ⟨h.fr.trans hf (fun b hb e => by have := hr b e; omega), h.pq, h.pl, h.ql, ⟨cap, (hf.block p (Array.getElem?_eq_some_iff.1 hb).1 np).trans hb, hl⟩, fun i hi j u hu => hf.cell (h.row i hi j u hu) nq, h.kl, h.sml⟩
/- Something was read beside it, or passed. -/
theorem Lp.go {α : Type} {rep : Rep α} (hok : RepOk rep) {mk : List Value → Value} {K e : Nat} {W0 W W1 : World} {p q : Nat} {L : List (Wd × Nat)} {dm sm : Value} {k k1 n : Nat} {v : Value} {l : List α} {css : List (List Value)} (h : Lp rep mk K e W0 W p q L dm sm k n v l css) (hr : Rp W W1 p q L k1 dm sm) : Lp rep mk K e W0 W1 p q L dm sm k1 n v l css := by
  have hp := h.rr.pl
  have s1 := hr.fr.size
  refine ⟨h.rr.from hr, ownR_fr h.own hr.fr (fun b hb e => by have := (World.ownsRow.lt h.own b hb).1; have : b = p := e; omega), h.nl, h.len, fun i hi hi' => ?_⟩
  obtain ⟨h1, h2⟩ := h.el i hi hi'
  have h3 := hok.frame h2 (W' := W1) s1 (fun b hb hl => hr.fr.block b hl (fun e => by have := hb.1.1; have : b = p := e; omega))
  exact ⟨h1, hok.mono h3 (fun b hb => ⟨⟨hb.1.1, by have := hb.1.2; omega⟩, hb.2⟩)⟩
/- One item more. -/
theorem Lp.step {α : Type} {rep : Rep α} (hok : RepOk rep) {mk : List Value → Value} {K e : Nat} {W0 W W1 W2 : World} {p q : Nat} {L : List (Wd × Nat)} {dm sm : Value} {k k1 n : Nat} {v v' : Value} {l : List α} {css : List (List Value)} {x : α} {cs : List Value} {o : Obj}
    (h : Lp rep mk K e W0 W p q L dm sm k n v l css) (hr : Rp W W1 p q L k1 dm sm) (hrep : rep W1 (Bn W W1) (mk cs) x) (hcs : cs.length = K)
    (ho : W2.ownsRow W0.heap.size e K v' (n + 1) (css.flatten ++ cs)) (hd : (v'.ownBlock = v.ownBlock ∧ (W1.alloc o).grownBy W2 v.ownBlock) ∨ ((W1.alloc o).grownBy W2 none ∧ ∀ b, v'.ownBlock = some b → (W1.alloc o).heap.size ≤ b)) :
    Lp rep mk K e W0 W2 p q L dm sm k1 (n + 1) v' (l ++ [x]) (css ++ [cs]) := by
  have hp := h.rr.pl
  have s01 := h.rr.fr.size
  have s1 := hr.fr.size
  have hvb : ∀ b, v.ownBlock = some b → W0.heap.size ≤ b ∧ b < W.heap.size := World.ownsRow.lt h.own
  have hR1 : Rp W0 (W1.alloc o) p q L k1 dm sm := (h.rr.from hr).next ((Below.refl _ _).alloc (Nat.le_refl _) _)
  have hR2 : Rp W0 W2 p q L k1 dm sm := by
    rcases hd with ⟨_, hg⟩ | ⟨hg, _⟩
    · exact hR1.grown hg (fun r e => (hvb r e).1)
    · exact hR1.grown hg (fun r e => by cases e)
  have s2 : W1.heap.size + 1 ≤ W2.heap.size := by
    rcases hd with ⟨_, hg⟩ | ⟨hg, _⟩ <;> (have := hg.size; rw [World.size_alloc] at this; exact this)
  have key : ∀ b, b < W1.heap.size → v.ownBlock ≠ some b → W2.heap[b]? = W1.heap[b]? := fun b hb hne => by
    rcases hd with ⟨_, hg⟩ | ⟨hg, _⟩
    · rw [hg.block b (by rw [World.size_alloc]; omega) (fun e => hne e.symm), Below.heap_alloc _ _ _ hb]
    · rw [hg.block b (by rw [World.size_alloc]; omega) (fun e => by cases e), Below.heap_alloc _ _ _ hb]
  have nv : ∀ b, b < W1.heap.size → v.ownBlock ≠ some b → v'.ownBlock ≠ some b := fun b hb hne e' => by
    rcases hd with ⟨e, _⟩ | ⟨_, hn⟩
    · exact hne (e ▸ e')
    · have := hn b e'; rw [World.size_alloc] at this; omega
  refine ⟨hR2, by rw [List.flatten_append, List.flatten_singleton]; exact ho, by rw [List.length_append, List.length_singleton, h.nl], by simp [h.len], fun i hi hi' => ?_⟩
  by_cases hlt : i < css.length
  · have hl : i < l.length := by rw [← h.len]; exact hlt
    obtain ⟨h1, h2⟩ := h.el i hlt hl
    rw [List.getElem_append_left hlt, List.getElem_append_left hl]
    refine ⟨h1, ?_⟩
    have h3 := hok.frame h2 (W' := W1) s1 (fun b hb hl => hr.fr.block b hl (fun e => by have := hb.1.1; have : b = p := e; omega))
    have h4 := hok.frame h3 (W' := W2) (by omega) (fun b hb hl => key b hl hb.2)
    exact hok.mono h4 (fun b hb => ⟨⟨hb.1.1, by have := hb.1.2; omega⟩, nv b (by have := hb.1.2; omega) hb.2⟩)
  · have ei : i = css.length := by simp at hi; omega
    subst ei
    have el : css.length = l.length := h.len
    have e2 : (l ++ [x])[css.length]'hi' = x := by simp [el]
    have e1 : (css ++ [cs])[css.length]'hi = cs := by simp
    rw [e1, e2]
    refine ⟨hcs, ?_⟩
    have nvb : ∀ b, Bn W W1 b → v.ownBlock ≠ some b := fun b hb e => by have := (hvb b e).2; have := hb.1; omega
    have h4 := hok.frame hrep (W' := W2) (by omega) (fun b hb hl => key b hl (nvb b hb))
    exact hok.mono h4 (fun b hb => ⟨⟨by have := hb.1; omega, by have := hb.2; omega⟩, nv b hb.2 (nvb b hb)⟩)
theorem Lp.done {α : Type} {rep : Rep α} (hok : RepOk rep) {mk : List Value → Value} {K e : Nat} {W0 W : World} {p q : Nat} {L : List (Wd × Nat)} {dm sm : Value} {k n : Nat} {v : Value} {l : List α} {css : List (List Value)} (h : Lp rep mk K e W0 W p q L dm sm k n v l css) : ListR rep mk K W (Bn W0 W) v l :=
  ⟨css, by rw [← h.nl]; exact Sl.own h.own _ (fun b _ h1 h2 => ⟨h1, h2⟩), h.len, fun i h1 h2 => ⟨(h.el i h1 h2).1, hok.mono (h.el i h1 h2).2 (fun b hb => hb.1)⟩⟩
/- Things up to the word that ends them. -/
def untilF {α : Type} (en : List UInt8) (f : Pf α) : Nat → Pf (List α)
  | 0, _, k => .error k
  | g + 1, L, k => if passedP en L k then .ok ([], k + 1) else match f L k with
    | .error e => .error e
    | .ok (x, k1) => match untilF en f g L k1 with
      | .error e => .error e
      | .ok (xs, k2) => .ok (x :: xs, k2)
def untilP {α : Type} (en : List UInt8) (f : Pf α) : Pf (List α) := fun L k => untilF en f (L.length + 1 - k) L k
/- A reader that goes on, and not beyond the words. -/
def Goes {α : Type} (f : Pf α) : Prop := ∀ L k x k1, f L k = .ok (x, k1) → k < k1
end Go.Proofs.YtcfopkaomknmjaaGreatDoor
/- package parse: expressions as trees, and as they lie. -/
namespace Go.Proofs.YtcfopkaomknmjaaGreatDoor
open Go.RowKit

structure Ex where
  op : Nat
  w : Nat
  v : Nat
  name : List UInt8
  field : List UInt8
  n : Nat
  m : Nat
  line : Nat
  args : List Ex
/- The cells of one, its list of parts being va. -/
def exC (x : Ex) (va : Value) : List Value := [.int .u8 (x.op : Int), .int .i64 (x.w : Int), .int .u64 (wHi x.v), .int .u64 (wLo x.v), .string (txt x.name), .string (txt x.field), .int .i64 (x.n : Int), .int .i64 (x.m : Int), va, .int .i64 (x.line : Int)]
theorem exC_len (x : Ex) (va : Value) : (exC x va).length = 10 := rfl
def exR : Nat → Rep Ex
  | 0 => fun _ _ _ _ => False
  | d + 1 => fun W X v x => ∃ va, v = mkAgg (exC x va) ∧ ListR (exR d) mkAgg 10 W X va x.args
theorem exR_ok : ∀ d, RepOk (exR d)
  | 0 => ⟨fun h _ => h, fun h _ _ => h⟩
  | d + 1 => ⟨fun ⟨va, h1, h2⟩ hm => ⟨va, h1, (ListR.ok (exR_ok d) mkAgg 10).mono h2 hm⟩, fun ⟨va, h1, h2⟩ hs hf => ⟨va, h1, (ListR.ok (exR_ok d) mkAgg 10).frame h2 hs hf⟩⟩
theorem exR_up : ∀ (d : Nat) {W : World} {X : Nat → Prop} {v : Value} {x : Ex}, exR d W X v x → exR (d + 1) W X v x
  | 0, _, _, _, _, h => h.elim
  | d + 1, _, _, _, _, ⟨va, h1, css, h2, h3, h4⟩ => ⟨va, h1, css, h2, h3, fun i h h' => ⟨(h4 i h h').1, exR_up d (h4 i h h').2⟩⟩
theorem exR_le {d d' : Nat} (hd : d ≤ d') {W : World} {X : Nat → Prop} {v : Value} {x : Ex} (h : exR d W X v x) : exR d' W X v x := by
  obtain ⟨j, rfl⟩ := Nat.exists_eq_add_of_le hd
  induction j with
  | zero => exact h
  | succ j ih => exact exR_up _ (ih (by omega))
/- An expression as it lies, however deep. -/
def ExR : Rep Ex := fun W X v x => ∃ d, exR d W X v x
theorem exRep_ok : RepOk ExR := ⟨fun ⟨d, h⟩ hm => ⟨d, (exR_ok d).mono h hm⟩, fun ⟨d, h⟩ hs hf => ⟨d, (exR_ok d).frame h hs hf⟩⟩
/- A list of such is one of one depth. -/
theorem list_depth {W : World} {X : Nat → Prop} : ∀ (l : List Ex) (css : List (List Value)), css.length = l.length → (∀ i (h : i < css.length) (h' : i < l.length), css[i].length = 10 ∧ ExR W X (mkAgg css[i]) l[i]) → ∃ d, ∀ i (h : i < css.length) (h' : i < l.length), css[i].length = 10 ∧ exR d W X (mkAgg css[i]) l[i]
  | [], css, hl, _ => ⟨0, fun i _ h' => by simp at h'⟩
  | x :: l, [], hl, _ => by simp at hl
  | x :: l, cs :: css, hl, h => by
    obtain ⟨d1, h1⟩ := list_depth l css (by simpa using hl) (fun i hi hi' => h (i + 1) (by simpa using hi) (by simpa using hi'))
    obtain ⟨h0, d2, h2⟩ := h 0 (by simp) (by simp)
    refine ⟨max d1 d2, fun i hi hi' => ?_⟩
    cases i with
    | zero => exact ⟨h0, exR_le (Nat.le_max_right _ _) h2⟩
    | succ i => exact ⟨(h1 i (by simpa using hi) (by simpa using hi')).1, exR_le (Nat.le_max_left _ _) (h1 i (by simpa using hi) (by simpa using hi')).2⟩
theorem ListR.one {W : World} {X : Nat → Prop} {v : Value} {l : List Ex} (h : ListR ExR mkAgg 10 W X v l) : ∃ d, ListR (exR d) mkAgg 10 W X v l := by
  obtain ⟨css, h1, h2, h3⟩ := h
  obtain ⟨d, h4⟩ := list_depth l css h2 h3
  exact ⟨d, css, h1, h2, h4⟩
/- An expression with its parts. -/
theorem ExR.mk {W : World} {X : Nat → Prop} {va : Value} {x : Ex} (h : ListR ExR mkAgg 10 W X va x.args) : ExR W X (mkAgg (exC x va)) x := by
  obtain ⟨d, h⟩ := h.one
  exact ⟨d + 1, va, rfl, h⟩
theorem ExR.open {W : World} {X : Nat → Prop} {v : Value} {x : Ex} (h : ExR W X v x) : ∃ va, v = mkAgg (exC x va) ∧ ListR ExR mkAgg 10 W X va x.args := by
  obtain ⟨d, h⟩ := h
  cases d with
  | zero => exact h.elim
  | succ d =>
    obtain ⟨va, h1, css, h2, h3, h4⟩ := h
    exact ⟨va, h1, css, h2, h3, fun i hi hi' => ⟨(h4 i hi hi').1, d, (h4 i hi hi').2⟩⟩
/- No parts. -/
theorem ListR.none {α : Type} {rep : Rep α} {mk : List Value → Value} {K : Nat} {W : World} {X : Nat → Prop} : ListR rep mk K W X (.slice Option.none 0 0) [] :=
  ⟨[], ⟨Option.none, 0, rfl, by simp, ⟨Nat.le_refl _, Nat.zero_le _⟩, fun _ => rfl, .inl rfl⟩, rfl, fun i h _ => by simp at h⟩
/- Parts that were laid into one block. -/
theorem ListR.lit {α : Type} {rep : Rep α} {mk : List Value → Value} {K : Nat} {W : World} {X : Nat → Prop} {b : Nat} {t : TypeId} {l : List α} {css : List (List Value)} (hb : W.heap[b]? = some (.cells css.flatten.toArray t (0, 0))) (hX : X b) (hl : css.length = l.length) (he : ∀ i (h : i < css.length) (h' : i < l.length), css[i].length = K ∧ rep W X (mk css[i]) l[i]) (hn : l.length ≤ maxLen := by simp [maxLen]) : ListR rep mk K W X (.slice (some ⟨b, 0, Option.none⟩) l.length l.length) l := by
  refine ⟨css, ⟨some ⟨b, 0, Option.none⟩, l.length, rfl, ?_, ⟨Nat.le_refl _, hn⟩, (fun e => by (cases e)), .inr ⟨b, rfl, hX, (Array.getElem?_eq_some_iff.1 hb).1, fun i hi => ?_⟩⟩, hl, he⟩
  · have : ∀ c ∈ css, c.length = K := fun c hc => by
      obtain ⟨i, hi, rfl⟩ := List.getElem_of_mem hc
      exact (he i hi (by omega)).1
    rw [List.length_flatten, ← hl]
    clear he hb hl
    induction css with
    | nil => simp
    | cons c cs ih =>
      simp only [List.map_cons, List.sum_cons, List.length_cons]
      rw [ih (fun c hc => this c (List.mem_cons_of_mem _ hc)), this c (List.mem_cons_self ..), Nat.succ_mul, Nat.add_comm]
  · rw [cellA hb i]; simp
/- A pointer to one. -/
def ExP : Rep Ex := fun W X v x => ∃ b cs, v = .pointer (some ⟨b, 0, none⟩) ∧ X b ∧ W.heap[b]? = some (.cells cs 49 (0, 0)) ∧ ExR W X (.agg cs) x
theorem exP_ok : RepOk ExP := ⟨fun ⟨b, cs, h1, h2, h3, h4⟩ hm => ⟨b, cs, h1, hm b h2, h3, exRep_ok.mono h4 hm⟩, fun ⟨b, cs, h1, h2, h3, h4⟩ hs hf => ⟨b, cs, h1, h2, (hf b h2 (Array.getElem?_eq_some_iff.1 h3).1).trans h3, exRep_ok.frame h4 hs hf⟩⟩
end Go.Proofs.YtcfopkaomknmjaaGreatDoor
