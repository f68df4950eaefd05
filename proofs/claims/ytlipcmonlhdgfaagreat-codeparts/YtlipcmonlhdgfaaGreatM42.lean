/- Pieces of the proof: CpN, CpO, CpH. -/
import Derived.Test.YtlipcmonlhdgfaaGreatM41
import Derived.Test.YtlipcmonlhdgfaaGreatM40
/- package code: a twin of code that is changed. -/
namespace Go.Proofs.YtlipcmonlhdgfaaGreat
open Go.RowKit

def iQ (W : World) (B : Nat) (a : Option Addr) (c : Nat) (l : List InL) : Prop := l = [] ∨ iT W B a c l
def kAq (W : World) (B : Nat) (x : AcL) : Prop := zT W B x.pa x.pc x.ps ∧ iQ W B x.ca x.cc x.cd
def kTq (W : World) (B : Nat) (x : TaL) : Prop := zT W B x.ka x.kc x.ks ∧ kT W B x.da x.dc x.kd ∧ zT W B x.aa x.ac x.ats ∧ nT W B x.ga x.gc x.gs ∧ iQ W B x.ba x.bc x.bf
def aQ (W : World) (B : Nat) (a : Option Addr) (c : Nat) (l : List AcL) : Prop := ∃ s, Tl 43 3 AcL.cells kAq s W B a c l
def tQ (W : World) (B : Nat) (a : Option Addr) (c : Nat) (l : List TaL) : Prop := ∃ s, Tl 41 8 TaL.cells kTq s W B a c l
theorem iQ.lower {W : World} {B B' : Nat} {a : Option Addr} {c : Nat} {l : List InL} (h : iQ W B a c l) (hb : B' ≤ B) : iQ W B' a c l := h.imp id (fun h => h.lower hb)
theorem iQ.fr {us : List TypeId} (hu : 59 ∈ us) (hi : 3 ∈ us) {E : Nat → Prop} {W W' : World} {B : Nat} {a : Option Addr} {c : Nat} {l : List InL} (h : iQ W B a c l) (hf : Fr E W W') (hE : Away B us W E) : iQ W' B a c l := h.imp id (fun h => iT.fr hu hi h hf hE)
theorem kpAq : Kp tsA kAq := ⟨fun h hb => ⟨h.1.lower hb, h.2.lower hb⟩, fun h hf hE => ⟨zT.fr (by simp [tsA]) h.1 hf hE, iQ.fr (by simp [tsA]) (by simp [tsA]) h.2 hf hE⟩⟩
theorem kpTq : Kp tsA kTq := ⟨fun h hb => ⟨h.1.lower hb, h.2.1.lower hb, h.2.2.1.lower hb, h.2.2.2.1.lower hb, h.2.2.2.2.lower hb⟩, fun h hf hE => ⟨zT.fr (by simp [tsA]) h.1 hf hE, kT.fr (by simp [tsA]) h.2.1 hf hE, zT.fr (by simp [tsA]) h.2.2.1 hf hE, nT.fr (by simp [tsA]) h.2.2.2.1 hf hE, iQ.fr (by simp [tsA]) (by simp [tsA]) h.2.2.2.2 hf hE⟩⟩
theorem aT.q {W : World} {B : Nat} {a : Option Addr} {c : Nat} {l : List AcL} (h : aT W B a c l) : aQ W B a c l := by
  obtain ⟨s, h⟩ := h
  exact ⟨s, h.at', h.own, h.le, h.mx, fun x hx => ⟨(h.ok x hx).1, .inr (h.ok x hx).2⟩⟩
theorem tT.q {W : World} {B : Nat} {a : Option Addr} {c : Nat} {l : List TaL} (h : tT W B a c l) : tQ W B a c l := by
  obtain ⟨s, h⟩ := h
  exact ⟨s, h.at', h.own, h.le, h.mx, fun x hx => ⟨(h.ok x hx).1, (h.ok x hx).2.1, (h.ok x hx).2.2.1, (h.ok x hx).2.2.2.1, .inr (h.ok x hx).2.2.2.2⟩⟩
theorem aQ.fr {us : List TypeId} (hu : 43 ∈ us) (hs : ∀ t ∈ tsA, t ∈ us) {E : Nat → Prop} {W W' : World} {B : Nat} {a : Option Addr} {c : Nat} {l : List AcL} (h : aQ W B a c l) (hf : Fr E W W') (hE : Away B us W E) : aQ W' B a c l := by
  obtain ⟨s, h⟩ := h
  exact ⟨s, Tl.fr kpAq hu hs h hf hE⟩
theorem tQ.fr {us : List TypeId} (hu : 41 ∈ us) (hs : ∀ t ∈ tsA, t ∈ us) {E : Nat → Prop} {W W' : World} {B : Nat} {a : Option Addr} {c : Nat} {l : List TaL} (h : tQ W B a c l) (hf : Fr E W W') (hE : Away B us W E) : tQ W' B a c l := by
  obtain ⟨s, h⟩ := h
  exact ⟨s, Tl.fr kpTq hu hs h hf hE⟩
/- One cell of one element is told anew. -/
theorem flat_set {α : Type} {f : α → List Value} {c : Nat} (hf : ∀ x, (f x).length = c) {j : Nat} (hj : j < c) (u : Value) : ∀ (l : List α) (k : Nat) (h : k < l.length) (x' : α), f x' = (f l[k]).set j u → (flat f l).set (k * c + j) u = flat f (l.set k x')
  | [], k, h, _, _ => absurd h (by simp)
  | y :: l, 0, _, x', hx => by
    simp only [List.getElem_cons_zero] at hx
    simp only [flat, List.flatMap_cons, List.set_cons_zero, Nat.zero_mul, Nat.zero_add]
    rw [List.set_append_left _ _ (by rw [hf]; exact hj), hx]
  | y :: l, k + 1, h, x', hx => by
    simp only [List.getElem_cons_succ] at hx
    have ih := flat_set hf hj u l k (by simpa using h) x' hx
    simp only [flat, List.flatMap_cons, List.set_cons_succ] at ih ⊢
    rw [List.set_append_right _ _ (by rw [hf, Nat.add_mul]; omega), hf]
    rw [show (k + 1) * c + j - c = k * c + j from by rw [Nat.add_mul]; omega, ih]
theorem fr_one (W : World) (b o : Nat) (v : Value) : Fr (fun x => x = b) W (W.setCell ⟨b, o, none⟩ v) := (Fr.refl _ W).set _ _ rfl
theorem Tl.put {α : Type} {T c : Nat} {f : α → List Value} (hf : ∀ x, (f x).length = c) {P : World → Nat → α → Prop} {ts : List TypeId} {s : List Value} (K : Kp ts P) (hT : T ∉ ts) {W : World} {B g cap : Nat} {l : List α} (h : Tl T c f P s W B (some ⟨g, 0, none⟩) cap l) {k j : Nat} (hk : k < l.length) (hj : j < c) (u : Value) (x' : α) (hx : f x' = (f l[k]).set j u) (hP : ∀ W, P W B l[k] → P W B x') : Tl T c f P s (W.setCell ⟨g, k * c + j, none⟩ u) B (some ⟨g, 0, none⟩) cap (l.set k x') := by
  have hlt := World.ownsRow.lt h.own g rfl
  obtain ⟨cur, hcur⟩ := row_tyK h.own (b := g) rfl
  have hE : ∀ b, b = g → b < B ∨ ∃ cs t, t ∉ ts ∧ W.heap[b]? = some (.cells cs t (0, 0)) := fun b e => by subst e; exact .inr ⟨cur, T, hT, hcur⟩
  refine ⟨h.at', ?_, by simpa using h.le, h.mx, fun x hxm => ?_⟩
  · have h1 := (World.ownsRow.stored h.own (k * c + j) u).1
    have hb : k * c + j < (flat f l).length := by
      rw [flat_length hf]
      have : (k + 1) * c ≤ l.length * c := Nat.mul_le_mul_right c hk
      rw [Nat.add_mul] at this
      omega
    rw [List.set_append_left _ _ hb, flat_set hf hj u l k hk x' hx] at h1
    simpa using h1
  · obtain ⟨i, hi, rfl⟩ := List.getElem_of_mem hxm
    rw [List.getElem_set]
    split
    · exact hP _ (K.fr (h.ok _ (List.getElem_mem hk)) (fr_one W g _ u) hE)
    · exact K.fr (h.ok _ (List.getElem_mem (by simpa using hi))) (fr_one W g _ u) hE
/- The lists of a twin. -/
structure Ls (B0 : Nat) (W : World) (B1 : Nat) (x : CoL) : Prop where
  sl : W.ownsRow B0 3 1 (.slice x.sa x.sl.length x.sc) x.sl.length (flat intC x.sl)
  hd : hT W B1 x.ha x.hc x.hd
  mt : zT W B1 x.ma x.mc x.mt
  st : dT W B1 x.ta x.tc x.st
  mn : iQ W B1 x.na x.nc x.mn
  ac : aQ W B1 x.aa x.acc x.ac
  tb : tQ W B1 x.ba x.bc x.tb
  em : zT W B1 x.ea x.ec x.em
  ar : yT W B1 x.ra x.rc x.ar
theorem Ls.fr {E : Nat → Prop} {B0 : Nat} {W W' : World} {B1 : Nat} {x : CoL} (h : Ls B0 W B1 x) (hf : Fr E W W') (hE : ∀ b, E b → ∃ cs, W.heap[b]? = some (.cells cs 30 (0, 0))) : Ls B0 W' B1 x := by
  have hA : Away B1 tsU W E := fun b e => .inr ⟨_, 30, by simp [tsU], (hE b e).choose_spec⟩
  have hA0 : ∀ b, E b → b < B0 ∨ ∃ cs t, t ∉ tsU ∧ W.heap[b]? = some (.cells cs t (0, 0)) := fun b e => .inr ⟨_, 30, by simp [tsU], (hE b e).choose_spec⟩
  exact ⟨row_frK h.sl hf (by simp [tsU]) hA0, hT.fr (by simp [tsU]) (by simp [tsI, tsU]) h.hd hf hA, zT.fr (by simp [tsU]) h.mt hf hA, dT.fr (by simp [tsU]) (by simp [tsA, tsU]) h.st hf hA, iQ.fr (by simp [tsU]) (by simp [tsU]) h.mn hf hA, aQ.fr (by simp [tsU]) (by simp [tsA, tsU]) h.ac hf hA, tQ.fr (by simp [tsU]) (by simp [tsA, tsU]) h.tb hf hA, zT.fr (by simp [tsU]) h.em hf hA, yT.fr (by simp [tsU]) h.ar hf hA⟩
theorem Ls.below {B0 : Nat} {W W' : World} {B1 : Nat} {x : CoL} (h : Ls B0 W B1 x) (hb : Below W.heap.size W W') : Ls B0 W' B1 x := h.fr (E := fun _ => False) (Fr.ofBelow hb) (fun _ e => e.elim)
/- The twin's own block, and all its lists. -/
structure Cs (w W : World) (p B1 : Nat) (x : CoL) : Prop where
  bl : Below w.heap.size w W
  pb : W.heap[p]? = some (.cells x.cells.toArray 30 (0, 0))
  pl : B1 ≤ p
  b1 : w.heap.size ≤ B1
  ls : Ls w.heap.size W B1 x
theorem Cs.below {w W W' : World} {p B1 : Nat} {x : CoL} (h : Cs w W p B1 x) (hb : Below W.heap.size W W') : Cs w W' p B1 x :=
  ⟨bstep h.bl hb, heap_below hb h.pb, h.pl, h.b1, h.ls.below hb⟩
theorem Cs.cell {w W : World} {p B1 : Nat} {x : CoL} (h : Cs w W p B1 x) (j : Nat) : W.cell? ⟨p, j, none⟩ = x.cells[j]? := (cellA h.pb j).trans (by simp)
/- A cell of the twin's own block is told anew. -/
theorem Cs.store {w W : World} {p B1 : Nat} {x : CoL} (h : Cs w W p B1 x) (j : Nat) (u : Value) {x' : CoL} (hx : x'.cells = x.cells.set j u) (hl : Ls w.heap.size (W.setCell ⟨p, j, none⟩ u) B1 x → Ls w.heap.size (W.setCell ⟨p, j, none⟩ u) B1 x') : Cs w (W.setCell ⟨p, j, none⟩ u) p B1 x' := by
  refine ⟨((Fr.ofBelow (E := fun b => b = p) h.bl).set _ _ rfl).below (fun b e => by have := h.pl; have := h.b1; omega) (Nat.le_refl _), ?_, h.pl, h.b1, hl (h.ls.fr (fr_one W p j u) (fun b e => by subst e; exact ⟨_, h.pb⟩))⟩
  rw [heap_setCell_same h.pb u, hx]
  simp
/- Main's code is taken away. -/
def noM (x : CoL) : CoL := { x with mn := [], na := none, nc := 0 }
theorem Cs.nilM {w W : World} {p B1 : Nat} {x : CoL} (h : Cs w W p B1 x) : Cs w (W.setCell ⟨p, 4, none⟩ (.slice none 0 0)) p B1 (noM x) :=
  h.store 4 _ (by simp [noM, CoL.cells]) (fun l => ⟨l.sl, l.hd, l.mt, l.st, .inl rfl, l.ac, l.tb, l.em, l.ar⟩)
/- A table's code is taken away. -/
def noT (x : TaL) : TaL := { x with bf := [], ba := none, bc := 0 }
def noA (x : AcL) : AcL := { x with cd := [], ca := none, cc := 0 }
def setT (x : CoL) (k : Nat) (y : TaL) : CoL := { x with tb := x.tb.set k y }
def setA (x : CoL) (k : Nat) (y : AcL) : CoL := { x with ac := x.ac.set k y }
theorem Cs.nilT {w W : World} {p B1 g : Nat} {x : CoL} (h : Cs w W p B1 x) (hg : x.ba = some ⟨g, 0, none⟩) {k : Nat} (hk : k < x.tb.length) : Cs w (W.setCell ⟨g, k * 8 + 7, none⟩ (.slice none 0 0)) p B1 (setT x k (noT x.tb[k])) := by
  obtain ⟨s, ht⟩ := h.ls.tb
  have hlt := World.ownsRow.lt ht.own g (by rw [hg]; rfl)
  obtain ⟨cur, hcur⟩ := row_tyK ht.own (b := g) (by rw [hg]; rfl)
  have F := fr_one W g (k * 8 + 7) (.slice none 0 0)
  have hA : ∀ (B : Nat) (us : List TypeId), 41 ∉ us → Away B us W (fun b => b = g) := fun B us hn b e => by subst e; exact .inr ⟨cur, _, hn, hcur⟩
  have hne : p ≠ g := fun e => by
    have := h.pb
    rw [e, hcur] at this
    injection this with this
    injection this with _ this _
    revert this; decide
  refine ⟨((Fr.ofBelow (E := fun b => b = g) h.bl).set _ _ rfl).below (fun b e => by have := h.b1; omega) (Nat.le_refl _), ?_, h.pl, h.b1, ?_⟩
  · rw [Below.heap_setCell _ _ _ _ (fun e => hne e), h.pb]
    simp [setT, CoL.cells]
  · refine ⟨row_frK h.ls.sl F (ts := [3]) (by simp) (hA _ _ (by decide)), hT.fr (us := [3, 91]) (by simp) (by simp [tsI]) h.ls.hd F (hA _ _ (by decide)), zT.fr (us := [3]) (by simp) h.ls.mt F (hA _ _ (by decide)), dT.fr (us := 79 :: tsA) (by simp) (by simp [tsA]) h.ls.st F (hA _ _ (by decide)), iQ.fr (us := tsA) (by simp [tsA]) (by simp [tsA]) h.ls.mn F (hA _ _ (by decide)), aQ.fr (us := 43 :: tsA) (by simp) (by simp [tsA]) h.ls.ac F (hA _ _ (by decide)), ⟨s, ?_⟩, zT.fr (us := [3]) (by simp) h.ls.em F (hA _ _ (by decide)), yT.fr (us := [75]) (by simp) h.ls.ar F (hA _ _ (by decide))⟩
    have := Tl.put (T := 41) (c := 8) (f := TaL.cells) (ts := tsA) (fun _ => rfl) kpTq (by decide) (hg ▸ ht) hk (j := 7) (by decide) (.slice none 0 0) (noT x.tb[k]) (by simp [noT, TaL.cells]) (fun W hp => ⟨hp.1, hp.2.1, hp.2.2.1, hp.2.2.2.1, .inl rfl⟩)
    rw [← hg] at this
    exact this
theorem Cs.nilA {w W : World} {p B1 g : Nat} {x : CoL} (h : Cs w W p B1 x) (hg : x.aa = some ⟨g, 0, none⟩) {k : Nat} (hk : k < x.ac.length) : Cs w (W.setCell ⟨g, k * 3 + 2, none⟩ (.slice none 0 0)) p B1 (setA x k (noA x.ac[k])) := by
  obtain ⟨s, ht⟩ := h.ls.ac
  have hlt := World.ownsRow.lt ht.own g (by rw [hg]; rfl)
  obtain ⟨cur, hcur⟩ := row_tyK ht.own (b := g) (by rw [hg]; rfl)
  have F := fr_one W g (k * 3 + 2) (.slice none 0 0)
  have hA : ∀ (B : Nat) (us : List TypeId), 43 ∉ us → Away B us W (fun b => b = g) := fun B us hn b e => by subst e; exact .inr ⟨cur, _, hn, hcur⟩
  have hne : p ≠ g := fun e => by
    have := h.pb
    rw [e, hcur] at this
    injection this with this
    injection this with _ this _
    revert this; decide
  refine ⟨((Fr.ofBelow (E := fun b => b = g) h.bl).set _ _ rfl).below (fun b e => by have := h.b1; omega) (Nat.le_refl _), ?_, h.pl, h.b1, ?_⟩
  · rw [Below.heap_setCell _ _ _ _ (fun e => hne e), h.pb]
    simp [setA, CoL.cells]
  · refine ⟨row_frK h.ls.sl F (ts := [3]) (by simp) (hA _ _ (by decide)), hT.fr (us := [3, 91]) (by simp) (by simp [tsI]) h.ls.hd F (hA _ _ (by decide)), zT.fr (us := [3]) (by simp) h.ls.mt F (hA _ _ (by decide)), dT.fr (us := 79 :: tsA) (by simp) (by simp [tsA]) h.ls.st F (hA _ _ (by decide)), iQ.fr (us := tsA) (by simp [tsA]) (by simp [tsA]) h.ls.mn F (hA _ _ (by decide)), ⟨s, ?_⟩, tQ.fr (us := 41 :: tsA) (by simp) (by simp [tsA]) h.ls.tb F (hA _ _ (by decide)), zT.fr (us := [3]) (by simp) h.ls.em F (hA _ _ (by decide)), yT.fr (us := [75]) (by simp) h.ls.ar F (hA _ _ (by decide))⟩
    have := Tl.put (T := 43) (c := 3) (f := AcL.cells) (ts := tsA) (fun _ => rfl) kpAq (by decide) (hg ▸ ht) hk (j := 2) (by decide) (.slice none 0 0) (noA x.ac[k]) (by simp [noA, AcL.cells]) (fun W hp => ⟨hp.1, .inl rfl⟩)
    rw [← hg] at this
    exact this
end Go.Proofs.YtlipcmonlhdgfaaGreat
/- package code: a changed twin can be read; how it stands to what it is a twin of. -/
namespace Go.Proofs.YtlipcmonlhdgfaaGreat
open Go.RowKit

theorem Tl.rdd {α : Type} {T c : Nat} {f : α → List Value} {P : World → Nat → α → Prop} {s : List Value} {W : World} {B : Nat} {a : Option Addr} {cap : Nat} {l : List α} (h : Tl T c f P s W B a cap l) (hf : ∀ x, (f x).length = c) : LiR W c f a l := Tl.rd hf h
theorem isR_z {W : World} {B : Nat} {a : Option Addr} {c : Nat} {l l0 : List Int} {W0 : World} {a0 : Option Addr} (h : zT W B a c l) (h0 : IsR W0 a0 l0) (e : l = l0) : IsR W a l := ⟨zLi (Tl.rdd h (fun _ => rfl)), by rw [e]; exact h0.ln, by rw [e]; exact h0.ok⟩
theorem map_mem {α β : Type} {g : α → β} {l l0 : List α} (h : l.map g = l0.map g) {x : α} (hx : x ∈ l) : ∃ y ∈ l0, g y = g x := by
  have : g x ∈ l0.map g := h ▸ List.mem_map.2 ⟨x, hx, rfl⟩
  obtain ⟨y, hy, e⟩ := List.mem_map.1 this
  exact ⟨y, hy, e⟩
theorem f2_mem {α : Type} {R : α → α → Prop} {l l' : List α} (h : F2 R l l') {x : α} (hx : x ∈ l') : ∃ y ∈ l, R y x := by
  obtain ⟨i, hi, rfl⟩ := List.getElem_of_mem hx
  have hi' : i < l.length := by rw [h.1]; exact hi
  exact ⟨_, List.getElem_mem hi', h.2 i hi' hi⟩
theorem insR_tw {W0 W : World} {B : Nat} {a0 a : Option Addr} {c : Nat} {l0 l : List InL} (h0 : InsR W0 a0 l0) (hm : l.map bIn = l0.map bIn ∨ l = []) (hk : iQ W B a c l) : InsR W a l := by
  rcases hk with rfl | hk
  · exact ⟨.inl rfl, by simp, fun x hx => by cases hx⟩
  · rcases hm with hm | rfl
    · refine ⟨Tl.rdd hk (fun _ => rfl), by have := congrArg List.length hm; simp at this; rw [this]; exact h0.ln, fun x hx => ?_⟩
      obtain ⟨y, hy, e⟩ := map_mem hm hx
      have hv : y.v = x.v := by
        have h3 := congrArg (fun x : InL => x.v) e
        exact h3
      have hR := h0.ok y hy
      exact ⟨zLi (Tl.rdd (hk.ok x hx) (fun _ => rfl)), by rw [← hv]; exact hR.ln, by rw [← hv]; exact hR.lr, by rw [← hv]; exact hR.op, by rw [← hv]; exact hR.to, by rw [← hv]; exact hR.a, by rw [← hv]; exact hR.b, by rw [← hv]; exact hR.n, by rw [← hv]; exact hR.m, by rw [← hv]; exact hR.lit, by rw [← hv]; exact hR.of⟩
    · exact ⟨.inl rfl, by simp, fun x hx => by cases hx⟩
theorem coR_cs {w W : World} {p B1 : Nat} {c x : CoL} {t : List Int} (h : Cs w W p B1 x) (hc : CoR w c) (hM : Mo c x t) (ht : ∀ z ∈ t, i64R z) : CoR W x := by
  have L := h.ls
  refine ⟨⟨(rdZ_own L.sl).2, by have := hM.sn; omega, fun z hz => ?_⟩, ?_, isR_z L.mt hc.mt hM.mt, ?_, insR_tw hc.mn hM.mn L.mn, ?_, ?_, isR_z L.em hc.em hM.em, ⟨Tl.rdd L.ar (fun _ => rfl), by rw [hM.ar]; exact hc.ar.ln, by rw [hM.ar]; exact hc.ar.ok⟩⟩
  · rw [hM.sl] at hz
    rcases List.mem_append.1 hz with hz | hz
    · exact hc.sl.ok z hz
    · exact ht z hz
  · obtain ⟨s, k⟩ := L.hd
    refine ⟨Tl.rdd k (fun _ => rfl), by rw [← hM.hd.1]; exact hc.hd.ln, fun y hy => ?_⟩
    obtain ⟨y0, hy0, e⟩ := f2_mem hM.hd hy
    exact isR_z (k.ok y hy) (hc.hd.ok y0 hy0) e
  · obtain ⟨s, k⟩ := L.st
    refine ⟨Tl.rdd k (fun _ => rfl), by rw [← hM.st.1]; exact hc.st.ln, fun y hy => ?_⟩
    obtain ⟨y0, hy0, e⟩ := f2_mem hM.st hy
    obtain ⟨e1, e2, e3, e4, e5⟩ := bNd_hs e
    have r := hc.st.ok y0 hy0
    obtain ⟨k1, k2, k3⟩ := k.ok y hy
    exact ⟨isR_z k1 r.hs e1, insR_tw r.cd (.inl e2) (.inr k2), by rw [e3]; exact r.slot, ⟨Tl.rdd k3 (fun _ => rfl), by rw [e4]; exact r.js.ln, by rw [e4]; exact r.js.ok⟩, by rw [e5]; exact r.to⟩
  · obtain ⟨s, k⟩ := L.ac
    refine ⟨Tl.rdd k (fun _ => rfl), by rw [← hM.ac.1]; exact hc.ac.ln, fun y hy => ?_⟩
    obtain ⟨y0, hy0, e1, e2⟩ := f2_mem hM.ac hy
    have r := hc.ac.ok y0 hy0
    obtain ⟨k1, k2⟩ := k.ok y hy
    exact ⟨isR_z k1 r.ps e1, insR_tw r.cd e2 k2⟩
  · obtain ⟨s, k⟩ := L.tb
    refine ⟨Tl.rdd k (fun _ => rfl), by rw [← hM.tb.1]; exact hc.tb.ln, fun y hy => ?_⟩
    obtain ⟨y0, hy0, e1, e2, e3, e4, e5, e6, e7⟩ := f2_mem hM.tb hy
    have r := hc.tb.ok y0 hy0
    obtain ⟨k1, k2, k3, k4, k5⟩ := k.ok y hy
    exact ⟨isR_z k1 r.ks e1, ⟨Tl.rdd k2 (fun _ => rfl), by rw [e2]; exact r.kd.ln, by rw [e2]; exact r.kd.ok⟩, isR_z k3 r.ats e3, by rw [e4]; exact r.df, ⟨nLi (Tl.rdd k4 (fun _ => rfl)), by rw [e5]; exact r.gs.ln, by rw [e5]; exact r.gs.ok⟩, by rw [e6]; exact r.size, insR_tw r.bf e7 k5⟩
/- The relation is kept. -/
theorem f2_put {α : Type} {R : α → α → Prop} {l l' : List α} (h : F2 R l l') {k : Nat} {y : α} (hk : ∀ h1 : k < l.length, R l[k] y) : F2 R l (l'.set k y) := by
  refine ⟨by simpa using h.1, fun i h1 h2 => ?_⟩
  rw [List.getElem_set]
  split
  · rename_i e; subst e; exact hk h1
  · exact h.2 i h1 (by simpa using h2)
theorem Mo.start {c z : CoL} (h : bCo z = bCo c) (hs : c.sl.length ≤ 65536) : Mo c z [] := by
  unfold bCo at h
  injection h with h1 _ _ h2 _ _ h3 _ _ h4 _ _ h5 _ _ h6 _ _ h7 _ _ h8 _ _ h9 _ _
  refine ⟨by simpa using h1, rfl, by rw [h1]; exact hs, f2_map h2 (fun x x' e => ?_), h3, f2_map h4 (fun x x' e => e), .inl h5, f2_map h6 (fun x x' e => ?_), f2_map h7 (fun x x' e => ?_), h8, h9⟩
  · injection e
  · unfold bAc at e
    injection e with _ e1 _ _ e2 _ _
    exact ⟨e1, .inl e2⟩
  · unfold bTa at e
    injection e with _ e1 _ _ e2 _ _ e3 _ _ e4 e5 _ _ e6 e7 _ _
    exact ⟨e1, e2, e3, e4, e5, e6, .inl e7⟩
def apS (x : CoL) (y : Int) (a : Option Addr) (c : Nat) : CoL := { x with sl := x.sl ++ [y], sa := a, sc := c }
theorem Mo.app {c x : CoL} (h : Mo c x []) {y : Int} (hy : widB y = true) (hs : x.sl.length < 65536) (a : Option Addr) (n : Nat) : Mo c (apS x y a n) [y] :=
  ⟨by have := h.sl; simp [apS] at this ⊢; exact this, by simp [hy], by simp [apS]; omega, h.hd, h.mt, h.st, h.mn, h.ac, h.tb, h.em, h.ar⟩
theorem Mo.noM {c x : CoL} {t : List Int} (h : Mo c x t) : Mo c (noM x) t := ⟨h.sl, h.wd, h.sn, h.hd, h.mt, h.st, .inr rfl, h.ac, h.tb, h.em, h.ar⟩
theorem Mo.setT {c x : CoL} {t : List Int} (h : Mo c x t) {k : Nat} (hk : k < x.tb.length) : Mo c (setT x k (noT x.tb[k])) t :=
  ⟨h.sl, h.wd, h.sn, h.hd, h.mt, h.st, h.mn, h.ac, f2_put h.tb (fun h1 => by
    obtain ⟨e1, e2, e3, e4, e5, e6, _⟩ := h.tb.2 k h1 hk
    exact ⟨e1, e2, e3, e4, e5, e6, .inr rfl⟩), h.em, h.ar⟩
theorem Mo.setA {c x : CoL} {t : List Int} (h : Mo c x t) {k : Nat} (hk : k < x.ac.length) : Mo c (setA x k (noA x.ac[k])) t :=
  ⟨h.sl, h.wd, h.sn, h.hd, h.mt, h.st, h.mn, f2_put h.ac (fun h1 => by
    obtain ⟨e1, _⟩ := h.ac.2 k h1 hk
    exact ⟨e1, .inr rfl⟩), h.tb, h.em, h.ar⟩
/- The twin as it was made, in a block of its own. -/
theorem cs_start {w W1 W3 : World} {B : Nat} {z : CoL} (hb : Below w.heap.size w W1) (hk : kCo W1 B z) (hB : w.heap.size ≤ B) (h3 : Below W1.heap.size W1 W3) (hp : W3.heap[W1.heap.size]? = some (.cells z.cells.toArray 30 (0, 0))) : ∃ B1 g, Cs w W3 W1.heap.size B1 z ∧ z.sa = some ⟨g, 0, none⟩ ∧ g < B1 ∧ z.sl.length + 1 ≤ z.sc ∧ z.sc ≤ maxLen := by
  obtain ⟨B1, b2, hq, k1, k2, k3, k4, k5, k6, k7, k8, k9⟩ := hk
  obtain ⟨g, hg⟩ := k1.at'
  obtain ⟨gm, hgm⟩ := k3.at'
  have hlm := World.ownsRow.lt k3.own gm (by rw [hgm]; rfl)
  have hl : W1.ownsRow w.heap.size 3 1 (.slice z.sa z.sl.length z.sc) z.sl.length (flat intC z.sl) := by
    have h1 := k1.own
    rw [hg] at h1 ⊢
    exact owR_lower (own_cut (m := 1) h1 (flat_length int_len z.sl)) hB
  have L : Ls w.heap.size W1 B1 z := ⟨hl, k2, k3, k4, .inr k5, k6.q, k7.q, k8, k9⟩
  exact ⟨B1, g, ⟨bstep hb h3, hp, by omega, by omega, L.below h3⟩, hg, hq _ hg, k1.le, k1.mx⟩
/- One slot more. -/
theorem cs_app {w W W1 w7 : World} {p B1 g0 g cap : Nat} {x : CoL} {y : Int} (h : Cs w W p B1 x) (hg : x.sa = some ⟨g0, 0, none⟩) (hlt : g0 < B1) (h1 : Below W.heap.size W W1) (O : w7.ownsRow w.heap.size 3 1 (.slice (some ⟨g, 0, none⟩) (x.sl.length + 1) cap) (x.sl.length + 1) (flat intC x.sl ++ [.int .i64 y])) (G : W1.grownBy w7 (Value.slice (some ⟨g0, 0, none⟩) x.sl.length x.sc).ownBlock) : w7.heap[p]? = some (.cells x.cells.toArray 30 (0, 0)) ∧ Cs w (w7.setCell ⟨p, 0, none⟩ (.slice (some ⟨g, 0, none⟩) (x.sl.length + 1) cap)) p B1 (apS x y (some ⟨g, 0, none⟩) cap) := by
  have hC := h.below h1
  have F : Fr (fun b => (Value.slice (some ⟨g0, 0, none⟩) x.sl.length x.sc).ownBlock = some b) W1 w7 := Fr.grown G (fun r e => e)
  have hb0 : ∀ b, (Value.slice (some ⟨g0, 0, none⟩) x.sl.length x.sc).ownBlock = some b → b = g0 := fun b e => by
    have e : (some g0 : Option Nat) = some b := e
    injection e with e
    exact e.symm
  have hA : ∀ us : List TypeId, Away B1 us W1 (fun b => (Value.slice (some ⟨g0, 0, none⟩) x.sl.length x.sc).ownBlock = some b) := fun us b e => .inl (by rw [hb0 b e]; exact hlt)
  have L := hC.ls
  have hg0 := (World.ownsRow.lt L.sl g0 (by rw [hg]; rfl)).1
  have hp : w7.heap[p]? = some (.cells x.cells.toArray 30 (0, 0)) := (F.block p (lt_heap hC.pb) (fun e => by have := hb0 p e; have := h.pl; omega)).trans hC.pb
  have L7 : Ls w.heap.size w7 B1 (apS x y (some ⟨g, 0, none⟩) cap) := by
    refine ⟨?_, hT.fr (us := tsU) (by simp [tsU]) (by simp [tsI, tsU]) L.hd F (hA _), zT.fr (us := tsU) (by simp [tsU]) L.mt F (hA _), dT.fr (us := tsU) (by simp [tsU]) (by simp [tsA, tsU]) L.st F (hA _), iQ.fr (us := tsU) (by simp [tsU]) (by simp [tsU]) L.mn F (hA _), aQ.fr (us := tsU) (by simp [tsU]) (by simp [tsA, tsU]) L.ac F (hA _), tQ.fr (us := tsU) (by simp [tsU]) (by simp [tsA, tsU]) L.tb F (hA _), zT.fr (us := tsU) (by simp [tsU]) L.em F (hA _), yT.fr (us := tsU) (by simp [tsU]) L.ar F (hA _)⟩
    have e1 : (apS x y (some ⟨g, 0, none⟩) cap).sl.length = x.sl.length + 1 := by simp [apS]
    rw [e1]
    show w7.ownsRow _ _ _ _ _ (flat intC (x.sl ++ [y]))
    rw [flat_append]
    exact O
  have hbl : Below w.heap.size w w7 := hC.bl.trans (F.below (fun b e => by rw [hb0 b e]; exact hg0) hC.bl.size)
  refine ⟨hp, ((Fr.ofBelow (E := fun b => b = p) hbl).set _ _ rfl).below (fun b e => by have := h.pl; have := h.b1; omega) (Nat.le_refl _), ?_, h.pl, h.b1, L7.fr (fr_one w7 p 0 _) (fun b e => by subst e; exact ⟨_, hp⟩)⟩
  rw [heap_setCell_same hp]
  simp [apS, CoL.cells]
end Go.Proofs.YtlipcmonlhdgfaaGreat
/- package code: Check. -/
namespace Go.Proofs.YtlipcmonlhdgfaaGreat
open Go.RowKit

theorem RwR.block {W W' : World} {v : Value} {g jb : Nat} (h : RwR W v g jb) (hz : ∃ a n c, W.cell? ⟨g, 0, none⟩ = some (.slice a n c)) (hb : ∀ b, b ≠ g → W'.heap[b]? = W.heap[b]?) (hs : W'.heap.size = W.heap.size) : RwR W' v g jb := by
  obtain ⟨q, c, e, hq, hc⟩ := h
  have hne : q ≠ g := fun e1 => by
    obtain ⟨a, n, c', h1⟩ := hz
    have h2 := hc 0 (by simp [rowsT_len]) 0 _ rfl
    rw [e1, h1] at h2
    cases h2
  refine ⟨q, c, e, by rw [hs]; exact hq, fun i hi j u hu => ?_⟩
  exact (World.cell?_of_block (w := W) (a := ⟨q, _, none⟩) (hb q hne)).trans (hc i hi j u hu)
set_option maxRecDepth 100000 in
set_option maxHeartbeats 4000000 in
theorem codeCheck_any (D : Int → Int → Int → Int → Int → Int × Int × Int × Int) (hD : DoOk D) (c : CoL) (w : World) (hc : CoR w c) (hcap : c.mt.length ≤ c.mc) : Calls Tryz.prog 8 #[.agg c.cells.toArray] w fun e w' => e = .returned (.int .i64 (if chB D c then 0 else 8)) ∧ Below w.heap.size w w' := by
  have HR := hide (fun W => allRows_any (w.heap.size + 1) W)
  have HC := hide hc
  have K0 := hide (heap_snd w (.cells c.cells.toArray 30) (c.cells ++ ([.slice none 0 0] : List Value)).toArray 70)
  have B0 := hide (below2 w (.cells c.cells.toArray 30) (.cells (c.cells ++ ([.slice none 0 0] : List Value)).toArray 70))
  have Z0 : Hid (((w.alloc (.cells c.cells.toArray 30)).alloc (.cells (c.cells ++ ([.slice none 0 0] : List Value)).toArray 70)).heap.size = w.heap.size + 2) := by show _ = _; simp
  obtain ⟨w2, hw2⟩ : ∃ w2, w2 = (w.alloc (.cells c.cells.toArray 30)).alloc (.cells (c.cells ++ ([.slice none 0 0] : List Value)).toArray 70) := ⟨_, rfl⟩
  have HW2 := hide hw2
  rw [← hw2] at K0 B0 Z0
  have HM : Hid (∀ W jb rv, Below w.heap.size w W → Jd W (w.heap.size + 1) c rv → Jb W jb (w.heap.size + 1) → RwR W rv (w.heap.size + 1) jb → _) := fun W jb rv hb h1 h2 h3 => mayBe_any D hD c (w.heap.size + 1) jb rv W h1 h2 h3 (hc.below hb) hcap
  generalize chB D c = t at *
  have HCE : Hid (c.cells = [.slice c.sa c.sl.length c.sc, .slice c.ha c.hd.length c.hc, .slice c.ma c.mt.length c.mc, .slice c.ta c.st.length c.tc, .slice c.na c.mn.length c.nc, .slice c.aa c.ac.length c.acc, .slice c.ba c.tb.length c.bc, .slice c.ea c.em.length c.ec, .slice c.ra c.ar.length c.rc]) := rfl
  have EW : Hid (w2 = (w.alloc (.cells #[.slice c.sa c.sl.length c.sc, .slice c.ha c.hd.length c.hc, .slice c.ma c.mt.length c.mc, .slice c.ta c.st.length c.tc, .slice c.na c.mn.length c.nc, .slice c.aa c.ac.length c.acc, .slice c.ba c.tb.length c.bc, .slice c.ea c.em.length c.ec, .slice c.ra c.ar.length c.rc] 30)).alloc (.cells #[.slice c.sa c.sl.length c.sc, .slice c.ha c.hd.length c.hc, .slice c.ma c.mt.length c.mc, .slice c.ta c.st.length c.tc, .slice c.na c.mn.length c.nc, .slice c.aa c.ac.length c.acc, .slice c.ba c.tb.length c.bc, .slice c.ea c.em.length c.ec, .slice c.ra c.ar.length c.rc, .slice none 0 0] 70)) := hw2
  have EA : Hid (c.cells.toArray = #[.slice c.sa c.sl.length c.sc, .slice c.ha c.hd.length c.hc, .slice c.ma c.mt.length c.mc, .slice c.ta c.st.length c.tc, .slice c.na c.mn.length c.nc, .slice c.aa c.ac.length c.acc, .slice c.ba c.tb.length c.bc, .slice c.ea c.em.length c.ec, .slice c.ra c.ar.length c.rc]) := rfl
  rw [EA.out]
  clear hw2 HW2 EA hc hD hcap
  generalize c.sl.length = n0 at EW HCE ⊢
  generalize c.hd.length = n1 at EW HCE ⊢
  generalize c.mt.length = n2 at EW HCE ⊢
  generalize c.st.length = n3 at EW HCE ⊢
  generalize c.mn.length = n4 at EW HCE ⊢
  generalize c.ac.length = n5 at EW HCE ⊢
  generalize c.tb.length = n6 at EW HCE ⊢
  generalize c.em.length = n7 at EW HCE ⊢
  generalize c.ar.length = n8 at EW HCE ⊢
  go_enter Tryz.func8, Tryz.ntmps8
  go_wp2_with fail
  rw [← EW.out]
  refine (HR.out _).mono ?_
  rintro e w3 ⟨v, rfl, hr, hjb, hb⟩
  obtain ⟨vq, vc, hv⟩ : ∃ q cc, v = .slice (some ⟨q, 0, none⟩) 21 cc := by
    obtain ⟨q, cc, e, -⟩ := hr
    exact ⟨q, cc, e⟩
  subst hv
  have K3 := hide (heap_below hb K0.out)
  have B3 := hide (bstep B0.out hb)
  have Z3 : Hid (w.heap.size + 2 ≤ w3.heap.size) := by show _ ≤ _; have := hb.size; have := Z0.out; omega
  have hj0 : Jd w3 (w.heap.size + 1) c (.slice none 0 0) := K3.out
  have p9 : w3.cell? ⟨w.heap.size + 1, 9, none⟩ = some (.slice none 0 0) := hj0.at.2.2.2.2.2.2.2.2.2
  have s9 : w3.frozen? ⟨w.heap.size + 1, 9, none⟩ = false := softA K3.out 9
  have HJ : Hid (Jd (w3.setCell ⟨w.heap.size + 1, 9, none⟩ (.slice (some ⟨vq, 0, none⟩) 21 vc)) (w.heap.size + 1) c (.slice (some ⟨vq, 0, none⟩) 21 vc)) := by
    have h := heap_setCell_same (k := 9) hj0 (.slice (some ⟨vq, 0, none⟩) 21 vc)
    show _ = _
    rw [h]
    simp [CoL.cells]
  have HN : Hid (∀ b, b ≠ w.heap.size + 1 → (w3.setCell ⟨w.heap.size + 1, 9, none⟩ (.slice (some ⟨vq, 0, none⟩) 21 vc)).heap[b]? = w3.heap[b]?) := fun b hn => Below.heap_setCell _ _ _ _ (fun e => hn e)
  have HB : Hid (Jb (w3.setCell ⟨w.heap.size + 1, 9, none⟩ (.slice (some ⟨vq, 0, none⟩) 21 vc)) w2.heap.size (w.heap.size + 1)) := (HN.out _ (by have := Z0.out; omega)).trans hjb
  have HRR : Hid (RwR (w3.setCell ⟨w.heap.size + 1, 9, none⟩ (.slice (some ⟨vq, 0, none⟩) 21 vc)) (.slice (some ⟨vq, 0, none⟩) 21 vc) (w.heap.size + 1) w2.heap.size) := hr.block ⟨_, _, _, hj0.at.1⟩ HN.out (by simp [World.setCell])
  have B4 : Hid (Below w.heap.size w (w3.setCell ⟨w.heap.size + 1, 9, none⟩ (.slice (some ⟨vq, 0, none⟩) 21 vc))) := ((Fr.ofBelow (E := fun b => b = w.heap.size + 1) B3.out).set _ _ rfl).below (fun b e => by omega) (Nat.le_refl _)
  have HMM := hide (HM.out _ _ _ B4.out HJ.out HB.out HRR.out)
  clear hr hjb hb hj0 HM HR K0 K3 HJ HB HRR HN EW B0
  cases t
  · go_wp2_with fail
    refine HMM.out.mono ?_
    rintro e w5 ⟨rfl, hb⟩
    have B5 := hide (bstep B4.out hb)
    clear hb HMM
    go_wp2
    go_ret
    exact ⟨rfl, B5.out⟩
  · go_wp2_with fail
    refine HMM.out.mono ?_
    rintro e w5 ⟨rfl, hb⟩
    have B5 := hide (bstep B4.out hb)
    clear hb HMM
    go_wp2
    go_ret
    exact ⟨rfl, B5.out⟩
end Go.Proofs.YtlipcmonlhdgfaaGreat
