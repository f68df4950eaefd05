/- Pieces of the proof: GnM, GnR. -/
import Derived.Test.YtbemfjdloeipmaaGreatDoorM3
import Derived.Test.YtbemfjdloeipmaaGreatDoorM4
import Derived.Laws.AppendOwnNone
import Derived.Test.YtbemfjdloeipmaaGreatDoorM1
/- Of every package: lists cell by cell, and copies of them that are one's own. -/
namespace Go.Proofs.YtbemfjdloeipmaaGreatDoor
open Go.RowKit

theorem Tryz.infoNb : (Tryz.prog.info? 29).map (fun i => (i.zero, i.size, i.bytes)) = some (some (.agg #[.int .i64 0, .int .u64 0, .int .u64 0]), 3, 24) := by kernel_rfl
def Nb.cells (b : Nb) : List Value := [.int .i64 b.w, .int .u64 b.hi, .int .u64 b.lo]
def flat {α : Type} (f : α → List Value) (l : List α) : List Value := l.flatMap f
theorem flat_length {α : Type} {f : α → List Value} {c : Nat} (hf : ∀ x, (f x).length = c) : ∀ l : List α, (flat f l).length = l.length * c
  | [] => by simp [flat]
  | x :: l => by
    have := flat_length hf l
    unfold flat at *
    rw [List.flatMap_cons, List.length_append, hf, this, List.length_cons, Nat.succ_mul, Nat.add_comm]
theorem flat_append {α : Type} (f : α → List Value) (l m : List α) : flat f (l ++ m) = flat f l ++ flat f m := by simp [flat]
theorem flat_get {α : Type} {f : α → List Value} {c : Nat} (hf : ∀ x, (f x).length = c) : ∀ (l : List α) (i j : Nat) (h : i < l.length), j < c → (flat f l)[i * c + j]? = (f l[i])[j]?
  | [], i, _, h, _ => by simp at h
  | x :: l, 0, j, _, hj => by
    unfold flat
    rw [List.flatMap_cons, Nat.zero_mul, Nat.zero_add, List.getElem?_append_left (by rw [hf]; exact hj)]
    rfl
  | x :: l, i + 1, j, h, hj => by
    have := flat_get hf l i j (by simpa using h) hj
    unfold flat at *
    rw [List.flatMap_cons, List.getElem?_append_right (by rw [hf, Nat.succ_mul]; omega), hf]
    rw [List.getElem_cons_succ, ← this]
    congr 1
    rw [Nat.succ_mul]; omega
theorem nb_len (b : Nb) : b.cells.length = 3 := rfl
theorem flat_one {α : Type} {f : α → List Value} (hf : ∀ x, ∀ u ∈ f x, u.oneCell' = true) (l : List α) : ∀ u ∈ flat f l, u.oneCell' = true := fun u hu => by
  obtain ⟨x, _, h⟩ := List.mem_flatMap.1 hu
  exact hf x u h
theorem nb_one (b : Nb) : ∀ u ∈ b.cells, u.oneCell' = true := fun u hu => by
  simp only [Nb.cells, List.mem_cons, List.not_mem_nil, or_false] at hu
  rcases hu with rfl | rfl | rfl <;> rfl
theorem flat_src {α : Type} {f : α → List Value} {c : Nat} (hc : 0 < c) (hf : ∀ x, (f x).length = c) {W : World} {p off : Nat} {l : List α} (h : ∀ i (hi : i < l.length) j u, (f l[i])[j]? = some u → W.cell? ⟨p, off + i * c + j, none⟩ = some u) : ∀ j u, (flat f l)[j]? = some u → W.cell? ((⟨p, off, none⟩ : Addr).add j) = some u := fun j u hu => by
  have hj : j < (flat f l).length := (List.getElem?_eq_some_iff.1 hu).1
  rw [flat_length hf] at hj
  have hi : j / c < l.length := Nat.div_lt_of_lt_mul (by rw [Nat.mul_comm]; exact hj)
  have hm := Nat.mod_lt j hc
  have e : j / c * c + j % c = j := by rw [Nat.mul_comm]; exact Nat.div_add_mod j c
  rw [← e, flat_get hf l _ _ hi hm] at hu
  have := h _ hi _ _ hu
  rw [add8, ← this]
  congr 2
  omega
theorem nb_src {W : World} {p off : Nat} {l : List Nb} (h : ∀ i (h : i < l.length), W.cell? ⟨p, off + i * 3, none⟩ = some (.int .i64 l[i].w) ∧ W.cell? ⟨p, off + i * 3 + 1, none⟩ = some (.int .u64 l[i].hi) ∧ W.cell? ⟨p, off + i * 3 + 2, none⟩ = some (.int .u64 l[i].lo)) : ∀ j u, (flat Nb.cells l)[j]? = some u → W.cell? ((⟨p, off, none⟩ : Addr).add j) = some u := by
  refine flat_src (by decide) nb_len (fun i hi j u hu => ?_)
  obtain ⟨h0, h1, h2⟩ := h i hi
  have hj : j < 3 := (List.getElem?_eq_some_iff.1 hu).1
  rcases (by omega : j = 0 ∨ j = 1 ∨ j = 2) with rfl | rfl | rfl
  all_goals (injection hu with hu; subst hu; assumption)
theorem own_cell {W : World} {B c n : Nat} {e : TypeId} {v : Value} {α : Type} {f : α → List Value} {l : List α} (hf : ∀ x, (f x).length = c) (h : W.ownsRow B e c v n (flat f l)) {g cap : Nat} (hv : v = .slice (some ⟨g, 0, none⟩) n cap) (i : Nat) (hi : i < l.length) (j : Nat) (u : Value) (hj : (f l[i])[j]? = some u) : W.cell? ⟨g, 0 + i * c + j, none⟩ = some u := by
  have hjc : j < c := by have := (List.getElem?_eq_some_iff.1 hj).1; rw [hf] at this; exact this
  have := World.ownsRow.cells h (g := g) (by rw [hv]; rfl) (i * c + j) u (by rw [flat_get hf l i j hi hjc]; exact hj)
  rw [add8] at this
  rw [← this]; congr 2; omega
theorem own_form {W : World} {B c n : Nat} {e : TypeId} {v : Value} {xs : List Value} (h : W.ownsRow B e c v n xs) : (v = .slice none 0 0 ∧ n = 0) ∨ ∃ g cap, v = .slice (some ⟨g, 0, none⟩) n cap ∧ B ≤ g ∧ g < W.heap.size ∧ n ≤ cap := by
  rcases h.2 with ⟨h1, h2⟩ | ⟨g, cap, cur, h1, h2, h3, h4, _⟩
  · exact .inl ⟨h1, h2⟩
  · exact .inr ⟨g, cap, h1, h2, (Array.getElem?_eq_some_iff.1 h3).1, h4⟩
theorem rdN_own {W : World} {B n : Nat} {a : Option Addr} {k cap : Nat} {l : List Nb} (h : W.ownsRow B 29 3 (.slice a k cap) n (flat Nb.cells l)) : k = l.length ∧ RdN W a l ∧ (a = none → cap = 0) ∧ ∀ q, a = some q → B ≤ q.block ∧ q.block < W.heap.size := by
  have hl := h.1
  rw [flat_length nb_len] at hl
  rcases own_form h with ⟨hv, hn⟩ | ⟨g, cap', hv, hg, hlt, hc⟩
  · injection hv with h1 h2 h3
    subst h1 h2 h3 hn
    have h0 : l = [] := List.length_eq_zero_iff.1 (by omega)
    subst h0
    exact ⟨rfl, .inl rfl, fun _ => rfl, fun q e => by cases e⟩
  · injection hv with h1 h2 h3
    subst h1 h2 h3
    refine ⟨by omega, .inr ⟨g, 0, rfl, hlt, fun i hi => ?_⟩, fun e => (by cases e), fun q e => (by cases e; exact ⟨hg, hlt⟩)⟩
    have key := own_cell nb_len h rfl i hi
    exact ⟨key 0 _ rfl, key 1 _ rfl, key 2 _ rfl⟩
theorem rdN_kept {W W' : World} {a : Option Addr} {l : List Nb} {row : Option Nat} (h : RdN W a l) (hg : W.grownBy W' row) (hne : ∀ q, a = some q → row ≠ some q.block) : RdN W' a l := by
  rcases h with h | ⟨p, off, rfl, hp, hc⟩
  · exact .inl h
  · have hn := hne _ rfl
    have key : ∀ o v, W.cell? ⟨p, o, none⟩ = some v → W'.cell? ⟨p, o, none⟩ = some v := fun o v hv => (World.cell?_of_block (w := W) (a := ⟨p, o, none⟩) (hg.block p hp (fun e => hn e.symm))).trans hv
    refine .inr ⟨p, off, rfl, Nat.lt_of_lt_of_le hp hg.size, fun i hi => ?_⟩
    obtain ⟨h0, h1, h2⟩ := hc i hi
    exact ⟨key _ _ h0, key _ _ h1, key _ _ h2⟩
theorem rdN_setc {W : World} {a : Option Addr} {l : List Nb} (h : RdN W a l) (p : Addr) (v : Value) (hne : ∀ q, a = some q → p.block ≠ q.block) : RdN (W.setCell p v) a l := by
  refine rdN_kept h (W' := W.setCell p v) (row := some p.block) ?_ (fun q e h => hne q e (by injection h))
  have hb := (Below.refl 0 W).setCell (p := p) (Nat.zero_le _) v
  exact ⟨hb.os, hb.tape, hb.output, hb.size, fun b _ hn => Below.heap_setCell _ _ _ _ (fun e => hn (by rw [e]))⟩
theorem wpList_copyN {w : World} {ops : Array Oper} {rest : List Oper} {o : Oper} {a : Act} {Q : Exit → Act → World → Prop} (hgd : o.guard = none) (s x : Operand) (ho : o.op = .call { callee := .builtin .append, args := #[s, x], argTypes := #[23, 23] })
    (hs : a.eval s = .slice none 0 0) (sa : Option Addr) (cap : Nat) (l : List Nb) (hx : a.eval x = .slice sa l.length cap) (hr : RdN w sa l) (hn : sa = none → cap = 0) (hl : l.length ≤ 1000000)
    (h : ∀ a' cap' w', RdN w' a' l → (a' = none → cap' = 0) → (∀ q, a' = some q → w.heap.size ≤ q.block ∧ q.block < w'.heap.size) → Below w.heap.size w w' → wpList Tryz.prog ops Q rest (a.put o.dst (.slice a' l.length cap')) w') :
    wpList Tryz.prog ops Q (o :: rest) a w := by
  obtain ⟨i0, hi0, hz0, hz1, hz2⟩ := info_parts Tryz.infoNb
  have key : ∀ (ad : Addr) (hsrc : ∀ j u, (flat Nb.cells l)[j]? = some u → w.cell? (ad.add j) = some u), a.eval x = .slice (some ad) l.length cap → wpList Tryz.prog ops Q (o :: rest) a w := fun ad hsrc hx' => by
    refine wpList_append_own_at w hgd s x 23 ho w.heap.size 29 i0 _ 3 24 Tryz.underlying23 hi0 hz0 hz1 hz2 rfl (by decide) _ 0 [] hs (World.ownsRow_nil _ _ _ _) ad l.length cap (flat Nb.cells l) hx' (flat_length nb_len l) hsrc (flat_one nb_one l) (by unfold maxLen; omega) (by omega) (Nat.le_refl _) ?_
    intro v' w' h1 h2 _ _
    rw [List.nil_append, Nat.zero_add] at h1
    rcases own_form h1 with ⟨rfl, hn0⟩ | ⟨g, cap', rfl, _⟩
    · obtain ⟨e1, e2, e3, e4⟩ := rdN_own h1
      have := h none 0 w' e2 e3 e4 ((Below.refl _ _).grown h2 (Nat.le_refl _) (fun k e => by cases e))
      rw [← e1] at this
      exact this
    · obtain ⟨e1, e2, e3, e4⟩ := rdN_own h1
      exact h _ _ w' e2 e3 e4 ((Below.refl _ _).grown h2 (Nat.le_refl _) (fun k e => by cases e))
  rcases hr with rfl | ⟨p, off, rfl, hp, hc⟩
  · cases sa with
    | none =>
      have hx2 : a.eval x = .slice none 0 0 := by rw [hx, hn rfl]; rfl
      refine wpList_append_own_none hgd s x 23 ho w.heap.size 29 i0 3 Tryz.underlying23 hi0 _ 0 [] hs (World.ownsRow_nil _ _ _ _) hx2 ?_
      exact h none 0 w (.inl rfl) (fun _ => rfl) (fun q e => by cases e) (Below.refl _ _)
    | some q => exact key q (fun j u hu => by simp [flat] at hu) hx
  · exact key _ (nb_src hc) hx
end Go.Proofs.YtbemfjdloeipmaaGreatDoor
/- What came in, opened: structs field by field; numbers, and lists of them. -/
namespace Go.Proofs.YtbemfjdloeipmaaGreatDoor
open Go.ChangeShapes Go.WideShapes Go.ChangeAt Go.RowKit

variable {H : Type} {enc : TypeId × Value → H} {W : World} {base : Nat}
theorem open_field {t : TypeId} {fs : Array Field} (ht : Tryz.prog.underlying t = some (.struct fs)) {fuel : Nat} {cs : List Value} {x : DataW H × List MemPlace} (h : DataW.trod enc Tryz.prog W base (fun _ => true) true fuel t cs = some x) (hw : ∀ n ∈ x.1.weights Tryz.prog t, n ≤ reachBytes) (i : Nat) (f : Field) (hf : fs[i]? = some f) :
    ∃ (m : Nat) (y : DataW H × List MemPlace), DataW.trod enc Tryz.prog W base (fun _ => true) true m f.type ((cs.drop f.offset).take (Tryz.prog.cellsOf f.type)) = some y ∧ ∀ n ∈ y.1.weights Tryz.prog f.type, n ≤ reachBytes := by
  obtain ⟨xs, m, _, hx, _, hl, hxs⟩ := DataW.trod_struct ht h
  have hi : i < xs.length := by rw [hl]; exact (Array.getElem?_eq_some_iff.1 hf).1
  have h1 := hxs i f hf
  rw [List.getElem?_eq_getElem hi] at h1
  refine ⟨m, xs[i], h1, fun n hn => hw n ?_⟩
  rw [hx, DataW.weights, ht]
  refine DataW.weights_mem_each (j := i) (t := f.type) (d := xs[i].1) ?_ ?_ n hn
  · rw [List.getElem?_map, Array.getElem?_toList, hf]; rfl
  · rw [List.getElem?_map, List.getElem?_eq_getElem hi]; rfl
theorem field_at {t : TypeId} {fs : Array Field} (ht : Tryz.prog.underlying t = some (.struct fs)) {fuel : Nat} {cs : List Value} {x : DataW H × List MemPlace} (h : DataW.trod enc Tryz.prog W base (fun _ => true) true fuel t cs = some x) (hw : ∀ n ∈ x.1.weights Tryz.prog t, n ≤ reachBytes) (i : Nat) {f : Field} (hf : fs[i]? = some f) {ft : TypeId} {off c : Nat} (e1 : f.type = ft) (e2 : f.offset = off) (e3 : Tryz.prog.cellsOf ft = c) :
    ∃ (m : Nat) (y : DataW H × List MemPlace), DataW.trod enc Tryz.prog W base (fun _ => true) true m ft ((cs.drop off).take c) = some y ∧ ∀ n ∈ y.1.weights Tryz.prog ft, n ≤ reachBytes := by
  subst e1 e2 e3
  exact open_field ht h hw i f hf
theorem len_struct {t : TypeId} {fs : Array Field} (ht : Tryz.prog.underlying t = some (.struct fs)) {fuel : Nat} {cs : List Value} {x : DataW H × List MemPlace} (h : DataW.trod enc Tryz.prog W base (fun _ => true) true fuel t cs = some x) : cs.length = Tryz.prog.cellsOf t := by
  obtain ⟨xs, m, _, hx, hl, _, hxs⟩ := DataW.trod_struct ht h
  exact hl
theorem cellsNb : Tryz.prog.cellsOf 29 = 3 := by kernel_rfl
theorem cellsIn : Tryz.prog.cellsOf 3 = 1 := by kernel_rfl
theorem cellsUl : Tryz.prog.cellsOf 27 = 1 := by kernel_rfl
theorem cellsSt : Tryz.prog.cellsOf 9 = 1 := by kernel_rfl
theorem cellsSl2 : Tryz.prog.cellsOf 23 = 1 := by kernel_rfl
theorem cellsSl5 : Tryz.prog.cellsOf 24 = 1 := by kernel_rfl
theorem three {α : Type} {l : List α} (h : l.length = 3) : ∃ a b c, l = [a, b, c] := by
  rcases l with _ | ⟨a, _ | ⟨b, _ | ⟨c, _ | ⟨d, r⟩⟩⟩⟩
  · cases h
  · cases h
  · cases h
  · exact ⟨a, b, c, rfl⟩
  · simp at h
theorem four {α : Type} {l : List α} (h : l.length = 4) : ∃ a b c d, l = [a, b, c, d] := by
  rcases l with _ | ⟨a, l⟩
  · cases h
  · obtain ⟨b, c, d, rfl⟩ := three (l := l) (by simpa using h)
    exact ⟨a, b, c, d, rfl⟩
theorem seven {α : Type} {l : List α} (h : l.length = 7) : ∃ a b c d e f g, l = [a, b, c, d, e, f, g] := by
  rcases l with _ | ⟨a, _ | ⟨b, _ | ⟨c, l⟩⟩⟩
  · cases h
  · cases h
  · cases h
  · obtain ⟨d, e, f, g, rfl⟩ := four (l := l) (by simpa using h)
    exact ⟨a, b, c, d, e, f, g, rfl⟩
set_option maxRecDepth 100000 in
theorem open_nb {fuel : Nat} {cs : List Value} {x : DataW H × List MemPlace} (h : DataW.trod enc Tryz.prog W base (fun _ => true) true fuel 29 cs = some x) (hw : ∀ n ∈ x.1.weights Tryz.prog 29, n ≤ reachBytes) : ∃ y : Nb, cs = y.cells ∧ NbR y := by
  have hl := len_struct Tryz.underlying29 h
  rw [cellsNb] at hl
  obtain ⟨a, b, c, rfl⟩ := three hl
  obtain ⟨_, y0, h0, _⟩ := field_at Tryz.underlying29 h hw 0 rfl (ft := 3) (off := 0) rfl rfl cellsIn
  obtain ⟨_, y1, h1, _⟩ := field_at Tryz.underlying29 h hw 1 rfl (ft := 27) (off := 1) rfl rfl cellsUl
  obtain ⟨_, y2, h2, _⟩ := field_at Tryz.underlying29 h hw 2 rfl (ft := 27) (off := 2) rfl rfl cellsUl
  obtain ⟨p, q0, _, w0⟩ := DataW.trod_int Tryz.underlying3 h0
  obtain ⟨q, q1, _, w1⟩ := DataW.trod_int Tryz.underlying27 h1
  obtain ⟨r, q2, _, w2⟩ := DataW.trod_int Tryz.underlying27 h2
  simp at q0 q1 q2
  subst q0 q1 q2
  exact ⟨⟨p, q, r⟩, rfl, ⟨intE w0, wordE w1, wordE w2⟩⟩
theorem bytesNb : Tryz.prog.bytesOf 29 = 24 := by kernel_rfl
theorem bytesIn : Tryz.prog.bytesOf 3 = 8 := by kernel_rfl
theorem reach_le {n k : Nat} (h : n * k ≤ reachBytes) (hk : 0 < k) : n ≤ 140737488355328 := by
  have h1 : n ≤ n * k := Nat.le_mul_of_pos_right n hk
  unfold reachBytes at h
  omega
theorem rdN_of {a : Option Addr} {cap : Nat} {l : List Nb} (h : LiE W 3 Nb.cells a cap l) : RdN W a l := by
  rcases h.rd with h | ⟨p, off, e, hp, hc⟩
  · exact .inl h
  · exact .inr ⟨p, off, e, hp, fun i hi => ⟨hc i hi 0 _ rfl, hc i hi 1 _ rfl, hc i hi 2 _ rfl⟩⟩
theorem open_nbs {fuel : Nat} {v : Value} {x : DataW H × List MemPlace} (h : DataW.trod enc Tryz.prog W base (fun _ => true) true fuel 23 [v] = some x) (hw : ∀ n ∈ x.1.weights Tryz.prog 23, n ≤ reachBytes) : ∃ (a : Option Addr) (cap : Nat) (l : List Nb), v = .slice a l.length cap ∧ RdN W a l ∧ (a = none → cap = 0) ∧ l.length ≤ 140737488355328 ∧ ∀ y ∈ l, NbR y := by
  obtain ⟨a, cap, l, h1, h2, h3, h4⟩ := open_list Tryz.underlying23 cellsNb (by decide) Nb.cells NbR (fun h hw => open_nb h hw) h hw
  rw [bytesNb] at h3
  exact ⟨a, cap, l, h1, rdN_of h2, h2.nn, reach_le h3 (by decide), h4⟩
end Go.Proofs.YtbemfjdloeipmaaGreatDoor
