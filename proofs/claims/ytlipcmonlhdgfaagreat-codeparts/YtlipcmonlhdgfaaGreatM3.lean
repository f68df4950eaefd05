/- Pieces of the proof: GnM, GnR, GnE, TwG. -/
import Derived.Test.YtlipcmonlhdgfaaGreatM2
import Derived.Laws.AppendOwnNone
import Derived.Test.YtlipcmonlhdgfaaGreatM1
import Derived.Laws.CopyOwn
import Derived.OwnWalk
import Derived.Maps.AppendAt
/- Of every package: lists cell by cell, and copies of them that are one's own. -/
namespace Go.Proofs.YtlipcmonlhdgfaaGreat
open Go.RowKit

theorem Tryz.infoNb : (Tryz.prog.info? 56).map (fun i => (i.zero, i.size, i.bytes)) = some (some (.agg #[.int .i64 0, .int .u64 0, .int .u64 0]), 3, 24) := by kernel_rfl
def Nb.cells (b : Nb) : List Value := [.int .i64 b.w, .int .u64 b.hi, .int .u64 b.lo]
theorem nb_len (b : Nb) : b.cells.length = 3 := rfl
theorem nb_one (b : Nb) : ∀ u ∈ b.cells, u.oneCell' = true := fun u hu => by
  simp only [Nb.cells, List.mem_cons, List.not_mem_nil, or_false] at hu
  rcases hu with rfl | rfl | rfl <;> rfl
theorem nb_src {W : World} {p off : Nat} {l : List Nb} (h : ∀ i (h : i < l.length), W.cell? ⟨p, off + i * 3, none⟩ = some (.int .i64 l[i].w) ∧ W.cell? ⟨p, off + i * 3 + 1, none⟩ = some (.int .u64 l[i].hi) ∧ W.cell? ⟨p, off + i * 3 + 2, none⟩ = some (.int .u64 l[i].lo)) : ∀ j u, (flat Nb.cells l)[j]? = some u → W.cell? ((⟨p, off, none⟩ : Addr).add j) = some u := by
  refine flat_src (by decide) nb_len (fun i hi j u hu => ?_)
  obtain ⟨h0, h1, h2⟩ := h i hi
  have hj : j < 3 := (List.getElem?_eq_some_iff.1 hu).1
  rcases (by omega : j = 0 ∨ j = 1 ∨ j = 2) with rfl | rfl | rfl
  all_goals (injection hu with hu; subst hu; assumption)
theorem rdN_own {W : World} {B n : Nat} {a : Option Addr} {k cap : Nat} {l : List Nb} (h : W.ownsRow B 56 3 (.slice a k cap) n (flat Nb.cells l)) : k = l.length ∧ RdN W a l ∧ (a = none → cap = 0) ∧ ∀ q, a = some q → B ≤ q.block ∧ q.block < W.heap.size := by
  have hl := h.1
  rw [flat_length nb_len] at hl
  rcases own_form h with ⟨hv, hn⟩ | ⟨g, cap', hv, hg, hlt, hc⟩
  · injection hv with h1 h2 h3
    subst h1 h2 h3 hn
    have h0 : l = [] := List.length_eq_zero_iff.1 (by omega)
    subst h0
    exact ⟨rfl, .inl rfl, fun _ => rfl, fun q e => by cases e⟩
  · injection hv with h1 h2 h3
    subst h1 h2 h3
    refine ⟨by omega, .inr ⟨g, 0, rfl, hlt, fun i hi => ?_⟩, fun e => (by cases e), fun q e => (by cases e; exact ⟨hg, hlt⟩)⟩
    have key := own_cell nb_len h rfl i hi
    exact ⟨key 0 _ rfl, key 1 _ rfl, key 2 _ rfl⟩
theorem rdN_kept {W W' : World} {a : Option Addr} {l : List Nb} {row : Option Nat} (h : RdN W a l) (hg : W.grownBy W' row) (hne : ∀ q, a = some q → row ≠ some q.block) : RdN W' a l := by
  rcases h with h | ⟨p, off, rfl, hp, hc⟩
  · exact .inl h
  · have hn := hne _ rfl
    have key : ∀ o v, W.cell? ⟨p, o, none⟩ = some v → W'.cell? ⟨p, o, none⟩ = some v := fun o v hv => (World.cell?_of_block (w := W) (a := ⟨p, o, none⟩) (hg.block p hp (fun e => hn e.symm))).trans hv
    refine .inr ⟨p, off, rfl, Nat.lt_of_lt_of_le hp hg.size, fun i hi => ?_⟩
    obtain ⟨h0, h1, h2⟩ := hc i hi
    exact ⟨key _ _ h0, key _ _ h1, key _ _ h2⟩
theorem rdN_setc {W : World} {a : Option Addr} {l : List Nb} (h : RdN W a l) (p : Addr) (v : Value) (hne : ∀ q, a = some q → p.block ≠ q.block) : RdN (W.setCell p v) a l := by
  refine rdN_kept h (W' := W.setCell p v) (row := some p.block) ?_ (fun q e h => hne q e (by injection h))
  have hb := (Below.refl 0 W).setCell (p := p) (Nat.zero_le _) v
  exact ⟨hb.os, hb.tape, hb.output, hb.size, fun b _ hn => Below.heap_setCell _ _ _ _ (fun e => hn (by rw [e]))⟩
theorem wpList_copyN {w : World} {ops : Array Oper} {rest : List Oper} {o : Oper} {a : Act} {Q : Exit → Act → World → Prop} (hgd : o.guard = none) (s x : Operand) (ho : o.op = .call { callee := .builtin .append, args := #[s, x], argTypes := #[39, 39] })
    (hs : a.eval s = .slice none 0 0) (sa : Option Addr) (cap : Nat) (l : List Nb) (hx : a.eval x = .slice sa l.length cap) (hr : RdN w sa l) (hn : sa = none → cap = 0) (hl : l.length ≤ 1000000)
    (h : ∀ a' cap' w', RdN w' a' l → (a' = none → cap' = 0) → (∀ q, a' = some q → w.heap.size ≤ q.block ∧ q.block < w'.heap.size) → Below w.heap.size w w' → wpList Tryz.prog ops Q rest (a.put o.dst (.slice a' l.length cap')) w') :
    wpList Tryz.prog ops Q (o :: rest) a w := by
  obtain ⟨i0, hi0, hz0, hz1, hz2⟩ := info_parts Tryz.infoNb
  have key : ∀ (ad : Addr) (hsrc : ∀ j u, (flat Nb.cells l)[j]? = some u → w.cell? (ad.add j) = some u), a.eval x = .slice (some ad) l.length cap → wpList Tryz.prog ops Q (o :: rest) a w := fun ad hsrc hx' => by
    refine wpList_append_own_at w hgd s x 39 ho w.heap.size 56 i0 _ 3 24 Tryz.underlying39 hi0 hz0 hz1 hz2 rfl (by decide) _ 0 [] hs (World.ownsRow_nil _ _ _ _) ad l.length cap (flat Nb.cells l) hx' (flat_length nb_len l) hsrc (flat_one nb_one l) (by unfold maxLen; omega) (by omega) (Nat.le_refl _) ?_
    intro v' w' h1 h2 _ _
    rw [List.nil_append, Nat.zero_add] at h1
    rcases own_form h1 with ⟨rfl, hn0⟩ | ⟨g, cap', rfl, _⟩
    · obtain ⟨e1, e2, e3, e4⟩ := rdN_own h1
      have := h none 0 w' e2 e3 e4 ((Below.refl _ _).grown h2 (Nat.le_refl _) (fun k e => by cases e))
      rw [← e1] at this
      exact this
    · obtain ⟨e1, e2, e3, e4⟩ := rdN_own h1
      exact h _ _ w' e2 e3 e4 ((Below.refl _ _).grown h2 (Nat.le_refl _) (fun k e => by cases e))
  rcases hr with rfl | ⟨p, off, rfl, hp, hc⟩
  · cases sa with
    | none =>
      have hx2 : a.eval x = .slice none 0 0 := by rw [hx, hn rfl]; rfl
      refine wpList_append_own_none hgd s x 39 ho w.heap.size 56 i0 3 Tryz.underlying39 hi0 _ 0 [] hs (World.ownsRow_nil _ _ _ _) hx2 ?_
      exact h none 0 w (.inl rfl) (fun _ => rfl) (fun q e => by cases e) (Below.refl _ _)
    | some q => exact key q (fun j u hu => by simp [flat] at hu) hx
  · exact key _ (nb_src hc) hx
end Go.Proofs.YtlipcmonlhdgfaaGreat
/- What came in, opened: structs field by field; numbers, and lists of them. -/
namespace Go.Proofs.YtlipcmonlhdgfaaGreat
open Go.ChangeShapes Go.WideShapes Go.ChangeAt Go.RowKit

variable {H : Type} {enc : TypeId × Value → H} {W : World} {base : Nat}
theorem open_field {t : TypeId} {fs : Array Field} (ht : Tryz.prog.underlying t = some (.struct fs)) {fuel : Nat} {cs : List Value} {x : DataW H × List MemPlace} (h : DataW.trod enc Tryz.prog W base (fun _ => true) true fuel t cs = some x) (hw : ∀ n ∈ x.1.weights Tryz.prog t, n ≤ reachBytes) (i : Nat) (f : Field) (hf : fs[i]? = some f) :
    ∃ (m : Nat) (y : DataW H × List MemPlace), DataW.trod enc Tryz.prog W base (fun _ => true) true m f.type ((cs.drop f.offset).take (Tryz.prog.cellsOf f.type)) = some y ∧ ∀ n ∈ y.1.weights Tryz.prog f.type, n ≤ reachBytes := by
  obtain ⟨xs, m, _, hx, _, hl, hxs⟩ := DataW.trod_struct ht h
  have hi : i < xs.length := by rw [hl]; exact (Array.getElem?_eq_some_iff.1 hf).1
  have h1 := hxs i f hf
  rw [List.getElem?_eq_getElem hi] at h1
  refine ⟨m, xs[i], h1, fun n hn => hw n ?_⟩
  rw [hx, DataW.weights, ht]
  refine DataW.weights_mem_each (j := i) (t := f.type) (d := xs[i].1) ?_ ?_ n hn
  · rw [List.getElem?_map, Array.getElem?_toList, hf]; rfl
  · rw [List.getElem?_map, List.getElem?_eq_getElem hi]; rfl
theorem field_at {t : TypeId} {fs : Array Field} (ht : Tryz.prog.underlying t = some (.struct fs)) {fuel : Nat} {cs : List Value} {x : DataW H × List MemPlace} (h : DataW.trod enc Tryz.prog W base (fun _ => true) true fuel t cs = some x) (hw : ∀ n ∈ x.1.weights Tryz.prog t, n ≤ reachBytes) (i : Nat) {f : Field} (hf : fs[i]? = some f) {ft : TypeId} {off c : Nat} (e1 : f.type = ft) (e2 : f.offset = off) (e3 : Tryz.prog.cellsOf ft = c) :
    ∃ (m : Nat) (y : DataW H × List MemPlace), DataW.trod enc Tryz.prog W base (fun _ => true) true m ft ((cs.drop off).take c) = some y ∧ ∀ n ∈ y.1.weights Tryz.prog ft, n ≤ reachBytes := by
  subst e1 e2 e3
  exact open_field ht h hw i f hf
theorem len_struct {t : TypeId} {fs : Array Field} (ht : Tryz.prog.underlying t = some (.struct fs)) {fuel : Nat} {cs : List Value} {x : DataW H × List MemPlace} (h : DataW.trod enc Tryz.prog W base (fun _ => true) true fuel t cs = some x) : cs.length = Tryz.prog.cellsOf t := by
  obtain ⟨xs, m, _, hx, hl, _, hxs⟩ := DataW.trod_struct ht h
  exact hl
theorem cellsNb : Tryz.prog.cellsOf 56 = 3 := by kernel_rfl
theorem cellsIn : Tryz.prog.cellsOf 3 = 1 := by kernel_rfl
theorem cellsUl : Tryz.prog.cellsOf 54 = 1 := by kernel_rfl
theorem cellsSt : Tryz.prog.cellsOf 9 = 1 := by kernel_rfl
theorem cellsSl2 : Tryz.prog.cellsOf 39 = 1 := by kernel_rfl
theorem cellsSl5 : Tryz.prog.cellsOf 22 = 1 := by kernel_rfl
theorem three {α : Type} {l : List α} (h : l.length = 3) : ∃ a b c, l = [a, b, c] := by
  rcases l with _ | ⟨a, _ | ⟨b, _ | ⟨c, _ | ⟨d, r⟩⟩⟩⟩
  · cases h
  · cases h
  · cases h
  · exact ⟨a, b, c, rfl⟩
  · simp at h
theorem four {α : Type} {l : List α} (h : l.length = 4) : ∃ a b c d, l = [a, b, c, d] := by
  rcases l with _ | ⟨a, l⟩
  · cases h
  · obtain ⟨b, c, d, rfl⟩ := three (l := l) (by simpa using h)
    exact ⟨a, b, c, d, rfl⟩
theorem seven {α : Type} {l : List α} (h : l.length = 7) : ∃ a b c d e f g, l = [a, b, c, d, e, f, g] := by
  rcases l with _ | ⟨a, _ | ⟨b, _ | ⟨c, l⟩⟩⟩
  · cases h
  · cases h
  · cases h
  · obtain ⟨d, e, f, g, rfl⟩ := four (l := l) (by simpa using h)
    exact ⟨a, b, c, d, e, f, g, rfl⟩
set_option maxRecDepth 100000 in
theorem open_nb {fuel : Nat} {cs : List Value} {x : DataW H × List MemPlace} (h : DataW.trod enc Tryz.prog W base (fun _ => true) true fuel 56 cs = some x) (hw : ∀ n ∈ x.1.weights Tryz.prog 56, n ≤ reachBytes) : ∃ y : Nb, cs = y.cells ∧ NbR y := by
  have hl := len_struct Tryz.underlying56 h
  rw [cellsNb] at hl
  obtain ⟨a, b, c, rfl⟩ := three hl
  obtain ⟨_, y0, h0, _⟩ := field_at Tryz.underlying56 h hw 0 rfl (ft := 3) (off := 0) rfl rfl cellsIn
  obtain ⟨_, y1, h1, _⟩ := field_at Tryz.underlying56 h hw 1 rfl (ft := 54) (off := 1) rfl rfl cellsUl
  obtain ⟨_, y2, h2, _⟩ := field_at Tryz.underlying56 h hw 2 rfl (ft := 54) (off := 2) rfl rfl cellsUl
  obtain ⟨p, q0, _, w0⟩ := DataW.trod_int Tryz.underlying3 h0
  obtain ⟨q, q1, _, w1⟩ := DataW.trod_int Tryz.underlying54 h1
  obtain ⟨r, q2, _, w2⟩ := DataW.trod_int Tryz.underlying54 h2
  simp at q0 q1 q2
  subst q0 q1 q2
  exact ⟨⟨p, q, r⟩, rfl, ⟨intE w0, wordE w1, wordE w2⟩⟩
theorem bytesNb : Tryz.prog.bytesOf 56 = 24 := by kernel_rfl
theorem bytesIn : Tryz.prog.bytesOf 3 = 8 := by kernel_rfl
theorem reach_le {n k : Nat} (h : n * k ≤ reachBytes) (hk : 0 < k) : n ≤ 140737488355328 := by
  have h1 : n ≤ n * k := Nat.le_mul_of_pos_right n hk
  unfold reachBytes at h
  omega
theorem rdN_of {a : Option Addr} {cap : Nat} {l : List Nb} (h : LiE W 3 Nb.cells a cap l) : RdN W a l := by
  rcases h.rd with h | ⟨p, off, e, hp, hc⟩
  · exact .inl h
  · exact .inr ⟨p, off, e, hp, fun i hi => ⟨hc i hi 0 _ rfl, hc i hi 1 _ rfl, hc i hi 2 _ rfl⟩⟩
theorem open_nbs {fuel : Nat} {v : Value} {x : DataW H × List MemPlace} (h : DataW.trod enc Tryz.prog W base (fun _ => true) true fuel 39 [v] = some x) (hw : ∀ n ∈ x.1.weights Tryz.prog 39, n ≤ reachBytes) : ∃ (a : Option Addr) (cap : Nat) (l : List Nb), v = .slice a l.length cap ∧ RdN W a l ∧ (a = none → cap = 0) ∧ l.length ≤ 140737488355328 ∧ ∀ y ∈ l, NbR y := by
  obtain ⟨a, cap, l, h1, h2, h3, h4⟩ := open_list Tryz.underlying39 cellsNb (by decide) Nb.cells NbR (fun h hw => open_nb h hw) h hw
  rw [bytesNb] at h3
  exact ⟨a, cap, l, h1, rdN_of h2, h2.nn, reach_le h3 (by decide), h4⟩
end Go.Proofs.YtlipcmonlhdgfaaGreat
/- Of every package, naming no number: 'copy' of elements of many cells, structs stored into a row, a row that is known whole. (Cut out of GnC in round 17.) -/
namespace Go.Proofs.YtlipcmonlhdgfaaGreat
open Go.RowKit

theorem run_copyC {P : Program} (w : World) (dT sT ty elem : TypeId) (c g o dLen dCap : Nat) (a : Addr) (sLen sCap m : Nat) (cur : Array Value) (t : TypeId) (cs : List Value)
    (hu : P.underlying dT = some (.slice elem)) (hs : (P.info? elem).map (·.size) = some c)
    (hg : w.heap[g]? = some (.cells cur t (0, 0))) (hm : Nat.min sLen dLen = m) (hn : cs.length = m * c)
    (hsrc : ∀ j v, cs[j]? = some v → w.cell? (a.add j) = some v) (hfit : o + cs.length ≤ cur.size) (h1 : ∀ v ∈ cs, v.oneCell' = true) :
    (Builtin.copy_ #[dT, sT] ty #[.slice (some ⟨g, o, none⟩) dLen dCap, .slice (some a) sLen sCap]).run P w =
      .ok (goInt m) (w.setRow g (cur.toList.take o ++ cs ++ cur.toList.drop (o + cs.length)).toArray) := by
  have hl := run_loadCells_list (P := P) w a cs hsrc
  have hst := run_storeCells_at P g o t cs 0 cur w hg (by simpa using hfit) h1
  cases hq : P.info? elem with
  | none => simp [hq] at hs
  | some i =>
    have hi : i.size = c := by simpa [hq] using hs
    simp [Builtin.copy_, run_underlying hu, Builtin.lenOf, Builtin.firstCells, sizeOf, typeInfo, hq, hi, hm, ← hn, hl, hst]
theorem wpList_copyC {P : Program} {w : World} {ops : Array Oper} {rest : List Oper} {o : Oper} {a : Act} {Q : Exit → Act → World → Prop} (hgd : o.guard = none) (d s : Operand) (dT sT : TypeId)
    (ho : o.op = .call { callee := .builtin .copy, args := #[d, s], argTypes := #[dT, sT] }) (elem : TypeId) (c : Nat) (hu : P.underlying dT = some (.slice elem)) (hsz : (P.info? elem).map (·.size) = some c)
    (g off dLen dCap : Nat) (ad : Addr) (sLen sCap m : Nat) (hd : a.eval d = .slice (some ⟨g, off, none⟩) dLen dCap) (hs : a.eval s = .slice (some ad) sLen sCap)
    (cur : List Value) (t : TypeId) (hg : w.heap[g]? = some (.cells cur.toArray t (0, 0))) (cs : List Value) (hm : Nat.min sLen dLen = m) (hn : cs.length = m * c)
    (hsrc : ∀ j v, cs[j]? = some v → w.cell? (ad.add j) = some v) (hfit : off + cs.length ≤ cur.length) (h1 : ∀ v ∈ cs, v.oneCell' = true)
    (B : Nat) (w0 : World) (hb : Below B w0 w) (hBg : B ≤ g)
    (h : ∀ w', Hid (w'.heap[g]? = some (.cells (splice cur off cs).toArray t (0, 0))) → Below B w0 w' → wpList P ops Q rest (a.put o.dst (goInt m)) w') : wpList P ops Q (o :: rest) a w := by
  refine wpList_plain hgd fun K hK => ?_
  have hrun := run_copyC (P := P) w dT sT o.type elem c g off dLen dCap ad sLen sCap m cur.toArray t cs hu hsz hg hm hn hsrc (by simpa using hfit) h1
  unfold Oper.wp
  simp [execOp, ho, resolve, invoke, builtin, hd, hs, hrun, Result.andThen]
  exact hK _ _ (h _ (show _ = _ by simpa [splice] using setRow_heap w g _ _ t _ hg) (below_setRow hb hBg _))
theorem step_copyC {P : Program} {ops : Array Oper} {o : Oper} {a : Act} {w : World} {K : Act → World → Prop} {Q : Exit → Act → World → Prop} {E : Prop} (hgd : o.guard = none) (d s : Operand) (dT sT : TypeId)
    (ho : o.op = .call { callee := .builtin .copy, args := #[d, s], argTypes := #[dT, sT] }) (elem : TypeId) (c : Nat) (hu : P.underlying dT = some (.slice elem)) (hsz : (P.info? elem).map (·.size) = some c)
    (g off dLen dCap : Nat) (ad : Addr) (sLen sCap m : Nat) (hd : a.eval d = .slice (some ⟨g, off, none⟩) dLen dCap) (hs : a.eval s = .slice (some ad) sLen sCap)
    (cur : List Value) (t : TypeId) (hg : w.heap[g]? = some (.cells cur.toArray t (0, 0))) (cs : List Value) (hm : Nat.min sLen dLen = m) (hn : cs.length = m * c)
    (hsrc : ∀ j v, cs[j]? = some v → w.cell? (ad.add j) = some v) (hfit : off + cs.length ≤ cur.length) (h1 : ∀ v ∈ cs, v.oneCell' = true)
    (B : Nat) (w0 : World) (hb : Below B w0 w) (hBg : B ≤ g)
    (h : ∀ w', Hid (w'.heap[g]? = some (.cells (splice cur off cs).toArray t (0, 0))) → Below B w0 w' → K (a.put o.dst (goInt m)) w') :
    if Region.wanted o (yielded ops a.tmps) = true then Oper.wp P o a w K Q else E := by
  have hw : Region.wanted o (yielded ops a.tmps) = true := by simp [Region.wanted, hgd]
  rw [if_pos hw]
  have hrun := run_copyC (P := P) w dT sT o.type elem c g off dLen dCap ad sLen sCap m cur.toArray t cs hu hsz hg hm hn hsrc (by simpa using hfit) h1
  unfold Oper.wp
  simp [execOp, ho, resolve, invoke, builtin, hd, hs, hrun, Result.andThen]
  exact h _ (show _ = _ by simpa [splice] using setRow_heap w g _ _ t _ hg) (below_setRow hb hBg _)
/- A row that was made, known whole. -/
theorem made_rowE {W W' : World} {B c n : Nat} {e : TypeId} {xs : List Value} (h : W'.ownsRow B e c (.slice (some ⟨W.heap.size, 0, none⟩) n n) n xs) : W'.heap[W.heap.size]? = some (.cells xs.toArray e (0, 0)) := by
  rcases h.2 with ⟨h1, _⟩ | ⟨g, cap, cur, h1, h2, h3, h4, _, h5, h6⟩
  · cases h1
  · injection h1 with e1 e2 e3
    injection e1 with e1
    injection e1 with e1
    subst e1
    subst e3
    rw [h3]
    have : xs.toArray = cur := by
      rw [← h6, List.take_of_length_le (by simp [h5])]
    rw [this]
theorem below_made {W W' : World} (h : W.grownBy W' none) : Below W.heap.size W W' := (Below.refl _ _).grown h (Nat.le_refl _) (fun k e => by cases e)
theorem splice_all {α : Type} {L cs : List α} (h : L.length = cs.length) : splice L 0 cs = cs := by
  simp [splice, List.drop_eq_nil_of_le (Nat.le_of_eq h)]
/- A list of one's own: nil, or a block that is known whole. -/
def OwnR (W : World) (B : Nat) (a : Option Addr) (t : TypeId) (cs : List Value) : Prop := (cs = [] ∧ a = none) ∨ ∃ g, a = some ⟨g, 0, none⟩ ∧ B ≤ g ∧ W.heap[g]? = some (.cells cs.toArray t (0, 0))
theorem OwnR.below {W W' : World} {B : Nat} {a : Option Addr} {t : TypeId} {cs : List Value} (h : OwnR W B a t cs) (hb : Below W.heap.size W W') : OwnR W' B a t cs := by
  rcases h with h | ⟨g, h1, h2, h3⟩
  · exact .inl h
  · exact .inr ⟨g, h1, h2, heap_below hb h3⟩
theorem blk_cell {W : World} {g : Nat} {t : TypeId} {cs : List Value} (h : W.heap[g]? = some (.cells cs.toArray t (0, 0))) (j : Nat) : W.cell? ⟨g, j, none⟩ = cs[j]? := by
  rw [cellA h]; simp
def intC (n : Int) : List Value := [.int .i64 n]
theorem int_len (n : Int) : (intC n).length = 1 := rfl
theorem int_one (n : Int) : ∀ u ∈ intC n, u.oneCell' = true := fun u hu => by simp [intC] at hu; subst hu; rfl
theorem rdZ_blk {W : World} {g : Nat} {t : TypeId} {l : List Int} (h : W.heap[g]? = some (.cells (flat intC l).toArray t (0, 0))) : RdZ W (some ⟨g, 0, none⟩) l := by
  refine .inr ⟨g, 0, rfl, lt_heap h, fun i hi => ?_⟩
  have := flat_get int_len l i 0 hi (by decide)
  rw [blk_cell h, Nat.zero_add]
  rw [Nat.mul_one, Nat.add_zero] at this
  exact this
theorem rdZ_ownR {W : World} {B : Nat} {a : Option Addr} {t : TypeId} {l : List Int} (h : OwnR W B a t (flat intC l)) : RdZ W a l := by
  rcases h with ⟨h1, _⟩ | ⟨g, rfl, _, h3⟩
  · left
    have := flat_length int_len l
    rw [h1] at this
    exact List.length_eq_zero_iff.1 (by simp at this; omega)
  · exact rdZ_blk h3
theorem int_src {W : World} {p off : Nat} {l : List Int} (h : ∀ i (h : i < l.length), W.cell? ⟨p, off + i, none⟩ = some (.int .i64 l[i])) : ∀ j u, (flat intC l)[j]? = some u → W.cell? ((⟨p, off, none⟩ : Addr).add j) = some u := by
  refine flat_src (by decide) int_len (fun i hi j u hu => ?_)
  have hj : j < 1 := (List.getElem?_eq_some_iff.1 hu).1
  obtain rfl : j = 0 := by omega
  injection hu with hu
  subst hu
  rw [Nat.mul_one]
  exact h i hi
/- A struct is stored into a row of many. -/
theorem wpList_storeW {P : Program} {w : World} {ops : Array Oper} {rest : List Oper} {o : Oper} {a : Act} {Q : Exit → Act → World → Prop} (hg : o.guard = none) (t : TypeId) (x y : Operand) (ho : o.op = .store t x y) (b off : Nat) (cs cur : List Value) (e : TypeId)
    (hx : a.eval x = .pointer (some ⟨b, off, none⟩)) (hy : a.eval y = .agg cs.toArray) (hs : ∀ w, (sizeOf t).run P w = .ok cs.length w) (hb : w.heap[b]? = some (.cells cur.toArray e (0, 0))) (hfit : off + cs.length ≤ cur.length) (one : ∀ v ∈ cs, v.oneCell' = true)
    (hK : ∀ w', Hid (w'.heap[b]? = some (.cells (splice cur off cs).toArray e (0, 0))) → Fr (· = b) w w' → wpList P ops Q rest (a.put o.dst undef) w') : wpList P ops Q (o :: rest) a w := by
  refine wpList_plain hg fun K hK' => ?_
  have h1 := run_storeCells_at P b off e cs 0 cur.toArray w hb (by simpa using hfit) one
  have h2 : (Instr.storeAt t (.pointer (some ⟨b, off, none⟩)) (.agg cs.toArray)).run P w = .ok () (w.setRow b (cur.toArray.toList.take (off + 0) ++ cs ++ cur.toArray.toList.drop (off + 0 + cs.length)).toArray) := by
    simp [Instr.storeAt, Instr.sureAddr, storeVar, hs, Value.cells, h1, Result.andThen]
  have h3 : (execOp a.eval o).run P w = .ok .skip (w.setRow b (cur.toArray.toList.take (off + 0) ++ cs ++ cur.toArray.toList.drop (off + 0 + cs.length)).toArray) := by
    simp [execOp, ho, hx, hy, h2, Result.andThen]
  unfold Oper.wp
  rw [h3, Oper.upon_skip]
  refine hK' _ _ (hK _ (show _ = _ by simpa [splice] using setRow_heap w b _ _ e _ hb) ?_)
  exact ⟨rfl, rfl, rfl, by simp [World.setRow], fun k _ hn => setRow_other w b k _ (fun e => hn (by omega))⟩
theorem splice_set {α : Type} {f : α → List Value} {c : Nat} (hf : ∀ x, (f x).length = c) (l : List α) (i : Nat) (y : α) (h : i < l.length) : splice (flat f l) (i * c) (f y) = flat f (l.set i y) := by
  have h1 : ∀ (l : List α) (i : Nat), i ≤ l.length → (flat f l).take (i * c) = flat f (l.take i) := fun l i hi => by
    have e : flat f l = flat f (l.take i) ++ flat f (l.drop i) := by rw [← flat_append, List.take_append_drop]
    have hl : (flat f (l.take i)).length = i * c := by rw [flat_length hf, List.length_take, Nat.min_eq_left hi]
    rw [e, ← hl, List.take_left]
  have h2 : (flat f l).drop (i * c + (f y).length) = flat f (l.drop (i + 1)) := by
    have e : flat f l = flat f (l.take (i + 1)) ++ flat f (l.drop (i + 1)) := by rw [← flat_append, List.take_append_drop]
    have hl : (flat f (l.take (i + 1))).length = i * c + (f y).length := by rw [flat_length hf, List.length_take, Nat.min_eq_left (by omega), hf, Nat.succ_mul]
    rw [e, ← hl, List.drop_left]
  unfold splice
  rw [h1 l i (by omega), h2, List.set_eq_take_append_cons_drop, if_pos h, flat_append]
  congr 1
theorem below3 (w : World) (o o2 o3 : Obj) : Below w.heap.size w (((w.alloc o).alloc o2).alloc o3) := bstep (below2 w o o2) (below1 _ o3)
theorem heap_trd (w : World) (o o2 : Obj) (cs : Array Value) (t : TypeId) : (((w.alloc o).alloc o2).alloc (.cells cs t)).heap[w.heap.size + 1 + 1]? = some (.cells cs t (0, 0)) := by
  have := heap_snd (w.alloc o) o2 cs t
  rw [World.size_alloc] at this
  exact this
theorem OwnR.mono {W : World} {B B' : Nat} {a : Option Addr} {t : TypeId} {cs : List Value} (h : OwnR W B a t cs) (hb : B' ≤ B) : OwnR W B' a t cs := by
  rcases h with h | ⟨g, h1, h2, h3⟩
  · exact .inl h
  · exact .inr ⟨g, h1, Nat.le_trans hb h2, h3⟩
theorem OwnR.set {W : World} {B : Nat} {a : Option Addr} {t : TypeId} {cs : List Value} (h : OwnR W B a t cs) (p : Addr) (v : Value) (hp : p.block < B) : OwnR (W.setCell p v) B a t cs := by
  rcases h with h | ⟨g, h1, h2, h3⟩
  · exact .inl h
  · exact .inr ⟨g, h1, h2, (Below.heap_setCell _ _ _ _ (fun e => by omega)).trans h3⟩
theorem OwnR.fr {W W' : World} {B : Nat} {a : Option Addr} {t : TypeId} {cs : List Value} (h : OwnR W B a t cs) {b : Nat} (hp : b < B) (hf : Fr (· = b) W W') : OwnR W' B a t cs := by
  rcases h with h | ⟨g, h1, h2, h3⟩
  · exact .inl h
  · exact .inr ⟨g, h1, h2, (hf.block g (lt_heap h3) (fun e => by omega)).trans h3⟩
/- Results of which some lie in blocks. -/
theorem res_pair {P : Program} {f : Func} {tmps : Array Value} {w : World} {s u : Nat} {t : TypeId} {b : Nat} {cs : List Value} {e : TypeId} {v : Value} (hf : f.results = #[.cell s t, .tmp u]) (hx : tmps.getD s undef = .pointer (some ⟨b, 0, none⟩)) (hu : tmps.getD u undef = v) (ha : ∀ w, (isAgg t).run P w = .ok true w) (hs : ∀ w, (sizeOf t).run P w = .ok cs.length w) (hb : w.heap[b]? = some (.cells cs.toArray e (0, 0))) : (results f tmps).run P w = .ok (.tuple #[.agg cs.toArray, v]) w := by
  unfold results
  rw [hf]
  have h := run_loadA (P := P) ha hs hb
  have hx' : tmps[s]?.getD undef = .pointer (some ⟨b, 0, none⟩) := by rw [← hx]; simp
  have hu' : tmps[u]?.getD undef = v := by rw [← hu]; simp
  simp [Array.mapM_eq_mapM_toList, hx', hu', asAddr, h]
theorem res_triple {P : Program} {f : Func} {tmps : Array Value} {w : World} {s s2 u : Nat} {t t2 : TypeId} {b b2 : Nat} {cs cs2 : List Value} {e e2 : TypeId} {v : Value} (hf : f.results = #[.cell s t, .cell s2 t2, .tmp u]) (hx : tmps.getD s undef = .pointer (some ⟨b, 0, none⟩)) (hx2 : tmps.getD s2 undef = .pointer (some ⟨b2, 0, none⟩)) (hu : tmps.getD u undef = v) (ha : ∀ w, (isAgg t).run P w = .ok true w) (hs : ∀ w, (sizeOf t).run P w = .ok cs.length w) (hb : w.heap[b]? = some (.cells cs.toArray e (0, 0))) (ha2 : ∀ w, (isAgg t2).run P w = .ok true w) (hs2 : ∀ w, (sizeOf t2).run P w = .ok cs2.length w) (hb2 : w.heap[b2]? = some (.cells cs2.toArray e2 (0, 0))) : (results f tmps).run P w = .ok (.tuple #[.agg cs.toArray, .agg cs2.toArray, v]) w := by
  unfold results
  rw [hf]
  have h := run_loadA (P := P) ha hs hb
  have h2 := run_loadA (P := P) ha2 hs2 hb2
  have hx' : tmps[s]?.getD undef = .pointer (some ⟨b, 0, none⟩) := by rw [← hx]; simp
  have hx2' : tmps[s2]?.getD undef = .pointer (some ⟨b2, 0, none⟩) := by rw [← hx2]; simp
  have hu' : tmps[u]?.getD undef = v := by rw [← hu]; simp
  simp [Array.mapM_eq_mapM_toList, hx', hx2', hu', asAddr, h, h2]
end Go.Proofs.YtlipcmonlhdgfaaGreat
/- Rows of one's own, with an element behind them (cut out of TwN; no program). -/
namespace Go.Proofs.YtlipcmonlhdgfaaGreat
open Go.RowKit

theorem cells_newD (w : World) (cs : List Value) (t : TypeId) : ∀ j u, cs[j]? = some u → (w.alloc (.cells cs.toArray t)).cell? ((⟨w.heap.size, 0, none⟩ : Addr).add j) = some u := by
  intro j u hj
  rw [add8, Nat.zero_add]
  simp [hj]
theorem own_allocD {W : World} {B c n : Nat} {e : TypeId} {v : Value} {xs : List Value} (h : W.ownsRow B e c v n xs) (o : Obj) : (W.alloc o).ownsRow B e c v n xs := h.alloc o
theorem below_ownD {B c n : Nat} {e : TypeId} {w a b : World} {v : Value} {xs : List Value} (h : Below B w a) (ho : a.ownsRow B e c v n xs) (g : a.grownBy b v.ownBlock) (hB : B ≤ a.heap.size) : Below B w b := h.grown g hB (fun k e => (World.ownsRow.lt ho k e).1)
theorem own_someD {W : World} {B c n : Nat} {e : TypeId} {v : Value} {xs : List Value} (h : W.ownsRow B e c v n xs) (hx : 0 < n) : ∃ g cap, v = .slice (some ⟨g, 0, none⟩) n cap ∧ n ≤ cap ∧ B ≤ g ∧ g < W.heap.size ∧ cap ≤ maxLen := by
  rcases h.2 with ⟨_, hn⟩ | ⟨g, cap, cur, hv, hg, hcur, h1, h2, _⟩
  · omega
  · exact ⟨g, cap, hv, h1, hg, (Array.getElem?_eq_some_iff.1 hcur).1, h2⟩
theorem own_cut {W : World} {B c n m g cap : Nat} {e : TypeId} {xs ys : List Value} (h : W.ownsRow B e c (.slice (some ⟨g, 0, none⟩) (n + m) cap) (n + m) (xs ++ ys)) (hx : xs.length = n * c) : W.ownsRow B e c (.slice (some ⟨g, 0, none⟩) n cap) n xs := by
  refine ⟨hx, .inr ?_⟩
  rcases h.2 with ⟨h1, _⟩ | ⟨g', cap', cur, h1, h2, h3, h4, h5, h6, h7⟩
  · cases h1
  · injection h1 with e1 e2 e3
    injection e1 with e1
    injection e1 with e1
    subst e1 e3
    refine ⟨g, cap, cur, rfl, h2, h3, by omega, h5, h6, ?_⟩
    have h8 := congrArg (List.take (n * c)) h7
    rw [List.take_take, Nat.min_eq_left (Nat.mul_le_mul_right _ (by omega)), ← hx, List.take_left] at h8
    rw [← hx]; exact h8
end Go.Proofs.YtlipcmonlhdgfaaGreat
