/- Pieces of the proof: GnE. -/
import Derived.Test.YtclhmggnkhnnlaaGreatDoorM8
import Derived.Laws.CopyOwn
import Derived.OwnWalk
/- Of every package, naming no number: 'copy' of elements of many cells, structs stored into a row, a row that is known whole. (Cut out of GnC in round 17.) -/
namespace Go.Proofs.YtclhmggnkhnnlaaGreatDoor
open Go.RowKit

theorem run_copyC {P : Program} (w : World) (dT sT ty elem : TypeId) (c g o dLen dCap : Nat) (a : Addr) (sLen sCap m : Nat) (cur : Array Value) (t : TypeId) (cs : List Value)
    (hu : P.underlying dT = some (.slice elem)) (hs : (P.info? elem).map (·.size) = some c)
    (hg : w.heap[g]? = some (.cells cur t (0, 0))) (hm : Nat.min sLen dLen = m) (hn : cs.length = m * c)
    (hsrc : ∀ j v, cs[j]? = some v → w.cell? (a.add j) = some v) (hfit : o + cs.length ≤ cur.size) (h1 : ∀ v ∈ cs, v.oneCell' = true) :
    (Builtin.copy_ #[dT, sT] ty #[.slice (some ⟨g, o, none⟩) dLen dCap, .slice (some a) sLen sCap]).run P w =
      .ok (goInt m) (w.setRow g (cur.toList.take o ++ cs ++ cur.toList.drop (o + cs.length)).toArray) := by
  have hl := run_loadCells_list (P := P) w a cs hsrc
  have hst := run_storeCells_at P g o t cs 0 cur w hg (by simpa using hfit) h1
  cases hq : P.info? elem with
  | none => simp [hq] at hs
  | some i =>
    have hi : i.size = c := by simpa [hq] using hs
    simp [Builtin.copy_, run_underlying hu, Builtin.lenOf, Builtin.firstCells, sizeOf, typeInfo, hq, hi, hm, ← hn, hl, hst]
theorem wpList_copyC {P : Program} {w : World} {ops : Array Oper} {rest : List Oper} {o : Oper} {a : Act} {Q : Exit → Act → World → Prop} (hgd : o.guard = none) (d s : Operand) (dT sT : TypeId)
    (ho : o.op = .call { callee := .builtin .copy, args := #[d, s], argTypes := #[dT, sT] }) (elem : TypeId) (c : Nat) (hu : P.underlying dT = some (.slice elem)) (hsz : (P.info? elem).map (·.size) = some c)
    (g off dLen dCap : Nat) (ad : Addr) (sLen sCap m : Nat) (hd : a.eval d = .slice (some ⟨g, off, none⟩) dLen dCap) (hs : a.eval s = .slice (some ad) sLen sCap)
    (cur : List Value) (t : TypeId) (hg : w.heap[g]? = some (.cells cur.toArray t (0, 0))) (cs : List Value) (hm : Nat.min sLen dLen = m) (hn : cs.length = m * c)
    (hsrc : ∀ j v, cs[j]? = some v → w.cell? (ad.add j) = some v) (hfit : off + cs.length ≤ cur.length) (h1 : ∀ v ∈ cs, v.oneCell' = true)
    (B : Nat) (w0 : World) (hb : Below B w0 w) (hBg : B ≤ g)
    (h : ∀ w', Hid (w'.heap[g]? = some (.cells (splice cur off cs).toArray t (0, 0))) → Below B w0 w' → wpList P ops Q rest (a.put o.dst (goInt m)) w') : wpList P ops Q (o :: rest) a w := by
  refine wpList_plain hgd fun K hK => ?_
  have hrun := run_copyC (P := P) w dT sT o.type elem c g off dLen dCap ad sLen sCap m cur.toArray t cs hu hsz hg hm hn hsrc (by simpa using hfit) h1
  unfold Oper.wp
  simp [execOp, ho, resolve, invoke, builtin, hd, hs, hrun, Result.andThen]
  exact hK _ _ (h _ (show _ = _ by simpa [splice] using setRow_heap w g _ _ t _ hg) (below_setRow hb hBg _))
theorem step_copyC {P : Program} {ops : Array Oper} {o : Oper} {a : Act} {w : World} {K : Act → World → Prop} {Q : Exit → Act → World → Prop} {E : Prop} (hgd : o.guard = none) (d s : Operand) (dT sT : TypeId)
    (ho : o.op = .call { callee := .builtin .copy, args := #[d, s], argTypes := #[dT, sT] }) (elem : TypeId) (c : Nat) (hu : P.underlying dT = some (.slice elem)) (hsz : (P.info? elem).map (·.size) = some c)
    (g off dLen dCap : Nat) (ad : Addr) (sLen sCap m : Nat) (hd : a.eval d = .slice (some ⟨g, off, none⟩) dLen dCap) (hs : a.eval s = .slice (some ad) sLen sCap)
    (cur : List Value) (t : TypeId) (hg : w.heap[g]? = some (.cells cur.toArray t (0, 0))) (cs : List Value) (hm : Nat.min sLen dLen = m) (hn : cs.length = m * c)
    (hsrc : ∀ j v, cs[j]? = some v → w.cell? (ad.add j) = some v) (hfit : off + cs.length ≤ cur.length) (h1 : ∀ v ∈ cs, v.oneCell' = true)
    (B : Nat) (w0 : World) (hb : Below B w0 w) (hBg : B ≤ g)
    (h : ∀ w', Hid (w'.heap[g]? = some (.cells (splice cur off cs).toArray t (0, 0))) → Below B w0 w' → K (a.put o.dst (goInt m)) w') :
    if Region.wanted o (yielded ops a.tmps) = true then Oper.wp P o a w K Q else E := by
  have hw : Region.wanted o (yielded ops a.tmps) = true := by simp [Region.wanted, hgd]
  rw [if_pos hw]
  have hrun := run_copyC (P := P) w dT sT o.type elem c g off dLen dCap ad sLen sCap m cur.toArray t cs hu hsz hg hm hn hsrc (by simpa using hfit) h1
  unfold Oper.wp
  simp [execOp, ho, resolve, invoke, builtin, hd, hs, hrun, Result.andThen]
  exact h _ (show _ = _ by simpa [splice] using setRow_heap w g _ _ t _ hg) (below_setRow hb hBg _)
/- A row that was made, known whole. -/
theorem made_row {W W' : World} {B c n : Nat} {e : TypeId} {xs : List Value} (h : W'.ownsRow B e c (.slice (some ⟨W.heap.size, 0, none⟩) n n) n xs) : W'.heap[W.heap.size]? = some (.cells xs.toArray e (0, 0)) := by
  rcases h.2 with ⟨h1, _⟩ | ⟨g, cap, cur, h1, h2, h3, h4, _, h5, h6⟩
  · cases h1
  · injection h1 with e1 e2 e3
    injection e1 with e1
    injection e1 with e1
    subst e1
    subst e3
    rw [h3]
    have : xs.toArray = cur := by
      rw [← h6, List.take_of_length_le (by simp [h5])]
    rw [this]
theorem below_made {W W' : World} (h : W.grownBy W' none) : Below W.heap.size W W' := (Below.refl _ _).grown h (Nat.le_refl _) (fun k e => by cases e)
theorem splice_all {α : Type} {L cs : List α} (h : L.length = cs.length) : splice L 0 cs = cs := by
  simp [splice, List.drop_eq_nil_of_le (Nat.le_of_eq h)]
/- A list of one's own: nil, or a block that is known whole. -/
def OwnR (W : World) (B : Nat) (a : Option Addr) (t : TypeId) (cs : List Value) : Prop := (cs = [] ∧ a = none) ∨ ∃ g, a = some ⟨g, 0, none⟩ ∧ B ≤ g ∧ W.heap[g]? = some (.cells cs.toArray t (0, 0))
theorem OwnR.below {W W' : World} {B : Nat} {a : Option Addr} {t : TypeId} {cs : List Value} (h : OwnR W B a t cs) (hb : Below W.heap.size W W') : OwnR W' B a t cs := by
  rcases h with h | ⟨g, h1, h2, h3⟩
  · exact .inl h
  · exact .inr ⟨g, h1, h2, heap_below hb h3⟩
theorem blk_cell {W : World} {g : Nat} {t : TypeId} {cs : List Value} (h : W.heap[g]? = some (.cells cs.toArray t (0, 0))) (j : Nat) : W.cell? ⟨g, j, none⟩ = cs[j]? := by
  rw [cellA h]; simp
def intC (n : Int) : List Value := [.int .i64 n]
theorem int_len (n : Int) : (intC n).length = 1 := rfl
theorem int_one (n : Int) : ∀ u ∈ intC n, u.oneCell' = true := fun u hu => by simp [intC] at hu; subst hu; rfl
theorem rdZ_blk {W : World} {g : Nat} {t : TypeId} {l : List Int} (h : W.heap[g]? = some (.cells (flat intC l).toArray t (0, 0))) : RdZ W (some ⟨g, 0, none⟩) l := by
  refine .inr ⟨g, 0, rfl, lt_heap h, fun i hi => ?_⟩
  have := flat_get int_len l i 0 hi (by decide)
  rw [blk_cell h, Nat.zero_add]
  rw [Nat.mul_one, Nat.add_zero] at this
  exact this
theorem rdZ_ownR {W : World} {B : Nat} {a : Option Addr} {t : TypeId} {l : List Int} (h : OwnR W B a t (flat intC l)) : RdZ W a l := by
  rcases h with ⟨h1, _⟩ | ⟨g, rfl, _, h3⟩
  · left
    have := flat_length int_len l
    rw [h1] at this
    exact List.length_eq_zero_iff.1 (by simp at this; omega)
  · exact rdZ_blk h3
theorem int_src {W : World} {p off : Nat} {l : List Int} (h : ∀ i (h : i < l.length), W.cell? ⟨p, off + i, none⟩ = some (.int .i64 l[i])) : ∀ j u, (flat intC l)[j]? = some u → W.cell? ((⟨p, off, none⟩ : Addr).add j) = some u := by
  refine flat_src (by decide) int_len (fun i hi j u hu => ?_)
  have hj : j < 1 := (List.getElem?_eq_some_iff.1 hu).1
  obtain rfl : j = 0 := by omega
  injection hu with hu
  subst hu
  rw [Nat.mul_one]
  exact h i hi
/- A struct is stored into a row of many. -/
theorem wpList_storeW {P : Program} {w : World} {ops : Array Oper} {rest : List Oper} {o : Oper} {a : Act} {Q : Exit → Act → World → Prop} (hg : o.guard = none) (t : TypeId) (x y : Operand) (ho : o.op = .store t x y) (b off : Nat) (cs cur : List Value) (e : TypeId)
    (hx : a.eval x = .pointer (some ⟨b, off, none⟩)) (hy : a.eval y = .agg cs.toArray) (hs : ∀ w, (sizeOf t).run P w = .ok cs.length w) (hb : w.heap[b]? = some (.cells cur.toArray e (0, 0))) (hfit : off + cs.length ≤ cur.length) (one : ∀ v ∈ cs, v.oneCell' = true)
    (hK : ∀ w', Hid (w'.heap[b]? = some (.cells (splice cur off cs).toArray e (0, 0))) → Fr (· = b) w w' → wpList P ops Q rest (a.put o.dst undef) w') : wpList P ops Q (o :: rest) a w := by
  refine wpList_plain hg fun K hK' => ?_
  have h1 := run_storeCells_at P b off e cs 0 cur.toArray w hb (by simpa using hfit) one
  have h2 : (Instr.storeAt t (.pointer (some ⟨b, off, none⟩)) (.agg cs.toArray)).run P w = .ok () (w.setRow b (cur.toArray.toList.take (off + 0) ++ cs ++ cur.toArray.toList.drop (off + 0 + cs.length)).toArray) := by
    simp [Instr.storeAt, Instr.sureAddr, storeVar, hs, Value.cells, h1, Result.andThen]
  have h3 : (execOp a.eval o).run P w = .ok .skip (w.setRow b (cur.toArray.toList.take (off + 0) ++ cs ++ cur.toArray.toList.drop (off + 0 + cs.length)).toArray) := by
    simp [execOp, ho, hx, hy, h2, Result.andThen]
  unfold Oper.wp
  rw [h3, Oper.upon_skip]
  refine hK' _ _ (hK _ (show _ = _ by simpa [splice] using setRow_heap w b _ _ e _ hb) ?_)
  exact ⟨rfl, rfl, rfl, by simp [World.setRow], fun k _ hn => setRow_other w b k _ (fun e => hn (by omega))⟩
theorem splice_set {α : Type} {f : α → List Value} {c : Nat} (hf : ∀ x, (f x).length = c) (l : List α) (i : Nat) (y : α) (h : i < l.length) : splice (flat f l) (i * c) (f y) = flat f (l.set i y) := by
  have h1 : ∀ (l : List α) (i : Nat), i ≤ l.length → (flat f l).take (i * c) = flat f (l.take i) := fun l i hi => by
    have e : flat f l = flat f (l.take i) ++ flat f (l.drop i) := by rw [← flat_append, List.take_append_drop]
    have hl : (flat f (l.take i)).length = i * c := by rw [flat_length hf, List.length_take, Nat.min_eq_left hi]
    rw [e, ← hl, List.take_left]
  have h2 : (flat f l).drop (i * c + (f y).length) = flat f (l.drop (i + 1)) := by
    have e : flat f l = flat f (l.take (i + 1)) ++ flat f (l.drop (i + 1)) := by rw [← flat_append, List.take_append_drop]
    have hl : (flat f (l.take (i + 1))).length = i * c + (f y).length := by rw [flat_length hf, List.length_take, Nat.min_eq_left (by omega), hf, Nat.succ_mul]
    rw [e, ← hl, List.drop_left]
  unfold splice
  rw [h1 l i (by omega), h2, List.set_eq_take_append_cons_drop, if_pos h, flat_append]
  congr 1
theorem below3 (w : World) (o o2 o3 : Obj) : Below w.heap.size w (((w.alloc o).alloc o2).alloc o3) := bstep (below2 w o o2) (below1 _ o3)
theorem heap_trd (w : World) (o o2 : Obj) (cs : Array Value) (t : TypeId) : (((w.alloc o).alloc o2).alloc (.cells cs t)).heap[w.heap.size + 1 + 1]? = some (.cells cs t (0, 0)) := by
  have := heap_snd (w.alloc o) o2 cs t
  rw [World.size_alloc] at this
  exact this
theorem OwnR.mono {W : World} {B B' : Nat} {a : Option Addr} {t : TypeId} {cs : List Value} (h : OwnR W B a t cs) (hb : B' ≤ B) : OwnR W B' a t cs := by
  rcases h with h | ⟨g, h1, h2, h3⟩
  · exact .inl h
  · exact .inr ⟨g, h1, Nat.le_trans hb h2, h3⟩
theorem OwnR.set {W : World} {B : Nat} {a : Option Addr} {t : TypeId} {cs : List Value} (h : OwnR W B a t cs) (p : Addr) (v : Value) (hp : p.block < B) : OwnR (W.setCell p v) B a t cs := by
  rcases h with h | ⟨g, h1, h2, h3⟩
  · exact .inl h
  · exact .inr ⟨g, h1, h2, (Below.heap_setCell _ _ _ _ (fun e => by omega)).trans h3⟩
theorem OwnR.fr {W W' : World} {B : Nat} {a : Option Addr} {t : TypeId} {cs : List Value} (h : OwnR W B a t cs) {b : Nat} (hp : b < B) (hf : Fr (· = b) W W') : OwnR W' B a t cs := by
  rcases h with h | ⟨g, h1, h2, h3⟩
  · exact .inl h
  · exact .inr ⟨g, h1, h2, (hf.block g (lt_heap h3) (fun e => by omega)).trans h3⟩
/- Results of which some lie in blocks. -/
theorem res_pair {P : Program} {f : Func} {tmps : Array Value} {w : World} {s u : Nat} {t : TypeId} {b : Nat} {cs : List Value} {e : TypeId} {v : Value} (hf : f.results = #[.cell s t, .tmp u]) (hx : tmps.getD s undef = .pointer (some ⟨b, 0, none⟩)) (hu : tmps.getD u undef = v) (ha : ∀ w, (isAgg t).run P w = .ok true w) (hs : ∀ w, (sizeOf t).run P w = .ok cs.length w) (hb : w.heap[b]? = some (.cells cs.toArray e (0, 0))) : (results f tmps).run P w = .ok (.tuple #[.agg cs.toArray, v]) w := by
  unfold results
  rw [hf]
  have h := run_loadA (P := P) ha hs hb
  have hx' : tmps[s]?.getD undef = .pointer (some ⟨b, 0, none⟩) := by rw [← hx]; simp
  have hu' : tmps[u]?.getD undef = v := by rw [← hu]; simp
  simp [Array.mapM_eq_mapM_toList, hx', hu', asAddr, h]
theorem res_triple {P : Program} {f : Func} {tmps : Array Value} {w : World} {s s2 u : Nat} {t t2 : TypeId} {b b2 : Nat} {cs cs2 : List Value} {e e2 : TypeId} {v : Value} (hf : f.results = #[.cell s t, .cell s2 t2, .tmp u]) (hx : tmps.getD s undef = .pointer (some ⟨b, 0, none⟩)) (hx2 : tmps.getD s2 undef = .pointer (some ⟨b2, 0, none⟩)) (hu : tmps.getD u undef = v) (ha : ∀ w, (isAgg t).run P w = .ok true w) (hs : ∀ w, (sizeOf t).run P w = .ok cs.length w) (hb : w.heap[b]? = some (.cells cs.toArray e (0, 0))) (ha2 : ∀ w, (isAgg t2).run P w = .ok true w) (hs2 : ∀ w, (sizeOf t2).run P w = .ok cs2.length w) (hb2 : w.heap[b2]? = some (.cells cs2.toArray e2 (0, 0))) : (results f tmps).run P w = .ok (.tuple #[.agg cs.toArray, .agg cs2.toArray, v]) w := by
  unfold results
  rw [hf]
  have h := run_loadA (P := P) ha hs hb
  have h2 := run_loadA (P := P) ha2 hs2 hb2
  have hx' : tmps[s]?.getD undef = .pointer (some ⟨b, 0, none⟩) := by rw [← hx]; simp
  have hx2' : tmps[s2]?.getD undef = .pointer (some ⟨b2, 0, none⟩) := by rw [← hx2]; simp
  have hu' : tmps[u]?.getD undef = v := by rw [← hu]; simp
  simp [Array.mapM_eq_mapM_toList, hx', hx2', hu', asAddr, h, h2]
end Go.Proofs.YtclhmggnkhnnlaaGreatDoor
