/- package match: Find. -/
import Derived.Test.YthkhdmdllhbfeaaMtS
namespace Go.Proofs.Ythkhdmdllhbfeaa
open Go.RowKit Go.Shelf

attribute [local go_sem] Oper.semAt_some
theorem kept_cells {W W' : World} {b : Nat} {cs : Array Value} {t : TypeId} {row : Option Nat} (h : W.heap[b]? = some (.cells cs t (0, 0))) (hg : W.grownBy W' row) (hr : ∀ r, row = some r → ∃ o : Obj, W.heap[r]? = some o ∧ o.isCells = false) : W'.heap[b]? = some (.cells cs t (0, 0)) := by
  refine (hg.block b (lt_heap h) (fun e => ?_)).trans h
  obtain ⟨o, ho, hc⟩ := hr b e.symm
  rw [h] at ho; cases ho; cases hc
theorem KeepsOthers.ofBelow {W W' : World} (h : Below W.heap.size W W') : KeepsOthers W W' := KeepsOthers.of_grownBy (grown_of_below h) (fun j o e => by cases e)
theorem heap_set1 {W : World} {b : Nat} {x v : Value} {t : TypeId} (h : W.heap[b]? = some (.cells #[x] t (0, 0))) : (W.setCell ⟨b, 0, none⟩ v).heap[b]? = some (.cells #[v] t (0, 0)) := heap_setCell_same h v
def bestC : Option Nat → Int
  | none => -1
  | some k => k
def pickB (wt : Nat → Int) (b : Option Nat) (k : Nat) : Option Nat :=
  match b with
  | none => some k
  | some j => if wt j < wt k then some k else some j
def bestL (wt : Nat → Int) (ys : List Nat) : Option Nat := ys.foldl (pickB wt) none
theorem bestL_snoc (wt : Nat → Int) (ys : List Nat) (k : Nat) : bestL wt (ys ++ [k]) = pickB wt (bestL wt ys) k := by simp [bestL]
theorem bestL_mem (wt : Nat → Int) : ∀ (ys : List Nat) (b : Option Nat) (j : Nat), ys.foldl (pickB wt) b = some j → j ∈ ys ∨ b = some j
  | [], b, j, h => .inr h
  | k :: ys, b, j, h => by
    rcases bestL_mem wt ys (pickB wt b k) j h with h | h
    · exact .inl (by simp [h])
    · cases b with
      | none => simp [pickB] at h; exact .inl (by simp [h])
      | some i =>
        simp only [pickB] at h
        split at h
        · injection h with h; exact .inl (by simp [h])
        · exact .inr h
def wtAt (t : Tb) (es : List EnL) (k : Nat) : Int := if h : k < es.length then wtI t es[k].e else 0
theorem hv_hit {P : EnL → Bool} {es : List EnL} (ys : List (Hx P es)) (j : Nat) (h : j ∈ hv ys) : ∃ hj : j < es.length, P es[j] = true := by
  obtain ⟨x, _, rfl⟩ := List.mem_map.1 h
  exact x.2
theorem best_hit {P : EnL → Bool} {es : List EnL} {wt : Nat → Int} (ys : List (Hx P es)) (j : Nat) (h : bestL wt (hv ys) = some j) : ∃ hj : j < es.length, P es[j] = true := by
  rcases bestL_mem wt _ _ _ h with h | h
  · exact hv_hit ys j h
  · cases h
structure FiI (W : World) (b4 b7 b8 : Nat) (la : Option Addr) (ln lc : Nat) (fv : Value) (t : Tb) (o : Option Nat) : Prop where
  best : W.heap[b8]? = some (.cells #[.int .i64 (bestC o)] 3 (0, 0))
  fn : W.heap[b7]? = some (.cells #[fv] 46 (0, 0))
  lb : W.heap[b4]? = some (.cells #[.slice la ln lc] 26 (0, 0))
  wf : WfV t fv W
theorem WfV.kept {W W' : World} {t : Tb} {fv : Value} {row : Option Nat} (h : WfV t fv W) (hg : W.grownBy W' row) (hr : ∀ r, row = some r → ∃ o : Obj, W.heap[r]? = some o ∧ o.isCells = false) : WfV t fv W' := by
  rcases h with h | ⟨h1, k, b, h2, h3, h4⟩ | h
  · exact .inl h
  · exact .inr (.inl ⟨h1, k, b, h2, h3, kept_cells h4 hg hr⟩)
  · exact .inr (.inr h)
theorem FiI.kept {W W' : World} {b4 b7 b8 : Nat} {la : Option Addr} {ln lc : Nat} {fv : Value} {t : Tb} {o : Option Nat} {row : Option Nat} (h : FiI W b4 b7 b8 la ln lc fv t o) (hg : W.grownBy W' row) (hr : ∀ r, row = some r → ∃ o : Obj, W.heap[r]? = some o ∧ o.isCells = false) : FiI W' b4 b7 b8 la ln lc fv t o :=
  ⟨kept_cells h.best hg hr, kept_cells h.fn hg hr, kept_cells h.lb hg hr, h.wf.kept hg hr⟩
def findB (t : Tb) (keys : List Nb) : Bool := tabMay t && (keys.length == t.ws.length && allI (fun i k => wide k (t.ws.getD i 0)) 0 keys)
def findI (t : Tb) (es : List EnL) (keys : List Nb) : Int := if findB t keys then bestC (bestL (wtAt t es) (idxsTo (fun y : EnL => hitB t keys y.e) es es.length)) else -1
set_option maxHeartbeats 2000000 in
theorem find_no (x : TbL) (la : Option Addr) (lc : Nat) (es : List EnL) (ka : Option Addr) (kc : Nat) (keys : List Nb) (w : World) (hx : TbR w x) (hk : RdN w ka keys) (hkr : ∀ b ∈ keys, NbR b) (hkn : keys.length ≤ 1000000) (hb : findB x.t keys = false) :
    Calls Try.prog 20 #[x.val, .slice la es.length lc, .slice ka keys.length kc] w fun e w' => e = .returned (.int .i64 (-1)) ∧ Below w.heap.size w w' := by
  have HT : Hid (∀ W, Below w.heap.size w W → _) := fun W hb => tableMayBe_any x W (hx.below hb)
  have HE : Hid (∀ W, Below w.heap.size w W → _) := fun W hb => equalFunc_any ka x.wa kc x.wc keys x.t.ws W (hk.below hb) (hx.ws.below hb) hkr (by omega)
  unfold findB at hb
  clear hx hk hkr hkn
  generalize tabMay x.t = t1 at *
  generalize (keys.length == x.t.ws.length && allI (fun i k => wide k (x.t.ws.getD i 0)) 0 keys) = t2 at *
  obtain ⟨⟨ks, ws, size⟩, xka, xkc, xwa, xwc⟩ := x
  simp only [TbL.val] at *
  cases t1
  · clear hb
    refine (callsIn_wide (n := 6)).1 ?_
    refine callsIn_of_wp_marks Try.func20 rfl trivial ?_ rfl
    simp only [Try.ntmps20, List.size_toArray, List.length_cons, List.length_nil, Nat.reduceAdd, Nat.reduceSub, Array.replicate_succ, Array.replicate_zero, List.push_toArray, List.append_toArray, List.nil_append, List.cons_append]
    gi_wp2_with fail
    refine ⟨trivial, (callsIn_wide.2 (HT.out _ (below2 _ _ _))).mono ?_⟩
    rintro e w1 ⟨rfl, hb⟩
    have B1 := hide (bstep (below2 _ _ _) hb)
    clear hb
    gi_wp2
    refine ⟨trivial, ?_⟩
    rename_i hK
    refine hK _ _ ?_
    clear hK
    gi_wp2
    exact ⟨_, results_tmp rfl _ _ _, rfl, B1.out⟩
  · obtain rfl : t2 = false := by simpa using hb
    clear hb
    refine (callsIn_wide (n := 6)).1 ?_
    refine callsIn_of_wp_marks Try.func20 rfl trivial ?_ rfl
    simp only [Try.ntmps20, List.size_toArray, List.length_cons, List.length_nil, Nat.reduceAdd, Nat.reduceSub, Array.replicate_succ, Array.replicate_zero, List.push_toArray, List.append_toArray, List.nil_append, List.cons_append]
    gi_wp2_with fail
    refine ⟨trivial, (callsIn_wide.2 (HT.out _ (below2 _ _ _))).mono ?_⟩
    rintro e w1 ⟨rfl, hb⟩
    have B1 := hide (bstep (below2 _ _ _) hb)
    obtain ⟨c0, c1, c2, -⟩ := at3 (heap_below hb (heap_past _ (heap_alloc_new _ _)))
    clear hb
    gi_wp2_with fail
    refine ⟨trivial, (callsIn_wide.2 (HE.out _ B1.out)).mono ?_⟩
    rintro e w2 ⟨rfl, hb2⟩
    have B2 := hide (bstep B1.out hb2)
    clear hb2
    gi_wp2
    exact ⟨_, results_tmp rfl _ _ _, rfl, B2.out⟩
end Go.Proofs.Ythkhdmdllhbfeaa
