/- package match: answers by plain data; and the law's examples. -/
import Derived.Test.YthkhdmdllhbfeaaMtV
import Derived.Test.YthkhdmdllhbfeaaGnC
namespace Go.Proofs.Ythkhdmdllhbfeaa
open Go.RowKit

def wtEn (t : Tb) (es : List En) (k : Nat) : Int := if h : k < es.length then wtI t es[k] else 0
def findE (t : Tb) (es : List En) (keys : List Nb) : Int := if findB t keys then bestC (bestL (wtEn t es) (idxsTo (hitB t keys) es es.length)) else -1
theorem idxs_ens (p : En → Bool) (es : List EnL) : ∀ n, n ≤ es.length → idxsTo (fun y : EnL => p y.e) es n = idxsTo p (ens es) n
  | 0, _ => rfl
  | n + 1, h => by
    have hn : n < es.length := by omega
    have hn' : n < (ens es).length := by rw [ens_len]; exact hn
    have e : (ens es)[n] = es[n].e := by simp [ens]
    rw [idxsTo, idxsTo, idxs_ens p es n (by omega)]
    simp only [hn, hn', dif_pos, e]
theorem wt_ens (t : Tb) (es : List EnL) : wtAt t es = wtEn t (ens es) := by
  funext k
  unfold wtAt wtEn
  by_cases h : k < es.length
  · have h' : k < (ens es).length := by rw [ens_len]; exact h
    have e : (ens es)[k] = es[k].e := by simp [ens]
    simp only [h, h', dif_pos, e]
  · have h' : ¬ k < (ens es).length := by rw [ens_len]; exact h
    simp only [h, h', dif_neg, not_false_eq_true]
theorem findI_ens (t : Tb) (es : List EnL) (keys : List Nb) : findI t es keys = findE t (ens es) keys := by
  unfold findI findE
  rw [wt_ens, idxs_ens (hitB t keys) es es.length (Nat.le_refl _), ens_len]
/- Insert, told for a walk: the error c, and the list L behind it. -/
theorem insert_is (x : TbL) (a : Option Addr) (cap n : Nat) (l : List EnL) (y : EnL) (w : World) (hx : TbR w x) (hl : RdE w a l) (hy : EnR w y) (hn : l.length ≤ 900000) (hnl : n = l.length) (c : Int) (hc : insI x.t (ens l) y.e = c) (L : List En) (hL : (if c = 0 then ens l ++ [y.e] else []) = L) :
    Calls Try.prog 12 #[x.val, .slice a n cap, y.val] w fun e w' => ∃ a' cap' acc, e = .returned (.tuple #[.slice a' L.length cap', .int .i64 c]) ∧ ens acc = L ∧ acc.length = L.length ∧ RdE w' a' acc ∧ (a' = none → cap' = 0) ∧ L.length ≤ cap' ∧ Below w.heap.size w w' := by
  subst hnl
  refine (insert_any x a cap l y w hx hl hy hn).mono ?_
  rintro e w' ⟨v, acc, rfl, hacc, hcp⟩
  rw [hc] at hacc ⊢
  rw [hL] at hacc
  obtain ⟨a', cap', rfl, hr, hz, hcc, _⟩ := hcp.rd
  have hlen : acc.length = L.length := by rw [← hacc, ens_len]
  rw [hlen] at hcc ⊢
  exact ⟨a', cap', acc, rfl, hacc, hlen, hr, hz, hcc, hcp.bl⟩
theorem find_is (x : TbL) (la : Option Addr) (lc n m : Nat) (es : List EnL) (ka : Option Addr) (kc : Nat) (keys : List Nb) (w : World) (hx : TbR w x) (hl : RdE w la es) (hn : es.length ≤ 1000000) (hnn : n = es.length) (hk : RdN w ka keys) (hkr : ∀ b ∈ keys, NbR b) (hkn : keys.length ≤ 1000000) (hm : m = keys.length) (c : Int) (hc : findE x.t (ens es) keys = c) :
    Calls Try.prog 20 #[x.val, .slice la n lc, .slice ka m kc] w fun e w' => e = .returned (.int .i64 c) ∧ Below w.heap.size w w' := by
  subst hnn hm hc
  rw [← findI_ens]
  exact find_any x la lc es ka kc keys w hx hl hn hk hkr hkn
theorem eight_any (n : Int) : Pure 21 #[.int .u64 n] (.agg #[.int .i64 8, .int .u64 0, .int .u64 n]) := fun w => by
  go_enter Try.func21, Try.ntmps21
  go_wp2
  refine bodyPost_ret (v := .agg #[.int .i64 8, .int .u64 0, .int .u64 n]) (by simp [results, Try.results21, go_sem]) rfl ⟨rfl, below1 _ _⟩
theorem tbR_new {W : World} {k : Nat} {n s : Int} {kb wb : Nat} (h1 : W.heap[kb]? = some (.cells #[.int .u8 k] 60 (0, 0))) (h2 : W.heap[wb]? = some (.cells #[.int .i64 n] 3 (0, 0))) (hn : i64R n) : TbR W ⟨⟨[k], [n], s⟩, some ⟨kb, 0, none⟩, 1, some ⟨wb, 0, none⟩, 1⟩ := by
  refine ⟨.inr ⟨kb, 0, rfl, lt_heap h1, fun i hi => ?_⟩, .inr ⟨wb, 0, rfl, lt_heap h2, fun i hi => ?_⟩, by simp, by simp, fun m hm => ?_⟩
  · obtain rfl : i = 0 := by simp at hi; omega
    exact (at1 h1).1
  · obtain rfl : i = 0 := by simp at hi; omega
    exact (at1 h2).1
  · have : m = n := by simpa using hm
    rw [this]; exact hn
theorem prefix_any (w : World) : Calls Try.prog 18 #[] w fun e w' => ∃ kb wb : Nat, e = .returned (.agg #[.slice (some ⟨kb, 0, none⟩) 1 1, .slice (some ⟨wb, 0, none⟩) 1 1, .int .i64 2]) ∧ TbR w' ⟨⟨[2], [8], 2⟩, some ⟨kb, 0, none⟩, 1, some ⟨wb, 0, none⟩, 1⟩ ∧ Below w.heap.size w w' := by
  go_enter Try.func18, Try.ntmps18
  go_wp2
  refine bodyPost_ret (v := .agg #[.slice (some ⟨w.heap.size + 1, 0, none⟩) 1 1, .slice (some ⟨w.heap.size + 1 + 1, 0, none⟩) 1 1, .int .i64 2]) (by simp [results, Try.results18, go_sem]) rfl ⟨_, _, rfl, tbR_new (k := 2) (n := 8) (heap_past _ (heap_snd _ _ _ _)) (heap_trd _ _ _ _ _) ⟨by decide, by decide⟩, below3 _ _ _ _⟩
theorem i64R0 : i64R 0 := ⟨by decide, by decide⟩
theorem i64R8 : i64R 8 := ⟨by decide, by decide⟩
theorem u64R0 : u64R 0 := ⟨by decide, by decide⟩
theorem enR_new {W : World} {b : Nat} {x : Mx} (h : W.heap[b]? = some (.cells #[.int .i64 x.v.w, .int .u64 x.v.hi, .int .u64 x.v.lo, .int .i64 x.m.w, .int .u64 x.m.hi, .int .u64 x.m.lo, .int .i64 x.len] 62 (0, 0))) (hx : MxR x) (act : ByteArray) : EnR W ⟨⟨[x], 0, act, []⟩, some ⟨b, 0, none⟩, 1, none, 0⟩ := by
  refine ⟨.inr ⟨b, 0, rfl, lt_heap h, fun i hi => ?_⟩, .inl rfl, by simp, by simp, fun m hm => ?_, fun b hb => absurd hb (by simp), i64R0, fun e => (by cases e), fun _ => rfl⟩
  · obtain rfl : i = 0 := by simp at hi; omega
    obtain ⟨h0, h1, h2, h3, h4, h5, h6⟩ := at7 h
    exact ⟨h0, h1, h2, h3, h4, h5, h6⟩
  · have : m = x := by simpa using hm
    rw [this]; exact hx
def pfx (n : Int) (k : Int) : Mx := ⟨⟨8, 0, n⟩, nb0, k⟩
theorem pfx_r {n k : Int} (hn : u64R n) (hk : i64R k) : MxR (pfx n k) := ⟨⟨i64R8, u64R0, hn⟩, ⟨i64R0, u64R0, u64R0⟩, hk⟩
theorem heap_fill4 {W : World} {b : Nat} {x0 x1 x2 x3 v0 v1 v2 v3 : Value} {t : TypeId} (h : W.heap[b]? = some (.cells #[x0, x1, x2, x3] t (0, 0))) : ((((W.setCell ⟨b, 0, none⟩ v0).setCell ⟨b, 1, none⟩ v1).setCell ⟨b, 2, none⟩ v2).setCell ⟨b, 3, none⟩ v3).heap[b]? = some (.cells #[v0, v1, v2, v3] t (0, 0)) :=
  heap_setCell_same (heap_setCell_same (heap_setCell_same (heap_setCell_same h v0) v1) v2) v3
theorem fill4_below {W0 W : World} {b : Nat} {v0 v1 v2 v3 : Value} (h : Below W0.heap.size W0 W) (hb : W0.heap.size ≤ b) : Below W0.heap.size W0 ((((W.setCell ⟨b, 0, none⟩ v0).setCell ⟨b, 1, none⟩ v1).setCell ⟨b, 2, none⟩ v2).setCell ⟨b, 3, none⟩ v3) := (((h.setCell (p := ⟨b, 0, none⟩) hb _).setCell (p := ⟨b, 1, none⟩) hb _).setCell (p := ⟨b, 2, none⟩) hb _).setCell (p := ⟨b, 3, none⟩) hb _
theorem fill4_size {W : World} {b : Nat} {v0 v1 v2 v3 : Value} : ((((W.setCell ⟨b, 0, none⟩ v0).setCell ⟨b, 1, none⟩ v1).setCell ⟨b, 2, none⟩ v2).setCell ⟨b, 3, none⟩ v3).heap.size = W.heap.size := by simp only [World.size_setCell]
set_option maxRecDepth 100000 in
theorem sz_en : ∀ w : World, (sizeOf 30).run Try.prog w = .ok 4 w := fun w => by rfl
set_option maxRecDepth 100000 in
theorem ag_en : ∀ w : World, (isAgg 30).run Try.prog w = .ok true w := fun w => by rfl
theorem lawFirst_any (n k : Int) (hn : u64R n) (hk : i64R k) (w : World) : Calls Try.prog 19 #[.int .u64 n, .int .i64 k] w fun e w' => ∃ b : Nat, e = .returned (.agg #[.slice (some ⟨b, 0, none⟩) 1 1, .int .i64 0, .string ⟨#[]⟩, .slice none 0 0]) ∧ EnR w' ⟨⟨[pfx n k], 0, ⟨#[]⟩, []⟩, some ⟨b, 0, none⟩, 1, none, 0⟩ ∧ Below w.heap.size w w' := by
  have HR := hide (pfx_r hn hk)
  have HE : Hid (Pure _ _ _) := eight_any n
  clear hn hk
  go_enter Try.func19, Try.ntmps19
  go_wp2_with fail
  refine (HE.out _).mono ?_
  rintro e w1 ⟨rfl, hb⟩
  have B1 := hide (bstep (below1 _ _) hb)
  have hE := heap_below hb (heap_alloc_new _ _)
  have HB := hide hE
  have c := fun o => at4 (heap_past o hE)
  have hz := lt_heap hE
  obtain ⟨d0, d1, d2, d3, df⟩ := at4 hE
  obtain ⟨c0, c1, c2, c3, cf⟩ := c (.cells #[.int .i64 8, .int .u64 0, .int .u64 n, .int .i64 0, .int .u64 0, .int .u64 0, .int .i64 k] 62)
  clear hb hE c
  go_wp2
  refine bodyPost_ret (res_cell (cs := [.slice (some ⟨w1.heap.size, 0, none⟩) 1 1, .int .i64 0, .string ⟨#[]⟩, .slice none 0 0]) Try.results19 rfl ag_en sz_en (heap_past _ (heap_fill4 HB.out))) rfl ⟨_, rfl, ?_, ?_⟩
  · refine enR_new (x := pfx n k) ?_ HR.out _
    have := heap_alloc_new ((((w1.setCell ⟨w.heap.size, 0, none⟩ (.slice (some ⟨w1.heap.size, 0, none⟩) 1 1)).setCell ⟨w.heap.size, 1, none⟩ (.int .i64 0)).setCell ⟨w.heap.size, 2, none⟩ (.string ⟨#[]⟩)).setCell ⟨w.heap.size, 3, none⟩ (.slice none 0 0)) (.cells #[.int .i64 8, .int .u64 0, .int .u64 n, .int .i64 0, .int .u64 0, .int .u64 0, .int .i64 k] 62)
    rw [fill4_size] at this
    exact this
  · exact bstep (fill4_below B1.out (Nat.le_refl _)) (below1 _ _)
end Go.Proofs.Ythkhdmdllhbfeaa
