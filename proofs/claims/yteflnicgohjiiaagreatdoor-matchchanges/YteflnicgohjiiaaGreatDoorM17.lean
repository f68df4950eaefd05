/- Pieces of the proof: MtW, MtX. -/
import Derived.Test.YteflnicgohjiiaaGreatDoorM15
import Derived.Test.YteflnicgohjiiaaGreatDoorM16
/- package match: answers by plain data; and the law's examples. -/
namespace Go.Proofs.YteflnicgohjiiaaGreatDoor
open Go.RowKit

def wtEn (t : Tb) (es : List En) (k : Nat) : Int := if h : k < es.length then wtI t es[k] else 0
def findE (t : Tb) (es : List En) (keys : List Nb) : Int := if findB t keys then bestC (bestL (wtEn t es) (idxsTo (hitB t keys) es es.length)) else -1
theorem idxs_ens (p : En → Bool) (es : List EnL) : ∀ n, n ≤ es.length → idxsTo (fun y : EnL => p y.e) es n = idxsTo p (ens es) n
  | 0, _ => rfl
  | n + 1, h => by
    have hn : n < es.length := by omega
    have hn' : n < (ens es).length := by rw [ens_len]; exact hn
    have e : (ens es)[n] = es[n].e := by simp [ens]
    rw [idxsTo, idxsTo, idxs_ens p es n (by omega)]
    simp only [hn, hn', dif_pos, e]
theorem wt_ens (t : Tb) (es : List EnL) : wtAt t es = wtEn t (ens es) := by
  funext k
  unfold wtAt wtEn
  by_cases h : k < es.length
  · have h' : k < (ens es).length := by rw [ens_len]; exact h
    have e : (ens es)[k] = es[k].e := by simp [ens]
    simp only [h, h', dif_pos, e]
  · have h' : ¬ k < (ens es).length := by rw [ens_len]; exact h
    simp only [h, h', dif_neg, not_false_eq_true]
theorem findI_ens (t : Tb) (es : List EnL) (keys : List Nb) : findI t es keys = findE t (ens es) keys := by
  unfold findI findE
  rw [wt_ens, idxs_ens (hitB t keys) es es.length (Nat.le_refl _), ens_len]
/- Insert, told for a walk: the error c, and the list L behind it. -/
theorem insert_is (x : TbL) (a : Option Addr) (cap n : Nat) (l : List EnL) (y : EnL) (w : World) (hx : TbR w x) (hl : RdE w a l) (hy : EnR w y) (hn : l.length ≤ 900000) (hnl : n = l.length) (c : Int) (hc : insI x.t (ens l) y.e = c) (L : List En) (hL : (if c = 0 then ens l ++ [y.e] else []) = L) :
    Calls Tryz.prog 8 #[x.val, .slice a n cap, y.val] w fun e w' => ∃ a' cap' acc, e = .returned (.tuple #[.slice a' L.length cap', .int .i64 c]) ∧ ens acc = L ∧ acc.length = L.length ∧ RdE w' a' acc ∧ (a' = none → cap' = 0) ∧ L.length ≤ cap' ∧ Below w.heap.size w w' := by
  subst hnl
  refine (insert_any x a cap l y w hx hl hy hn).mono ?_
  rintro e w' ⟨v, acc, rfl, hacc, hcp⟩
  rw [hc] at hacc ⊢
  rw [hL] at hacc
  obtain ⟨a', cap', rfl, hr, hz, hcc, _⟩ := hcp.rd
  have hlen : acc.length = L.length := by rw [← hacc, ens_len]
  rw [hlen] at hcc ⊢
  exact ⟨a', cap', acc, rfl, hacc, hlen, hr, hz, hcc, hcp.bl⟩
theorem find_is (x : TbL) (la : Option Addr) (lc n m : Nat) (es : List EnL) (ka : Option Addr) (kc : Nat) (keys : List Nb) (w : World) (hx : TbR w x) (hl : RdE w la es) (hn : es.length ≤ 1000000) (hnn : n = es.length) (hk : RdN w ka keys) (hkr : ∀ b ∈ keys, NbR b) (hkn : keys.length ≤ 1000000) (hm : m = keys.length) (c : Int) (hc : findE x.t (ens es) keys = c) :
    Calls Tryz.prog 25 #[x.val, .slice la n lc, .slice ka m kc] w fun e w' => e = .returned (.int .i64 c) ∧ Below w.heap.size w w' := by
  subst hnn hm hc
  rw [← findI_ens]
  exact find_any x la lc es ka kc keys w hx hl hn hk hkr hkn
theorem eight_any (n : Int) : Pure 26 #[.int .u64 n] (.agg #[.int .i64 8, .int .u64 0, .int .u64 n]) := fun w => by
  go_enter Tryz.func26, Tryz.ntmps26
  go_wp2
  refine bodyPost_ret (v := .agg #[.int .i64 8, .int .u64 0, .int .u64 n]) (by simp [results, Tryz.results26, go_sem]) rfl ⟨rfl, below1 _ _⟩
theorem tbR_new {W : World} {k : Nat} {n s : Int} {kb wb : Nat} (h1 : W.heap[kb]? = some (.cells #[.int .u8 k] 103 (0, 0))) (h2 : W.heap[wb]? = some (.cells #[.int .i64 n] 3 (0, 0))) (hn : i64R n) : TbR W ⟨⟨[k], [n], s⟩, some ⟨kb, 0, none⟩, 1, some ⟨wb, 0, none⟩, 1⟩ := by
  refine ⟨.inr ⟨kb, 0, rfl, lt_heap h1, fun i hi => ?_⟩, .inr ⟨wb, 0, rfl, lt_heap h2, fun i hi => ?_⟩, by simp, by simp, fun m hm => ?_⟩
  · obtain rfl : i = 0 := by simp at hi; omega
    exact (at1 h1).1
  · obtain rfl : i = 0 := by simp at hi; omega
    exact (at1 h2).1
  · have : m = n := by simpa using hm
    rw [this]; exact hn
theorem prefix_any (w : World) : Calls Tryz.prog 23 #[] w fun e w' => ∃ kb wb : Nat, e = .returned (.agg #[.slice (some ⟨kb, 0, none⟩) 1 1, .slice (some ⟨wb, 0, none⟩) 1 1, .int .i64 2]) ∧ TbR w' ⟨⟨[2], [8], 2⟩, some ⟨kb, 0, none⟩, 1, some ⟨wb, 0, none⟩, 1⟩ ∧ Below w.heap.size w w' := by
  go_enter Tryz.func23, Tryz.ntmps23
  go_wp2
  refine bodyPost_ret (v := .agg #[.slice (some ⟨w.heap.size + 1, 0, none⟩) 1 1, .slice (some ⟨w.heap.size + 1 + 1, 0, none⟩) 1 1, .int .i64 2]) (by simp [results, Tryz.results23, go_sem]) rfl ⟨_, _, rfl, tbR_new (k := 2) (n := 8) (heap_past _ (heap_snd _ _ _ _)) (heap_trd _ _ _ _ _) ⟨by decide, by decide⟩, below3 _ _ _ _⟩
theorem i64R0 : i64R 0 := ⟨by decide, by decide⟩
theorem i64R8 : i64R 8 := ⟨by decide, by decide⟩
theorem u64R0 : u64R 0 := ⟨by decide, by decide⟩
theorem enR_new {W : World} {b : Nat} {x : Mx} (h : W.heap[b]? = some (.cells #[.int .i64 x.v.w, .int .u64 x.v.hi, .int .u64 x.v.lo, .int .i64 x.m.w, .int .u64 x.m.hi, .int .u64 x.m.lo, .int .i64 x.len] 105 (0, 0))) (hx : MxR x) (act : ByteArray) : EnR W ⟨⟨[x], 0, act, []⟩, some ⟨b, 0, none⟩, 1, none, 0⟩ := by
  refine ⟨.inr ⟨b, 0, rfl, lt_heap h, fun i hi => ?_⟩, .inl rfl, by simp, by simp, fun m hm => ?_, fun b hb => absurd hb (by simp), i64R0, fun e => (by cases e), fun _ => rfl⟩
  · obtain rfl : i = 0 := by simp at hi; omega
    obtain ⟨h0, h1, h2, h3, h4, h5, h6⟩ := at7 h
    exact ⟨h0, h1, h2, h3, h4, h5, h6⟩
  · have : m = x := by simpa using hm
    rw [this]; exact hx
def pfx (n : Int) (k : Int) : Mx := ⟨⟨8, 0, n⟩, nb0, k⟩
theorem pfx_r {n k : Int} (hn : u64R n) (hk : i64R k) : MxR (pfx n k) := ⟨⟨i64R8, u64R0, hn⟩, ⟨i64R0, u64R0, u64R0⟩, hk⟩
theorem heap_fill4 {W : World} {b : Nat} {x0 x1 x2 x3 v0 v1 v2 v3 : Value} {t : TypeId} (h : W.heap[b]? = some (.cells #[x0, x1, x2, x3] t (0, 0))) : ((((W.setCell ⟨b, 0, none⟩ v0).setCell ⟨b, 1, none⟩ v1).setCell ⟨b, 2, none⟩ v2).setCell ⟨b, 3, none⟩ v3).heap[b]? = some (.cells #[v0, v1, v2, v3] t (0, 0)) :=
  heap_setCell_same (heap_setCell_same (heap_setCell_same (heap_setCell_same h v0) v1) v2) v3
theorem fill4_below {W0 W : World} {b : Nat} {v0 v1 v2 v3 : Value} (h : Below W0.heap.size W0 W) (hb : W0.heap.size ≤ b) : Below W0.heap.size W0 ((((W.setCell ⟨b, 0, none⟩ v0).setCell ⟨b, 1, none⟩ v1).setCell ⟨b, 2, none⟩ v2).setCell ⟨b, 3, none⟩ v3) := (((h.setCell (p := ⟨b, 0, none⟩) hb _).setCell (p := ⟨b, 1, none⟩) hb _).setCell (p := ⟨b, 2, none⟩) hb _).setCell (p := ⟨b, 3, none⟩) hb _
theorem fill4_size {W : World} {b : Nat} {v0 v1 v2 v3 : Value} : ((((W.setCell ⟨b, 0, none⟩ v0).setCell ⟨b, 1, none⟩ v1).setCell ⟨b, 2, none⟩ v2).setCell ⟨b, 3, none⟩ v3).heap.size = W.heap.size := by simp only [World.size_setCell]
set_option maxRecDepth 100000 in
theorem sz_en : ∀ w : World, (sizeOf 30).run Tryz.prog w = .ok 4 w := fun w => by rfl
set_option maxRecDepth 100000 in
theorem ag_en : ∀ w : World, (isAgg 30).run Tryz.prog w = .ok true w := fun w => by rfl
theorem lawFirst_any (n k : Int) (hn : u64R n) (hk : i64R k) (w : World) : Calls Tryz.prog 24 #[.int .u64 n, .int .i64 k] w fun e w' => ∃ b : Nat, e = .returned (.agg #[.slice (some ⟨b, 0, none⟩) 1 1, .int .i64 0, .string ⟨#[]⟩, .slice none 0 0]) ∧ EnR w' ⟨⟨[pfx n k], 0, ⟨#[]⟩, []⟩, some ⟨b, 0, none⟩, 1, none, 0⟩ ∧ Below w.heap.size w w' := by
  have HR := hide (pfx_r hn hk)
  have HE : Hid (Pure _ _ _) := eight_any n
  clear hn hk
  go_enter Tryz.func24, Tryz.ntmps24
  go_wp2_with fail
  refine (HE.out _).mono ?_
  rintro e w1 ⟨rfl, hb⟩
  have B1 := hide (bstep (below1 _ _) hb)
  have hE := heap_below hb (heap_alloc_new _ _)
  have HB := hide hE
  have c := fun o => at4 (heap_past o hE)
  have hz := lt_heap hE
  obtain ⟨d0, d1, d2, d3, df⟩ := at4 hE
  obtain ⟨c0, c1, c2, c3, cf⟩ := c (.cells #[.int .i64 8, .int .u64 0, .int .u64 n, .int .i64 0, .int .u64 0, .int .u64 0, .int .i64 k] 105)
  clear hb hE c
  go_wp2
  refine bodyPost_ret (res_cell (cs := [.slice (some ⟨w1.heap.size, 0, none⟩) 1 1, .int .i64 0, .string ⟨#[]⟩, .slice none 0 0]) Tryz.results24 rfl ag_en sz_en (heap_past _ (heap_fill4 HB.out))) rfl ⟨_, rfl, ?_, ?_⟩
  · refine enR_new (x := pfx n k) ?_ HR.out _
    have := heap_alloc_new ((((w1.setCell ⟨w.heap.size, 0, none⟩ (.slice (some ⟨w1.heap.size, 0, none⟩) 1 1)).setCell ⟨w.heap.size, 1, none⟩ (.int .i64 0)).setCell ⟨w.heap.size, 2, none⟩ (.string ⟨#[]⟩)).setCell ⟨w.heap.size, 3, none⟩ (.slice none 0 0)) (.cells #[.int .i64 8, .int .u64 0, .int .u64 n, .int .i64 0, .int .u64 0, .int .u64 0, .int .i64 k] 105)
    rw [fill4_size] at this
    exact this
  · exact bstep (fill4_below B1.out (Nat.le_refl _)) (below1 _ _)
end Go.Proofs.YteflnicgohjiiaaGreatDoor
/- The law's examples: the chapter's prefixes. -/
namespace Go.Proofs.YteflnicgohjiiaaGreatDoor
open Go.RowKit

def t0 : Tb := ⟨[2], [8], 2⟩
def en1 (n k : Int) : En := ⟨[pfx n k], 0, ⟨#[]⟩, []⟩
theorem lv1 : insI t0 [] (en1 128 1) = 0 := by kernel_rfl
theorem lv2 : insI t0 [en1 128 1] (en1 192 2) = 0 := by kernel_rfl
theorem lv3 : insI t0 [en1 128 1, en1 192 2] (en1 0 0) = 10 := by kernel_rfl
theorem lv4 : insI t0 [en1 128 1] (en1 128 1) = 12 := by kernel_rfl
theorem lv5 : findE t0 [en1 128 1, en1 192 2] [⟨8, 0, 193⟩] = 1 := by kernel_rfl
theorem lv6 : findE t0 [en1 128 1, en1 192 2] [⟨8, 0, 144⟩] = 0 := by kernel_rfl
theorem lv7 : findE t0 [en1 128 1, en1 192 2] [⟨8, 0, 1⟩] = -1 := by kernel_rfl
theorem rdE_nil (W : World) : RdE W none [] := ⟨.inl rfl, fun x h => absurd h (by simp)⟩
theorem rdN_one {W : World} {b : Nat} {x : Nb} (h : W.heap[b]? = some (.cells #[.int .i64 x.w, .int .u64 x.hi, .int .u64 x.lo] 86 (0, 0))) : RdN W (some ⟨b, 0, none⟩) [x] := by
  refine .inr ⟨b, 0, rfl, lt_heap h, fun i hi => ?_⟩
  obtain rfl : i = 0 := by simp at hi; omega
  obtain ⟨h0, h1, h2, -⟩ := at3 h
  exact ⟨h0, h1, h2⟩
theorem u64c {n : Int} (h : 0 ≤ n) (h' : n < 18446744073709551616) : u64R n := ⟨h, h'⟩
theorem nbR8 {n : Int} (h : u64R n) : ∀ b ∈ [(⟨8, 0, n⟩ : Nb)], NbR b := fun b hb => by
  have : b = ⟨8, 0, n⟩ := by simpa using hb
  rw [this]; exact ⟨i64R8, u64R0, h⟩
/- What the walk holds of a list that was inserted into. -/
structure Ac (W : World) (a : Option Addr) (acc : List EnL) (L : List En) : Prop where
  e : ens acc = L
  n : acc.length = L.length
  r : RdE W a acc
theorem Ac.below {W W' : World} {a : Option Addr} {acc : List EnL} {L : List En} (h : Ac W a acc L) (hb : Below W.heap.size W W') : Ac W' a acc L := ⟨h.e, h.n, h.r.below hb⟩
theorem ins_ac {kb wb fb : Nat} {a : Option Addr} {cap : Nat} {acc : List EnL} {L L' : List En} {W : World} {x : Mx} {act : ByteArray} {t : Tb} {kc wc : Nat} (c : Int) (h : Ac W a acc L) (ht : TbR W ⟨t, some ⟨kb, 0, none⟩, kc, some ⟨wb, 0, none⟩, wc⟩) (hf : EnR W ⟨⟨[x], 0, act, []⟩, some ⟨fb, 0, none⟩, 1, none, 0⟩) (hn : L.length ≤ 900000) (hc : insI t L ⟨[x], 0, act, []⟩ = c) (hL : (if c = 0 then L ++ [⟨[x], 0, act, []⟩] else []) = L') :
    Calls Tryz.prog 8 #[.agg #[.slice (some ⟨kb, 0, none⟩) t.ks.length kc, .slice (some ⟨wb, 0, none⟩) t.ws.length wc, .int .i64 t.size], .slice a L.length cap, .agg #[.slice (some ⟨fb, 0, none⟩) 1 1, .int .i64 0, .string act, .slice none 0 0]] W fun e w' => ∃ a' cap' acc', e = .returned (.tuple #[.slice a' L'.length cap', .int .i64 c]) ∧ Ac w' a' acc' L' ∧ (a' = none → cap' = 0) ∧ Below W.heap.size W w' := by
  refine (insert_is ⟨t, some ⟨kb, 0, none⟩, kc, some ⟨wb, 0, none⟩, wc⟩ a cap L.length acc ⟨⟨[x], 0, act, []⟩, some ⟨fb, 0, none⟩, 1, none, 0⟩ W ht h.r hf (by rw [h.n]; exact hn) h.n.symm c (by rw [h.e]; exact hc) L' (by rw [h.e]; exact hL)).mono ?_
  rintro e w' ⟨a', cap', acc', rfl, h1, h2, h3, h4, h5, h6⟩
  exact ⟨a', cap', acc', rfl, ⟨h1, h2, h3⟩, h4, h6⟩
theorem find_ac {kb wb fb : Nat} {a : Option Addr} {cap : Nat} {acc : List EnL} {L : List En} {W : World} {x : Nb} {t : Tb} {kc wc : Nat} (c : Int) (h : Ac W a acc L) (ht : TbR W ⟨t, some ⟨kb, 0, none⟩, kc, some ⟨wb, 0, none⟩, wc⟩) (hk : RdN W (some ⟨fb, 0, none⟩) [x]) (hx : ∀ b ∈ [x], NbR b) (hn : L.length ≤ 900000) (hc : findE t L [x] = c) :
    Calls Tryz.prog 25 #[.agg #[.slice (some ⟨kb, 0, none⟩) t.ks.length kc, .slice (some ⟨wb, 0, none⟩) t.ws.length wc, .int .i64 t.size], .slice a L.length cap, .slice (some ⟨fb, 0, none⟩) 1 1] W fun e w' => e = .returned (.int .i64 c) ∧ Below W.heap.size W w' :=
  find_is ⟨t, some ⟨kb, 0, none⟩, kc, some ⟨wb, 0, none⟩, wc⟩ a cap L.length 1 acc (some ⟨fb, 0, none⟩) 1 [x] W ht h.r (by rw [h.n]; omega) h.n.symm hk hx (by simp) rfl c (by rw [h.e]; exact hc)
set_option maxRecDepth 100000 in
set_option maxHeartbeats 8000000 in
theorem lives_any : Pure 5 #[] (.bool true) := fun w => by
  have BB : Hid (Below w.heap.size w w) := Below.refl _ _
  have A0 : Hid (Ac w none [] []) := ⟨rfl, rfl, rdE_nil _⟩
  go_enter Tryz.func5, Tryz.ntmps5
  go_wp2_with fail
  refine (prefix_any _).mono ?_
  rintro e w1 ⟨kb1, wb1, rfl, ht, hb⟩
  replace BB := hide (bstep BB.out hb)
  replace A0 := hide (A0.out.below hb)
  clear hb
  have HT := hide ht
  clear ht
  go_wp2_with fail
  refine (lawFirst_any 128 1 (u64c (by decide) (by decide)) ⟨by decide, by decide⟩ _).mono ?_
  rintro e w2 ⟨fb2, rfl, hf, hb⟩
  replace BB := hide (bstep BB.out hb)
  replace A0 := hide (A0.out.below hb)
  replace HT := hide (HT.out.below hb)
  clear hb
  have HF := hide hf
  clear hf
  go_wp2_with fail
  refine (ins_ac (t := t0) (0) A0.out HT.out HF.out (by simp) lv1 (L' := [en1 128 1]) rfl).mono ?_
  rintro e w3 ⟨a3, cap3, acc3, rfl, ha, hz, hb⟩
  clear HT HF
  replace BB := hide (bstep BB.out hb)
  replace A0 := hide (A0.out.below hb)
  clear hb
  have A1 := hide ha
  clear ha hz
  go_wp2_with fail
  refine (prefix_any _).mono ?_
  rintro e w4 ⟨kb4, wb4, rfl, ht, hb⟩
  replace BB := hide (bstep BB.out hb)
  replace A0 := hide (A0.out.below hb)
  replace A1 := hide (A1.out.below hb)
  clear hb
  have HT := hide ht
  clear ht
  go_wp2_with fail
  refine (lawFirst_any 192 2 (u64c (by decide) (by decide)) ⟨by decide, by decide⟩ _).mono ?_
  rintro e w5 ⟨fb5, rfl, hf, hb⟩
  replace BB := hide (bstep BB.out hb)
  replace A0 := hide (A0.out.below hb)
  replace A1 := hide (A1.out.below hb)
  replace HT := hide (HT.out.below hb)
  clear hb
  have HF := hide hf
  clear hf
  go_wp2_with fail
  refine (ins_ac (t := t0) (0) A1.out HT.out HF.out (by simp) lv2 (L' := [en1 128 1, en1 192 2]) rfl).mono ?_
  rintro e w6 ⟨a6, cap6, acc6, rfl, ha, hz, hb⟩
  clear HT HF
  replace BB := hide (bstep BB.out hb)
  replace A0 := hide (A0.out.below hb)
  replace A1 := hide (A1.out.below hb)
  clear hb
  have A2 := hide ha
  clear ha hz
  go_wp2_with fail
  refine (prefix_any _).mono ?_
  rintro e w7 ⟨kb7, wb7, rfl, ht, hb⟩
  replace BB := hide (bstep BB.out hb)
  replace A0 := hide (A0.out.below hb)
  replace A1 := hide (A1.out.below hb)
  replace A2 := hide (A2.out.below hb)
  clear hb
  have HT := hide ht
  clear ht
  go_wp2_with fail
  refine (lawFirst_any 0 0 (u64c (by decide) (by decide)) ⟨by decide, by decide⟩ _).mono ?_
  rintro e w8 ⟨fb8, rfl, hf, hb⟩
  replace BB := hide (bstep BB.out hb)
  replace A0 := hide (A0.out.below hb)
  replace A1 := hide (A1.out.below hb)
  replace A2 := hide (A2.out.below hb)
  replace HT := hide (HT.out.below hb)
  clear hb
  have HF := hide hf
  clear hf
  go_wp2_with fail
  refine (ins_ac (t := t0) (10) A2.out HT.out HF.out (by simp) lv3 (L' := []) rfl).mono ?_
  rintro e w9 ⟨a9, cap9, acc9, rfl, ha, hz, hb⟩
  clear HT HF
  replace BB := hide (bstep BB.out hb)
  replace A0 := hide (A0.out.below hb)
  replace A1 := hide (A1.out.below hb)
  replace A2 := hide (A2.out.below hb)
  clear hb
  clear ha hz
  go_wp2_with fail
  refine (prefix_any _).mono ?_
  rintro e w10 ⟨kb10, wb10, rfl, ht, hb⟩
  replace BB := hide (bstep BB.out hb)
  replace A0 := hide (A0.out.below hb)
  replace A1 := hide (A1.out.below hb)
  replace A2 := hide (A2.out.below hb)
  clear hb
  have HT := hide ht
  clear ht
  go_wp2_with fail
  refine (lawFirst_any 128 1 (u64c (by decide) (by decide)) ⟨by decide, by decide⟩ _).mono ?_
  rintro e w11 ⟨fb11, rfl, hf, hb⟩
  replace BB := hide (bstep BB.out hb)
  replace A0 := hide (A0.out.below hb)
  replace A1 := hide (A1.out.below hb)
  replace A2 := hide (A2.out.below hb)
  replace HT := hide (HT.out.below hb)
  clear hb
  have HF := hide hf
  clear hf
  go_wp2_with fail
  refine (ins_ac (t := t0) (12) A1.out HT.out HF.out (by simp) lv4 (L' := []) rfl).mono ?_
  rintro e w12 ⟨a12, cap12, acc12, rfl, ha, hz, hb⟩
  clear HT HF
  replace BB := hide (bstep BB.out hb)
  replace A0 := hide (A0.out.below hb)
  replace A1 := hide (A1.out.below hb)
  replace A2 := hide (A2.out.below hb)
  clear hb
  clear ha hz
  go_wp2_with fail
  refine (prefix_any _).mono ?_
  rintro e w13 ⟨kb13, wb13, rfl, ht, hb⟩
  replace BB := hide (bstep BB.out hb)
  replace A0 := hide (A0.out.below hb)
  replace A1 := hide (A1.out.below hb)
  replace A2 := hide (A2.out.below hb)
  clear hb
  have HT := hide ht
  clear ht
  go_wp2_with fail
  refine (eight_any 193 _).mono ?_
  rintro e w14 ⟨rfl, hb⟩
  replace BB := hide (bstep BB.out hb)
  replace A0 := hide (A0.out.below hb)
  replace A1 := hide (A1.out.below hb)
  replace A2 := hide (A2.out.below hb)
  replace HT := hide (HT.out.below hb)
  clear hb
  replace A0 := hide (A0.out.below (below1 w14 (.cells #[.int .i64 8, .int .u64 0, .int .u64 193] 86)))
  replace A1 := hide (A1.out.below (below1 w14 (.cells #[.int .i64 8, .int .u64 0, .int .u64 193] 86)))
  replace A2 := hide (A2.out.below (below1 w14 (.cells #[.int .i64 8, .int .u64 0, .int .u64 193] 86)))
  replace HT := hide (HT.out.below (below1 w14 (.cells #[.int .i64 8, .int .u64 0, .int .u64 193] 86)))
  replace BB := hide (bstep BB.out (below1 w14 (.cells #[.int .i64 8, .int .u64 0, .int .u64 193] 86)))
  have HN := hide (rdN_one (x := ⟨8, 0, 193⟩) (heap_alloc_new w14 (.cells #[.int .i64 8, .int .u64 0, .int .u64 193] 86)))
  go_wp2_with fail
  refine (find_ac (t := t0) (1) A2.out HT.out HN.out (nbR8 (u64c (by decide) (by decide))) (by simp) lv5).mono ?_
  rintro e w15 ⟨rfl, hb⟩
  clear HT HN
  replace BB := hide (bstep BB.out hb)
  replace A0 := hide (A0.out.below hb)
  replace A1 := hide (A1.out.below hb)
  replace A2 := hide (A2.out.below hb)
  clear hb
  go_wp2_with fail
  refine (prefix_any _).mono ?_
  rintro e w16 ⟨kb16, wb16, rfl, ht, hb⟩
  replace BB := hide (bstep BB.out hb)
  replace A0 := hide (A0.out.below hb)
  replace A1 := hide (A1.out.below hb)
  replace A2 := hide (A2.out.below hb)
  clear hb
  have HT := hide ht
  clear ht
  go_wp2_with fail
  refine (eight_any 144 _).mono ?_
  rintro e w17 ⟨rfl, hb⟩
  replace BB := hide (bstep BB.out hb)
  replace A0 := hide (A0.out.below hb)
  replace A1 := hide (A1.out.below hb)
  replace A2 := hide (A2.out.below hb)
  replace HT := hide (HT.out.below hb)
  clear hb
  replace A0 := hide (A0.out.below (below1 w17 (.cells #[.int .i64 8, .int .u64 0, .int .u64 144] 86)))
  replace A1 := hide (A1.out.below (below1 w17 (.cells #[.int .i64 8, .int .u64 0, .int .u64 144] 86)))
  replace A2 := hide (A2.out.below (below1 w17 (.cells #[.int .i64 8, .int .u64 0, .int .u64 144] 86)))
  replace HT := hide (HT.out.below (below1 w17 (.cells #[.int .i64 8, .int .u64 0, .int .u64 144] 86)))
  replace BB := hide (bstep BB.out (below1 w17 (.cells #[.int .i64 8, .int .u64 0, .int .u64 144] 86)))
  have HN := hide (rdN_one (x := ⟨8, 0, 144⟩) (heap_alloc_new w17 (.cells #[.int .i64 8, .int .u64 0, .int .u64 144] 86)))
  go_wp2_with fail
  refine (find_ac (t := t0) (0) A2.out HT.out HN.out (nbR8 (u64c (by decide) (by decide))) (by simp) lv6).mono ?_
  rintro e w18 ⟨rfl, hb⟩
  clear HT HN
  replace BB := hide (bstep BB.out hb)
  replace A0 := hide (A0.out.below hb)
  replace A1 := hide (A1.out.below hb)
  replace A2 := hide (A2.out.below hb)
  clear hb
  go_wp2_with fail
  refine (prefix_any _).mono ?_
  rintro e w19 ⟨kb19, wb19, rfl, ht, hb⟩
  replace BB := hide (bstep BB.out hb)
  replace A0 := hide (A0.out.below hb)
  replace A1 := hide (A1.out.below hb)
  replace A2 := hide (A2.out.below hb)
  clear hb
  have HT := hide ht
  clear ht
  go_wp2_with fail
  refine (eight_any 1 _).mono ?_
  rintro e w20 ⟨rfl, hb⟩
  replace BB := hide (bstep BB.out hb)
  replace A0 := hide (A0.out.below hb)
  replace A1 := hide (A1.out.below hb)
  replace A2 := hide (A2.out.below hb)
  replace HT := hide (HT.out.below hb)
  clear hb
  replace A0 := hide (A0.out.below (below1 w20 (.cells #[.int .i64 8, .int .u64 0, .int .u64 1] 86)))
  replace A1 := hide (A1.out.below (below1 w20 (.cells #[.int .i64 8, .int .u64 0, .int .u64 1] 86)))
  replace A2 := hide (A2.out.below (below1 w20 (.cells #[.int .i64 8, .int .u64 0, .int .u64 1] 86)))
  replace HT := hide (HT.out.below (below1 w20 (.cells #[.int .i64 8, .int .u64 0, .int .u64 1] 86)))
  replace BB := hide (bstep BB.out (below1 w20 (.cells #[.int .i64 8, .int .u64 0, .int .u64 1] 86)))
  have HN := hide (rdN_one (x := ⟨8, 0, 1⟩) (heap_alloc_new w20 (.cells #[.int .i64 8, .int .u64 0, .int .u64 1] 86)))
  go_wp2_with fail
  refine (find_ac (t := t0) (-1) A2.out HT.out HN.out (nbR8 (u64c (by decide) (by decide))) (by simp) lv7).mono ?_
  rintro e w21 ⟨rfl, hb⟩
  clear HT HN
  replace BB := hide (bstep BB.out hb)
  replace A0 := hide (A0.out.below hb)
  replace A1 := hide (A1.out.below hb)
  replace A2 := hide (A2.out.below hb)
  clear hb
  go_wp2
  go_ret
  exact ⟨rfl, BB.out⟩
end Go.Proofs.YteflnicgohjiiaaGreatDoor
