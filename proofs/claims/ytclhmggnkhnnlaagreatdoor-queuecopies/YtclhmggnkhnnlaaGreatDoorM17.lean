/- Pieces of the proof: QuG. -/
import Derived.Test.YtclhmggnkhnnlaaGreatDoorM16
/- package queue: the iterator over the copies of a pass. -/
namespace Go.Proofs.YtclhmggnkhnnlaaGreatDoor
open Go.RowKit Go.Shelf

attribute [local go_sem] Oper.semAt_some
def pf (gs : List Gp) (e : Ef) : List Int := if isCl e then (gs.getD e.group.toNat ⟨none, 0, []⟩).ps else []
def wl (gs : List Gp) (p : Ps) : List Int := p.es.flatMap (pf gs) ++ (if outB p then [p.port] else [])
theorem wl_lt (gs : List Gp) (p : Ps) (k : Nat) (hk : k < p.es.length) (j : Nat) (hj : j < (pf gs p.es[k]).length) : ((p.es.take k).flatMap (pf gs)).length + j < (wl gs p).length := by
  have e : p.es = p.es.take k ++ p.es[k] :: p.es.drop (k + 1) := by rw [← List.drop_eq_getElem_cons hk, List.take_append_drop]
  have : (p.es.flatMap (pf gs)).length = ((p.es.take k).flatMap (pf gs)).length + ((pf gs p.es[k]).length + ((p.es.drop (k + 1)).flatMap (pf gs)).length) := by
    conv => lhs; rw [e]
    rw [List.flatMap_append, List.length_append, List.flatMap_cons, List.length_append]
  unfold wl
  rw [List.length_append, this]
  omega
theorem fm_succ (gs : List Gp) (p : Ps) (k : Nat) (hk : k < p.es.length) : (p.es.take (k + 1)).flatMap (pf gs) = (p.es.take k).flatMap (pf gs) ++ pf gs p.es[k] := by
  rw [List.take_succ_eq_append_getElem hk, List.flatMap_append]; simp
/- Where the iterator stands: q is what has been told. -/
structure Itr (J : List Cy → World → Prop) (E : Nat → Prop) (n₀ : Nat) (W : World) (xs : List Nat) (q : List Int) (pre : List Cy) (wr : World) : Prop where
  q : pre.map Cy.port = q
  x : ∀ y ∈ pre, y.xs = xs
  j : ∃ W0, J pre W0 ∧ Below W0.heap.size W0 wr
  k : KeepBut E n₀ W wr
  n : n₀ ≤ wr.heap.size
theorem Itr.below {J : List Cy → World → Prop} {E : Nat → Prop} {n₀ : Nat} {W : World} {xs : List Nat} {q : List Int} {pre : List Cy} {wr w' : World} (h : Itr J E n₀ W xs q pre wr) (hb : Below wr.heap.size wr w') : Itr J E n₀ W xs q pre w' := by
  obtain ⟨W0, h1, h2⟩ := h.j
  exact ⟨h.q, h.x, ⟨W0, h1, bstep h2 hb⟩, h.k.t (KeepBut.ofBelow hb h.n), Nat.le_trans h.n hb.size⟩
def encC (c : Cy) : Array Value := #[.agg #[.int .i64 c.port, .slice c.a c.xs.length c.cap]]
def ElC (xs : List Nat) (c : Cy) (W0 W1 : World) : Prop := c.xs = xs ∧ Own8 W1 W0.heap.size (.slice c.a c.xs.length c.cap) c.xs
theorem zeroEf : ∀ w, (zeroValue 95).run Tryz.prog w = .ok (.agg ([.int .u8 0, .string ⟨#[]⟩, .int .i64 0, .int .i64 0, .int .u64 0, .int .u64 0, .slice none 0 0, .int .i64 0, .string ⟨#[]⟩, .int .i64 0] : List Value).toArray) w := fun w => by kernel_rfl
theorem ef_one (e : Ef) : ∀ u ∈ e.cells, u.oneCell' = true := fun u hu => by
  simp only [Ef.cells, List.mem_cons, List.not_mem_nil, or_false] at hu
  rcases hu with rfl | rfl | rfl | rfl | rfl | rfl | rfl | rfl | rfl | rfl <;> rfl
theorem asks_no {n : Nat} {e : Ef} (h : asks n e = false) (hc : isCl e = true) : 0 ≤ e.group ∧ e.group.toNat < n := by
  unfold asks at h
  rw [hc] at h
  simp at h
  omega
set_option maxRecDepth 100000 in
set_option maxHeartbeats 4000000 in
theorem iter_in (n : Nat) (hn : 1 ≤ n) (lp n₀ pb gb gc : Nat) (ga : Option Addr) (E : Nat → Prop) (p : Ps) (gs : List Gp) (J : List Cy → World → Prop) (W : World) (hs : Src (fun b => b < n₀ ∧ ¬ E b) W pb gb p ga gc gs) (hn0 : n₀ ≤ W.heap.size)
    (hY : ∀ pre x W0 W1, J pre W0 → pre.length < (wl gs p).length → Below W0.heap.size W0 W1 → ElC p.xs x W0 W1 → YieldAt Fence.wide (n - 1) Tryz.prog lp (encC x) W1 fun e W' => e = .returned (.bool true) ∧ J (pre ++ [x]) W' ∧ KeepBut E n₀ W1 W')
    (hJ : J [] W) :
    CallsIn Fence.wide n Tryz.prog 134 #[.func (.yield lp) #[] #[], .pointer (some ⟨pb, 0, none⟩), .pointer (some ⟨gb, 0, none⟩)] W fun e W' => (∃ v, e = .returned v) ∧ ∃ ys W0, (ys.map Cy.port = wl gs p ∧ ∀ y ∈ ys, y.xs = p.xs) ∧ J ys W0 ∧ Below W0.heap.size W0 W' := by
  have HS : Hid (∀ wr, KeepBut E n₀ W wr → Src (fun b => b < n₀ ∧ ¬ E b) wr pb gb p ga gc gs) := fun wr hk => hs.keep hk.1 (fun b hb => hk.2 b hb.1 hb.2)
  have HYC : Hid (∀ q pre wr w3 z a' c', Itr J E n₀ W p.xs q pre wr → q.length < (wl gs p).length → Own8 w3 wr.heap.size (.slice a' p.xs.length c') p.xs → Below wr.heap.size wr w3 → YieldAt Fence.wide (n - 1) Tryz.prog lp #[.agg #[.int .i64 z, .slice a' p.xs.length c']] w3 fun e W' => e = .returned (.bool true) ∧ ∃ pre', Itr J E n₀ W p.xs (q ++ [z]) pre' W') := fun q pre wr w3 z a' c' hi hq ho hb => by
    obtain ⟨W0, j1, j2⟩ := hi.j
    obtain ⟨fn, tmps, assign, body, hy, hR⟩ := hY pre ⟨z, a', c', p.xs⟩ W0 w3 j1 (by have := hi.q; have e : pre.length = q.length := by rw [← this]; simp
                                                                                     omega) (bstep j2 hb) ⟨rfl, ho.lower j2.size⟩
    refine ⟨fn, tmps, assign, body, hy, hR.mono ?_⟩
    rintro e W' ⟨rfl, hj, hk⟩
    refine ⟨rfl, _, ⟨by rw [List.map_append, hi.q]; rfl, fun y hy => ?_, ⟨W', hj, Below.refl _ _⟩, (hi.below hb).k.t hk, Nat.le_trans (hi.below hb).n hk.1⟩⟩
    rcases List.mem_append.1 hy with h | h
    · exact hi.x y h
    · rw [List.mem_singleton.1 h]
  have hI0 : Itr J E n₀ W p.xs [] [] W := ⟨rfl, fun y h => by simp at h, ⟨W, hJ, Below.refl _ _⟩, KeepBut.refl, hn0⟩
  have HI0 := hide hI0
  have c5 := cellA hs.pbk 5
  simp only [Ps.cells, List.getElem?_toArray, List.getElem?_cons_succ, List.getElem?_cons_zero] at c5
  have hle := hs.le
  clear hs hn0 hY hJ hI0
  generalize hJJ : Itr J E n₀ W p.xs = JJ at *
  have HB : Hid (∀ q pre wr w', JJ q pre wr → Below wr.heap.size wr w' → JJ q pre w') := fun q pre wr w' h hb => by rw [← hJJ] at *; exact h.below hb
  have HKB : Hid (∀ q pre wr, JJ q pre wr → Src (fun b => b < n₀ ∧ ¬ E b) wr pb gb p ga gc gs) := fun q pre wr h => by rw [← hJJ] at h; exact HS.out wr h.k
  have HFIN : Hid (∀ q pre wr, JJ q pre wr → q = wl gs p → ∃ ys W0, (ys.map Cy.port = wl gs p ∧ ∀ y ∈ ys, y.xs = p.xs) ∧ J ys W0 ∧ Below W0.heap.size W0 wr) := fun q pre wr h e => by
    rw [← hJJ] at h
    obtain ⟨W0, h1, h2⟩ := h.j
    exact ⟨pre, W0, ⟨by rw [h.q, e], h.x⟩, h1, h2⟩
  clear hJJ HS
  refine callsIn_of_wp Tryz.func134 rfl trivial ?_ rfl
  simp only [Tryz.ntmps134, List.size_toArray, List.length_cons, List.length_nil, Nat.reduceAdd, Nat.reduceSub, Array.replicate_succ, Array.replicate_zero, List.push_toArray, List.append_toArray, List.nil_append, List.cons_append]
  gi_wp2
  gi_loopw [11] (fun i wr => ∃ (k : Nat) (pre : List Cy), k ≤ p.es.length ∧ i = .int .i64 k ∧ JJ ((p.es.take k).flatMap (pf gs)) pre wr) (fun i _ => p.es.length - (intOf i).toNat)
  case atStart => exact ⟨0, [], Nat.zero_le _, rfl, HI0.out⟩
  case round =>
    obtain ⟨k, pre, hk, rfl, hj⟩ := hrel
    have HJ := hide hj
    clear hj c5
    by_cases hlt : k < p.es.length
    · have hlI : (k : Int) < (p.es.length : Int) := by omega
      obtain ⟨ep, eo, hea, hep, hcl⟩ := (HKB.out _ _ _ HJ.out).re.get (by omega)
      have HCL : Hid (∀ j u, (p.es[k].cells)[j]? = some u → wr.cell? ⟨ep, eo + k * 10 + j, none⟩ = some u) := hcl k hlt
      have HFM := hide (fm_succ gs p k hlt)
      have HLT := hide (wl_lt gs p k hlt)
      have HAK := hide (asks_no ((HKB.out _ _ _ HJ.out).ask _ (List.getElem_mem hlt)))
      have HISC : Hid (∀ W, _) := fun W => isClone_any p.es[k] W
      have HONE := hide (ef_one p.es[k])
      have HLN : Hid (p.es[k].cells.length = 10) := rfl
      have HC7 : Hid (p.es[k].cells[7]? = some (.int .i64 p.es[k].group)) := rfl
      have HPF : Hid (pf gs p.es[k] = if isCl p.es[k] then (gs.getD p.es[k].group.toNat ⟨none, 0, []⟩).ps else []) := rfl
      clear hcl
      rw [hea]
      generalize p.es[k].cells = cs at *
      generalize p.es[k].group = gz at *
      generalize isCl p.es[k] = t at *
      generalize pf gs p.es[k] = pk at *
      gi_wp2_with (first
        | (refine wpListIn_loadW rfl 95 _ rfl ep (eo + k * 10) cs rfl aggEf (by rw [HLN.out]; exact szEf) HCL.out ?_)
        | (refine wpListIn_allocZ rfl 95 rfl _ zeroEf ?_; intro w1 hw1; have b1 := below1 wr (.cells ([.int .u8 0, .string ⟨#[]⟩, .int .i64 0, .int .i64 0, .int .u64 0, .int .u64 0, .slice none 0 0, .int .i64 0, .string ⟨#[]⟩, .int .i64 0] : List Value).toArray 95); have z1 := heap_alloc_new wr (.cells ([.int .u8 0, .string ⟨#[]⟩, .int .i64 0, .int .i64 0, .int .u64 0, .int .u64 0, .slice none 0 0, .int .i64 0, .string ⟨#[]⟩, .int .i64 0] : List Value).toArray 95); rw [← hw1.out] at b1 z1; have B1 := hide b1; have Z1 := hide z1; clear b1 z1 hw1)
        | (refine wpListIn_storeA rfl 95 _ _ rfl wr.heap.size cs _ 95 rfl rfl (by rw [HLN.out]; exact szEf) Z1.out (by rw [HLN.out]; rfl) HONE.out ?_; intro w2 hw2; have z2 : w2.heap[wr.heap.size]? = some (.cells cs.toArray 95 (0, 0)) := (by rw [hw2.out]; exact got0 Z1.out (by rw [HLN.out]; rfl)); have f2 : Fr (· = wr.heap.size) w1 w2 := (by rw [hw2.out]; exact fr_all _ _ _ _); have Z2 := hide z2; have B2 := hide (B1.out.trans (f2.below (fun b e => by omega) B1.out.size)); clear z2 f2 hw2)
        | (refine wpListIn_loadA rfl 95 _ rfl wr.heap.size cs 95 rfl aggEf (by rw [HLN.out]; exact szEf) Z2.out ?_))
      refine ⟨trivial, (callsIn_wide.2 (HISC.out _)).mono ?_⟩
      rintro e w3 ⟨rfl, hb3⟩
      have J3 := hide (HB.out _ _ _ w3 HJ.out (bstep B2.out hb3))
      cases t with
      | false =>
        have HQ : Hid ((p.es.take (k + 1)).flatMap (pf gs) = (p.es.take k).flatMap (pf gs)) := by show _ = _; rw [HFM.out, HPF.out]; simp
        clear hb3
        gi_wp2
        go_roundw
        case rel => exact ⟨k + 1, pre, by omega, by go_num, by rw [HQ.out]; exact J3.out⟩
        case measure => simp [intOf]; omega
      | true =>
        obtain ⟨g0, g1⟩ := HAK.out rfl
        obtain ⟨g, rfl⟩ : ∃ g : Nat, gz = g := ⟨gz.toNat, by omega⟩
        rw [Int.toNat_natCast] at g1
        have c7 : w3.cell? ⟨wr.heap.size, 7, none⟩ = some (.int .i64 g) := by rw [cellA (heap_below hb3 Z2.out)]; simpa using HC7.out
        obtain ⟨gp, go', hga, hgp, hgc⟩ := (HKB.out _ _ _ J3.out).rgs.get (by omega)
        have cg : w3.cell? ⟨gp, go' + g, none⟩ = some (.slice gs[g].a gs[g].ps.length gs[g].cap) := by have := hgc g g1 0 _ rfl; rw [Nat.mul_one, Nat.add_zero] at this; exact this
        have c0 := at1 (HKB.out _ _ _ J3.out).gbk
        rw [hga] at c0
        have hgI : (g : Int) < (gs.length : Int) := by omega
        have HPK : Hid (pk = gs[g].ps) := by
          show _ = _
          rw [HPF.out, if_pos rfl, Int.toNat_natCast, List.getD_eq_getElem?_getD, List.getElem?_eq_getElem g1]; rfl
        have HRZ : Hid (∀ q pre wr, JJ q pre wr → RdZ wr gs[g].a gs[g].ps ∧ gs[g].ps.length ≤ 1000000) := fun q pre wr h => ((HKB.out _ _ _ h).rz _ (List.getElem_mem g1)).2
        rw [← HPK.out] at cg HRZ
        have HPL : Hid (pk.length ≤ 1000000) := (HRZ.out _ _ _ J3.out).2
        clear hgc g0 hb3
        generalize gs[g].a = za at *
        generalize gs[g].cap = zc at *
        gi_wp2
        gi_loopw [25] (fun i wr2 => ∃ (j : Nat) (pre2 : List Cy), j ≤ pk.length ∧ i = .int .i64 j ∧ JJ ((p.es.take k).flatMap (pf gs) ++ pk.take j) pre2 wr2) (fun i _ => pk.length - (intOf i).toNat)
        case atStart => exact ⟨0, pre, Nat.zero_le _, rfl, by rw [List.take_zero, List.append_nil]; exact J3.out⟩
        case round =>
          obtain ⟨j, pre2, hjl, rfl, hj2⟩ := hrel
          have J2 := hide hj2
          clear hj2 c7 cg c0
          by_cases hjt : j < pk.length
          · have hjI : (j : Int) < (pk.length : Int) := by omega
            have hpkl := HPL.out
            obtain ⟨zp, zo, rfl, hzp, hzc⟩ := (HRZ.out _ _ _ J2.out).1.some (by omega)
            have z0 := hzc j hjt
            have HPB := hide (HKB.out _ _ _ J2.out).pbk
            have HP6 : Hid (p.cells.length = 6) := rfl
            have HCF : Hid (∀ z, _) := fun z => copyFor_any z p wr (HKB.out _ _ _ J2.out).lx (HKB.out _ _ _ J2.out).rx (HKB.out _ _ _ J2.out).nx
            have HTK : Hid (pk.take (j + 1) = pk.take j ++ [pk[j]]) := List.take_succ_eq_append_getElem hjt
            have HLL : Hid (((p.es.take k).flatMap (pf gs) ++ pk.take j).length < (wl gs p).length) := by
              show _ < _
              rw [List.length_append, List.length_take, Nat.min_eq_left (by omega)]
              exact HLT.out j hjt
            clear hzc hzp
            generalize p.cells = pcs at *
            generalize p.xs = xs at *
            generalize pk[j] = z at *
            gi_wp2_with (refine wpListIn_loadA rfl 27 _ rfl pb pcs 27 rfl aggPs (by rw [HP6.out]; exact szPs) HPB.out ?_)
            refine ⟨trivial, (callsIn_wide.2 (HCF.out z)).mono ?_⟩
            rintro e w4 ⟨a', c', rfl, ho, hb4⟩
            obtain ⟨fn, tmps, assign, body, hy, hYR⟩ := HYC.out _ _ wr w4 z a' c' J2.out HLL.out ho hb4
            clear ho hb4
            gi_wp2
            refine hYR.mono ?_
            rintro e w5 ⟨rfl, pre', hJ5⟩
            have J5 := hide hJ5
            clear hJ5 hYR hy
            gi_wp2
            go_roundw
            case rel => exact ⟨j + 1, pre', by omega, by go_num, by rw [HTK.out, ← List.append_assoc]; exact J5.out⟩
            case measure => simp [intOf]; omega
          · obtain rfl : j = pk.length := by omega
            rw [List.take_length] at J2
            gi_wp2
            go_roundw
            case rel => exact ⟨k + 1, pre2, by omega, by go_num, by rw [HFM.out]; exact J2.out⟩
            case measure => simp [intOf]; omega
    · obtain rfl : k = p.es.length := by omega
      have HPB := hide (HKB.out _ _ _ HJ.out).pbk
      have HP6 : Hid (p.cells.length = 6) := rfl
      have HGO : Hid (∀ W, _) := fun W => goesOut_any p W
      have HSR := hide (HKB.out _ _ _ HJ.out)
      have HCF : Hid (∀ z W, Below wr.heap.size wr W → _) := fun z W hb => copyFor_any z p W (HKB.out _ _ _ (HB.out _ _ _ _ HJ.out hb)).lx (HKB.out _ _ _ (HB.out _ _ _ _ HJ.out hb)).rx (HKB.out _ _ _ (HB.out _ _ _ _ HJ.out hb)).nx
      have HWL : Hid (wl gs p = (p.es.take p.es.length).flatMap (pf gs) ++ (if outB p then [p.port] else [])) := by show _ = _; rw [List.take_length]; rfl
      have HC2 : Hid (p.cells[2]? = some (.int .i64 p.port)) := rfl
      generalize p.cells = cs at *
      generalize p.port = port at *
      generalize outB p = t at *
      generalize hxs : p.xs = xs at *
      have HXS := hide hxs
      clear hxs
      cases t with
      | false =>
        gi_wp2_with (refine wpListIn_loadA rfl 27 _ rfl pb cs 27 rfl aggPs (by rw [HP6.out]; exact szPs) HPB.out ?_)
        refine ⟨trivial, (callsIn_wide.2 (HGO.out _)).mono ?_⟩
        rintro e w3 ⟨rfl, hb3⟩
        have J3 := hide (HB.out _ _ _ w3 HJ.out hb3)
        clear hb3
        gi_wp2
        go_end0
        rw [HXS.out]
        exact ⟨⟨_, rfl⟩, HFIN.out _ _ _ J3.out (by rw [HWL.out]; simp)⟩
      | true =>
        gi_wp2_with (refine wpListIn_loadA rfl 27 _ rfl pb cs 27 rfl aggPs (by rw [HP6.out]; exact szPs) HPB.out ?_)
        refine ⟨trivial, (callsIn_wide.2 (HGO.out _)).mono ?_⟩
        rintro e w3 ⟨rfl, hb3⟩
        have J3 := hide (HB.out _ _ _ w3 HJ.out hb3)
        have HPB3 := hide (heap_below hb3 HPB.out)
        have B3 := hide hb3
        have c2 : w3.cell? ⟨pb, 2, none⟩ = some (.int .i64 port) := by rw [cellA HPB3.out]; simpa using HC2.out
        clear hb3
        gi_wp2_with (refine wpListIn_loadA rfl 27 _ rfl pb cs 27 rfl aggPs (by rw [HP6.out]; exact szPs) HPB3.out ?_)
        refine ⟨trivial, (callsIn_wide.2 (HCF.out port _ B3.out)).mono ?_⟩
        rintro e w4 ⟨a', c', rfl, ho, hb4⟩
        obtain ⟨fn, tmps, assign, body, hy, hYR⟩ := HYC.out _ _ w3 w4 port a' c' J3.out (by rw [HWL.out]; simp) ho hb4
        clear ho hb4 c2
        gi_wp2
        refine hYR.mono ?_
        rintro e w5 ⟨rfl, pre', hJ5⟩
        have J5 := hide hJ5
        clear hJ5 hYR
        gi_wp2
        go_end0
        rw [HXS.out]
        exact ⟨⟨_, rfl⟩, HFIN.out _ _ _ J5.out (by rw [HWL.out]; simp)⟩
end Go.Proofs.YtclhmggnkhnnlaaGreatDoor
