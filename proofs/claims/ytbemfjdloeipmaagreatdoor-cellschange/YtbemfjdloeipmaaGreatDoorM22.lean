/- Pieces of the proof: CeU. -/
import Derived.Test.YtbemfjdloeipmaaGreatDoorM18
import Derived.Test.YtbemfjdloeipmaaGreatDoorM21
/- package cells: Meter, where there is such a cell. -/
namespace Go.Proofs.YtbemfjdloeipmaaGreatDoor
open Go.RowKit

theorem may_five {a : Ar} (h : mayA a = true) (hk : a.kind = 5) : 0 ≤ a.rate ∧ a.rate ≤ 65535 ∧ 1 ≤ a.burst ∧ a.burst ≤ 65535 ∧ a.ls.length = a.cs.length ∧ (∀ n ∈ a.ls, 0 ≤ n) ∧ (∀ b ∈ a.cs, b.lo ≤ a.burst) := by
  simp only [mayA, Bool.and_eq_true] at h
  obtain ⟨h1, h2, h3⟩ := h
  unfold frameB at h1
  rw [if_neg (by rw [hk]; decide), if_neg (by rw [hk]; decide), if_pos hk] at h1
  simp only [Bool.and_eq_true, fromB, ticksB, beq_iff_eq, decide_eq_true_eq, Bool.not_eq_true', List.any_eq_false] at h1
  obtain ⟨_, ⟨r0, r1⟩, ⟨b0, b1⟩, hl, hn⟩ := h1
  refine ⟨r0, r1, b0, b1, hl, fun n hn' => ?_, fun b hb => ?_⟩
  · have := hn n hn'; omega
  · rw [Bool.not_eq_true'] at h3
    have := List.any_eq_false.1 h3 b hb
    simp only [Bool.not_eq_true, Bool.not_eq_false'] at this
    simp only [holdsB, Bool.and_eq_true, Bool.or_eq_true, hk, beq_self_eq_true, Bool.not_true, Bool.false_eq_true, false_or, decide_eq_true_eq] at this
    have hw : IntKind.u64.wrap a.burst = a.burst := by rw [IntKind.wrap_u64]; omega
    have h4 := this.2.2
    rw [hw] at h4
    exact h4
def metA (a : Ar) (k : Nat) (now : Int) : Ar := { a with cs := a.cs.set k ⟨64, 0, tokA a k now - min (tokA a k now) 1⟩, ls := a.ls.set k (max (a.ls.getD k 0) now) }
theorem tok_r {a : Ar} {k : Nat} {now : Int} (h0 : 0 ≤ a.rate) (hb : 1 ≤ a.burst) (hb1 : a.burst ≤ 65535) (hu : 0 ≤ (a.cs.getD k nb0).lo) : 0 ≤ tokA a k now ∧ tokA a k now ≤ a.burst := by
  unfold tokA
  have ht : 0 ≤ tickA a k now := by unfold tickA; simp only [Int.min_def, Int.max_def]; split <;> (try split) <;> omega
  have := Int.mul_nonneg ht h0
  simp only [Int.min_def]
  split <;> omega
theorem ar_len7 (name : ByteArray) (kind aw rate burst : Int) (v u : Option Addr × Nat × Nat) : [Value.string name, .int .u8 kind, .int .i64 aw, .int .i64 rate, .int .i64 burst, .slice v.1 v.2.1 v.2.2, .slice u.1 u.2.1 u.2.2].length = 7 := rfl
/- What lies there behind 'x = x.with(..)'. -/
structure MeV (w W : World) (name : ByteArray) (kind aw rate burst : Int) (g1 g2 n1 n2 : Nat) (CS LS : List Value) (iw ih il : Int) : Prop where
  bl : Below w.heap.size w W
  bx : W.heap[w.heap.size + 1 + 1 + 1 + 1]? = some (.cells #[.string name, .int .u8 kind, .int .i64 aw, .int .i64 rate, .int .i64 burst, .slice (some ⟨g1, 0, none⟩) n1 n1, .slice (some ⟨g2, 0, none⟩) n2 n2] 93 (0, 0))
  b3 : W.heap[w.heap.size + 1 + 1 + 1]? = some (.cells #[.int .i64 0, .int .u64 0, .int .u64 0] 29 (0, 0))
  b2 : W.heap[w.heap.size + 1 + 1]? = some (.cells zeroC.toArray 26 (0, 0))
  c1 : W.heap[g1]? = some (.cells CS.toArray 29 (0, 0))
  c2 : W.heap[g2]? = some (.cells LS.toArray 3 (0, 0))
  l1 : w.heap.size + 5 ≤ g1
  l2 : w.heap.size + 5 ≤ g2
theorem me_of {w w5 : World} {name : ByteArray} {kind aw rate burst : Int} {g1 g2 n1 n2 : Nat} {CS LS : List Value} {iw ih il : Int} {ys : Array Value} (bl : Below w.heap.size w w5) (b2 : w5.heap[w.heap.size + 1 + 1]? = some (.cells zeroC.toArray 26 (0, 0))) (b3 : w5.heap[w.heap.size + 1 + 1 + 1]? = some (.cells #[.int .i64 0, .int .u64 0, .int .u64 0] 29 (0, 0))) (bx : w5.heap[w.heap.size + 1 + 1 + 1 + 1]? = some (.cells ys 93 (0, 0))) (c1 : w5.heap[g1]? = some (.cells CS.toArray 29 (0, 0))) (c2 : w5.heap[g2]? = some (.cells LS.toArray 3 (0, 0))) (l1 : w.heap.size + 5 ≤ g1) (l2 : w.heap.size + 5 ≤ g2) (hy : ys.size = 7 := by rfl) :
    MeV w (setAll (w.heap.size + 1 + 1 + 1 + 1) w5 0 [.string name, .int .u8 kind, .int .i64 aw, .int .i64 rate, .int .i64 burst, .slice (some ⟨g1, 0, none⟩) n1 n1, .slice (some ⟨g2, 0, none⟩) n2 n2]) name kind aw rate burst g1 g2 n1 n2 CS LS iw ih il := by
  have hf := fr_all (w.heap.size + 1 + 1 + 1 + 1) [.string name, .int .u8 kind, .int .i64 aw, .int .i64 rate, .int .i64 burst, .slice (some ⟨g1, 0, none⟩) n1 n1, .slice (some ⟨g2, 0, none⟩) n2 n2] w5 0
  have key : ∀ {b o}, w5.heap[b]? = some o → b ≠ w.heap.size + 1 + 1 + 1 + 1 → (setAll (w.heap.size + 1 + 1 + 1 + 1) w5 0 [.string name, .int .u8 kind, .int .i64 aw, .int .i64 rate, .int .i64 burst, .slice (some ⟨g1, 0, none⟩) n1 n1, .slice (some ⟨g2, 0, none⟩) n2 n2]).heap[b]? = some o := fun h hn => (hf.block _ (lt_heap h) hn).trans h
  exact ⟨bl.trans (hf.below (fun b e => by omega) bl.size), got0 bx hy, key b3 (by omega), key b2 (by omega), key c1 (by omega), key c2 (by omega), l1, l2⟩
theorem soft_cell {W : World} {g : Nat} {t : TypeId} {cs : List Value} (h : W.heap[g]? = some (.cells cs.toArray t (0, 0))) (j : Nat) : W.frozen? ⟨g, j, none⟩ = false := softA h j
theorem me_set {w W : World} {name : ByteArray} {kind aw rate burst : Int} {g1 g2 n1 n2 : Nat} {CS LS LS' : List Value} {iw ih il : Int} (h : MeV w W name kind aw rate burst g1 g2 n1 n2 CS LS iw ih il) (k : Nat) (v : Value) (hs : LS.set k v = LS') : MeV w (W.setCell ⟨g2, k, none⟩ v).drew name kind aw rate burst g1 g2 n1 n2 CS LS' iw ih il := by
  have h1 := h.l1
  have h2 := h.l2
  have hne : g1 ≠ g2 := fun e => by
    have c1 := h.c1
    rw [e, h.c2] at c1
    injection c1 with c1
    injection c1 with _ c1 _
    exact absurd c1 (by decide)
  have key : ∀ {b o}, W.heap[b]? = some o → b ≠ g2 → (W.setCell ⟨g2, k, none⟩ v).drew.heap[b]? = some o := fun hb hn => (Below.heap_setCell W ⟨g2, k, none⟩ v _ hn).trans hb
  refine ⟨(h.bl.setCell (by show w.heap.size ≤ g2; omega) v).drew, key h.bx (by omega), key h.b3 (by omega), key h.b2 (by omega), key h.c1 hne, ?_, h1, h2⟩
  have := heap_setCell_same (W := W) (g := g2) (k := k) h.c2 v
  rw [← hs]
  refine Eq.trans this ?_
  simp
set_option maxRecDepth 100000 in
set_option maxHeartbeats 8000000 in
theorem meter_yes (x : ArL) (i : Nb) (now : Int) (w : World) (hx : ArR w x) (hi : NbR i) (h0 : 0 ≤ now) (h1 : now < 9223372036854775808) (hc : (findA 5 x.a i).2 = 0) :
    Calls Tryz.prog 10 #[x.val, i.val, .int .i64 now] w fun e w' => ∃ ca la, e = .returned (.tuple #[arV (metA x.a i.lo.toNat now) ca la, .agg #[.int .i64 1, .int .u64 0, .int .u64 (min (tokA x.a i.lo.toNat now) 1)], .int .i64 0]) ∧ ArN w' w.heap.size (metA x.a i.lo.toNat now) ca la ∧ Below w.heap.size w w' := by
  have HF : Hid (∀ W, Below w.heap.size w W → _) := fun W hb => cfind_any 5 x i W (hx.below hb) hi (by decide)
  obtain ⟨hk5, hm, -, -, h5, h6⟩ := findA_yes hc
  rw [hc, h6] at HF
  obtain ⟨-, hl1, hl2⟩ := may_len hm
  obtain ⟨r0, r1, b0, b1, hll, hln, hcb⟩ := may_five hm hk5
  obtain ⟨k, hk⟩ := Int.eq_ofNat_of_zero_le hi.lo.1
  have hkc : k < x.a.cs.length := by omega
  have hkl : k < x.a.ls.length := by omega
  rw [hk, Int.toNat_natCast]
  have gl : x.a.ls.getD k 0 = x.a.ls[k] := by rw [List.getD_eq_getElem?_getD, List.getElem?_eq_getElem hkl]; rfl
  have gc : x.a.cs.getD k nb0 = x.a.cs[k] := by rw [List.getD_eq_getElem?_getD, List.getElem?_eq_getElem hkc]; rfl
  have hlast : 0 ≤ x.a.ls.getD k 0 := by rw [gl]; exact hln _ (List.getElem_mem hkl)
  have hcell : (x.a.cs.getD k nb0).lo ≤ x.a.burst := by rw [gc]; exact hcb _ (List.getElem_mem hkc)
  have hcell0 : 0 ≤ (x.a.cs.getD k nb0).lo := by rw [gc]; exact (hx.cr _ (List.getElem_mem hkc)).lo.1
  obtain ⟨tk0, tk1⟩ := tok_r (now := now) r0 b0 b1 hcell0
  have HT : Hid (∀ W, Below w.heap.size w W → _) := fun W hb => tokens_any x k now W (hx.below hb) hkc hkl h0 h1 r0 r1 b0 b1 hlast hcell
  obtain ⟨t, ht⟩ : ∃ t, t = tokA x.a k now := ⟨_, rfl⟩
  obtain ⟨tk, htk⟩ : ∃ tk, tk = min t 1 := ⟨_, rfl⟩
  have e1 : (if 1 < t then 1 else t) = tk := by rw [htk]; simp only [Int.min_def]; split <;> split <;> omega
  have w1 : IntKind.u64.wrap (t - tk) = t - tk := by rw [htk, IntKind.wrap_u64]; simp only [Int.min_def]; split <;> omega
  have HWD : Hid (Pure 27 #[.int .u64 (t - tk)] _) := word_any _
  have HWI : Hid (∀ W, Below w.heap.size w W → _) := fun W hb => with_any x k ⟨64, 0, t - tk⟩ W (hx.below hb) (by omega) (by omega) hkc
  obtain ⟨mx, hmx⟩ : ∃ mx, mx = max (x.a.ls.getD k 0) now := ⟨_, rfl⟩
  have e2 : (if x.a.ls.getD k 0 < now then now else x.a.ls.getD k 0) = mx := by rw [hmx]; simp only [Int.max_def]; split <;> split <;> omega
  have HGL : Hid ((flat intC x.a.ls)[k]? = some (.int .i64 (x.a.ls.getD k 0))) := by
    have := flat_get int_len x.a.ls k 0 hkl (by decide)
    rw [Nat.mul_one, Nat.add_zero] at this
    rw [gl]
    exact this
  have HSET : Hid ((flat intC x.a.ls).set k (.int .i64 mx) = flat intC (x.a.ls.set k mx)) := by
    apply List.ext_getElem?
    intro j
    have hfl : ∀ l : List Int, flat intC l = l.map (fun n => Value.int .i64 n) := fun l => by
      induction l with
      | nil => rfl
      | cons y l ih => unfold flat at *; rw [List.flatMap_cons, ih]; rfl
    rw [hfl, hfl, List.map_set]
  have hkcI : ((k : Int) < (x.a.cs.length : Int)) := by omega
  have hklI : ((k : Int) < (x.a.ls.length : Int)) := by omega
  have HLC := hide (show 0 < (flat Nb.cells (x.a.cs.set k ⟨64, 0, t - tk⟩)).length by rw [flat_len3]; simp; omega)
  have HLL := hide (show 0 < (flat intC x.a.ls).length by rw [flat_length int_len]; omega)
  suffices H : ∀ Q : Ending → World → Prop, (∀ g1 g2 W', w.heap.size ≤ g1 → W'.heap[g1]? = some (.cells (flat Nb.cells (x.a.cs.set k ⟨64, 0, t - tk⟩)).toArray 29 (0, 0)) → w.heap.size ≤ g2 → W'.heap[g2]? = some (.cells (flat intC (x.a.ls.set k mx)).toArray 3 (0, 0)) → Below w.heap.size w W' → Q (.returned (.tuple #[.agg #[.string x.a.name, .int .u8 x.a.kind, .int .i64 x.a.w, .int .i64 x.a.rate, .int .i64 x.a.burst, .slice (some ⟨g1, 0, none⟩) x.a.cs.length x.a.cs.length, .slice (some ⟨g2, 0, none⟩) x.a.ls.length x.a.ls.length], .agg #[.int .i64 1, .int .u64 0, .int .u64 tk], .int .i64 0])) W') → Calls Tryz.prog 10 #[x.val, i.val, .int .i64 now] w Q from by
    refine H _ (fun g1 g2 W' k1 k2 k3 k4 k5 => ?_)
    rw [hmx] at k4
    rw [htk, ht] at k2 ⊢
    exact ⟨some ⟨g1, 0, none⟩, some ⟨g2, 0, none⟩, by simp [arV, metA], ⟨.inr ⟨g1, rfl, k1, k2⟩, .inr ⟨g2, rfl, k3, k4⟩⟩, k5⟩
  intro Q hQ
  have HQ := hide hQ
  rw [← ht] at HT
  have n0 : (now < 0) = False := by simp; omega
  clear hQ hx hi hc hm h5 h6 hl1 hl2 hll hln hcb r0 r1 b0 b1 gl gc hlast hcell hcell0 tk0 tk1 ht htk hmx hk5 hkc hkl h0 h1
  generalize x.a.ls.getD k 0 = last at *
  generalize flat Nb.cells (x.a.cs.set k ⟨64, 0, t - tk⟩) = CS at *
  generalize flat intC (x.a.ls.set k mx) = LS' at *
  generalize flat intC x.a.ls = LS at *
  obtain ⟨⟨name, kind, aw, rate, burst, cs, ls⟩, ca, cc, la, lc⟩ := x
  obtain ⟨iw, ih, il⟩ := i
  simp only [ArL.val, Nb.val] at *
  subst hk
  generalize cs.length = n1 at *
  generalize ls.length = n2 at *
  go_enter Tryz.func10, Tryz.ntmps10
  go_wp2_with fail
  refine (HF.out _ (below5 _ _ _ _ _ _)).mono ?_
  rintro e w2 ⟨rfl, hb⟩
  have BB := hide (bstep (below5 _ _ _ _ _ _) hb)
  have K3 := hide (heap_below hb (heap_past _ (heap_past _ (heap_trd _ _ _ _ _))))
  have K4 := hide (heap_below hb (heap_past _ (heap_fth _ _ _ _ _ _)))
  have K5 := hide (heap_below hb (heap_fif _ _ _ _ _ _ _))
  have HZ := hide (show w.heap.size + 5 ≤ w2.heap.size by have := hb.size; simp at this; omega)
  obtain ⟨p0, p1, p2, p3, p4, p5, p6⟩ := at7 K5.out
  clear hb
  go_wp2_with fail
  refine (HT.out _ BB.out).mono ?_
  rintro e w3 ⟨rfl, hb⟩
  replace BB := hide (bstep BB.out hb)
  replace K3 := hide (heap_below hb K3.out)
  replace K4 := hide (heap_below hb K4.out)
  replace K5 := hide (heap_below hb K5.out)
  replace HZ := hide (Nat.le_trans HZ.out hb.size)
  clear hb p0 p1 p2 p3 p4 p5 p6
  obtain ⟨p0, p1, p2, p3, p4, p5, p6⟩ := at7 K5.out
  go_wp2
  go_region_with (first
    | (go_at_call 27; refine (HWD.out _).mono ?_; rintro e w4 ⟨rfl, hb⟩; have BB4 := hide (bstep BB.out.drew hb); have K34 := hide (heap_below hb K3.out); have K44 := hide (heap_below hb K4.out); have K54 := hide (heap_below hb K5.out); have HZ4 := hide (Nat.le_trans HZ.out hb.size); obtain ⟨r0, r1, r2, r3, r4, r5, r6⟩ := at7 K54.out; clear hb)
    | (go_at_call 26; refine (HWI.out _ BB4.out).mono ?_; rintro e w5 ⟨ca1, la1, rfl, ho1, ho2, hb⟩; obtain ⟨g1, rfl, hg1, c1⟩ := ownR_some ho1 HLC.out; obtain ⟨g2, rfl, hg2, c2⟩ := ownR_some ho2 HLL.out; have ME : Hid (MeV w (setAll (w.heap.size + 1 + 1 + 1 + 1) w5 0 [.string name, .int .u8 kind, .int .i64 aw, .int .i64 rate, .int .i64 burst, .slice (some ⟨g1, 0, none⟩) n1 n1, .slice (some ⟨g2, 0, none⟩) n2 n2]) name kind aw rate burst g1 g2 n1 n2 CS LS iw ih k) := (me_of (bstep BB4.out hb) (heap_below hb K34.out) (heap_below hb K44.out) (heap_below hb K54.out) c1 c2 (Nat.le_trans HZ4.out hg1) (Nat.le_trans HZ4.out hg2)); have k55 := heap_below hb K54.out; obtain ⟨t0, t1, t2, t3, t4, t5, t6⟩ := at7 k55; have g0' := softA k55 0; have g1' := softA k55 1; have g2' := softA k55 2; have g3' := softA k55 3; have g4' := softA k55 4; have g5' := softA k55 5; have g6' := softA k55 6; clear ho1 ho2 hb hg1 hg2 c1 c2 k55))
  all_goals
    simp only [setAll, Nat.zero_add, Nat.reduceAdd] at ME
    generalize (((((((w5.setCell ⟨w.heap.size + 1 + 1 + 1 + 1, 0, none⟩ (.string name)).setCell ⟨w.heap.size + 1 + 1 + 1 + 1, 1, none⟩ (.int .u8 kind)).setCell ⟨w.heap.size + 1 + 1 + 1 + 1, 2, none⟩ (.int .i64 aw)).setCell ⟨w.heap.size + 1 + 1 + 1 + 1, 3, none⟩ (.int .i64 rate)).setCell ⟨w.heap.size + 1 + 1 + 1 + 1, 4, none⟩ (.int .i64 burst)).setCell ⟨w.heap.size + 1 + 1 + 1 + 1, 5, none⟩ (.slice (some ⟨g1, 0, none⟩) n1 n1)).setCell ⟨w.heap.size + 1 + 1 + 1 + 1, 6, none⟩ (.slice (some ⟨g2, 0, none⟩) n2 n2)) = Wv at ME ⊢
    clear p0 p1 p2 p3 p4 p5 p6 r0 r1 r2 r3 r4 r5 r6 t0 t1 t2 t3 t4 t5 t6 g0' g1' g2' g3' g4' g5' g6' e1 w1
    obtain ⟨p0, p1, p2, p3, p4, p5, p6⟩ := at7 ME.out.bx
    have cl := (blk_cell ME.out.c2 k).trans HGL.out
    have fl := soft_cell ME.out.c2 k
    have MS : Hid (MeV w (Wv.setCell ⟨g2, k, none⟩ (.int .i64 mx)).drew name kind aw rate burst g1 g2 n1 n2 CS LS' iw ih k) := (me_set ME.out k (.int .i64 mx) HSET.out)
    obtain ⟨r0, r1, r2, r3, r4, r5, r6⟩ := at7 MS.out.bx
    go_wp2
    go_region
    go_wp2_with (first
      | (refine wpList_storeA rfl 26 _ _ rfl (w.heap.size + 1 + 1) [.string name, .int .u8 kind, .int .i64 aw, .int .i64 rate, .int .i64 burst, .slice (some ⟨g1, 0, none⟩) n1 n1, .slice (some ⟨g2, 0, none⟩) n2 n2] _ 26 rfl rfl sz33 MS.out.b2 rfl (ar_one name kind aw rate burst (some ⟨g1, 0, none⟩, n1, n1) (some ⟨g2, 0, none⟩, n2, n2)) ?_; intro w6 hw6; have HW6 := hide hw6; clear hw6; have F6 : Hid (Fr (· = w.heap.size + 1 + 1) ((Wv.setCell ⟨g2, k, none⟩ (.int .i64 mx)).drew) w6) := (by rw [HW6.out]; exact fr_all _ _ _ _); have R6 : Hid (w6.heap[w.heap.size + 1 + 1]? = some (.cells ([.string name, .int .u8 kind, .int .i64 aw, .int .i64 rate, .int .i64 burst, .slice (some ⟨g1, 0, none⟩) n1 n1, .slice (some ⟨g2, 0, none⟩) n2 n2] : List Value).toArray 26 (0, 0))) := (by rw [HW6.out]; exact got0 MS.out.b2 rfl); have K36 := hide ((F6.out.block _ (lt_heap MS.out.b3) (by omega)).trans MS.out.b3))
      | (refine wpList_storeA rfl 29 _ _ rfl (w.heap.size + 1 + 1 + 1) [.int .i64 1, .int .u64 0, .int .u64 tk] _ 29 rfl rfl szNb K36.out rfl (nb_one ⟨1, 0, tk⟩) ?_; intro w7 hw7; have HW7 := hide hw7; clear hw7))
    have F7 : Fr (· = w.heap.size + 1 + 1 + 1) w6 w7 := by rw [HW7.out]; exact fr_all _ _ _ _
    have R7 : w7.heap[w.heap.size + 1 + 1 + 1]? = some (.cells ([.int .i64 1, .int .u64 0, .int .u64 tk] : List Value).toArray 29 (0, 0)) := by rw [HW7.out]; exact got0 K36.out rfl
    have R6' := (F7.block _ (lt_heap R6.out) (by omega)).trans R6.out
    refine bodyPost_ret (res_triple (cs := [.string name, .int .u8 kind, .int .i64 aw, .int .i64 rate, .int .i64 burst, .slice (some ⟨g1, 0, none⟩) n1 n1, .slice (some ⟨g2, 0, none⟩) n2 n2]) (cs2 := [.int .i64 1, .int .u64 0, .int .u64 tk]) (v := .int .i64 0) Tryz.results10 (by simp) (by simp) (by simp) agg33 sz33 R6' aggNb szNb R7) rfl ?_
    have hl1 := MS.out.l1
    have hl2 := MS.out.l2
    have key : ∀ {b o}, ((Wv.setCell ⟨g2, k, none⟩ (.int .i64 mx)).drew).heap[b]? = some o → w.heap.size + 5 ≤ b → w7.heap[b]? = some o := fun h hn => by
      have h6 := (F6.out.block _ (lt_heap h) (by omega)).trans h
      exact (F7.block _ (lt_heap h6) (by omega)).trans h6
    refine HQ.out _ _ _ (by omega) (key MS.out.c1 hl1) (by omega) (key MS.out.c2 hl2) ?_
    have hz := MS.out.bl.size
    have h6 := MS.out.bl.trans (F6.out.below (fun b e => by omega) hz)
    exact h6.trans (F7.below (fun b e => by omega) h6.size)
end Go.Proofs.YtbemfjdloeipmaaGreatDoor
