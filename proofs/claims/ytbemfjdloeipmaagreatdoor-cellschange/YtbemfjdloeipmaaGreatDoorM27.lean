/- Pieces of the proof: CfE. -/
import Derived.Test.YtbemfjdloeipmaaGreatDoorM16
import Derived.Test.YtbemfjdloeipmaaGreatDoorM26
/- The document's own Count (chapter 14). -/
namespace Go.Proofs.YtbemfjdloeipmaaGreatDoor
open Go.RowKit

/- An array in which a cell is another one, as the document's 'with' lays it. -/
theorem own_rdZ {W : World} {B n : Nat} {a : Option Addr} {k cap : Nat} {l : List Int} (h : W.ownsRow B 3 1 (.slice a k cap) n (flat intC l)) : RdZ W a l := by
  rcases own_form h with ⟨hv, hn⟩ | ⟨g, cap', hv, hg, hlt, hc⟩
  · have hl := h.1
    rw [flat_length int_len, hn] at hl
    exact .inl (List.length_eq_zero_iff.1 (by omega))
  · injection hv with h1 h2 h3
    subst h1 h2 h3
    refine .inr ⟨g, 0, rfl, hlt, fun i hi => ?_⟩
    have key := own_cell int_len h rfl i hi 0 _ rfl
    simpa using key
theorem zeroL_r (W : World) : ArR W ⟨zeroA, none, 0, none, 0⟩ := (zero_n W 0).r zero_g
theorem hi64 {b : Nb} (h : b.ok = true) (hw : b.w = 64) : b.hi = 0 := by
  unfold Nb.ok okB at h
  simp only [Bool.and_eq_true, beq_iff_eq] at h
  have h2 := h.2.1
  rw [hw, cHi_le (by decide)] at h2
  exact h2.symm
theorem may_64 {a : Ar} (h : mayA a = true) (hk : a.kind = 4 ∨ a.kind = 5) (k : Nat) (hk2 : k < a.cs.length) : (a.cs.getD k nb0).w = 64 ∧ (a.cs.getD k nb0).hi = 0 := by
  have hh := may_holds h (a.cs.getD k nb0) (by rw [List.getD_eq_getElem?_getD, List.getElem?_eq_getElem hk2]; exact List.getElem_mem hk2)
  simp only [holdsB, Bool.and_eq_true, beq_iff_eq] at hh
  have hw : a.w = 64 := by
    simp only [mayA, Bool.and_eq_true] at h
    have h1 := h.1
    unfold frameB at h1
    rcases hk with hk | hk
    · rw [if_neg (by rw [hk]; decide), if_pos hk] at h1
      simp only [Bool.and_eq_true, beq_iff_eq] at h1
      exact h1.1
    · rw [if_neg (by rw [hk]; decide), if_neg (by rw [hk]; decide), if_pos hk] at h1
      simp only [Bool.and_eq_true, beq_iff_eq] at h1
      exact h1.1
  have h1 := hh.1.trans hw
  exact ⟨h1, hi64 hh.2.1 h1⟩
theorem inc_r (b : Nb) : NbR (inc b) := ⟨by simp [inc, i64R], by simp [inc, u64R], by simp only [inc, u64R, IntKind.wrap_u64]; omega⟩
set_option maxRecDepth 100000 in
set_option maxHeartbeats 4000000 in
theorem refCount14_no (x : ArL) (i : Nb) (w : World) (hx : ArR w x) (hi : NbR i) (c : Int) (hc : countC x.a i = c) (h0 : c ≠ 0) :
    Calls Tryz.prog 11 #[x.val, i.val] w fun e w' => e = .returned (.tuple #[zeroV, .int .i64 c]) ∧ Below w.heap.size w w' := by
  have HF : Hid (∀ W, Below w.heap.size w W → _) := fun W hb => refAt14_any 4 x i W (hx.below hb) hi
  unfold countC at hc
  rw [hc] at HF
  have h1 : (c == 0) = false := by simp [h0]
  have h2 : (c = 0) = False := by simp [h0]
  generalize (findA 4 x.a i).1 = d at *
  clear hx hi h0 hc
  obtain ⟨⟨name, kind, aw, rate, burst, cs, ls⟩, ca, cc, la, lc⟩ := x
  obtain ⟨iw, ih, il⟩ := i
  simp only [ArL.val, Nb.val, zeroV] at *
  generalize cs.length = n1 at *
  generalize ls.length = n2 at *
  go_enter Tryz.func11, Tryz.ntmps11
  go_wp2_with fail
  refine (HF.out _ (below3 _ _ _ _)).mono ?_
  rintro e w2 ⟨rfl, hb⟩
  have BB := hide (bstep (below3 _ _ _ _) hb)
  have K4 := hide (heap_below hb (heap_trd _ _ _ _ _))
  clear hb
  go_wp2_with (refine wpList_storeA rfl 26 _ _ rfl (w.heap.size + 1 + 1) zeroC _ 26 rfl rfl sz33 K4.out rfl zero_one ?_; intro w5 hw5; have F5 := hide (fr_of hw5); have R5 := hide (got_of hw5 K4.out rfl); clear hw5)
  refine bodyPost_ret (res_pair (cs := zeroC) (v := .int .i64 c) Tryz.results11 (by simp) (by simp) agg33 sz33 R5.out) rfl ⟨rfl, ?_⟩
  exact BB.out.trans (F5.out.below (fun b e => by omega) BB.out.size)
set_option maxRecDepth 100000 in
set_option maxHeartbeats 8000000 in
theorem refCount14_yes (x : ArL) (i : Nb) (w : World) (hx : ArR w x) (hln : x.la = none → x.lc = 0) (hi : NbR i) (hc : countC x.a i = 0) :
    Calls Tryz.prog 11 #[x.val, i.val] w fun e w' => ∃ y : ArL, y.a = x.a.put i.lo.toNat (inc (x.a.cs.getD i.lo.toNat nb0)) ∧ e = .returned (.tuple #[y.val, .int .i64 0]) ∧ ArR w' y ∧ Below w.heap.size w w' := by
  have HF : Hid (∀ W, Below w.heap.size w W → _) := fun W hb => refAt14_any 4 x i W (hx.below hb) hi
  unfold countC at hc
  obtain ⟨hk4, hm, -, -, h5, h6⟩ := findA_yes hc
  rw [hc, h6] at HF
  obtain ⟨-, hl1, hl2⟩ := may_len hm
  obtain ⟨k, hk⟩ := Int.eq_ofNat_of_zero_le hi.lo.1
  have hk2 : k < x.a.cs.length := by omega
  have hkI : ((k : Int) < (x.a.cs.length : Int)) := by omega
  obtain ⟨w64, hi0⟩ := may_64 hm (.inl hk4) k hk2
  rw [hk, Int.toNat_natCast]
  have hgx := put_g (k := k) hx.g (inc_r (x.a.cs.getD k nb0))
  rw [List.getD_eq_getElem?_getD, List.getElem?_eq_getElem hk2, Option.getD_some] at w64 hi0 hgx ⊢
  obtain ⟨y, hy⟩ : ∃ y, y = x.a.cs[k] := ⟨_, rfl⟩
  rw [← hy] at w64 hi0 hgx ⊢
  have HWI : Hid (∀ W, Below w.heap.size w W → _) := fun W hb => refWith14_any x k (inc y) W (hx.below hb) hln (by omega) (by omega) hk2
  have HC : Hid (∀ W, Below w.heap.size w W → ∃ p off, x.ca = some ⟨p, off, none⟩ ∧ W.cell? ⟨p, off + k * 3, none⟩ = some (.int .i64 64) ∧ W.cell? ⟨p, off + k * 3 + 1, none⟩ = some (.int .u64 0) ∧ W.cell? ⟨p, off + k * 3 + 2, none⟩ = some (.int .u64 y.lo)) := fun W hb => by
    obtain ⟨p, off, e, _, hcl⟩ := (hx.cs.below hb).some (by omega)
    have := hcl k hk2
    rw [← hy, w64, hi0] at this
    exact ⟨p, off, e, this⟩
  suffices H : ∀ Q : Ending → World → Prop, (∀ ca cc la lc W', W'.ownsRow w.heap.size 29 3 (.slice ca x.a.cs.length cc) x.a.cs.length (flat Nb.cells (x.a.cs.set k (inc y))) → W'.ownsRow w.heap.size 3 1 (.slice la x.a.ls.length lc) x.a.ls.length (flat intC x.a.ls) → Below w.heap.size w W' → Q (.returned (.tuple #[.agg #[.string x.a.name, .int .u8 x.a.kind, .int .i64 x.a.w, .int .i64 x.a.rate, .int .i64 x.a.burst, .slice ca x.a.cs.length cc, .slice la x.a.ls.length lc], .int .i64 0])) W') → Calls Tryz.prog 11 #[x.val, i.val] w Q from
    H _ (fun ca cc la lc W' h1 h2 h3 => ⟨⟨x.a.put k (inc y), ca, cc, la, lc⟩, rfl, by simp [ArL.val, Ar.put], ⟨(rdN_own h1).2.1, own_rdZ h2, hgx.cn, hgx.ln, hgx.cr, hgx.lr, hgx.wr, hgx.rr, hgx.br, hgx.kr⟩, h3⟩)
  intro Q hQ
  have HQ := hide hQ
  clear hQ hx hi hc hm h5 h6 hl1 hl2 hy hk2 w64 hi0 hgx hk4 hln
  generalize flat Nb.cells (x.a.cs.set k (inc y)) = CS at *
  simp only [inc] at HWI
  generalize y.lo = u at *
  obtain ⟨⟨name, kind, aw, rate, burst, cs, ls⟩, ca, cc, la, lc⟩ := x
  obtain ⟨iw, ih, il⟩ := i
  simp only [ArL.val, Nb.val] at *
  subst hk
  generalize flat intC ls = LS at *
  generalize cs.length = n1 at *
  generalize ls.length = n2 at *
  go_enter Tryz.func11, Tryz.ntmps11
  go_wp2_with fail
  refine (HF.out _ (below3 _ _ _ _)).mono ?_
  rintro e w2 ⟨rfl, hb⟩
  have BB := hide (bstep (below3 _ _ _ _) hb)
  have K3 := hide (heap_below hb (heap_trd _ _ _ _ _))
  have k4 := heap_below hb (heap_past _ (heap_past _ (heap_alloc_new w _)))
  have HZ := hide (show w.heap.size + 3 ≤ w2.heap.size by have := hb.size; simp at this; omega)
  obtain ⟨p0, p1, p2, p3, p4, p5, p6⟩ := at7 k4
  obtain ⟨p, off, rfl, q0, q1, q2⟩ := HC.out _ BB.out
  obtain ⟨r0, r1, r2, r3, r4, r5, r6⟩ := at7 (heap_past (.cells #[.int .i64 64, .int .u64 0, .int .u64 (IntKind.u64.wrap (u + 1))] 29) k4)
  have B1 := hide (BB.out.alloc BB.out.size (.cells #[.int .i64 64, .int .u64 0, .int .u64 (IntKind.u64.wrap (u + 1))] 29))
  have K31 := hide (heap_past (.cells #[.int .i64 64, .int .u64 0, .int .u64 (IntKind.u64.wrap (u + 1))] 29) K3.out)
  clear hb k4
  go_wp2_with fail
  refine (HWI.out _ B1.out).mono ?_
  rintro e w3 ⟨ca1, cc1, la1, lc1, rfl, ho1, ho2, hb⟩
  have B3 := hide (bstep B1.out hb)
  have K33 := hide (heap_below hb K31.out)
  have HO1 := hide (owR_lower (B' := w.heap.size + 3) ho1 (by have := HZ.out; simp; omega))
  have HO2 := hide (owR_lower (B' := w.heap.size + 3) ho2 (by have := HZ.out; simp; omega))
  clear ho1 ho2 hb p0 p1 p2 p3 p4 p5 p6 q0 q1 q2 r0 r1 r2 r3 r4 r5 r6
  go_wp2_with (refine wpList_storeA rfl 26 _ _ rfl (w.heap.size + 1 + 1) [.string name, .int .u8 kind, .int .i64 aw, .int .i64 rate, .int .i64 burst, .slice ca1 n1 cc1, .slice la1 n2 lc1] _ 26 rfl rfl sz33 K33.out rfl (ar_one name kind aw rate burst (ca1, n1, cc1) (la1, n2, lc1)) ?_; intro w5 hw5; have F5 := hide (fr_of hw5); have R5 := hide (got_of hw5 K33.out rfl); clear hw5)
  refine bodyPost_ret (res_pair (cs := [.string name, .int .u8 kind, .int .i64 aw, .int .i64 rate, .int .i64 burst, .slice ca1 n1 cc1, .slice la1 n2 lc1]) (v := .int .i64 0) Tryz.results11 (by simp) (by simp) agg33 sz33 R5.out) rfl ?_
  refine HQ.out _ _ _ _ _ ?_ ?_ ?_
  · exact owR_lower (own_fr1 HO1.out (by omega) F5.out) (by omega)
  · exact owR_lower (own_fr1 HO2.out (by omega) F5.out) (by omega)
  · exact B3.out.trans (F5.out.below (fun b e => by omega) B3.out.size)
theorem refCount14_any (x : ArL) (i : Nb) (w : World) (hx : ArR w x) (hln : x.la = none → x.lc = 0) (hi : NbR i) :
    Calls Tryz.prog 11 #[x.val, i.val] w fun e w' => ∃ y : ArL, y.a = countA x.a i ∧ e = .returned (.tuple #[y.val, .int .i64 (countC x.a i)]) ∧ ArR w' y ∧ Below w.heap.size w w' := by
  unfold countA
  by_cases h : countC x.a i = 0
  · rw [if_pos h]
    refine (refCount14_yes x i w hx hln hi h).mono ?_
    rintro e w' ⟨y, hy, rfl, h1, h2⟩
    exact ⟨y, hy, by rw [h], h1, h2⟩
  · rw [if_neg h]
    refine (refCount14_no x i w hx hi _ rfl h).mono ?_
    rintro e w' ⟨rfl, h2⟩
    exact ⟨_, rfl, rfl, zeroL_r _, h2⟩
end Go.Proofs.YtbemfjdloeipmaaGreatDoor
