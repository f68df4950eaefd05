/- package cells: Count. -/
import Derived.Test.YtngeclnlgoamkaaCeG
import Derived.RegionTactic
import Derived.Deep.RegionLaw
namespace Go.Proofs.Ytngeclnlgoamkaa
open Go.RowKit

def countC (a : Ar) (i : Nb) : Int := (findA 4 a i).2
def inc (b : Nb) : Nb := ⟨64, 0, IntKind.u64.wrap (b.lo + 1)⟩
set_option maxRecDepth 100000 in
set_option maxHeartbeats 4000000 in
theorem count_no (x : ArL) (i : Nb) (w : World) (hx : ArR w x) (hi : NbR i) (c : Int) (hc : countC x.a i = c) (h0 : c ≠ 0) :
    Calls Try.prog 16 #[x.val, i.val] w fun e w' => e = .returned (.tuple #[zeroV, .int .i64 c]) ∧ Below w.heap.size w w' := by
  have HF : Hid (∀ W, Below w.heap.size w W → _) := fun W hb => cfind_any 4 x i W (hx.below hb) hi (by decide)
  unfold countC at hc
  rw [hc] at HF
  have h1 : (c == 0) = false := by simp [h0]
  have h2 : (c = 0) = False := by simp [h0]
  generalize (findA 4 x.a i).1 = d at *
  clear hx hi h0 hc
  obtain ⟨⟨name, kind, aw, rate, burst, cs, ls⟩, ca, cc, la, lc⟩ := x
  obtain ⟨iw, ih, il⟩ := i
  simp only [ArL.val, Nb.val, zeroV] at *
  generalize cs.length = n1 at *
  generalize ls.length = n2 at *
  go_enter Try.func16, Try.ntmps16
  go_wp2_with fail
  refine (HF.out _ (below4 _ _ _ _ _)).mono ?_
  rintro e w2 ⟨rfl, hb⟩
  have BB := hide (bstep (below4 _ _ _ _ _) hb)
  have K4 := hide (heap_below hb (heap_past _ (heap_trd _ _ _ _ _)))
  clear hb
  go_wp2_with (refine wpList_storeA rfl 33 _ _ rfl (w.heap.size + 1 + 1) zeroC _ 33 rfl rfl sz33 K4.out rfl zero_one ?_; intro w5 hw5; have HW5 := hide hw5; clear hw5)
  have R5 : w5.heap[w.heap.size + 1 + 1]? = some (.cells zeroC.toArray 33 (0, 0)) := by rw [HW5.out]; exact got0 K4.out rfl
  have F5 : Fr (· = w.heap.size + 1 + 1) w2 w5 := by rw [HW5.out]; exact fr_all _ _ _ _
  refine bodyPost_ret (res_pair (cs := zeroC) (v := .int .i64 c) Try.results16 (by simp) (by simp) agg33 sz33 R5) rfl ⟨rfl, ?_⟩
  exact BB.out.trans (F5.below (fun b e => by omega) BB.out.size)
set_option maxRecDepth 100000 in
set_option maxHeartbeats 8000000 in
theorem count_yes (x : ArL) (i : Nb) (w : World) (hx : ArR w x) (hi : NbR i) (hc : countC x.a i = 0) :
    Calls Try.prog 16 #[x.val, i.val] w fun e w' => ∃ ca la, e = .returned (.tuple #[arV (x.a.put i.lo.toNat (inc (x.a.cs.getD i.lo.toNat nb0))) ca la, .int .i64 0]) ∧ ArN w' w.heap.size (x.a.put i.lo.toNat (inc (x.a.cs.getD i.lo.toNat nb0))) ca la ∧ Below w.heap.size w w' := by
  have HF : Hid (∀ W, Below w.heap.size w W → _) := fun W hb => cfind_any 4 x i W (hx.below hb) hi (by decide)
  unfold countC at hc
  obtain ⟨-, hm, -, -, h5, h6⟩ := findA_yes hc
  rw [hc, h6] at HF
  obtain ⟨-, hl1, hl2⟩ := may_len hm
  obtain ⟨k, hk⟩ := Int.eq_ofNat_of_zero_le hi.lo.1
  have hk2 : k < x.a.cs.length := by omega
  have hkI : ((k : Int) < (x.a.cs.length : Int)) := by omega
  rw [hk, Int.toNat_natCast, List.getD_eq_getElem?_getD, List.getElem?_eq_getElem hk2, Option.getD_some]
  obtain ⟨y, hy⟩ : ∃ y, y = x.a.cs[k] := ⟨_, rfl⟩
  rw [← hy]
  have HWD : Hid (Pure 31 #[.int .u64 (IntKind.u64.wrap (y.lo + 1))] _) := word_any _
  have HWI : Hid (∀ W, Below w.heap.size w W → _) := fun W hb => with_any x k (inc y) W (hx.below hb) (by omega) (by omega) hk2
  have HC : Hid (∀ W, Below w.heap.size w W → ∃ p off, x.ca = some ⟨p, off, none⟩ ∧ W.cell? ⟨p, off + k * 3 + 2, none⟩ = some (.int .u64 y.lo)) := fun W hb => by
    obtain ⟨p, off, e, _, hcl⟩ := (hx.cs.below hb).some (by omega)
    exact ⟨p, off, e, by rw [hy]; exact (hcl k hk2).2.2⟩
  suffices H : ∀ Q : Ending → World → Prop, (∀ ca la W', OwnR W' w.heap.size ca 24 (flat Nb.cells (x.a.cs.set k (inc y))) → OwnR W' w.heap.size la 3 (flat intC x.a.ls) → Below w.heap.size w W' → Q (.returned (.tuple #[.agg #[.string x.a.name, .int .u8 x.a.kind, .int .i64 x.a.w, .int .i64 x.a.rate, .int .i64 x.a.burst, .slice ca x.a.cs.length x.a.cs.length, .slice la x.a.ls.length x.a.ls.length], .int .i64 0])) W') → Calls Try.prog 16 #[x.val, i.val] w Q from
    H _ (fun ca la W' h1 h2 h3 => ⟨ca, la, by rw [arV_put], ⟨h1, h2⟩, h3⟩)
  intro Q hQ
  have HQ := hide hQ
  clear hQ hx hi hc hm h5 h6 hl1 hl2 hy hk2
  generalize flat Nb.cells (x.a.cs.set k (inc y)) = CS at *
  simp only [inc] at HWI
  generalize y.lo = u at *
  obtain ⟨⟨name, kind, aw, rate, burst, cs, ls⟩, ca, cc, la, lc⟩ := x
  obtain ⟨iw, ih, il⟩ := i
  simp only [ArL.val, Nb.val] at *
  subst hk
  generalize flat intC ls = LS at *
  generalize cs.length = n1 at *
  generalize ls.length = n2 at *
  have hfl := field0
  go_enter Try.func16, Try.ntmps16
  go_wp2_with fail
  refine (HF.out _ (below4 _ _ _ _ _)).mono ?_
  rintro e w2 ⟨rfl, hb⟩
  have BB := hide (bstep (below4 _ _ _ _ _) hb)
  have K4 := hide (heap_below hb (heap_past _ (heap_trd _ _ _ _ _)))
  have K5 := hide (heap_below hb (heap_fth _ _ _ _ _ _))
  have HZ := hide (show w.heap.size + 4 ≤ w2.heap.size by have := hb.size; simp at this; omega)
  obtain ⟨p0, p1, p2, p3, p4, p5, p6⟩ := at7 K5.out
  obtain ⟨p, off, rfl, q2⟩ := HC.out _ BB.out
  clear hb
  go_wp2
  go_region_with (first
    | (go_at_call 31; refine (HWD.out _).mono ?_; rintro e w3 ⟨rfl, hb⟩; have BB3 := hide (bstep BB.out.drew hb); have k4 := heap_below hb K4.out; have k5 := heap_below hb K5.out; have K43 := hide k4; have HZ3 := hide (Nat.le_trans HZ.out hb.size); obtain ⟨r0, r1, r2, r3, r4, r5, r6⟩ := at7 k5; clear hb k4 k5)
    | (go_at_call 25; refine (HWI.out _ BB3.out).mono ?_; rintro e w4 ⟨ca1, la1, rfl, ho1, ho2, hb⟩; have BB4 := hide (bstep BB3.out hb); have K44 := hide (heap_below hb K43.out); have HO1 := hide (ho1.mono HZ3.out); have HO2 := hide (ho2.mono HZ3.out); obtain ⟨t0, t1, t2, t3, t4, t5, t6⟩ := at7 K44.out; have g0 := softA K44.out 0; have g1 := softA K44.out 1; have g2 := softA K44.out 2; have g3 := softA K44.out 3; have g4 := softA K44.out 4; have g5 := softA K44.out 5; have g6 := softA K44.out 6; clear ho1 ho2 hb))
  all_goals
    have F5 := hide (fr_all (w.heap.size + 1 + 1) [.string name, .int .u8 kind, .int .i64 aw, .int .i64 rate, .int .i64 burst, .slice ca1 n1 n1, .slice la1 n2 n2] w4 0)
    have R5 := hide (got0 (cs := [.string name, .int .u8 kind, .int .i64 aw, .int .i64 rate, .int .i64 burst, .slice ca1 n1 n1, .slice la1 n2 n2]) K44.out rfl)
    simp only [setAll, Nat.zero_add, Nat.reduceAdd] at F5 R5
    go_wp2
    refine bodyPost_ret (res_pair (cs := [.string name, .int .u8 kind, .int .i64 aw, .int .i64 rate, .int .i64 burst, .slice ca1 n1 n1, .slice la1 n2 n2]) (v := .int .i64 0) Try.results16 (by simp [Act.put]) (by simp [Act.put]) agg33 sz33 R5.out) rfl ?_
    refine HQ.out _ _ _ ?_ ?_ ?_
    · exact (HO1.out.fr (by omega) F5.out).mono (by omega)
    · exact (HO2.out.fr (by omega) F5.out).mono (by omega)
    · exact BB4.out.trans (F5.out.below (fun b e => by omega) BB4.out.size)
end Go.Proofs.Ytngeclnlgoamkaa
