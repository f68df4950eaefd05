/- CellsRate, walked. -/
import Derived.Test.YtngeclnlgoamkaaCeV
import Derived.Test.YtngeclnlgoamkaaCeR
namespace Go.Proofs.Ytngeclnlgoamkaa
open Go.RowKit

def rtC (r B : Int) (ca la : Option Addr) : List Value := [.string ⟨#[109]⟩, .int .u8 5, .int .i64 64, .int .i64 r, .int .i64 B, .slice ca 1 1, .slice la 1 1]
structure RtS (w0 W : World) (A : Nat) (r B tok now gone : Int) (ca la : Option Addr) : Prop where
  bl : Below w0.heap.size w0 W
  ar : W.heap[A]? = some (.cells (rtC r B ca la).toArray 33 (0, 0))
  an : ArN W w0.heap.size (rtA r B tok now) ca la
  la' : w0.heap.size ≤ A
  ok : RtOk r B tok now
  gn : 0 ≤ gone ∧ gone + tok ≤ B + now * r
set_option maxRecDepth 100000 in
set_option maxHeartbeats 8000000 in
theorem cellsRate_any (r b : Nat) (hr : r < 256) (hb : b < 256) (a : Option Addr) (cap : Nat) (xs : List Nat) (hxs : ∀ x ∈ xs, x < 256) (w : World) (hrd : RdA w a xs) (hl : xs.length ≤ 140737488355328) :
    Calls Try.prog 5 #[.int .u8 r, .int .u8 b, .slice a xs.length cap] w fun e w' => e = .returned (.bool true) ∧ Below w.heap.size w w' := by
  have w1 : IntKind.i64.wrap (r : Int) = r := by rw [IntKind.wrap_i64]; omega
  have w2 : IntKind.i64.wrap (b : Int) = b := by rw [IntKind.wrap_i64]; omega
  have w3 : IntKind.i64.wrap (1 + (b : Int)) = 1 + (b : Int) := by rw [IntKind.wrap_i64]; omega
  have rb0 : 1 ≤ 1 + (b : Int) := by omega
  have rb1 : 1 + (b : Int) ≤ 256 := by omega
  have ok0 : RtOk r (1 + (b : Int)) (1 + (b : Int)) 0 := ⟨by omega, by omega, rb0, by omega, by omega, by omega, by decide, by decide⟩
  have hrz := rt_zero (r : Int) (1 + (b : Int)) (by omega) (by omega)
  have HN : Hid (∀ (W : World) (p : Nat), W.heap[p]? = some (.cells (deC 5 ⟨#[109]⟩ (1 : Nat) r (1 + (b : Int))).toArray 53 (0, 0)) → _) := fun W p h => new_one (meterD ⟨#[109]⟩ 1 r (1 + (b : Int))) (meterD_ok _ 1 r (1 + (b : Int)) (by decide) (by decide) ⟨by omega, by omega⟩ ⟨by omega, by omega⟩) (by rw [show (meterD ⟨#[109]⟩ 1 r (1 + (b : Int))).a = meterA ⟨#[109]⟩ 1 r (1 + (b : Int)) from rfl, hrz]; exact rt_may ok0) p W h
  have HL : Hid (Pure _ _ _) := lives14_any
  simp only [show (meterD ⟨#[109]⟩ 1 r (1 + (b : Int))).a = meterA ⟨#[109]⟩ 1 r (1 + (b : Int)) from rfl, hrz] at HN
  simp only [show (rtA r (1 + (b : Int)) (1 + (b : Int)) 0).cs.length = 1 from rfl, show (rtA r (1 + (b : Int)) (1 + (b : Int)) 0).ls.length = 1 from rfl, show (rtA r (1 + (b : Int)) (1 + (b : Int)) 0).name = ⟨#[109]⟩ from rfl, show (rtA r (1 + (b : Int)) (1 + (b : Int)) 0).kind = 5 from rfl, show (rtA r (1 + (b : Int)) (1 + (b : Int)) 0).w = 64 from rfl, show (rtA r (1 + (b : Int)) (1 + (b : Int)) 0).rate = r from rfl, show (rtA r (1 + (b : Int)) (1 + (b : Int)) 0).burst = 1 + (b : Int) from rfl] at HN
  have OK0 := hide ok0
  have HR := hide hrd
  clear hrz hrd ok0
  by_cases h500 : xs.length ≤ 500
  · have d1 : ((xs.length : Int) > 500) = False := by simp; omega
    have d2 : (500 < (xs.length : Int)) = False := by simp; omega
    go_enter Try.func5, Try.ntmps5
    go_wp2_with fail
    refine (HN.out _ _ (heap_alloc_new _ _)).mono ?_
    rintro e wa ⟨g, cap1, ca, la, rfl, q0, q1, q2, q3, q4, q5, q6, hA, hbb⟩
    have BB := hide (bstep (below1 _ _) hbb)
    have S0 : Hid (RtS w (wa.alloc (.cells (rtC r (1 + (b : Int)) ca la).toArray 33)) wa.heap.size r (1 + (b : Int)) (1 + (b : Int)) 0 0 ca la) :=
      ⟨bstep BB.out (below1 _ _), heap_alloc_new _ _, (hA.mono (below1 w (.cells (deC 5 ⟨#[109]⟩ (1 : Nat) r (1 + (b : Int))).toArray 53)).size).below (below1 _ _), BB.out.size, OK0.out, ⟨by decide, by omega⟩⟩
    clear hbb hA OK0
    go_wp2
    generalize wa.heap.size = A at *
    go_loopw [9, 10, 11] (fun vn vg i wr => ∃ (k : Nat) (tok now gone : Int) (ca la : Option Addr), k ≤ xs.length ∧ i = .int .i64 k ∧ vn = .int .i64 now ∧ vg = .int .i64 gone ∧ now ≤ 4 * k ∧ gone ≤ k ∧ RtS w wr A r (1 + (b : Int)) tok now gone ca la) (fun _ _ i _ => xs.length - (intOf i).toNat)
    case atStart => exact ⟨0, _, _, _, _, _, by omega, rfl, rfl, rfl, by omega, by omega, S0.out⟩
    case round =>
      obtain ⟨k, tok, now, gone, ca, la, hk, rfl, rfl, rfl, hnow, hgone, hS⟩ := hrel
      have HS := hide hS
      clear hS
      by_cases hlt : k < xs.length
      · obtain ⟨p, off, rfl, hp, hcl⟩ := (HR.out.below HS.out.bl).some (by omega)
        have c0 := hcl k hlt
        have hlI : ((k : Int) < (xs.length : Int)) := by omega
        have hx8 := hxs _ (List.getElem_mem hlt)
        obtain ⟨t0, t1, t2, t3, t4, t5, t6⟩ := at7 (show wr.heap[A]? = some (.cells #[.string ⟨#[109]⟩, .int .u8 5, .int .i64 64, .int .i64 r, .int .i64 (1 + (b : Int)), .slice ca 1 1, .slice la 1 1] 33 (0, 0)) from HS.out.ar)
        clear hcl
        generalize xs[k] = x at *
        have hn0 := HS.out.ok.l0
        go_wp2_with fail
        have f1 : now ≤ now + (x : Int) % 4 := by omega
        have f2 : now + (x : Int) % 4 ≤ now + 3 := by omega
        generalize now + (x : Int) % 4 = nw at *
        have HM := hide (rt_meter HS.out.ok f1 (by omega) wr ca la HS.out.an)
        obtain ⟨okn, k0, k1, kt⟩ := rt_next HS.out.ok f1 (by omega)
        obtain ⟨g0, g1⟩ := HS.out.gn
        have hmul : nw * (r : Int) = now * (r : Int) + (nw - now) * (r : Int) := by rw [← Int.add_mul]; congr 1; omega
        have hr0 : (0 : Int) ≤ nw * (r : Int) := Int.mul_nonneg (by omega) (by omega)
        have hr1 : nw * (r : Int) ≤ 2004 * 255 := Int.mul_le_mul (by omega) (by omega) (by omega) (by omega)
        generalize tokR r (1 + (b : Int)) tok now nw = t at *
        generalize min t 1 = tk at *
        have hgn : 0 ≤ gone + tk ∧ (gone + tk) + (t - tk) ≤ (1 + (b : Int)) + nw * r := ⟨by omega, by omega⟩
        have tt0 := okn.t0
        have v1 : IntKind.i64.wrap (nw * (r : Int)) = nw * (r : Int) := by rw [IntKind.wrap_i64]; omega
        have v2 : IntKind.i64.wrap (1 + (b : Int) + nw * (r : Int)) = 1 + (b : Int) + nw * (r : Int) := by rw [IntKind.wrap_i64]; omega
        have v3 : IntKind.i64.wrap (gone + 1) = gone + 1 := by rw [IntKind.wrap_i64]; omega
        have OKN := hide okn
        have HGN := hide hgn
        have HCK : Hid (∀ W p ca1 la1, ArN W wr.heap.size (rtA r (1 + (b : Int)) (t - tk) nw) ca1 la1 → W.heap[p]? = some (.cells #[.string ⟨#[109]⟩, .int .u8 5, .int .i64 64, .int .i64 r, .int .i64 (1 + (b : Int)), .slice ca1 1 1, .slice la1 1 1] 33 (0, 0)) → Calls Try.prog 14 #[.slice (some ⟨p, 0, none⟩) 1 1] W fun e w' => e = .returned (.bool true) ∧ Below W.heap.size W w') := fun W p ca1 la1 h hp => check_one ⟨rtA r (1 + (b : Int)) (t - tk) nw, ca1, 1, la1, 1⟩ p W (h.r (rt_g OKN.out)) (rt_may OKN.out) hp
        have PA := hide (show w.heap.size ≤ A from HS.out.la')
        by_cases htk : tk = 1
        · subst htk
          have cmp : (gone + 1 > 1 + (b : Int) + nw * (r : Int)) = False := by simp; omega
          have cmp' : (1 + (b : Int) + nw * (r : Int) < gone + 1) = False := by simp; omega
          clear okn hgn k0 k1 kt g0 g1 hmul hr0 hr1 tt0
          refine HM.out.mono ?_
          rintro e w5 ⟨ca1, la1, rfl, hn5, hb5⟩
          have N5 := hide hn5
          have B5 := hide hb5
          clear hn5 hb5 t0 t1 t2 t3 t4 t5 t6
          go_wp2_with fail
          refine (HCK.out _ _ ca1 la1 (N5.out.below (below3 w5 (.cells #[.string ⟨#[109]⟩, .int .u8 5, .int .i64 64, .int .i64 r, .int .i64 (1 + (b : Int)), .slice ca1 1 1, .slice la1 1 1] 33) (.cells #[.int .i64 1, .int .u64 0, .int .u64 1] 24) (.cells #[.string ⟨#[109]⟩, .int .u8 5, .int .i64 64, .int .i64 r, .int .i64 (1 + (b : Int)), .slice ca1 1 1, .slice la1 1 1] 33))) (heap_trd _ _ _ _ _)).mono ?_
          rintro e w6 ⟨rfl, hb6⟩
          have b6 := bstep (below3 w5 (.cells #[.string ⟨#[109]⟩, .int .u8 5, .int .i64 64, .int .i64 r, .int .i64 (1 + (b : Int)), .slice ca1 1 1, .slice la1 1 1] 33) (.cells #[.int .i64 1, .int .u64 0, .int .u64 1] 24) (.cells #[.string ⟨#[109]⟩, .int .u8 5, .int .i64 64, .int .i64 r, .int .i64 (1 + (b : Int)), .slice ca1 1 1, .slice la1 1 1] 33)) hb6
          have BW := hide (bstep B5.out b6)
          have N6 := hide (N5.out.below b6)
          obtain ⟨p0, p1, p2, p3, p4, p5, p6⟩ := at7 (heap_below hb6 (heap_past _ (heap_past _ (heap_alloc_new w5 _))))
          obtain ⟨q0', q1', q2', -⟩ := at3 (heap_below hb6 (heap_past _ (heap_snd w5 _ _ _)))
          have A6 := hide (heap_below BW.out HS.out.ar)
          clear hb6 b6
          go_wp2_with (refine wpList_storeA rfl 33 _ _ rfl A (rtC r (1 + (b : Int)) ca1 la1) _ 33 rfl rfl sz33 A6.out rfl (ar_one ⟨#[109]⟩ 5 64 r (1 + (b : Int)) (ca1, 1, 1) (la1, 1, 1)) ?_; intro w7 hw7; have HW7 := hide hw7; clear hw7)
          have F7 : Fr (· = A) w6 w7 := by rw [HW7.out]; exact fr_all _ _ _ _
          have R7 : w7.heap[A]? = some (.cells (rtC r (1 + (b : Int)) ca1 la1).toArray 33 (0, 0)) := by rw [HW7.out]; exact got0 A6.out rfl
          have SN : Hid (RtS w w7 A r (1 + (b : Int)) (t - 1) nw (gone + 1) ca1 la1) := (by
            have h1 := bstep HS.out.bl BW.out
            have hA : A < wr.heap.size := lt_heap HS.out.ar
            refine ⟨h1.trans (F7.below (fun c e => by rw [e]; exact HS.out.la') h1.size), R7, ?_, HS.out.la', OKN.out, ?_⟩
            · exact ArN.mono ⟨N6.out.cs.fr hA F7, N6.out.ls.fr hA F7⟩ HS.out.bl.size
            · have := HGN.out
              exact ⟨by omega, by omega⟩)
          clear F7 R7
          go_roundw
          case rel => exact ⟨k + 1, _, nw, gone + 1, _, _, by omega, by go_num, rfl, rfl, by omega, by omega, SN.out⟩
          case measure => simp [intOf]; omega
        · obtain rfl : tk = 0 := by omega
          have cmp : (gone > 1 + (b : Int) + nw * (r : Int)) = False := by simp; omega
          have cmp' : (1 + (b : Int) + nw * (r : Int) < gone) = False := by simp; omega
          clear okn hgn k0 k1 kt g0 g1 hmul hr0 hr1 tt0
          refine HM.out.mono ?_
          rintro e w5 ⟨ca1, la1, rfl, hn5, hb5⟩
          have N5 := hide hn5
          have B5 := hide hb5
          clear hn5 hb5 t0 t1 t2 t3 t4 t5 t6
          go_wp2_with fail
          refine (HCK.out _ _ ca1 la1 (N5.out.below (below3 w5 (.cells #[.string ⟨#[109]⟩, .int .u8 5, .int .i64 64, .int .i64 r, .int .i64 (1 + (b : Int)), .slice ca1 1 1, .slice la1 1 1] 33) (.cells #[.int .i64 1, .int .u64 0, .int .u64 0] 24) (.cells #[.string ⟨#[109]⟩, .int .u8 5, .int .i64 64, .int .i64 r, .int .i64 (1 + (b : Int)), .slice ca1 1 1, .slice la1 1 1] 33))) (heap_trd _ _ _ _ _)).mono ?_
          rintro e w6 ⟨rfl, hb6⟩
          have b6 := bstep (below3 w5 (.cells #[.string ⟨#[109]⟩, .int .u8 5, .int .i64 64, .int .i64 r, .int .i64 (1 + (b : Int)), .slice ca1 1 1, .slice la1 1 1] 33) (.cells #[.int .i64 1, .int .u64 0, .int .u64 0] 24) (.cells #[.string ⟨#[109]⟩, .int .u8 5, .int .i64 64, .int .i64 r, .int .i64 (1 + (b : Int)), .slice ca1 1 1, .slice la1 1 1] 33)) hb6
          have BW := hide (bstep B5.out b6)
          have N6 := hide (N5.out.below b6)
          obtain ⟨p0, p1, p2, p3, p4, p5, p6⟩ := at7 (heap_below hb6 (heap_past _ (heap_past _ (heap_alloc_new w5 _))))
          obtain ⟨q0', q1', q2', -⟩ := at3 (heap_below hb6 (heap_past _ (heap_snd w5 _ _ _)))
          have A6 := hide (heap_below BW.out HS.out.ar)
          clear hb6 b6
          go_wp2_with (refine wpList_storeA rfl 33 _ _ rfl A (rtC r (1 + (b : Int)) ca1 la1) _ 33 rfl rfl sz33 A6.out rfl (ar_one ⟨#[109]⟩ 5 64 r (1 + (b : Int)) (ca1, 1, 1) (la1, 1, 1)) ?_; intro w7 hw7; have HW7 := hide hw7; clear hw7)
          have F7 : Fr (· = A) w6 w7 := by rw [HW7.out]; exact fr_all _ _ _ _
          have R7 : w7.heap[A]? = some (.cells (rtC r (1 + (b : Int)) ca1 la1).toArray 33 (0, 0)) := by rw [HW7.out]; exact got0 A6.out rfl
          have SN : Hid (RtS w w7 A r (1 + (b : Int)) (t - 0) nw (gone) ca1 la1) := (by
            have h1 := bstep HS.out.bl BW.out
            have hA : A < wr.heap.size := lt_heap HS.out.ar
            refine ⟨h1.trans (F7.below (fun c e => by rw [e]; exact HS.out.la') h1.size), R7, ?_, HS.out.la', OKN.out, ?_⟩
            · exact ArN.mono ⟨N6.out.cs.fr hA F7, N6.out.ls.fr hA F7⟩ HS.out.bl.size
            · have := HGN.out
              exact ⟨by omega, by omega⟩)
          clear F7 R7
          go_roundw
          case rel => exact ⟨k + 1, _, nw, gone, _, _, by omega, by go_num, rfl, rfl, by omega, by omega, SN.out⟩
          case measure => simp [intOf]; omega
      · obtain rfl : k = xs.length := by omega
        go_wp2_with fail
        refine (HL.out _).mono ?_
        rintro e wb ⟨rfl, hbb⟩
        go_wp2
        go_ret
        exact ⟨rfl, bstep HS.out.bl hbb⟩
  · have d1 : ((xs.length : Int) > 500) = True := by simp; omega
    have d2 : (500 < (xs.length : Int)) = True := by simp; omega
    go_enter Try.func5, Try.ntmps5
    go_wp2_with fail
    refine (HN.out _ _ (heap_alloc_new _ _)).mono ?_
    rintro e wa ⟨g, cap1, ca, la, rfl, q0, q1, q2, q3, q4, q5, q6, hA, hbb⟩
    have BB := hide (bstep (below1 _ _) hbb)
    clear hbb hA
    go_wp2_with fail
    refine (HL.out _).mono ?_
    rintro e wb ⟨rfl, hbb⟩
    go_wp2
    go_ret
    exact ⟨rfl, bstep BB.out hbb⟩
end Go.Proofs.Ytngeclnlgoamkaa
