/- package cells: Random. -/
import Derived.Test.YtngeclnlgoamkaaCeN
import Derived.Test.YtngeclnlgoamkaaNRefOm
namespace Go.Proofs.Ytngeclnlgoamkaa
open Go.RowKit

def rstep (r : Int) : Int := IntKind.u64.wrap (IntKind.u64.wrap (r * 6364136223846793005) + 1442695040888963407)
theorem rstep_r (r : Int) : u64R (rstep r) := u64_wrap _
def rndB (r n : Int) : Nb := if 1 ≤ n ∧ n ≤ 128 then ⟨n, cHi n (rstep r), cLo n (rstep (rstep r))⟩ else nb0
def rndS (r n : Int) : Int := if 1 ≤ n ∧ n ≤ 128 then rstep (rstep r) else r
set_option maxHeartbeats 1000000 in
theorem random_any (r n : Int) : Pure 8 #[.int .u64 r, .int .i64 n] (.tuple #[(rndB r n).val, .int .u64 (rndS r n)]) := fun w => by
  have e1 : IntKind.u64.wrap (IntKind.u64.wrap (r * 6364136223846793005) + 1442695040888963407) = rstep r := rfl
  have e2 : IntKind.u64.wrap (IntKind.u64.wrap (rstep r * 6364136223846793005) + 1442695040888963407) = rstep (rstep r) := rfl
  unfold rndB rndS
  obtain ⟨s0, s1⟩ := rstep_r r
  obtain ⟨t0, t1⟩ := rstep_r (rstep r)
  by_cases h : 1 ≤ n ∧ n ≤ 128
  · rw [if_pos h, if_pos h]
    have HO : Hid (∀ W, _) := fun W => of_may n (rstep r) (rstep (rstep r)) W h.1 h.2 s0 s1 t0 t1
    simp only [Nb.val]
    generalize rstep (rstep r) = t at *
    generalize rstep r = s at *
    generalize cHi n s = ch at *
    generalize cLo n t = cl at *
    clear s0 s1 t0 t1 h
    go_enter Try.func8, Try.ntmps8
    go_wp2_with fail
    refine (HO.out _).mono ?_
    rintro e w1 ⟨rfl, hb⟩
    have k1 := heap_below hb (heap_alloc_new _ _)
    have K1 := hide (heap_past (.cells #[.int .i64 n, .int .u64 ch, .int .u64 cl] 24) k1)
    have B1 := hide (bstep (bstep (below1 _ _) hb) (below1 w1 (.cells #[.int .i64 n, .int .u64 ch, .int .u64 cl] 24)))
    clear hb k1
    go_wp2_with (refine wpList_storeA rfl 24 _ _ rfl w.heap.size [.int .i64 n, .int .u64 ch, .int .u64 cl] _ 24 rfl rfl szNb K1.out rfl (nb_one ⟨n,ch,cl⟩) ?_; intro w5 hw5; have HW5 := hide hw5; clear hw5)
    have R5 : w5.heap[w.heap.size]? = some (.cells #[.int .i64 n, .int .u64 ch, .int .u64 cl] 24 (0, 0)) := by rw [HW5.out]; exact got0 K1.out rfl
    have F5 : Fr (· = w.heap.size) (w1.alloc (.cells #[.int .i64 n, .int .u64 ch, .int .u64 cl] 24)) w5 := by rw [HW5.out]; exact fr_all _ _ _ _
    refine bodyPost_ret (res_pair (cs := [.int .i64 n, .int .u64 ch, .int .u64 cl]) (v := .int .u64 t) Try.results8 (by simp) (by simp) aggNb szNb R5) rfl ⟨rfl, ?_⟩
    exact B1.out.trans (F5.below (fun b e => by omega) B1.out.size)
  · rw [if_neg h, if_neg h]
    have HO : Hid (∀ W, _) := fun W => of_not n (rstep r) (rstep (rstep r)) W h
    simp only [Nb.val, nb0]
    generalize rstep (rstep r) = t at *
    generalize rstep r = s at *
    clear s0 s1 t0 t1 h
    go_enter Try.func8, Try.ntmps8
    go_wp2_with fail
    refine (HO.out _).mono ?_
    rintro e w1 ⟨rfl, hb⟩
    have k1 := heap_below hb (heap_alloc_new _ _)
    have K1 := hide (heap_past (.cells #[.int .i64 0, .int .u64 0, .int .u64 0] 24) k1)
    have B1 := hide (bstep (bstep (below1 _ _) hb) (below1 w1 (.cells #[.int .i64 0, .int .u64 0, .int .u64 0] 24)))
    clear hb k1
    go_wp2_with (refine wpList_storeA rfl 24 _ _ rfl w.heap.size [.int .i64 0, .int .u64 0, .int .u64 0] _ 24 rfl rfl szNb K1.out rfl (nb_one ⟨0,0,0⟩) ?_; intro w5 hw5; have HW5 := hide hw5; clear hw5)
    have R5 : w5.heap[w.heap.size]? = some (.cells #[.int .i64 0, .int .u64 0, .int .u64 0] 24 (0, 0)) := by rw [HW5.out]; exact got0 K1.out rfl
    have F5 : Fr (· = w.heap.size) (w1.alloc (.cells #[.int .i64 0, .int .u64 0, .int .u64 0] 24)) w5 := by rw [HW5.out]; exact fr_all _ _ _ _
    refine bodyPost_ret (res_pair (cs := [.int .i64 0, .int .u64 0, .int .u64 0]) (v := .int .u64 r) Try.results8 (by simp) (by simp) aggNb szNb R5) rfl ⟨rfl, ?_⟩
    exact B1.out.trans (F5.below (fun b e => by omega) B1.out.size)
set_option maxHeartbeats 1000000 in
theorem rrandom_any (r n : Int) : Pure 9 #[.int .u64 r, .int .i64 n] (.tuple #[(rndB r n).val, .int .u64 (rndS r n)]) := fun w => by
  have e1 : IntKind.u64.wrap (IntKind.u64.wrap (r * 6364136223846793005) + 1442695040888963407) = rstep r := rfl
  have e2 : IntKind.u64.wrap (IntKind.u64.wrap (rstep r * 6364136223846793005) + 1442695040888963407) = rstep (rstep r) := rfl
  unfold rndB rndS
  obtain ⟨s0, s1⟩ := rstep_r r
  obtain ⟨t0, t1⟩ := rstep_r (rstep r)
  by_cases h : 1 ≤ n ∧ n ≤ 128
  · rw [if_pos h, if_pos h]
    have HO : Hid (∀ W, _) := fun W => refOf_yes n (rstep r) (rstep (rstep r)) W h.1 h.2 s0 s1 t0 t1
    have d1 : (n < 1) = False := by simp; omega
    have d2 : (n > 128) = False := by simp; omega
    have d3 : (128 < n) = False := by simp; omega
    simp only [Nb.val]
    generalize rstep (rstep r) = t at *
    generalize rstep r = s at *
    generalize cHi n s = ch at *
    generalize cLo n t = cl at *
    clear s0 s1 t0 t1 h
    go_enter Try.func9, Try.ntmps9
    go_wp2_with fail
    refine (HO.out _).mono ?_
    rintro e w1 ⟨rfl, hb⟩
    have k1 := heap_below hb (heap_alloc_new _ _)
    have K1 := hide (heap_past (.cells #[.int .i64 n, .int .u64 ch, .int .u64 cl] 24) k1)
    have B1 := hide (bstep (bstep (below1 _ _) hb) (below1 w1 (.cells #[.int .i64 n, .int .u64 ch, .int .u64 cl] 24)))
    clear hb k1
    go_wp2_with (refine wpList_storeA rfl 24 _ _ rfl w.heap.size [.int .i64 n, .int .u64 ch, .int .u64 cl] _ 24 rfl rfl szNb K1.out rfl (nb_one ⟨n,ch,cl⟩) ?_; intro w5 hw5; have HW5 := hide hw5; clear hw5)
    have R5 : w5.heap[w.heap.size]? = some (.cells #[.int .i64 n, .int .u64 ch, .int .u64 cl] 24 (0, 0)) := by rw [HW5.out]; exact got0 K1.out rfl
    have F5 : Fr (· = w.heap.size) (w1.alloc (.cells #[.int .i64 n, .int .u64 ch, .int .u64 cl] 24)) w5 := by rw [HW5.out]; exact fr_all _ _ _ _
    refine bodyPost_ret (res_pair (cs := [.int .i64 n, .int .u64 ch, .int .u64 cl]) (v := .int .u64 t) Try.results9 (by simp) (by simp) aggNb szNb R5) rfl ⟨rfl, ?_⟩
    exact B1.out.trans (F5.below (fun b e => by omega) B1.out.size)
  · rw [if_neg h, if_neg h]
    simp only [Nb.val, nb0]
    clear s0 s1 t0 t1 e1 e2
    by_cases d1 : n < 1
    · clear h
      go_enter Try.func9, Try.ntmps9
      go_wp2
      refine bodyPost_ret (v := .tuple #[.agg #[.int .i64 0, .int .u64 0, .int .u64 0], .int .u64 r]) (by simp [results, Try.results9, go_sem]) rfl ⟨rfl, ?_⟩
      first | exact below1 _ _ | exact (((below1 _ _).setCell (by simp) _).setCell (by simp) _).setCell (by simp) _
    · have d2 : 128 < n := by omega
      have d1' : decide (n < 1) = false := by simpa using d1
      clear h
      go_enter Try.func9, Try.ntmps9
      go_wp2
      refine bodyPost_ret (v := .tuple #[.agg #[.int .i64 0, .int .u64 0, .int .u64 0], .int .u64 r]) (by simp [results, Try.results9, go_sem]) rfl ⟨rfl, ?_⟩
      first | exact below1 _ _ | exact (((below1 _ _).setCell (by simp) _).setCell (by simp) _).setCell (by simp) _
set_option maxHeartbeats 1000000 in
theorem cellsRandom_any (r n : Int) : Pure 3 #[.int .u64 r, .int .i64 n] (.bool true) := fun w => by
  have H1 : Hid (Pure _ _ _) := random_any r n
  have H2 : Hid (Pure _ _ _) := rrandom_any r n
  have HL : Hid (Pure _ _ _) := lives14_any
  generalize rndS r n = s at *
  generalize rndB r n = b at *
  obtain ⟨bw, bh, bl⟩ := b
  simp only [Nb.val] at *
  go_enter Try.func3, Try.ntmps3
  go_wp2_with fail
  refine (H1.out _).mono ?_
  rintro e w1 ⟨rfl, hb1⟩
  go_wp2_with fail
  refine (H2.out _).mono ?_
  rintro e w2 ⟨rfl, hb2⟩
  have k1 := heap_below hb2 (heap_alloc_new w1 _)
  obtain ⟨q0, q1, q2, q3⟩ := at3 (heap_past (.cells #[.int .i64 bw, .int .u64 bh, .int .u64 bl] 24) k1)
  go_wp2_with fail
  refine (HL.out _).mono ?_
  rintro e w3 ⟨rfl, hb3⟩
  go_wp2
  go_ret
  exact ⟨rfl, bstep (bstep (bstep (bstep hb1 (below1 _ _)) hb2) (below1 _ _)) hb3⟩
end Go.Proofs.Ytngeclnlgoamkaa
