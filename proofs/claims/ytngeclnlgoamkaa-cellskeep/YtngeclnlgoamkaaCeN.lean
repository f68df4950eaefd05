/- The law's examples, walked. -/
import Derived.Test.YtngeclnlgoamkaaCeM
namespace Go.Proofs.Ytngeclnlgoamkaa
open Go.RowKit

def liveD : List De := [countD ⟨#[99]⟩ 2, meterD ⟨#[109]⟩ 1 3 5]
theorem live_ok : ∀ d ∈ liveD, DeOk d := fun d hd => by
  simp only [liveD, List.mem_cons, List.not_mem_nil, or_false] at hd
  rcases hd with rfl | rfl
  · exact countD_ok _ 2 (by decide) (by decide)
  · exact meterD_ok _ 1 3 5 (by decide) (by decide) ⟨by decide, by decide⟩ ⟨by decide, by decide⟩
theorem live_new (p : Nat) (w : World) (h : w.heap[p]? = some (.cells (deC 4 ⟨#[99]⟩ 2 0 0 ++ deC 5 ⟨#[109]⟩ 1 3 5).toArray 53 (0, 0))) : Calls Try.prog 17 #[.slice (some ⟨p, 0, none⟩) 2 2] w fun e w' => ∃ g cap x y, e = .returned (.slice (some ⟨g, 0, none⟩) 2 cap) ∧ As w w' (.slice (some ⟨g, 0, none⟩) 2 cap) [x, y] ∧ x.a = counterA ⟨#[99]⟩ 2 0 0 ∧ y.a = meterA ⟨#[109]⟩ 1 3 5 ∧ Below w.heap.size w w' := by
  refine (new_any p 0 2 liveD w (rdD_two h rfl) live_ok (by simp [liveD])).mono ?_
  rintro e w' ⟨v, xs, rfl, hm, ha⟩
  have hm' := hm.trans lv1
  rcases xs with _ | ⟨x, _ | ⟨y, _ | ⟨z, r⟩⟩⟩
  · simp at hm'
  · simp at hm'
  · simp only [List.map_cons, List.map_nil, List.cons.injEq, and_true] at hm'
    obtain ⟨g, cap, hv, _, _⟩ := ha.get (by simp)
    subst hv
    exact ⟨g, cap, x, y, rfl, ha, hm'.1, hm'.2, ha.bl⟩
  · simp at hm'
/- The counter and the meter, as they lie. -/
structure Lv (W : World) (B g : Nat) (ca1 cb1 : Nat) (la1 la2 : Option Addr) : Prop where
  q0 : W.cell? ⟨g, 0, none⟩ = some (.string ⟨#[99]⟩)
  q1 : W.cell? ⟨g, 1, none⟩ = some (.int .u8 4)
  q2 : W.cell? ⟨g, 2, none⟩ = some (.int .i64 64)
  q3 : W.cell? ⟨g, 3, none⟩ = some (.int .i64 0)
  q4 : W.cell? ⟨g, 4, none⟩ = some (.int .i64 0)
  q5 : W.cell? ⟨g, 5, none⟩ = some (.slice (some ⟨ca1, 0, none⟩) 2 2)
  q6 : W.cell? ⟨g, 6, none⟩ = some (.slice la1 0 0)
  r5 : W.cell? ⟨g, 12, none⟩ = some (.slice (some ⟨cb1, 0, none⟩) 1 1)
  c0 : W.cell? ⟨cb1, 2, none⟩ = some (.int .u64 5)
  ok : ArR W ⟨counterA ⟨#[99]⟩ 2 0 0, some ⟨ca1, 0, none⟩, 2, la1, 0⟩
  all : RdR W (some ⟨g, 0, none⟩) [⟨counterA ⟨#[99]⟩ 2 0 0, some ⟨ca1, 0, none⟩, 2, la1, 0⟩, ⟨meterA ⟨#[109]⟩ 1 3 5, some ⟨cb1, 0, none⟩, 1, la2, 1⟩]
  lt : B ≤ W.heap.size
theorem Lv.below {W W' : World} {B g ca1 cb1 : Nat} {la1 la2 : Option Addr} (h : Lv W B g ca1 cb1 la1 la2) (hb : Below W.heap.size W W') : Lv W' B g ca1 cb1 la1 la2 := by
  have key : ∀ {b o v}, W.cell? ⟨b, o, none⟩ = some v → W'.cell? ⟨b, o, none⟩ = some v := fun {b o v} hc => (hb.cell (p := ⟨b, o, none⟩) (World.block_lt_of_cell? W _ hc)).trans hc
  exact ⟨key h.q0, key h.q1, key h.q2, key h.q3, key h.q4, key h.q5, key h.q6, key h.r5, key h.c0, h.ok.below hb, h.all.below hb, Nat.le_trans h.lt hb.size⟩
theorem lv_of {w W : World} {g cap : Nat} {x y : ArL} (ha : As w W (.slice (some ⟨g, 0, none⟩) 2 cap) [x, y]) (hx : x.a = counterA ⟨#[99]⟩ 2 0 0) (hy : y.a = meterA ⟨#[109]⟩ 1 3 5) : ∃ ca1 cb1 la1 la2, Lv W w.heap.size g ca1 cb1 la1 la2 := by
  obtain ⟨xa, xca, xcc, xla, xlc⟩ := x
  obtain ⟨ya, yca, ycc, yla, ylc⟩ := y
  simp only at hx hy
  subst hx hy
  obtain ⟨h1, h2, h3, h4⟩ := ha.ok _ (List.mem_cons_self ..)
  obtain ⟨k1, k2, k3, k4⟩ := ha.ok _ (List.mem_cons_of_mem _ (List.mem_cons_self ..))
  simp only at h1 h2 h3 h4 k1 k2 k3 k4
  have e1 : (counterA ⟨#[99]⟩ 2 0 0).cs.length = 2 := rfl
  have e2 : (counterA ⟨#[99]⟩ 2 0 0).ls.length = 0 := rfl
  have e3 : (meterA ⟨#[109]⟩ 1 3 5).cs.length = 1 := rfl
  have e4 : (meterA ⟨#[109]⟩ 1 3 5).ls.length = 1 := rfl
  rw [e1] at h3; rw [e2] at h4; rw [e3] at k3; rw [e4] at k4
  subst h3 h4 k3 k4
  obtain ⟨ca1, rfl, _, hg1⟩ := ownR_some h1.cs (by decide)
  obtain ⟨cb1, rfl, _, hg2⟩ := ownR_some k1.cs (by decide)
  obtain ⟨hrd, _⟩ := ha.rd
  rcases ha.get (by simp) with ⟨g', cap', hv, _, hcl⟩
  injection hv with hv1 _ hv3
  injection hv1 with hv1
  injection hv1 with hv1
  subst hv1
  refine ⟨ca1, cb1, xla, yla, ⟨hcl 0 (by simp) 0 _ rfl, hcl 0 (by simp) 1 _ rfl, hcl 0 (by simp) 2 _ rfl, hcl 0 (by simp) 3 _ rfl, hcl 0 (by simp) 4 _ rfl, hcl 0 (by simp) 5 _ rfl, hcl 0 (by simp) 6 _ rfl, hcl 1 (by simp) 5 _ rfl, ?_, h1.r h2, hrd, ha.bl.size⟩⟩
  exact (blk_num hg2 0 (by decide)).2.2
theorem lv5 : (counterA ⟨#[99]⟩ 2 0 0).cs.length = 2 := rfl
set_option maxRecDepth 100000 in
set_option maxHeartbeats 8000000 in
theorem lives14_any : Pure 10 #[] (.bool true) := fun w => by
  have HN : Hid (∀ (W : World) (p : Nat), W.heap[p]? = some (.cells (deC 4 ⟨#[99]⟩ 2 0 0 ++ deC 5 ⟨#[109]⟩ 1 3 5).toArray 53 (0, 0)) → _) := fun W p h => live_new p W h
  have HA : Hid (∀ W B g cap ca1 cb1 la1 la2, Lv W B g ca1 cb1 la1 la2 → Calls Try.prog 14 #[.slice (some ⟨g, 0, none⟩) 2 cap] W fun e w' => e = .returned (.bool true) ∧ Below W.heap.size W w') := fun W B g cap ca1 cb1 la1 la2 h => by
    have := check14_any (some ⟨g, 0, none⟩) cap _ W h.all (by simp)
    have e : ([⟨counterA ⟨#[99]⟩ 2 0 0, some ⟨ca1, 0, none⟩, 2, la1, 0⟩, ⟨meterA ⟨#[109]⟩ 1 3 5, some ⟨cb1, 0, none⟩, 1, la2, 1⟩] : List ArL).all (fun x => mayA x.a) = true := by
      have h1 : mayA (counterA ⟨#[99]⟩ 2 0 0) = true := by kernel_rfl
      have h2 : mayA (meterA ⟨#[109]⟩ 1 3 5) = true := by kernel_rfl
      simp [h1, h2]
    rw [e] at this
    exact this
  have i8 : i64R 8 := ⟨by decide, by decide⟩
  have n8 : ∀ n : Int, u64R n → NbR ⟨8, 0, n⟩ := fun n h => ⟨i8, u64z, h⟩
  have HC1 : Hid (∀ W B g ca1 cb1 la1 la2, Lv W B g ca1 cb1 la1 la2 → Calls Try.prog 16 #[.agg #[.string ⟨#[99]⟩, .int .u8 4, .int .i64 64, .int .i64 0, .int .i64 0, .slice (some ⟨ca1, 0, none⟩) 2 2, .slice la1 0 0], .agg #[.int .i64 8, .int .u64 0, .int .u64 1]] W fun e w' => ∃ g2 la, e = .returned (.tuple #[.agg #[.string ⟨#[99]⟩, .int .u8 4, .int .i64 64, .int .i64 0, .int .i64 0, .slice (some ⟨g2, 0, none⟩) 2 2, .slice la 0 0], .int .i64 0]) ∧ w'.cell? ⟨g2, 2, none⟩ = some (.int .u64 0) ∧ w'.cell? ⟨g2, 5, none⟩ = some (.int .u64 1) ∧ g2 < w'.heap.size ∧ Below W.heap.size W w') := fun W B g ca1 cb1 la1 la2 h => by
    refine (count_yes ⟨counterA ⟨#[99]⟩ 2 0 0, some ⟨ca1, 0, none⟩, 2, la1, 0⟩ ⟨8, 0, 1⟩ W h.ok (n8 1 ⟨by decide, by decide⟩) lv2).mono ?_
    rintro e w' ⟨ca, la, rfl, hn, hb⟩
    have hcs := hn.cs
    have e1 : (Int.toNat (1 : Int)) = 1 := rfl
    simp only [e1] at hcs
    rw [lv4] at hcs
    obtain ⟨g2, hg, _, hr⟩ := ownR_some hcs (by decide)
    rw [arV_put]
    subst hg
    exact ⟨g2, la, rfl, (blk_num hr 0 (by decide)).2.2, (blk_num hr 1 (by decide)).2.2, lt_heap hr, hb⟩
  have HC2 : Hid (∀ W B g ca1 cb1 la1 la2, Lv W B g ca1 cb1 la1 la2 → Calls Try.prog 16 #[.agg #[.string ⟨#[99]⟩, .int .u8 4, .int .i64 64, .int .i64 0, .int .i64 0, .slice (some ⟨ca1, 0, none⟩) 2 2, .slice la1 0 0], .agg #[.int .i64 8, .int .u64 0, .int .u64 2]] W fun e w' => e = .returned (.tuple #[.agg #[.string ⟨#[]⟩, .int .u8 0, .int .i64 0, .int .i64 0, .int .i64 0, .slice none 0 0, .slice none 0 0], .int .i64 11]) ∧ Below W.heap.size W w') := fun W B g ca1 cb1 la1 la2 h =>
    count_no ⟨counterA ⟨#[99]⟩ 2 0 0, some ⟨ca1, 0, none⟩, 2, la1, 0⟩ ⟨8, 0, 2⟩ W h.ok (n8 2 ⟨by decide, by decide⟩) 11 lv3 (by decide)
  clear n8 i8
  go_enter Try.func10, Try.ntmps10
  go_wp2_with fail
  refine (HN.out _ _ (heap_alloc_new _ _)).mono ?_
  rintro e w1 ⟨g, cap, x, y, rfl, ha, hx, hy, hb⟩
  obtain ⟨ca1, cb1, la1, la2, hL⟩ := lv_of ha hx hy
  have BB := hide (bstep (below1 _ _) hb)
  have L1 := hide hL
  obtain ⟨q0, q1, q2, q3, q4, q5, q6, r5, c0, -, -, -⟩ := hL
  clear ha hx hy hb HN
  go_wp2_with fail
  refine (HA.out _ _ _ _ _ _ _ _ L1.out).mono ?_
  rintro e w2 ⟨rfl, hb⟩
  replace BB := hide (bstep BB.out hb)
  replace L1 := hide (L1.out.below hb)
  clear hb q0 q1 q2 q3 q4 q5 q6 r5 c0 HA
  obtain ⟨q0, q1, q2, q3, q4, q5, q6, r5, c0, -, -, -⟩ := L1.out
  go_wp2_with fail
  refine (HC1.out _ _ _ _ _ _ _ L1.out).mono ?_
  rintro e w3 ⟨g2, la, rfl, d0, d1, hg2, hb⟩
  replace BB := hide (bstep BB.out hb)
  replace L1 := hide (L1.out.below hb)
  clear hb q0 q1 q2 q3 q4 q5 q6 r5 c0 HC1
  have L2 := hide (L1.out.below (below1 w3 (.cells #[.string ⟨#[99]⟩, .int .u8 4, .int .i64 64, .int .i64 0, .int .i64 0, .slice (some ⟨g2, 0, none⟩) 2 2, .slice la 0 0] 33)))
  obtain ⟨q0, q1, q2, q3, q4, q5, q6, r5, c0, -, -, -⟩ := L2.out
  have D0 := hide d0
  have D1 := hide d1
  have HG := hide hg2
  clear d0 d1 hg2 L1
  go_wp2_with fail
  refine (HC2.out _ _ _ _ _ _ _ L2.out).mono ?_
  rintro e w4 ⟨rfl, hb⟩
  have b1 := bstep (below1 w3 _) hb
  replace BB := hide (bstep BB.out b1)
  have k7 := heap_below hb (heap_alloc_new w3 _)
  have d0 := (b1.cell (p := ⟨g2, 2, none⟩) HG.out).trans D0.out
  have d1 := (b1.cell (p := ⟨g2, 5, none⟩) HG.out).trans D1.out
  have d0' := ((below1 w4 (.cells #[.string ⟨#[]⟩, .int .u8 0, .int .i64 0, .int .i64 0, .int .i64 0, .slice none 0 0, .slice none 0 0] 33)).cell (p := ⟨g2, 2, none⟩) (Nat.lt_of_lt_of_le HG.out b1.size)).trans d0
  have d1' := ((below1 w4 (.cells #[.string ⟨#[]⟩, .int .u8 0, .int .i64 0, .int .i64 0, .int .i64 0, .slice none 0 0, .slice none 0 0] 33)).cell (p := ⟨g2, 5, none⟩) (Nat.lt_of_lt_of_le HG.out b1.size)).trans d1
  obtain ⟨-, -, -, -, -, p5, -⟩ := at7 (heap_past (.cells #[.string ⟨#[]⟩, .int .u8 0, .int .i64 0, .int .i64 0, .int .i64 0, .slice none 0 0, .slice none 0 0] 33) k7)
  clear hb b1 k7 q0 q1 q2 q3 q4 q5 q6 r5 c0 HC2
  go_wp2
  go_ret
  exact ⟨rfl, bstep BB.out (below1 _ _)⟩
end Go.Proofs.Ytngeclnlgoamkaa
