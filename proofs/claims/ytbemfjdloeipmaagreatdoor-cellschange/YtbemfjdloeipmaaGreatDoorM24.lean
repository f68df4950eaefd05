/- Pieces of the proof: CeM, CeN. -/
import Derived.Test.YtbemfjdloeipmaaGreatDoorM23
/- The law's examples: the chapter's arrays. -/
namespace Go.Proofs.YtbemfjdloeipmaaGreatDoor
open Go.RowKit

def deC (kind : Int) (name : ByteArray) (n rate burst : Int) : List Value := [.int .u8 kind, .string name, .slice none 0 0, .int .i64 0, .int .i64 n, .int .i64 rate, .int .i64 burst, .slice none 0 0, .slice none 0 0, .slice none 0 0, .string ⟨#[]⟩, .slice none 0 0, .slice none 0 0, .slice none 0 0, .int .i64 0]
theorem deC_one (kind : Int) (name : ByteArray) (n rate burst : Int) : ∀ u ∈ deC kind name n rate burst, u.oneCell' = true := fun u hu => by
  simp only [deC, List.mem_cons, List.not_mem_nil, or_false] at hu
  rcases hu with rfl | rfl | rfl | rfl | rfl | rfl | rfl | rfl | rfl | rfl | rfl | rfl | rfl | rfl | rfl <;> rfl
def countD (name : ByteArray) (n : Nat) : De := ⟨deC 4 name n 0 0, counterA name n 0 0⟩
def meterD (name : ByteArray) (n : Nat) (rate burst : Int) : De := ⟨deC 5 name n rate burst, meterA name n rate burst⟩
theorem i64z : i64R 0 := ⟨by decide, by decide⟩
theorem u64z : u64R 0 := ⟨by decide, by decide⟩
theorem i64s : i64R 64 := ⟨by decide, by decide⟩
theorem countG (name : ByteArray) (n : Nat) (h : n ≤ 4096) : ArG (counterA name n 0 0) := by
  refine ⟨?_, ?_, fun b hb => ?_, fun m hm => ?_, i64s, i64z, i64z, ⟨by show (0 : Int) ≤ 4; decide, by show (4 : Int) < 256; decide⟩⟩
  · simp [counterA]; omega
  · simp [counterA]
  · have := (List.mem_replicate.1 hb).2
    subst this
    exact ⟨i64s, ⟨by decide, by decide⟩, ⟨by decide, by decide⟩⟩
  · simp [counterA] at hm
theorem u64_wrap (n : Int) : u64R (IntKind.u64.wrap n) := by unfold u64R; rw [IntKind.wrap_u64]; omega
theorem meterG (name : ByteArray) (n : Nat) (rate burst : Int) (h : n ≤ 4096) (hr : i64R rate) (hb : i64R burst) : ArG (meterA name n rate burst) := by
  refine ⟨?_, ?_, fun b hb => ?_, fun m hm => ?_, i64s, hr, hb, ⟨by show (0 : Int) ≤ 5; decide, by show (5 : Int) < 256; decide⟩⟩
  · simp [meterA]; omega
  · simp [meterA]; omega
  · have := (List.mem_replicate.1 hb).2
    subst this
    exact ⟨i64s, u64z, u64_wrap _⟩
  · have := (List.mem_replicate.1 hm).2
    subst this
    exact i64z
theorem countD_ok (name : ByteArray) (n : Nat) (h1 : 1 ≤ n) (h2 : n ≤ 4096) : DeOk (countD name n) :=
  ⟨rfl, deC_one _ _ _ _ _, fun W => (fresh_counter name _ 0 n 0 0 _ _ _ _ _ _ _ _ W h1 h2).mono (fun _ _ ⟨ca, h1, h2, h3⟩ => ⟨ca, none, h1, h2, h3⟩), countG name n h2⟩
theorem meterD_ok (name : ByteArray) (n : Nat) (rate burst : Int) (h1 : 1 ≤ n) (h2 : n ≤ 4096) (hr : i64R rate) (hb : i64R burst) : DeOk (meterD name n rate burst) :=
  ⟨rfl, deC_one _ _ _ _ _, fun W => fresh_meter name _ 0 n rate burst _ _ _ _ _ _ _ _ W h1 h2, meterG name n rate burst h2 hr hb⟩
theorem rdD_one {W : World} {p : Nat} {d : De} {t : TypeId} (h : W.heap[p]? = some (.cells d.cs.toArray t (0, 0))) : RdD W p 0 [d] := by
  refine ⟨lt_heap h, fun i hi j u hu => ?_⟩
  obtain rfl : i = 0 := by simp at hi; omega
  rw [blk_cell h, Nat.zero_mul, Nat.zero_add]
  exact hu
theorem rdD_two {W : World} {p : Nat} {d e : De} {t : TypeId} (h : W.heap[p]? = some (.cells (d.cs ++ e.cs).toArray t (0, 0))) (hd : d.cs.length = 15) : RdD W p 0 [d, e] := by
  refine ⟨lt_heap h, fun i hi j u hu => ?_⟩
  rcases (by simp at hi; omega : i = 0 ∨ i = 1) with rfl | rfl
  · have hj : j < d.cs.length := (List.getElem?_eq_some_iff.1 hu).1
    rw [blk_cell h, Nat.zero_mul, Nat.zero_add, List.getElem?_append_left hj]
    exact hu
  · rw [blk_cell h, List.getElem?_append_right (by omega)]
    have : 0 + 1 * 15 + j - d.cs.length = j := by omega
    rw [this]
    exact hu
/- One array of a list of one's own, as it lies. -/
theorem As.get {w W : World} {v : Value} {xs : List ArL} (h : As w W v xs) (hn : 0 < xs.length) : ∃ g cap, v = .slice (some ⟨g, 0, none⟩) xs.length cap ∧ g < W.heap.size ∧ ∀ i (hi : i < xs.length) j u, (xs[i].cells)[j]? = some u → W.cell? ⟨g, i * 7 + j, none⟩ = some u := by
  rcases own_form h.own with ⟨_, hz⟩ | ⟨g, c, hv, _, hlt, _⟩
  · omega
  · refine ⟨g, c, hv, hlt, fun i hi j u hu => ?_⟩
    have := own_cell arl_len h.own hv i hi j u hu
    rw [Nat.zero_add] at this
    exact this
theorem blk_num {W : World} {g : Nat} {t : TypeId} {l : List Nb} (h : W.heap[g]? = some (.cells (flat Nb.cells l).toArray t (0, 0))) (i : Nat) (hi : i < l.length) : W.cell? ⟨g, i * 3, none⟩ = some (.int .i64 l[i].w) ∧ W.cell? ⟨g, i * 3 + 1, none⟩ = some (.int .u64 l[i].hi) ∧ W.cell? ⟨g, i * 3 + 2, none⟩ = some (.int .u64 l[i].lo) := by
  have key : ∀ j, j < 3 → W.cell? ⟨g, i * 3 + j, none⟩ = (l[i].cells)[j]? := fun j hj => by rw [blk_cell h, flat_get nb_len l i j hi hj]
  exact ⟨key 0 (by decide), key 1 (by decide), key 2 (by decide)⟩
theorem lw1 : newA [countD ⟨#[99]⟩ 2, meterD ⟨#[109]⟩ 1 3 5] = [counterA ⟨#[99]⟩ 2 0 0, meterA ⟨#[109]⟩ 1 3 5] := by
  have h1 : mayA (counterA ⟨#[99]⟩ 2 0 0) = true := by kernel_rfl
  have h2 : mayA (meterA ⟨#[109]⟩ 1 3 5) = true := by kernel_rfl
  simp [newA, countD, meterD, h1, h2]
theorem lw2 : countC (counterA ⟨#[99]⟩ 2 0 0) ⟨8, 0, 1⟩ = 0 := by kernel_rfl
theorem lw3 : countC (counterA ⟨#[99]⟩ 2 0 0) ⟨8, 0, 2⟩ = 11 := by kernel_rfl
theorem lw4 : ((counterA ⟨#[99]⟩ 2 0 0).put 1 (inc ((counterA ⟨#[99]⟩ 2 0 0).cs.getD 1 nb0))).cs = [⟨64, 0, 0⟩, ⟨64, 0, 1⟩] := by kernel_rfl
end Go.Proofs.YtbemfjdloeipmaaGreatDoor
/- The law's examples, walked. -/
namespace Go.Proofs.YtbemfjdloeipmaaGreatDoor
open Go.RowKit

def liveD : List De := [countD ⟨#[99]⟩ 2, meterD ⟨#[109]⟩ 1 3 5]
theorem live_ok : ∀ d ∈ liveD, DeOk d := fun d hd => by
  simp only [liveD, List.mem_cons, List.not_mem_nil, or_false] at hd
  rcases hd with rfl | rfl
  · exact countD_ok _ 2 (by decide) (by decide)
  · exact meterD_ok _ 1 3 5 (by decide) (by decide) ⟨by decide, by decide⟩ ⟨by decide, by decide⟩
theorem live_new (p : Nat) (w : World) (h : w.heap[p]? = some (.cells (deC 4 ⟨#[99]⟩ 2 0 0 ++ deC 5 ⟨#[109]⟩ 1 3 5).toArray 87 (0, 0))) : Calls Tryz.prog 21 #[.slice (some ⟨p, 0, none⟩) 2 2] w fun e w' => ∃ g cap x y, e = .returned (.slice (some ⟨g, 0, none⟩) 2 cap) ∧ As w w' (.slice (some ⟨g, 0, none⟩) 2 cap) [x, y] ∧ x.a = counterA ⟨#[99]⟩ 2 0 0 ∧ y.a = meterA ⟨#[109]⟩ 1 3 5 ∧ Below w.heap.size w w' := by
  refine (new_any p 0 2 liveD w (rdD_two h rfl) live_ok (by simp [liveD])).mono ?_
  rintro e w' ⟨v, xs, rfl, hm, ha⟩
  have hm' := hm.trans lw1
  rcases xs with _ | ⟨x, _ | ⟨y, _ | ⟨z, r⟩⟩⟩
  · simp at hm'
  · simp at hm'
  · simp only [List.map_cons, List.map_nil, List.cons.injEq, and_true] at hm'
    obtain ⟨g, cap, hv, _, _⟩ := ha.get (by simp)
    subst hv
    exact ⟨g, cap, x, y, rfl, ha, hm'.1, hm'.2, ha.bl⟩
  · simp at hm'
/- The counter and the meter, as they lie. -/
structure Lv (W : World) (B g : Nat) (ca1 cb1 : Nat) (la1 la2 : Option Addr) : Prop where
  q0 : W.cell? ⟨g, 0, none⟩ = some (.string ⟨#[99]⟩)
  q1 : W.cell? ⟨g, 1, none⟩ = some (.int .u8 4)
  q2 : W.cell? ⟨g, 2, none⟩ = some (.int .i64 64)
  q3 : W.cell? ⟨g, 3, none⟩ = some (.int .i64 0)
  q4 : W.cell? ⟨g, 4, none⟩ = some (.int .i64 0)
  q5 : W.cell? ⟨g, 5, none⟩ = some (.slice (some ⟨ca1, 0, none⟩) 2 2)
  q6 : W.cell? ⟨g, 6, none⟩ = some (.slice la1 0 0)
  r5 : W.cell? ⟨g, 12, none⟩ = some (.slice (some ⟨cb1, 0, none⟩) 1 1)
  c0 : W.cell? ⟨cb1, 2, none⟩ = some (.int .u64 5)
  ok : ArR W ⟨counterA ⟨#[99]⟩ 2 0 0, some ⟨ca1, 0, none⟩, 2, la1, 0⟩
  all : RdR W (some ⟨g, 0, none⟩) [⟨counterA ⟨#[99]⟩ 2 0 0, some ⟨ca1, 0, none⟩, 2, la1, 0⟩, ⟨meterA ⟨#[109]⟩ 1 3 5, some ⟨cb1, 0, none⟩, 1, la2, 1⟩]
  lt : B ≤ W.heap.size
theorem Lv.below {W W' : World} {B g ca1 cb1 : Nat} {la1 la2 : Option Addr} (h : Lv W B g ca1 cb1 la1 la2) (hb : Below W.heap.size W W') : Lv W' B g ca1 cb1 la1 la2 := by
  have key : ∀ {b o v}, W.cell? ⟨b, o, none⟩ = some v → W'.cell? ⟨b, o, none⟩ = some v := fun {b o v} hc => (hb.cell (p := ⟨b, o, none⟩) (World.block_lt_of_cell? W _ hc)).trans hc
  exact ⟨key h.q0, key h.q1, key h.q2, key h.q3, key h.q4, key h.q5, key h.q6, key h.r5, key h.c0, h.ok.below hb, h.all.below hb, Nat.le_trans h.lt hb.size⟩
theorem lv_of {w W : World} {g cap : Nat} {x y : ArL} (ha : As w W (.slice (some ⟨g, 0, none⟩) 2 cap) [x, y]) (hx : x.a = counterA ⟨#[99]⟩ 2 0 0) (hy : y.a = meterA ⟨#[109]⟩ 1 3 5) : ∃ ca1 cb1 la1 la2, Lv W w.heap.size g ca1 cb1 la1 la2 := by
  obtain ⟨xa, xca, xcc, xla, xlc⟩ := x
  obtain ⟨ya, yca, ycc, yla, ylc⟩ := y
  simp only at hx hy
  subst hx hy
  obtain ⟨h1, h2, h3, h4⟩ := ha.ok _ (List.mem_cons_self ..)
  obtain ⟨k1, k2, k3, k4⟩ := ha.ok _ (List.mem_cons_of_mem _ (List.mem_cons_self ..))
  simp only at h1 h2 h3 h4 k1 k2 k3 k4
  have e1 : (counterA ⟨#[99]⟩ 2 0 0).cs.length = 2 := rfl
  have e2 : (counterA ⟨#[99]⟩ 2 0 0).ls.length = 0 := rfl
  have e3 : (meterA ⟨#[109]⟩ 1 3 5).cs.length = 1 := rfl
  have e4 : (meterA ⟨#[109]⟩ 1 3 5).ls.length = 1 := rfl
  rw [e1] at h3; rw [e2] at h4; rw [e3] at k3; rw [e4] at k4
  subst h3 h4 k3 k4
  obtain ⟨ca1, rfl, _, hg1⟩ := ownR_some h1.cs (by decide)
  obtain ⟨cb1, rfl, _, hg2⟩ := ownR_some k1.cs (by decide)
  obtain ⟨hrd, _⟩ := ha.rd
  rcases ha.get (by simp) with ⟨g', cap', hv, _, hcl⟩
  injection hv with hv1 _ hv3
  injection hv1 with hv1
  injection hv1 with hv1
  subst hv1
  refine ⟨ca1, cb1, xla, yla, ⟨hcl 0 (by simp) 0 _ rfl, hcl 0 (by simp) 1 _ rfl, hcl 0 (by simp) 2 _ rfl, hcl 0 (by simp) 3 _ rfl, hcl 0 (by simp) 4 _ rfl, hcl 0 (by simp) 5 _ rfl, hcl 0 (by simp) 6 _ rfl, hcl 1 (by simp) 5 _ rfl, ?_, h1.r h2, hrd, ha.bl.size⟩⟩
  exact (blk_num hg2 0 (by decide)).2.2
theorem lw5 : (counterA ⟨#[99]⟩ 2 0 0).cs.length = 2 := rfl
set_option maxRecDepth 100000 in
set_option maxHeartbeats 8000000 in
theorem lives14_any : Pure 5 #[] (.bool true) := fun w => by
  have HN : Hid (∀ (W : World) (p : Nat), W.heap[p]? = some (.cells (deC 4 ⟨#[99]⟩ 2 0 0 ++ deC 5 ⟨#[109]⟩ 1 3 5).toArray 87 (0, 0)) → _) := fun W p h => live_new p W h
  have HA : Hid (∀ W B g cap ca1 cb1 la1 la2, Lv W B g ca1 cb1 la1 la2 → Calls Tryz.prog 22 #[.slice (some ⟨g, 0, none⟩) 2 cap] W fun e w' => e = .returned (.bool true) ∧ Below W.heap.size W w') := fun W B g cap ca1 cb1 la1 la2 h => by
    have := check14_any (some ⟨g, 0, none⟩) cap _ W h.all (by simp)
    have e : ([⟨counterA ⟨#[99]⟩ 2 0 0, some ⟨ca1, 0, none⟩, 2, la1, 0⟩, ⟨meterA ⟨#[109]⟩ 1 3 5, some ⟨cb1, 0, none⟩, 1, la2, 1⟩] : List ArL).all (fun x => mayA x.a) = true := by
      have h1 : mayA (counterA ⟨#[99]⟩ 2 0 0) = true := by kernel_rfl
      have h2 : mayA (meterA ⟨#[109]⟩ 1 3 5) = true := by kernel_rfl
      simp [h1, h2]
    rw [e] at this
    exact this
  have i8 : i64R 8 := ⟨by decide, by decide⟩
  have n8 : ∀ n : Int, u64R n → NbR ⟨8, 0, n⟩ := fun n h => ⟨i8, u64z, h⟩
  have HC1 : Hid (∀ W B g ca1 cb1 la1 la2, Lv W B g ca1 cb1 la1 la2 → Calls Tryz.prog 7 #[.agg #[.string ⟨#[99]⟩, .int .u8 4, .int .i64 64, .int .i64 0, .int .i64 0, .slice (some ⟨ca1, 0, none⟩) 2 2, .slice la1 0 0], .agg #[.int .i64 8, .int .u64 0, .int .u64 1]] W fun e w' => ∃ g2 la, e = .returned (.tuple #[.agg #[.string ⟨#[99]⟩, .int .u8 4, .int .i64 64, .int .i64 0, .int .i64 0, .slice (some ⟨g2, 0, none⟩) 2 2, .slice la 0 0], .int .i64 0]) ∧ w'.cell? ⟨g2, 2, none⟩ = some (.int .u64 0) ∧ w'.cell? ⟨g2, 5, none⟩ = some (.int .u64 1) ∧ g2 < w'.heap.size ∧ Below W.heap.size W w') := fun W B g ca1 cb1 la1 la2 h => by
    refine (count_yes ⟨counterA ⟨#[99]⟩ 2 0 0, some ⟨ca1, 0, none⟩, 2, la1, 0⟩ ⟨8, 0, 1⟩ W h.ok (n8 1 ⟨by decide, by decide⟩) lw2).mono ?_
    rintro e w' ⟨ca, la, rfl, hn, hb⟩
    have hcs := hn.cs
    have e1 : (Int.toNat (1 : Int)) = 1 := rfl
    simp only [e1] at hcs
    rw [lw4] at hcs
    obtain ⟨g2, hg, _, hr⟩ := ownR_some hcs (by decide)
    rw [arV_put]
    subst hg
    exact ⟨g2, la, rfl, (blk_num hr 0 (by decide)).2.2, (blk_num hr 1 (by decide)).2.2, lt_heap hr, hb⟩
  have HC2 : Hid (∀ W B g ca1 cb1 la1 la2, Lv W B g ca1 cb1 la1 la2 → Calls Tryz.prog 7 #[.agg #[.string ⟨#[99]⟩, .int .u8 4, .int .i64 64, .int .i64 0, .int .i64 0, .slice (some ⟨ca1, 0, none⟩) 2 2, .slice la1 0 0], .agg #[.int .i64 8, .int .u64 0, .int .u64 2]] W fun e w' => e = .returned (.tuple #[.agg #[.string ⟨#[]⟩, .int .u8 0, .int .i64 0, .int .i64 0, .int .i64 0, .slice none 0 0, .slice none 0 0], .int .i64 11]) ∧ Below W.heap.size W w') := fun W B g ca1 cb1 la1 la2 h =>
    count_no ⟨counterA ⟨#[99]⟩ 2 0 0, some ⟨ca1, 0, none⟩, 2, la1, 0⟩ ⟨8, 0, 2⟩ W h.ok (n8 2 ⟨by decide, by decide⟩) 11 lw3 (by decide)
  clear n8 i8
  go_enter Tryz.func5, Tryz.ntmps5
  go_wp2_with fail
  refine (HN.out _ _ (heap_alloc_new _ _)).mono ?_
  rintro e w1 ⟨g, cap, x, y, rfl, ha, hx, hy, hb⟩
  obtain ⟨ca1, cb1, la1, la2, hL⟩ := lv_of ha hx hy
  have BB := hide (bstep (below1 _ _) hb)
  have L1 := hide hL
  obtain ⟨q0, q1, q2, q3, q4, q5, q6, r5, c0, -, -, -⟩ := hL
  clear ha hx hy hb HN
  go_wp2_with fail
  refine (HA.out _ _ _ _ _ _ _ _ L1.out).mono ?_
  rintro e w2 ⟨rfl, hb⟩
  replace BB := hide (bstep BB.out hb)
  replace L1 := hide (L1.out.below hb)
  clear hb q0 q1 q2 q3 q4 q5 q6 r5 c0 HA
  obtain ⟨q0, q1, q2, q3, q4, q5, q6, r5, c0, -, -, -⟩ := L1.out
  go_wp2_with fail
  refine (HC1.out _ _ _ _ _ _ _ L1.out).mono ?_
  rintro e w3 ⟨g2, la, rfl, d0, d1, hg2, hb⟩
  replace BB := hide (bstep BB.out hb)
  replace L1 := hide (L1.out.below hb)
  clear hb q0 q1 q2 q3 q4 q5 q6 r5 c0 HC1
  have L2 := hide (L1.out.below (below1 w3 (.cells #[.string ⟨#[99]⟩, .int .u8 4, .int .i64 64, .int .i64 0, .int .i64 0, .slice (some ⟨g2, 0, none⟩) 2 2, .slice la 0 0] 26)))
  obtain ⟨q0, q1, q2, q3, q4, q5, q6, r5, c0, -, -, -⟩ := L2.out
  have D0 := hide d0
  have D1 := hide d1
  have HG := hide hg2
  clear d0 d1 hg2 L1
  go_wp2_with fail
  refine (HC2.out _ _ _ _ _ _ _ L2.out).mono ?_
  rintro e w4 ⟨rfl, hb⟩
  have b1 := bstep (below1 w3 _) hb
  replace BB := hide (bstep BB.out b1)
  have k7 := heap_below hb (heap_alloc_new w3 _)
  have d0 := (b1.cell (p := ⟨g2, 2, none⟩) HG.out).trans D0.out
  have d1 := (b1.cell (p := ⟨g2, 5, none⟩) HG.out).trans D1.out
  have d0' := ((below1 w4 (.cells #[.string ⟨#[]⟩, .int .u8 0, .int .i64 0, .int .i64 0, .int .i64 0, .slice none 0 0, .slice none 0 0] 26)).cell (p := ⟨g2, 2, none⟩) (Nat.lt_of_lt_of_le HG.out b1.size)).trans d0
  have d1' := ((below1 w4 (.cells #[.string ⟨#[]⟩, .int .u8 0, .int .i64 0, .int .i64 0, .int .i64 0, .slice none 0 0, .slice none 0 0] 26)).cell (p := ⟨g2, 5, none⟩) (Nat.lt_of_lt_of_le HG.out b1.size)).trans d1
  obtain ⟨-, -, -, -, -, p5, -⟩ := at7 (heap_past (.cells #[.string ⟨#[]⟩, .int .u8 0, .int .i64 0, .int .i64 0, .int .i64 0, .slice none 0 0, .slice none 0 0] 26) k7)
  clear hb b1 k7 q0 q1 q2 q3 q4 q5 q6 r5 c0 HC2
  go_wp2
  go_ret
  exact ⟨rfl, bstep BB.out (below1 _ _)⟩
end Go.Proofs.YtbemfjdloeipmaaGreatDoor
