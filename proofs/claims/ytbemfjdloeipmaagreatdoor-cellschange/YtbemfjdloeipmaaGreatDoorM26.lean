/- Pieces of the proof: CgA. -/
import Derived.Test.YtbemfjdloeipmaaGreatDoorM25
import Derived.Test.YtbemfjdloeipmaaGreatDoorM23
/- package cells: Count, Write, Meter, each with one answer for all cases. -/
namespace Go.Proofs.YtbemfjdloeipmaaGreatDoor
open Go.RowKit

def zeroA : Ar := ⟨⟨#[]⟩, 0, 0, 0, 0, [], []⟩
theorem zero_g : ArG zeroA := ⟨by simp [zeroA], by simp [zeroA], by simp [zeroA], by simp [zeroA], by simp [zeroA, i64R], by simp [zeroA, i64R], by simp [zeroA, i64R], by simp [zeroA]⟩
theorem zero_n (W : World) (B : Nat) : ArN W B zeroA none none := ⟨.inl ⟨rfl, rfl⟩, .inl ⟨rfl, rfl⟩⟩
theorem zero_v : arV zeroA none none = zeroV := rfl
def countA (a : Ar) (i : Nb) : Ar := if countC a i = 0 then a.put i.lo.toNat (inc (a.cs.getD i.lo.toNat nb0)) else zeroA
def writeA (a : Ar) (i v : Nb) : Ar := if writeC a i v = 0 then a.put i.lo.toNat v else zeroA
def meterC (a : Ar) (i : Nb) (now : Int) : Int := if now < 0 then 1 else (findA 5 a i).2
def meterB (a : Ar) (i : Nb) (now : Int) : Ar := if meterC a i now = 0 then metA a i.lo.toNat now else zeroA
def meterV (a : Ar) (i : Nb) (now : Int) : Nb := if meterC a i now = 0 then ⟨1, 0, min (tokA a i.lo.toNat now) 1⟩ else nb0
theorem meterC_yes {a : Ar} {i : Nb} {now : Int} (h : meterC a i now = 0) : 0 ≤ now ∧ (findA 5 a i).2 = 0 := by
  unfold meterC at h
  split at h
  · cases h
  · exact ⟨by omega, h⟩
theorem fr_of {b : Nat} {cs : List Value} {W W' : World} (h : W' = setAll b W 0 cs) : Fr (· = b) W W' := by rw [h]; exact fr_all _ _ _ _
theorem got_of {b : Nat} {cs : List Value} {W W' : World} {t : TypeId} {ys : Array Value} (h : W' = setAll b W 0 cs) (hb : W.heap[b]? = some (.cells ys t (0, 0))) (hs : ys.size = cs.length) : W'.heap[b]? = some (.cells cs.toArray t (0, 0)) := by rw [h]; exact got0 hb hs
theorem count_any (x : ArL) (i : Nb) (w : World) (hx : ArR w x) (hi : NbR i) :
    Calls Tryz.prog 7 #[x.val, i.val] w fun e w' => ∃ ca la, e = .returned (.tuple #[arV (countA x.a i) ca la, .int .i64 (countC x.a i)]) ∧ ArN w' w.heap.size (countA x.a i) ca la ∧ Below w.heap.size w w' := by
  unfold countA
  by_cases h : countC x.a i = 0
  · rw [if_pos h]
    refine (count_yes x i w hx hi h).mono ?_
    rintro e w' ⟨ca, la, rfl, h1, h2⟩
    exact ⟨ca, la, by rw [h], h1, h2⟩
  · rw [if_neg h]
    refine (count_no x i w hx hi _ rfl h).mono ?_
    rintro e w' ⟨rfl, h2⟩
    exact ⟨none, none, by rw [zero_v], zero_n _ _, h2⟩
theorem write_any (x : ArL) (i v : Nb) (w : World) (hx : ArR w x) (hi : NbR i) (hv : NbR v) :
    Calls Tryz.prog 9 #[x.val, i.val, v.val] w fun e w' => ∃ ca la, e = .returned (.tuple #[arV (writeA x.a i v) ca la, .int .i64 (writeC x.a i v)]) ∧ ArN w' w.heap.size (writeA x.a i v) ca la ∧ Below w.heap.size w w' := by
  unfold writeA
  by_cases h : writeC x.a i v = 0
  · rw [if_pos h]
    refine (write_yes x i v w hx hi hv h).mono ?_
    rintro e w' ⟨ca, la, rfl, h1, h2⟩
    exact ⟨ca, la, by rw [h], h1, h2⟩
  · rw [if_neg h]
    refine (write_no x i v w hx hi hv _ rfl h).mono ?_
    rintro e w' ⟨rfl, h2⟩
    exact ⟨none, none, by rw [zero_v], zero_n _ _, h2⟩
set_option maxRecDepth 100000 in
set_option maxHeartbeats 4000000 in
theorem meter_no (x : ArL) (i : Nb) (now : Int) (w : World) (hx : ArR w x) (hi : NbR i) (c : Int) (hc : meterC x.a i now = c) (h0 : c ≠ 0) :
    Calls Tryz.prog 10 #[x.val, i.val, .int .i64 now] w fun e w' => e = .returned (.tuple #[zeroV, .agg #[.int .i64 0, .int .u64 0, .int .u64 0], .int .i64 c]) ∧ Below w.heap.size w w' := by
  have HF : Hid (∀ W, Below w.heap.size w W → _) := fun W hb => cfind_any 5 x i W (hx.below hb) hi (by decide)
  unfold meterC at hc
  have h1 : (c == 0) = false := by simp [h0]
  have h2 : (c = 0) = False := by simp [h0]
  clear hx hi h0
  by_cases hn : now < 0
  · rw [if_pos hn] at hc
    subst hc
    clear HF
    obtain ⟨⟨name, kind, aw, rate, burst, cs, ls⟩, ca, cc, la, lc⟩ := x
    obtain ⟨iw, ih, il⟩ := i
    simp only [ArL.val, Nb.val, zeroV] at *
    generalize cs.length = n1 at *
    generalize ls.length = n2 at *
    go_enter Tryz.func10, Tryz.ntmps10
    have K3 := hide (heap_past (.cells #[.int .i64 0, .int .u64 0, .int .u64 0] 29) (heap_trd w (.cells #[.string name, .int .u8 kind, .int .i64 aw, .int .i64 rate, .int .i64 burst, .slice ca n1 cc, .slice la n2 lc] 26) (.cells #[.int .i64 iw, .int .u64 ih, .int .u64 il] 29) zeroC.toArray 26))
    have K4 := hide (heap_fth w (.cells #[.string name, .int .u8 kind, .int .i64 aw, .int .i64 rate, .int .i64 burst, .slice ca n1 cc, .slice la n2 lc] 26) (.cells #[.int .i64 iw, .int .u64 ih, .int .u64 il] 29) (.cells zeroC.toArray 26) #[.int .i64 0, .int .u64 0, .int .u64 0] 29)
    have BB := hide (below4 w (.cells #[.string name, .int .u8 kind, .int .i64 aw, .int .i64 rate, .int .i64 burst, .slice ca n1 cc, .slice la n2 lc] 26) (.cells #[.int .i64 iw, .int .u64 ih, .int .u64 il] 29) (.cells zeroC.toArray 26) (.cells #[.int .i64 0, .int .u64 0, .int .u64 0] 29))
    go_wp2_with (first
      | (refine wpList_storeA rfl 26 _ _ rfl (w.heap.size + 1 + 1) zeroC _ 26 rfl rfl sz33 K3.out rfl zero_one ?_; intro w6 hw6; have F6 := hide (fr_of hw6); have R6 := hide (got_of hw6 K3.out rfl); have K46 := hide ((F6.out.block _ (lt_heap K4.out) (by omega)).trans K4.out); clear hw6)
      | (refine wpList_storeA rfl 29 _ _ rfl (w.heap.size + 1 + 1 + 1) [.int .i64 0, .int .u64 0, .int .u64 0] _ 29 rfl rfl szNb K46.out rfl (nb_one nb0) ?_; intro w7 hw7; have F7 := hide (fr_of hw7); have R7 := hide (got_of hw7 K46.out rfl); clear hw7))
    have R6' := (F7.out.block _ (lt_heap R6.out) (by omega)).trans R6.out
    refine bodyPost_ret (res_triple (cs := zeroC) (cs2 := [.int .i64 0, .int .u64 0, .int .u64 0]) (v := .int .i64 1) Tryz.results10 (by simp) (by simp) (by simp) agg33 sz33 R6' aggNb szNb R7.out) rfl ⟨rfl, ?_⟩
    have h6 := BB.out.trans (F6.out.below (fun b e => by omega) BB.out.size)
    exact h6.trans (F7.out.below (fun b e => by omega) h6.size)
  · rw [if_neg hn] at hc
    rw [hc] at HF
    have hn' : (now < 0) = False := by simp; omega
    generalize (findA 5 x.a i).1 = d at *
    clear hc hn
    obtain ⟨⟨name, kind, aw, rate, burst, cs, ls⟩, ca, cc, la, lc⟩ := x
    obtain ⟨iw, ih, il⟩ := i
    simp only [ArL.val, Nb.val, zeroV] at *
    generalize cs.length = n1 at *
    generalize ls.length = n2 at *
    go_enter Tryz.func10, Tryz.ntmps10
    go_wp2_with fail
    refine (HF.out _ (below5 _ _ _ _ _ _)).mono ?_
    rintro e w2 ⟨rfl, hb⟩
    have BB := hide (bstep (below5 _ _ _ _ _ _) hb)
    have K3 := hide (heap_below hb (heap_past _ (heap_past _ (heap_trd _ _ _ _ _))))
    have K4 := hide (heap_below hb (heap_past _ (heap_fth _ _ _ _ _ _)))
    clear hb
    go_wp2_with (first
      | (refine wpList_storeA rfl 26 _ _ rfl (w.heap.size + 1 + 1) zeroC _ 26 rfl rfl sz33 K3.out rfl zero_one ?_; intro w6 hw6; have F6 := hide (fr_of hw6); have R6 := hide (got_of hw6 K3.out rfl); have K46 := hide ((F6.out.block _ (lt_heap K4.out) (by omega)).trans K4.out); clear hw6)
      | (refine wpList_storeA rfl 29 _ _ rfl (w.heap.size + 1 + 1 + 1) [.int .i64 0, .int .u64 0, .int .u64 0] _ 29 rfl rfl szNb K46.out rfl (nb_one nb0) ?_; intro w7 hw7; have F7 := hide (fr_of hw7); have R7 := hide (got_of hw7 K46.out rfl); clear hw7))
    have R6' := (F7.out.block _ (lt_heap R6.out) (by omega)).trans R6.out
    refine bodyPost_ret (res_triple (cs := zeroC) (cs2 := [.int .i64 0, .int .u64 0, .int .u64 0]) (v := .int .i64 c) Tryz.results10 (by simp) (by simp) (by simp) agg33 sz33 R6' aggNb szNb R7.out) rfl ⟨rfl, ?_⟩
    have h6 := BB.out.trans (F6.out.below (fun b e => by omega) BB.out.size)
    exact h6.trans (F7.out.below (fun b e => by omega) h6.size)
theorem meter_any (x : ArL) (i : Nb) (now : Int) (w : World) (hx : ArR w x) (hi : NbR i) (h1 : now < 9223372036854775808) :
    Calls Tryz.prog 10 #[x.val, i.val, .int .i64 now] w fun e w' => ∃ ca la, e = .returned (.tuple #[arV (meterB x.a i now) ca la, (meterV x.a i now).val, .int .i64 (meterC x.a i now)]) ∧ ArN w' w.heap.size (meterB x.a i now) ca la ∧ Below w.heap.size w w' := by
  unfold meterB meterV
  by_cases h : meterC x.a i now = 0
  · rw [if_pos h, if_pos h]
    obtain ⟨k1, k2⟩ := meterC_yes h
    refine (meter_yes x i now w hx hi k1 h1 k2).mono ?_
    rintro e w' ⟨ca, la, rfl, h1, h2⟩
    exact ⟨ca, la, by rw [h]; rfl, h1, h2⟩
  · rw [if_neg h, if_neg h]
    refine (meter_no x i now w hx hi _ rfl h).mono ?_
    rintro e w' ⟨rfl, h2⟩
    exact ⟨none, none, by rw [zero_v]; rfl, zero_n _ _, h2⟩
end Go.Proofs.YtbemfjdloeipmaaGreatDoor
