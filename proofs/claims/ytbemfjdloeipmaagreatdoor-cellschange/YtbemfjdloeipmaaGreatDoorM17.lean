/- Pieces of the proof: CeG, SmN. -/
import Derived.Test.YtbemfjdloeipmaaGreatDoorM11
import Derived.Test.YtbemfjdloeipmaaGreatDoorM3
import Derived.RegionTactic
/- package cells: Write, Count. -/
namespace Go.Proofs.YtbemfjdloeipmaaGreatDoor
open Go.RowKit

theorem below4 (w : World) (o o2 o3 o4 : Obj) : Below w.heap.size w ((((w.alloc o).alloc o2).alloc o3).alloc o4) := bstep (below3 w o o2 o3) (below1 _ o4)
theorem below5 (w : World) (o o2 o3 o4 o5 : Obj) : Below w.heap.size w (((((w.alloc o).alloc o2).alloc o3).alloc o4).alloc o5) := bstep (below4 w o o2 o3 o4) (below1 _ o5)
theorem heap_fth (w : World) (o o2 o3 : Obj) (cs : Array Value) (t : TypeId) : ((((w.alloc o).alloc o2).alloc o3).alloc (.cells cs t)).heap[w.heap.size + 1 + 1 + 1]? = some (.cells cs t (0, 0)) := by
  have := heap_trd (w.alloc o) o2 o3 cs t
  rw [World.size_alloc] at this
  exact this
theorem heap_fif (w : World) (o o2 o3 o4 : Obj) (cs : Array Value) (t : TypeId) : (((((w.alloc o).alloc o2).alloc o3).alloc o4).alloc (.cells cs t)).heap[w.heap.size + 1 + 1 + 1 + 1]? = some (.cells cs t (0, 0)) := by
  have := heap_fth (w.alloc o) o2 o3 o4 cs t
  rw [World.size_alloc] at this
  exact this
theorem agg33 : ∀ w, (isAgg 26).run Tryz.prog w = .ok true w := fun w => by kernel_rfl
theorem sz33 : ∀ w, (sizeOf 26).run Tryz.prog w = .ok 7 w := fun w => by kernel_rfl
theorem field0 (name : ByteArray) (kind aw rate burst : Int) (ca : Option Addr) (n1 m1 : Nat) (la : Option Addr) (n2 m2 : Nat) (w : World) : (Instr.field 93 (.agg #[.string name, .int .u8 kind, .int .i64 aw, .int .i64 rate, .int .i64 burst, .slice ca n1 m1, .slice la n2 m2]) 0).run Tryz.prog w = .ok (.agg #[.string name, .int .u8 kind, .int .i64 aw, .int .i64 rate, .int .i64 burst, .slice ca n1 m1, .slice la n2 m2]) w := by kernel_rfl
def zeroC : List Value := [.string ⟨#[]⟩, .int .u8 0, .int .i64 0, .int .i64 0, .int .i64 0, .slice none 0 0, .slice none 0 0]
theorem zero_one : ∀ x ∈ zeroC, x.oneCell' = true := ar_one ⟨#[]⟩ 0 0 0 0 (none, 0, 0) (none, 0, 0)
def writeC (a : Ar) (i v : Nb) : Int := if holdsB a v = true then (findA 3 a i).2 else 1
set_option maxRecDepth 100000 in
set_option maxHeartbeats 4000000 in
theorem write_no (x : ArL) (i v : Nb) (w : World) (hx : ArR w x) (hi : NbR i) (hv : NbR v) (c : Int) (hc : writeC x.a i v = c) (h0 : c ≠ 0) :
    Calls Tryz.prog 9 #[x.val, i.val, v.val] w fun e w' => e = .returned (.tuple #[zeroV, .int .i64 c]) ∧ Below w.heap.size w w' := by
  have HH : Hid (Pure _ _ _) := holds_any x v hv
  have HF : Hid (∀ W, Below w.heap.size w W → _) := fun W hb => cfind_any 3 x i W (hx.below hb) hi (by decide)
  unfold writeC at hc
  cases ho : holdsB x.a v
  · rw [ho] at hc HH
    rw [if_neg (by decide)] at hc
    subst hc
    clear hx hi hv ho h0 HF
    obtain ⟨⟨name, kind, aw, rate, burst, cs, ls⟩, ca, cc, la, lc⟩ := x
    obtain ⟨iw, ih, il⟩ := i
    obtain ⟨vw, vh, vl⟩ := v
    simp only [ArL.val, Nb.val, zeroV] at *
    generalize cs.length = n1 at *
    generalize ls.length = n2 at *
    go_enter Tryz.func9, Tryz.ntmps9
    go_wp2_with fail
    refine (HH.out _).mono ?_
    rintro e w1 ⟨rfl, hb⟩
    have BB := hide (bstep (below5 _ _ _ _ _ _) hb)
    have K4 := hide (heap_below hb (heap_past _ (heap_fth _ _ _ _ _ _)))
    clear hb
    go_wp2_with (refine wpList_storeA rfl 26 _ _ rfl (w.heap.size + 1 + 1 + 1) zeroC _ 26 rfl rfl sz33 K4.out rfl zero_one ?_; intro w5 hw5; have HW5 := hide hw5; clear hw5)
    have R5 : w5.heap[w.heap.size + 1 + 1 + 1]? = some (.cells zeroC.toArray 26 (0, 0)) := by rw [HW5.out]; exact got0 K4.out rfl
    have F5 : Fr (· = w.heap.size + 1 + 1 + 1) w1 w5 := by rw [HW5.out]; exact fr_all _ _ _ _
    refine bodyPost_ret (res_pair (cs := zeroC) (v := .int .i64 1) Tryz.results9 (by simp) (by simp) agg33 sz33 R5) rfl ⟨rfl, ?_⟩
    exact BB.out.trans (F5.below (fun b e => by omega) BB.out.size)
  · rw [ho] at hc HH
    rw [if_pos rfl] at hc
    rw [hc] at HF
    have h1 : (c == 0) = false := by simp [h0]
    have h2 : (c = 0) = False := by simp [h0]
    generalize (findA 3 x.a i).1 = d at *
    clear hx hi hv ho h0 hc
    obtain ⟨⟨name, kind, aw, rate, burst, cs, ls⟩, ca, cc, la, lc⟩ := x
    obtain ⟨iw, ih, il⟩ := i
    obtain ⟨vw, vh, vl⟩ := v
    simp only [ArL.val, Nb.val, zeroV] at *
    generalize cs.length = n1 at *
    generalize ls.length = n2 at *
    go_enter Tryz.func9, Tryz.ntmps9
    go_wp2_with fail
    refine (HH.out _).mono ?_
    rintro e w1 ⟨rfl, hb⟩
    have BB := hide (bstep (below5 _ _ _ _ _ _) hb)
    have K2 := hide (heap_below hb (heap_past _ (heap_past _ (heap_past _ (heap_snd _ _ _ _)))))
    have K4 := hide (heap_below hb (heap_past _ (heap_fth _ _ _ _ _ _)))
    have K5 := hide (heap_below hb (heap_fif _ _ _ _ _ _ _))
    obtain ⟨p0, p1, p2, p3, p4, p5, p6⟩ := at7 K5.out
    obtain ⟨q0, q1, q2, -⟩ := at3 K2.out
    clear hb K2 K5
    go_wp2_with fail
    refine (HF.out _ BB.out).mono ?_
    rintro e w2 ⟨rfl, hb⟩
    replace BB := hide (bstep BB.out hb)
    replace K4 := hide (heap_below hb K4.out)
    clear hb p0 p1 p2 p3 p4 p5 p6 q0 q1 q2
    go_wp2_with (refine wpList_storeA rfl 26 _ _ rfl (w.heap.size + 1 + 1 + 1) zeroC _ 26 rfl rfl sz33 K4.out rfl zero_one ?_; intro w5 hw5; have HW5 := hide hw5; clear hw5)
    have R5 : w5.heap[w.heap.size + 1 + 1 + 1]? = some (.cells zeroC.toArray 26 (0, 0)) := by rw [HW5.out]; exact got0 K4.out rfl
    have F5 : Fr (· = w.heap.size + 1 + 1 + 1) w2 w5 := by rw [HW5.out]; exact fr_all _ _ _ _
    refine bodyPost_ret (res_pair (cs := zeroC) (v := .int .i64 c) Tryz.results9 (by simp) (by simp) agg33 sz33 R5) rfl ⟨rfl, ?_⟩
    exact BB.out.trans (F5.below (fun b e => by omega) BB.out.size)
set_option maxRecDepth 100000 in
set_option maxHeartbeats 4000000 in
theorem write_yes (x : ArL) (i v : Nb) (w : World) (hx : ArR w x) (hi : NbR i) (hv : NbR v) (hc : writeC x.a i v = 0) :
    Calls Tryz.prog 9 #[x.val, i.val, v.val] w fun e w' => ∃ ca la, e = .returned (.tuple #[arV (x.a.put i.lo.toNat v) ca la, .int .i64 0]) ∧ ArN w' w.heap.size (x.a.put i.lo.toNat v) ca la ∧ Below w.heap.size w w' := by
  have HH : Hid (Pure _ _ _) := holds_any x v hv
  have HF : Hid (∀ W, Below w.heap.size w W → _) := fun W hb => cfind_any 3 x i W (hx.below hb) hi (by decide)
  unfold writeC at hc
  cases ho : holdsB x.a v
  · rw [ho, if_neg (by decide)] at hc
    cases hc
  · rw [ho] at hc HH
    rw [if_pos rfl] at hc
    obtain ⟨-, hm, -, -, h5, h6⟩ := findA_yes hc
    rw [hc, h6] at HF
    obtain ⟨-, hl1, hl2⟩ := may_len hm
    obtain ⟨k, hk⟩ := Int.eq_ofNat_of_zero_le hi.lo.1
    have hk2 : k < x.a.cs.length := by omega
    rw [hk, Int.toNat_natCast]
    have HWI : Hid (∀ W, Below w.heap.size w W → _) := fun W hb => with_any x k v W (hx.below hb) (by omega) (by omega) hk2
    suffices H : ∀ Q : Ending → World → Prop, (∀ ca la W', OwnR W' w.heap.size ca 29 (flat Nb.cells (x.a.cs.set k v)) → OwnR W' w.heap.size la 3 (flat intC x.a.ls) → Below w.heap.size w W' → Q (.returned (.tuple #[.agg #[.string x.a.name, .int .u8 x.a.kind, .int .i64 x.a.w, .int .i64 x.a.rate, .int .i64 x.a.burst, .slice ca x.a.cs.length x.a.cs.length, .slice la x.a.ls.length x.a.ls.length], .int .i64 0])) W') → Calls Tryz.prog 9 #[x.val, i.val, v.val] w Q from
      H _ (fun ca la W' h1 h2 h3 => ⟨ca, la, by rw [arV_put], ⟨h1, h2⟩, h3⟩)
    intro Q hQ
    have HQ := hide hQ
    clear hQ hx hi hv ho hc hm h5 h6 hl1 hl2 hk2
    obtain ⟨⟨name, kind, aw, rate, burst, cs, ls⟩, ca, cc, la, lc⟩ := x
    obtain ⟨iw, ih, il⟩ := i
    obtain ⟨vw, vh, vl⟩ := v
    simp only [ArL.val, Nb.val] at *
    subst hk
    generalize flat Nb.cells (cs.set k ⟨vw, vh, vl⟩) = CS at *
    generalize flat intC ls = LS at *
    generalize cs.length = n1 at *
    generalize ls.length = n2 at *
    have hfl := field0
    go_enter Tryz.func9, Tryz.ntmps9
    go_wp2_with fail
    refine (HH.out _).mono ?_
    rintro e w1 ⟨rfl, hb⟩
    have BB := hide (bstep (below5 _ _ _ _ _ _) hb)
    have K2 := hide (heap_below hb (heap_past _ (heap_past _ (heap_past _ (heap_snd _ _ _ _)))))
    have K3 := hide (heap_below hb (heap_past _ (heap_past _ (heap_trd _ _ _ _ _))))
    have K4 := hide (heap_below hb (heap_past _ (heap_fth _ _ _ _ _ _)))
    have K5 := hide (heap_below hb (heap_fif _ _ _ _ _ _ _))
    have HZ := hide (show w.heap.size + 5 ≤ w1.heap.size by have := hb.size; simp at this; omega)
    obtain ⟨p0, p1, p2, p3, p4, p5, p6⟩ := at7 K5.out
    obtain ⟨q0, q1, q2, -⟩ := at3 K2.out
    clear hb K2
    go_wp2_with fail
    refine (HF.out _ BB.out).mono ?_
    rintro e w2 ⟨rfl, hb⟩
    replace BB := hide (bstep BB.out hb)
    replace K3 := hide (heap_below hb K3.out)
    replace K4 := hide (heap_below hb K4.out)
    replace K5 := hide (heap_below hb K5.out)
    replace HZ := hide (Nat.le_trans HZ.out hb.size)
    clear hb p0 p1 p2 p3 p4 p5 p6 q0 q1 q2
    obtain ⟨p0, p1, p2, p3, p4, p5, p6⟩ := at7 K5.out
    obtain ⟨q0, q1, q2, -⟩ := at3 K3.out
    go_wp2_with fail
    refine (HWI.out _ BB.out).mono ?_
    rintro e w3 ⟨ca1, la1, rfl, ho1, ho2, hb⟩
    replace BB := hide (bstep BB.out hb)
    replace K4 := hide (heap_below hb K4.out)
    have HO1 := hide (ho1.mono HZ.out)
    have HO2 := hide (ho2.mono HZ.out)
    clear ho1 ho2 hb p0 p1 p2 p3 p4 p5 p6 q0 q1 q2
    go_wp2_with (refine wpList_storeA rfl 26 _ _ rfl (w.heap.size + 1 + 1 + 1) [.string name, .int .u8 kind, .int .i64 aw, .int .i64 rate, .int .i64 burst, .slice ca1 n1 n1, .slice la1 n2 n2] _ 26 rfl rfl sz33 K4.out rfl (ar_one name kind aw rate burst (ca1, n1, n1) (la1, n2, n2)) ?_; intro w5 hw5; have HW5 := hide hw5; clear hw5)
    have R5 : w5.heap[w.heap.size + 1 + 1 + 1]? = some (.cells #[.string name, .int .u8 kind, .int .i64 aw, .int .i64 rate, .int .i64 burst, .slice ca1 n1 n1, .slice la1 n2 n2] 26 (0, 0)) := by rw [HW5.out]; exact got0 K4.out rfl
    have F5 : Fr (· = w.heap.size + 1 + 1 + 1) w3 w5 := by rw [HW5.out]; exact fr_all _ _ _ _
    refine bodyPost_ret (res_pair (cs := [.string name, .int .u8 kind, .int .i64 aw, .int .i64 rate, .int .i64 burst, .slice ca1 n1 n1, .slice la1 n2 n2]) (v := .int .i64 0) Tryz.results9 (by simp) (by simp) agg33 sz33 R5) rfl ?_
    refine HQ.out _ _ _ ?_ ?_ ?_
    · exact (HO1.out.fr (by omega) F5).mono (by omega)
    · exact (HO2.out.fr (by omega) F5).mono (by omega)
    · exact BB.out.trans (F5.below (fun b e => by omega) BB.out.size)
end Go.Proofs.YtbemfjdloeipmaaGreatDoor
/- Two lists of numbers that are the same are told to be so. -/
namespace Go.Proofs.YtbemfjdloeipmaaGreatDoor
open Go.RowKit

set_option maxRecDepth 100000 in
set_option maxHeartbeats 4000000 in
theorem sameN_any (a b : Option Addr) (ca cb : Nat) (l : List Nb) (w : World) (h1 : RdN w a l) (h2 : RdN w b l) (hl : l.length ≤ 140737488355328) : Calls Tryz.prog 33 #[.slice a l.length ca, .slice b l.length cb] w fun e w' => e = .returned (.bool true) ∧ Below w.heap.size w w' := by
  have H1 := hide h1
  have H2 := hide h2
  clear h1 h2
  go_enter Tryz.func33, Tryz.ntmps33
  go_wp2
  go_loopw [5] (fun i wr => ∃ k : Nat, k ≤ l.length ∧ i = .int .i64 k ∧ Below w.heap.size w wr) (fun i _ => l.length - (intOf i).toNat)
  case atStart => exact ⟨0, by omega, rfl, Below.refl _ _⟩
  case round =>
    obtain ⟨k, hk, rfl, hb⟩ := hrel
    have HB := hide hb
    clear hb
    by_cases hlt : k < l.length
    · obtain ⟨p, off, rfl, _, hcl⟩ := (H1.out.below HB.out).some (by omega)
      obtain ⟨q, off2, rfl, _, hdl⟩ := (H2.out.below HB.out).some (by omega)
      obtain ⟨c0, c1, c2⟩ := hcl k hlt
      obtain ⟨d0, d1, d2⟩ := hdl k hlt
      have hlI : ((k : Int) < (l.length : Int)) := by omega
      clear hcl hdl
      generalize l[k] = y at *
      obtain ⟨yw, yh, yl⟩ := y
      simp only at c0 c1 c2 d0 d1 d2
      go_wp2
      go_region
      go_wp2
      go_roundw
      case rel => exact ⟨k + 1, by omega, by go_num, HB.out.drew⟩
      case measure => simp [intOf]; omega
    · obtain rfl : k = l.length := by omega
      go_wp2
      go_ret
      exact ⟨rfl, HB.out⟩
end Go.Proofs.YtbemfjdloeipmaaGreatDoor
