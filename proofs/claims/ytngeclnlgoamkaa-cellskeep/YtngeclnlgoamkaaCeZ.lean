/- CellsKeep, where the number was written. -/
import Derived.Test.YtngeclnlgoamkaaCeY
import Derived.Test.YtngeclnlgoamkaaCeN
namespace Go.Proofs.Ytngeclnlgoamkaa
open Go.RowKit

def arT (x : ArL) : Array Value := #[.string x.a.name, .int .u8 x.a.kind, .int .i64 x.a.w, .int .i64 x.a.rate, .int .i64 x.a.burst, .slice x.ca x.a.cs.length x.cc, .slice x.la x.a.ls.length x.lc]
set_option maxRecDepth 100000 in
set_option maxHeartbeats 8000000 in
theorem keep_a (x : ArL) (i v : Nb) (w : World) (hx : ArR w x) (hi : NbR i) (hv : NbR v) (hn : x.a.name.size ≤ 140737488355328) (hsz : arSz x.a ≤ 50000) (hc : writeC x.a i v = 0) :
    Calls Try.prog 4 #[x.val, i.val, v.val] w fun e w' => e = .returned (.bool true) ∧ Below w.heap.size w w' := by
  have HL : Hid (Pure _ _ _) := lives14_any
  have HZ : Hid (∀ W, _) := fun W => arSize_any x W hx.cn hx.ln hn
  have d1 : (arSz x.a > 50000) = False := by simp; omega
  have d2 : (50000 < arSz x.a) = False := by simp; omega
  -- the facts of writing
  have hw := hc
  unfold writeC at hw
  have ho : holdsB x.a v = true := by
    cases h : holdsB x.a v
    · rw [h, if_neg (by decide)] at hw; cases hw
    · rfl
  rw [ho, if_pos rfl] at hw
  obtain ⟨hk3, hm, hiok, hi0, h5, h6⟩ := findA_yes hw
  obtain ⟨k, hk⟩ := Int.eq_ofNat_of_zero_le hi.lo.1
  have hkc : k < x.a.cs.length := by omega
  have HW : Hid (∀ W, Below w.heap.size w W → _) := fun W hb => write_yes x i v W (hx.below hb) hi hv hc
  rw [hk, Int.toNat_natCast] at HW
  have hg := hx.g
  have hgp : ArG (x.a.put k v) := put_g hg hv
  have HR1 : Hid (∀ W ca la B, ArN W B (x.a.put k v) ca la → Calls Try.prog 13 #[arV (x.a.put k v) ca la, i.val] W fun e w' => e = .returned (.tuple #[v.val, .int .i64 0]) ∧ Below W.heap.size W w') := fun W ca la B h =>
    read_any (full (x.a.put k v) ca la) i W (h.r hgp) hi 0 (by show (findA 3 (x.a.put k v) i).2 = 0; rw [find_put hm ho]; exact hw) v (by rw [if_pos rfl, hk, Int.toNat_natCast]; exact (put_get hkc).symm)
  have HR2 : Hid (∀ W, Below w.heap.size w W → _) := fun W hb => read_any x i W (hx.below hb) hi 0 hw (x.a.cs.getD k nb0) (by rw [if_pos rfl, hk, Int.toNat_natCast])
  have HCK : Hid (∀ (W : World) (p : Nat) ca la B, ArN W B (x.a.put k v) ca la → W.heap[p]? = some (.cells (full (x.a.put k v) ca la).cells.toArray 33 (0, 0)) → _) := fun W p ca la B h hp => check_one (full (x.a.put k v) ca la) p W (h.r hgp) (may_put hm ho) hp
  have hmem : x.a.cs.getD k nb0 ∈ x.a.cs := by
    rw [List.getD_eq_getElem?_getD, List.getElem?_eq_getElem hkc]
    exact List.getElem_mem hkc
  have HW2 : Hid (∀ W ca la B, ArN W B (x.a.put k v) ca la → Calls Try.prog 12 #[arV (x.a.put k v) ca la, i.val, (x.a.cs.getD k nb0).val] W fun e w' => ∃ ca1 la1, e = .returned (.tuple #[arV x.a ca1 la1, .int .i64 0]) ∧ ArN w' W.heap.size x.a ca1 la1 ∧ Below W.heap.size W w') := fun W ca la B h => by
    have := write_yes (full (x.a.put k v) ca la) i (x.a.cs.getD k nb0) W (h.r hgp) hi (ranN_mem hg k hkc) (by
      show writeC (x.a.put k v) i _ = 0
      unfold writeC
      rw [holds_put, may_holds hm _ hmem, if_pos rfl, find_put hm ho]; exact hw)
    rw [hk, Int.toNat_natCast, show ((full (x.a.put k v) ca la).a).put k (x.a.cs.getD k nb0) = x.a from put_put hkc] at this
    exact this
  have HSA : Hid (∀ W ca la B, Below w.heap.size w W → ArN W B x.a ca la → Calls Try.prog 15 #[x.val, arV x.a ca la] W fun e w' => e = .returned (.bool true) ∧ Below W.heap.size W w') := fun W ca la B hb h => sameAr_any x (full x.a ca la) W rfl (hx.below hb) (h.r hg)
  have HC : Hid (∀ W, Below w.heap.size w W → _) := fun W hb => count_no x i W (hx.below hb) hi 1 (count_kind hk3) (by decide)
  have hla : (x.a.put k v).cs.length = x.a.cs.length := by simp [Ar.put]
  simp only [full, ArL.cells] at HCK
  simp only [arV] at HW HR1 HW2 HSA HCK
  rw [hla] at HCK
  simp only [hla, show ∀ k v, (x.a.put k v).name = x.a.name from fun _ _ => rfl, show ∀ k v, (x.a.put k v).kind = x.a.kind from fun _ _ => rfl, show ∀ k v, (x.a.put k v).w = x.a.w from fun _ _ => rfl, show ∀ k v, (x.a.put k v).rate = x.a.rate from fun _ _ => rfl, show ∀ k v, (x.a.put k v).burst = x.a.burst from fun _ _ => rfl, show ∀ k v, (x.a.put k v).ls = x.a.ls from fun _ _ => rfl] at HW HR1 HW2 HCK
  generalize x.a.put k v = ap at *
  generalize x.a.cs.getD k nb0 = d at *
  generalize arSz x.a = S at *
  clear hw ho hm hiok hi0 h5 h6 hkc hg hgp hmem hla hk3 hc hx hi hv hn hsz
  obtain ⟨a, ca, cc, la, lc⟩ := x
  simp only [ArL.val, zeroV] at *
  have EA : Hid (∀ W ca la B, ArN W B a ca la → ArN W B a ca la) := fun _ _ _ _ h => h
  obtain ⟨iw, ih, il⟩ := i
  obtain ⟨vw, vh, vl⟩ := v
  obtain ⟨dw, dh, dl⟩ := d
  simp only [Nb.val] at *
  subst hk
  generalize a.cs.length = n1 at *
  generalize a.ls.length = n2 at *
  generalize a.name = name at *
  generalize a.kind = kind at *
  generalize a.w = aw at *
  generalize a.rate = rate at *
  generalize a.burst = burst at *
  go_enter Try.func4, Try.ntmps4
  go_wp2_with fail
  refine (HZ.out _).mono ?_
  rintro e w1 ⟨rfl, hb⟩
  have BB := hide (bstep (below3 _ _ _ _) hb)
  have KP : Hid (Kp w1 w.heap.size #[.string name, .int .u8 kind, .int .i64 aw, .int .i64 rate, .int .i64 burst, .slice ca n1 cc, .slice la n2 lc] iw ih k vw vh vl) := ⟨heap_below hb (heap_past _ (heap_past _ (heap_alloc_new w _))), heap_below hb (heap_past _ (heap_snd w _ _ _)), heap_below hb (heap_trd w _ _ _ _)⟩
  clear hb HZ EA
  obtain ⟨p0, p1, p2, p3, p4, p5, p6⟩ := at7 KP.out.a
  obtain ⟨q0, q1, q2, -⟩ := at3 KP.out.i
  obtain ⟨r0, r1, r2, -⟩ := at3 KP.out.v
  go_wp2_with fail
  refine (HW.out _ BB.out).mono ?_
  rintro e w2 ⟨ca1, la1, rfl, hn2, hb⟩
  replace BB := hide (bstep (bstep BB.out hb) (below1 w2 (.cells #[.string name, .int .u8 kind, .int .i64 aw, .int .i64 rate, .int .i64 burst, .slice ca1 n1 n1, .slice la1 n2 n2] 33)))
  replace KP := hide ((KP.out.below hb).below (below1 w2 (.cells #[.string name, .int .u8 kind, .int .i64 aw, .int .i64 rate, .int .i64 burst, .slice ca1 n1 n1, .slice la1 n2 n2] 33)))
  have N2 := hide (hn2.below (below1 w2 (.cells #[.string name, .int .u8 kind, .int .i64 aw, .int .i64 rate, .int .i64 burst, .slice ca1 n1 n1, .slice la1 n2 n2] 33)))
  have KB := hide (heap_alloc_new w2 (.cells #[.string name, .int .u8 kind, .int .i64 aw, .int .i64 rate, .int .i64 burst, .slice ca1 n1 n1, .slice la1 n2 n2] 33))
  clear hb hn2 HW p0 p1 p2 p3 p4 p5 p6 q0 q1 q2 r0 r1 r2
  obtain ⟨q0, q1, q2, -⟩ := at3 KP.out.i
  go_wp2_with fail
  refine (HR1.out _ _ _ _ N2.out).mono ?_
  rintro e w3 ⟨rfl, hb⟩
  replace BB := hide (bstep (bstep BB.out hb) (below1 w3 (.cells #[.int .i64 vw, .int .u64 vh, .int .u64 vl] 24)))
  replace KP := hide ((KP.out.below hb).below (below1 w3 (.cells #[.int .i64 vw, .int .u64 vh, .int .u64 vl] 24)))
  replace N2 := hide ((N2.out.below hb).below (below1 w3 (.cells #[.int .i64 vw, .int .u64 vh, .int .u64 vl] 24)))
  replace KB := hide (heap_below (below1 w3 (.cells #[.int .i64 vw, .int .u64 vh, .int .u64 vl] 24)) (heap_below hb KB.out))
  clear hb HR1 q0 q1 q2
  obtain ⟨r0, r1, r2, -⟩ := at3 KP.out.v
  obtain ⟨p0, p1, p2, p3, p4, p5, p6⟩ := at7 KB.out
  go_wp2_with fail
  have b4 := below1 (w3.alloc (.cells #[.int .i64 vw, .int .u64 vh, .int .u64 vl] 24)) (.cells #[.string name, .int .u8 kind, .int .i64 aw, .int .i64 rate, .int .i64 burst, .slice ca1 n1 n1, .slice la1 n2 n2] 33)
  refine (HCK.out _ _ _ _ _ (N2.out.below b4) (heap_snd w3 _ _ _)).mono ?_
  rintro e w4 ⟨rfl, hb⟩
  replace BB := hide (bstep (bstep BB.out b4) hb)
  replace KP := hide ((KP.out.below b4).below hb)
  replace N2 := hide ((N2.out.below b4).below hb)
  replace KB := hide (heap_below hb (heap_below b4 KB.out))
  clear hb b4 HCK p0 p1 p2 p3 p4 p5 p6 r0 r1 r2
  obtain ⟨q0, q1, q2, -⟩ := at3 KP.out.i
  obtain ⟨p0, p1, p2, p3, p4, p5, p6⟩ := at7 KP.out.a
  go_wp2_with fail
  refine (HR2.out _ BB.out).mono ?_
  rintro e w5 ⟨rfl, hb⟩
  have b5 := bstep hb (below1 w5 (.cells #[.int .i64 dw, .int .u64 dh, .int .u64 dl] 24))
  replace BB := hide (bstep BB.out b5)
  replace KP := hide (KP.out.below b5)
  replace N2 := hide (N2.out.below b5)
  replace KB := hide (heap_below b5 KB.out)
  clear hb b5 HR2 p0 p1 p2 p3 p4 p5 p6 q0 q1 q2
  obtain ⟨q0, q1, q2, -⟩ := at3 KP.out.i
  obtain ⟨p0, p1, p2, p3, p4, p5, p6⟩ := at7 KB.out
  go_wp2_with fail
  refine (HW2.out _ _ _ _ N2.out).mono ?_
  rintro e w6 ⟨ca2, la2, rfl, hn6, hb⟩
  have b6 := bstep hb (below1 w6 (.cells #[.string name, .int .u8 kind, .int .i64 aw, .int .i64 rate, .int .i64 burst, .slice ca2 n1 n1, .slice la2 n2 n2] 33))
  replace BB := hide (bstep BB.out b6)
  replace KP := hide (KP.out.below b6)
  have N6 := hide (hn6.below (below1 w6 (.cells #[.string name, .int .u8 kind, .int .i64 aw, .int .i64 rate, .int .i64 burst, .slice ca2 n1 n1, .slice la2 n2 n2] 33)))
  clear hb b6 hn6 HW2 N2 KB p0 p1 p2 p3 p4 p5 p6 q0 q1 q2
  obtain ⟨p0, p1, p2, p3, p4, p5, p6⟩ := at7 KP.out.a
  go_wp2_with fail
  refine (HSA.out _ _ _ _ BB.out N6.out).mono ?_
  rintro e w7 ⟨rfl, hb⟩
  replace BB := hide (bstep BB.out hb)
  replace KP := hide (KP.out.below hb)
  clear hb HSA N6 p0 p1 p2 p3 p4 p5 p6
  obtain ⟨p0, p1, p2, p3, p4, p5, p6⟩ := at7 KP.out.a
  obtain ⟨q0, q1, q2, -⟩ := at3 KP.out.i
  go_wp2_with fail
  refine (HC.out _ BB.out).mono ?_
  rintro e w8 ⟨rfl, hb⟩
  replace BB := hide (bstep (bstep BB.out hb) (below1 w8 (.cells #[.string ⟨#[]⟩, .int .u8 0, .int .i64 0, .int .i64 0, .int .i64 0, .slice none 0 0, .slice none 0 0] 33)))
  clear hb HC KP p0 p1 p2 p3 p4 p5 p6 q0 q1 q2
  go_wp2_with fail
  refine (HL.out _).mono ?_
  rintro e w9 ⟨rfl, hb⟩
  go_wp2
  go_ret
  exact ⟨rfl, bstep BB.out hb⟩
end Go.Proofs.Ytngeclnlgoamkaa
