/- pointsmanlaw01.BitsBytes, walked. -/
import Derived.Test.YtcjcgepmaiilbaaGreatDoorNJ
namespace Go.Proofs.YtcjcgepmaiilbaaGreatDoor
open Go.RowKit

/- A struct of three words in a box. -/
def Bx (W : World) (s : Nat) (x y z : Int) : Prop := W.heap[s]? = some (.cells #[.int .i64 x, .int .u64 y, .int .u64 z] 24 (0, 0))
theorem Bx.below {W W' : World} {s : Nat} {x y z : Int} (h : Bx W s x y z) (hb : Below W.heap.size W W') : Bx W' s x y z := (hb.block _ (Array.getElem?_eq_some_iff.1 h).1).trans h
theorem Bx.new (W : World) (x y z : Int) : Bx (W.alloc (.cells #[.int .i64 x, .int .u64 y, .int .u64 z] 24)) W.heap.size x y z := heap_alloc_new W _
theorem below_step {w W W' : World} (h : Below w.heap.size w W) (h2 : Below W.heap.size W W') : Below w.heap.size w W' := h.trans (h2.mono h.size)
theorem bytes_long (n h l m : Int) (a : Option Addr) (k cap : Nat) (w : World) (hk : k ≤ 9223372036854775807) (hl : 1048576 < k) : Calls Tryz.prog 3 #[.agg #[.int .i64 n, .int .u64 h, .int .u64 l], .int .i64 m, .slice a k cap] w fun e w' => e = .returned (.bool true) ∧ Below w.heap.size w w' := by
  obtain ⟨wb, hwb⟩ : ∃ wb, wb = w.alloc (.cells #[.int .i64 n, .int .u64 h, .int .u64 l] 24) := ⟨_, rfl⟩
  have b0 : Below w.heap.size w wb := by rw [hwb]; exact (Below.refl _ w).alloc (Nat.le_refl _) _
  have HB := hide (beyond_any k hk wb)
  rw [show decide (1048576 < k) = true from decide_eq_true hl] at HB
  have B0 := hide b0
  have HW := hide hwb
  clear hl hwb b0
  go_enter Tryz.func3, Tryz.ntmps3
  go_wp2_with fail
  rw [← HW.out]
  have hs : w.heap.size + 1 = wb.heap.size := by rw [HW.out, World.size_alloc]
  rw [hs]
  clear hs
  refine HB.out.mono ?_
  rintro e w1 ⟨rfl, rfl⟩
  go_wp2
  go_ret
  exact ⟨rfl, below_step B0.out ((Below.refl _ _).alloc (Nat.le_refl _) _)⟩
set_option maxRecDepth 100000 in
set_option maxHeartbeats 4000000 in
theorem bytes_walk (n : Int) (u : Nat) (m : Int) (a : Option Addr) (cap : Nat) (xs : List Nat) (w : World) (hu : u < top) (hx : ∀ y ∈ xs, y < 256) (hl : xs.length ≤ 1048576) (hr : RdA w a xs) : Calls Tryz.prog 3 #[.agg #[.int .i64 n, .int .u64 (wHi u), .int .u64 (wLo u)], .int .i64 m, .slice a xs.length cap] w fun e w' => e = .returned (.bool true) ∧ Below w.heap.size w w' := by
  obtain ⟨ys, er, hy16, T1, T2⟩ := tells_same n u hu
  obtain ⟨b1, b2, b3, er2, R1, R2⟩ := reads_same m xs hx
  have HT1 := hide T1; have HT2 := hide T2; have HR1 := hide R1; have HR2 := hide R2
  have HY := hide hy16
  clear T1 T2 R1 R2 hy16 hu hx
  generalize wHi u = h at *
  generalize wLo u = l at *
  obtain ⟨wb, hwb⟩ : ∃ wb, wb = w.alloc (.cells #[.int .i64 n, .int .u64 h, .int .u64 l] 24) := ⟨_, rfl⟩
  have HB := hide (beyond_any xs.length (by omega) wb)
  rw [show decide (1048576 < xs.length) = false from decide_eq_false (by omega)] at HB
  obtain ⟨w0, hw0⟩ : ∃ w0, w0 = wb.alloc (.cells #[.int .i64 xs.length] 3) := ⟨_, rfl⟩
  have bb : Below w.heap.size w wb := by rw [hwb]; exact (Below.refl _ w).alloc (Nat.le_refl _) _
  have b0 : Below w.heap.size w w0 := by rw [hw0]; exact below_step bb ((Below.refl _ wb).alloc (Nat.le_refl _) _)
  have X0 := hide (show Bx w0 w.heap.size n h l by rw [hw0, hwb]; exact (Bx.new w n h l).below ((Below.refl _ _).alloc (Nat.le_refl _) _))
  have HR := hide (hr.below b0)
  have B0 := hide b0
  rw [← hw0] at HB
  have HW0 := hide hw0; have HWB := hide hwb
  clear hr b0 bb hw0 hwb
  go_enter Tryz.func3, Tryz.ntmps3
  go_wp2_with fail
  have hs : w.heap.size + 1 = wb.heap.size := by rw [HWB.out, World.size_alloc]
  rw [← HWB.out, hs, ← HW0.out]
  clear hs
  refine HB.out.mono ?_
  rintro e w1 ⟨rfl, hw1⟩
  subst hw1
  obtain ⟨c0, c1, c2, _⟩ := cells3 X0.out
  go_wp2_with fail
  refine (HT1.out _).mono ?_
  rintro e w2 ⟨va, rfl, hoa, hb2⟩
  obtain ⟨aa, ca, rfl, _, _, _⟩ := hoa.shape
  have OA2 := hide hoa
  have B2 := hide hb2
  have X2 := hide (X0.out.below hb2)
  clear hoa hb2 c0 c1 c2
  obtain ⟨c0, c1, c2, _⟩ := cells3 X2.out
  go_wp2_with fail
  refine (HT1.out _).mono ?_
  rintro e w3 ⟨vm, rfl, hom, hb3⟩
  have OM3 := hide hom
  have OA3 := hide (OA2.out.below hb3)
  have B3 := hide (below_step B2.out hb3)
  have X3 := hide (X2.out.below hb3)
  clear hom hb3 c0 c1 c2
  obtain ⟨c0, c1, c2, _⟩ := cells3 X3.out
  go_wp2_with fail
  refine (HT2.out _).mono ?_
  rintro e w4 ⟨vu, rfl, hou, hb4⟩
  obtain ⟨au, cu, rfl, _, _, _⟩ := hou.shape
  have OU4 := hide hou.rd.2
  have OM4 := hide (OM3.out.below hb4)
  have OA4 := hide (OA3.out.below hb4)
  have B4 := hide (below_step B3.out hb4)
  clear hou hb4 c0 c1 c2
  have HT := hide (twin_any a cap xs w4 (by omega) (HR.out.below B4.out))
  go_wp2_with fail
  refine HT.out.mono ?_
  rintro e w5 ⟨g, c, rfl, ht, htc, htg, hb5⟩
  have hcm : c ≤ 9223372036854775807 := by
    rcases ht.2 with ⟨e, _⟩ | ⟨g', c', cur, e, _, _, _, h2, _⟩
    · cases e
    · injection e with _ _ e3; rw [e3]; unfold maxLen at h2; omega
  have TW5 := hide ht
  have hcut : Own8 w5 w4.heap.size (.slice (some ⟨g, 0, none⟩) xs.length c) xs := by
    have := ht.cut xs.length (by simp)
    rwa [List.take_left] at this
  have C5 := hide hcut
  have OU5 := hide (OU4.out.below hb5)
  have OM5 := hide (OM4.out.below hb5)
  have OA5 := hide (OA4.out.below hb5)
  have B5 := hide (below_step B4.out hb5)
  clear ht hb5 hcut HT
  go_wp2_with fail
  refine (HR1.out _ _ _ C5.out.rd.2).mono ?_
  rintro e w6 ⟨rfl, hb6⟩
  obtain ⟨Z6, hZ6⟩ : ∃ Z6, Z6 = w6.alloc (.cells #[.int .i64 b1, .int .u64 b2, .int .u64 b3] 24) := ⟨_, rfl⟩
  have z6 : Below w5.heap.size w5 Z6 := by rw [hZ6]; exact hb6.alloc hb6.size _
  have BX6 := hide (show Bx Z6 w6.heap.size b1 b2 b3 by rw [hZ6]; exact Bx.new w6 b1 b2 b3)
  have B6 := hide (below_step B5.out z6)
  have B56 := hide z6
  have HZ6 := hide hZ6
  clear hb6 hZ6 z6
  go_wp2_with fail
  rw [← HZ6.out]
  refine (HR2.out _ _ _ (HR.out.below B6.out)).mono ?_
  rintro e w7 ⟨rfl, hb7⟩
  obtain ⟨Z7, hZ7⟩ : ∃ Z7, Z7 = w7.alloc (.cells #[.int .i64 b1, .int .u64 b2, .int .u64 b3] 24) := ⟨_, rfl⟩
  have z7 : Below Z6.heap.size Z6 Z7 := by rw [hZ7]; exact hb7.alloc hb7.size _
  have BY7 := hide (show Bx Z7 w7.heap.size b1 b2 b3 by rw [hZ7]; exact Bx.new w7 b1 b2 b3)
  have BX7 := hide (BX6.out.below z7)
  have B57 := hide (below_step B56.out z7)
  have HZ7 := hide hZ7
  clear hb7 hZ7 z7
  have HS := hide (same_rd ys (by have := HY.out; omega) aa au ca cu Z7 (OA5.out.below B57.out).rd.2 (OU5.out.below B57.out))
  go_wp2_with fail
  rw [← HZ7.out]
  refine HS.out.mono ?_
  rintro e w8 ⟨rfl, hb8⟩
  have BY8 := hide (BY7.out.below hb8)
  have BX8 := hide (BX7.out.below hb8)
  have B58 := hide (below_step B57.out hb8)
  obtain ⟨c0, c1, c2, _⟩ := cells3 BX8.out
  obtain ⟨d0, d1, d2, _⟩ := cells3 BY8.out
  clear hb8
  have HL := hide (left_yes g c a cap xs w8 w4.heap.size (by omega) (HR.out.below (below_step B5.out B58.out)) htc hcm (TW5.out.below B58.out))
  go_wp2_with fail
  refine HL.out.mono ?_
  rintro e w9 ⟨rfl, hb9⟩
  have B59 := hide (below_step B58.out hb9)
  clear hb9 c0 c1 c2 d0 d1 d2
  have z2 := B2.out.size
  have S9 := hide (Bo3.start (w := w) (us := [(.slice aa ys.length ca, ys), (vm, ys)]) (below_step B0.out (below_step B5.out B59.out)) B0.out.size (Nat.le_trans B5.out.size B59.out.size) (fun u hu => by
    simp only [List.mem_cons, List.not_mem_nil, or_false] at hu
    have hy := HY.out
    rcases hu with rfl | rfl
    · exact ⟨OA5.out.below B59.out, by show ys.length ≤ _; omega⟩
    · exact ⟨own8_lower (OM5.out.below B59.out) z2, by show ys.length ≤ _; omega⟩) (by
    refine List.pairwise_cons.2 ⟨fun v hv b e1 e2 => ?_, List.pairwise_singleton _ _⟩
    obtain rfl := List.mem_singleton.1 hv
    have g1 := (World.ownsRow.lt OA2.out b e1).2
    have g2 := (World.ownsRow.lt OM3.out b e2).1
    omega) 65)
  clear z2
  go_wp2_with (refine wpList_storeZ rfl 65 _ _ rfl _ bk0 65 rfl rfl bk_size (one_alloc _ _ _) bk0_one ?_)
  refine (S9.out.step (by simp) (by omega)).mono ?_
  rintro e w10 ⟨rfl, vb1, hs1, h1, hl1⟩
  have S10 := hide h1
  have L10 := hide hl1
  clear h1 hl1
  go_wp2_with fail
  refine (S10.out.step (by rw [L10.out]; simp) (by omega)).mono ?_
  rintro e w11 ⟨rfl, vb2, hs2, h1, hl1⟩
  have S11 := hide h1
  clear h1 hl1
  go_wp2_with fail
  refine S11.out.apart.mono ?_
  rintro e w12 ⟨rfl, hb⟩
  go_wp2
  go_ret
  exact ⟨rfl, hb⟩
end Go.Proofs.YtcjcgepmaiilbaaGreatDoor
