/- The law BitsBack. -/
import Derived.Test.YtbbnjilajkllpaaGreatDoorAlive
import Derived.Test.YtbbnjilajkllpaaGreatDoorNB
import Derived.Test.YtbbnjilajkllpaaGreatDoorUF
import Derived.Deep.Cut
import Derived.Deep.DeepCutAuto
namespace Go.Proofs.YtbbnjilajkllpaaGreatDoor
open Go.RowKit

def bys (u N : Nat) : List Nat := (List.range N).map (byteAt u N)
theorem bys_length (u N : Nat) : (bys u N).length = N := by simp [bys]
theorem bys_lt (u N : Nat) : ∀ x ∈ bys u N, x < 256 := fun x hx => by
  simp [bys] at hx
  obtain ⟨j, _, rfl⟩ := hx
  exact Nat.mod_lt _ (by decide)
theorem bys_cells (u N : Nat) : byteTo u N N = (bys u N).map (fun n => Value.int .u8 (n : Nat)) := by
  unfold byteTo bys
  rw [List.map_map]
  refine List.map_congr_left fun j hj => ?_
  rw [List.mem_range] at hj
  simp [hj]
theorem byteAt_succ (u N j : Nat) (h : j < N) : byteAt u (N + 1) j = byteAt (u / 256) N j := by
  unfold byteAt
  rw [show N + 1 - 1 - j = (N - 1 - j) + 1 by omega, Nat.mul_add, Nat.pow_add, Nat.mul_comm, ← Nat.div_div_eq_div_mul]
theorem bv_bys : ∀ (N u : Nat), bv (bys u N) = u % 256 ^ N
  | 0, u => by simp [bys, bv, Nat.mod_one]
  | N + 1, u => by
    have e : bys u (N + 1) = bys (u / 256) N ++ [u % 256] := by
      unfold bys
      rw [List.range_succ, List.map_append]
      congr 1
      · refine List.map_congr_left fun j hj => ?_
        rw [List.mem_range] at hj
        exact byteAt_succ u N j hj
      · simp [byteAt]
    rw [e, bv_snoc, bv_bys N, Nat.pow_succ, Nat.mul_comm (256 ^ N), Nat.mod_mul]
    omega
theorem bys_val {n u : Nat} (h : u < 2 ^ n) : bv (bys u ((n + 7) / 8)) = u := by
  rw [bv_bys]
  refine Nat.mod_eq_of_lt (Nat.lt_of_lt_of_le h ?_)
  rw [show (256 : Nat) = 2 ^ 8 from rfl, ← Nat.pow_mul]
  exact Nat.pow_le_pow_right (by decide) (by omega)
theorem tx_inj {n u m v : Nat} (h1 : okN n u = true) (h2 : okN m v = true) (h : tx n u = tx m v) : n = m ∧ u = v := by
  have := prs_tx h1
  rw [h, prs_tx h2] at this
  simp only [Option.some.injEq, Prod.mk.injEq] at this
  exact ⟨this.1.symm, this.2.symm⟩
set_option maxRecDepth 100000 in
theorem back_no (n n2 : Int) (u v : Nat) (w : World) (hu : u < top) (hL : Ld w) (ho : okN n u = false) :
    Calls Tryz.prog 3 #[.agg #[.int .i64 n, .int .u64 (wHi u), .int .u64 (wLo u)], .agg #[.int .i64 n2, .int .u64 (wHi v), .int .u64 (wLo v)]] w fun e w' => e = .returned (.bool true) ∧ Below w.heap.size w w' := by
  have HB := hide (fun W => bytes_no n u W hu ho)
  have HT := hide (fun W => text_no n u W hu ho)
  have HC : Hid (∀ W, Calls Tryz.prog 7 #[.agg #[.int .i64 n, .int .u64 (wHi u), .int .u64 (wLo u)]] W fun e W' => e = .returned (.bool false) ∧ Below W.heap.size W W') := fun W => by
    have := checkV n u W hu
    rw [show (mayBe n && decide (u < 2 ^ n.toNat)) = okN n u from rfl, ho] at this
    exact this
  have HA : Hid (∀ W, Ld W → _) := fun W h => alive_any W h.db
  have HL := hide hL
  clear hL ho hu
  generalize wHi u = h1 at *
  generalize wLo u = l1 at *
  generalize wHi v = h2 at *
  generalize wLo v = l2 at *
  go_enter Tryz.func3, Tryz.ntmps3
  go_wp2_with fail
  refine (HB.out _).mono ?_
  rintro e w1 ⟨rfl, hb⟩
  have hk := cells_of3 ((hb.block w.heap.size (by simp; omega)).trans ((hao _ _ _ (by simp)).trans (heap_alloc_new w _)))
  have HW1 : Hid (Below w.heap.size w w1) := (((Below.refl _ _).alloc (Nat.le_refl _) _).alloc (by simp) _).trans (hb.mono (by simp; omega))
  have hlt : w.heap.size < w1.heap.size := by have := hb.size; simp at this; omega
  clear hb
  obtain ⟨k0, k1, k2, _, _, _⟩ := hk
  go_wp2_with fail
  refine (HT.out _).mono ?_
  rintro e w2 ⟨rfl, hb⟩
  have HW2 := hide (chainB HW1.out hb)
  have j0 := (hb.cell hlt).trans k0
  have j1 := (hb.cell hlt).trans k1
  have j2 := (hb.cell hlt).trans k2
  have hlt2 := Nat.lt_of_lt_of_le hlt hb.size
  clear hb k0 k1 k2
  go_wp2_with fail
  refine (HA.out _ (HL.out.below HW2.out)).mono ?_
  rintro e w3 ⟨rfl, hb⟩
  have HW3 := hide (chainB HW2.out hb)
  have k0 := (hb.cell hlt2).trans j0
  have k1 := (hb.cell hlt2).trans j1
  have k2 := (hb.cell hlt2).trans j2
  have hlt3 := Nat.lt_of_lt_of_le hlt2 hb.size
  clear hb j0 j1 j2
  go_wp2_with fail
  refine (HA.out _ (HL.out.below HW3.out)).mono ?_
  rintro e w4 ⟨rfl, hb⟩
  have HW4 := hide (chainB HW3.out hb)
  have j0 := (hb.cell hlt3).trans k0
  have j1 := (hb.cell hlt3).trans k1
  have j2 := (hb.cell hlt3).trans k2
  clear hb k0 k1 k2
  go_wp2_with fail
  refine (HC.out _).mono ?_
  rintro e w5 ⟨rfl, hb⟩
  have HW5 := hide (chainB HW4.out hb)
  clear hb
  go_wp2
  go_ret
  exact ⟨rfl, HW5.out⟩
theorem bs_of_row8 {W : World} {g N cap : Nat} {l : List Nat} (h : Row8 W (.slice (some ⟨g, 0, none⟩) N cap) l) : Bs W g 0 l := by
  obtain ⟨b, off, c, e, hc⟩ := h
  cases e
  exact hc
set_option maxHeartbeats 2000000 in
set_option maxRecDepth 100000 in
theorem back_yes (n : Nat) (n2 : Int) (u v : Nat) (w : World) (hu : u < top) (hv : v < top) (hL : Ld w) (ho : okN n u = true) :
    Calls Tryz.prog 3 #[.agg #[.int .i64 n, .int .u64 (wHi u), .int .u64 (wLo u)], .agg #[.int .i64 n2, .int .u64 (wHi v), .int .u64 (wLo v)]] w fun e w' => e = .returned (.bool true) ∧ Below w.heap.size w w' := by
  have hn := okN_bd ho
  rw [Int.toNat_natCast] at hn
  have hlen := tx_le n u (by omega) (by unfold top at hu; exact hu)
  have htl : (tx n u).length ≤ 281474976710656 := by unfold tx; simp; omega
  have HB : Hid (∀ W, _) := fun W => bytes_yes n u W hu (by omega) (by omega) (by rw [Int.toNat_natCast]; exact hn.2.2)
  have HT : Hid (∀ W, Ld W → _) := fun W h => text_yes n u W h hu ho
  rw [Int.toNat_natCast] at HB HT
  have HA : Hid (∀ W, Ld W → _) := fun W h => alive_any W h.db
  have HP : Hid (∀ W, Ld W → _) := fun W h => parse_any (tx n u) htl W h
  rw [prs_tx ho] at HP
  simp only [prsV] at HP
  have HR : Hid (∀ (q cap : Nat) (W : World), Bs W q 0 (bys u ((n + 7) / 8)) → Calls Tryz.prog 8 #[.int .i64 n, .slice (some ⟨q, 0, none⟩) ((n + 7) / 8) cap] W fun e w' => e = .returned (.tuple #[.agg #[.int .i64 n, .int .u64 (wHi u), .int .u64 (wLo u)], .int .i64 0]) ∧ Below W.heap.size W w') := fun q cap W hW => by
    have := readR_any n q 0 cap (bys u ((n + 7) / 8)) W (by omega) hW (bys_lt _ _) (bys_length _ _)
    rw [bys_length, bys_val hn.2.2] at this
    refine this.mono ?_
    rintro e w' ⟨b1, b2, b3, er, he, hb, h⟩
    rcases h with ⟨_, _, rfl, rfl, rfl, rfl⟩ | ⟨h, _⟩
    · exact ⟨he, hb⟩
    · exact absurd ⟨by omega, hn.2.2⟩ h
  have hq7 : IntKind.i64.wrap ((n : Int) + 7) / 8 = (((n + 7) / 8 : Nat) : Int) := by rw [IntKind.wrap_i64]; omega
  have hq8 : ((n : Int) + 7) / 8 = (((n + 7) / 8 : Nat) : Int) := by omega
  have hnI : (1 : Int) ≤ (n : Int) ∧ (n : Int) ≤ 128 := by omega
  obtain ⟨q, hq⟩ : ∃ q, q = (n + 7) / 8 := ⟨_, rfl⟩
  rw [← hq] at HB HR hq7 hq8
  have HX : Hid (∃ (R : ByteArray) (er : Int), (∀ W, Ld W → Calls Tryz.prog 5 #[.agg #[.int .i64 n2, .int .u64 (wHi v), .int .u64 (wLo v)]] W fun e w' => e = .returned (.tuple #[.string R, .int .i64 er]) ∧ Below W.heap.size W w') ∧ (er = 1 ∨ er = 0 ∧ ((R = txt (tx n u) ∧ n2 = n ∧ wHi v = wHi u ∧ wLo v = wLo u) ∨ ((R.toList == (txt (tx n u)).toList) = false ∧ ¬ (n2 = n ∧ wHi v = wHi u ∧ wLo v = wLo u))))) := by
    by_cases o2 : okN n2 v = true
    · have hb2 := okN_bd o2
      obtain ⟨m, rfl⟩ : ∃ m : Nat, n2 = (m : Int) := ⟨n2.toNat, by omega⟩
      refine ⟨txt (tx m v), 0, fun W h => ?_, .inr ⟨rfl, ?_⟩⟩
      · have := text_yes m v W h hv o2
        rw [Int.toNat_natCast] at this
        exact this
      · by_cases e : tx m v = tx n u
        · obtain ⟨rfl, rfl⟩ := tx_inj o2 ho e
          exact .inl ⟨rfl, rfl, rfl, rfl⟩
        · refine .inr ⟨txt_ne e, fun h => e ?_⟩
          obtain ⟨h1, h2, h3⟩ := h
          have hmn : m = n := by omega
          have huv : v = u := by have a := w_join v; have b := w_join u; rw [h2, h3] at a; omega
          rw [hmn, huv]
    · exact ⟨txt [], 1, fun W _ => text_no n2 v W hv (by simpa using o2), .inl rfl⟩
  have HL := hide hL
  clear hL ho hu hv hn hlen htl
  have HQ := hide hq
  clear hq
  generalize wHi u = h1 at *
  generalize wLo u = l1 at *
  generalize wHi v = h2 at *
  generalize wLo v = l2 at *
  generalize txt (tx n u) = T at *
  obtain ⟨R, er, hTX, hcase⟩ := HX.out
  have HTX := hide hTX
  clear hTX HX
  go_enter Tryz.func3, Tryz.ntmps3
  go_wp2_with fail
  refine (HB.out _).mono ?_
  rintro e w1 ⟨g, N, hN, rfl, hown, hb⟩
  subst hN
  have hr8 := row8_of_own hown (bys_cells u _)
  have HCS := hide hcase
  clear hcase
  have hka := cells_of3 ((hb.block w.heap.size (by simp; omega)).trans ((hao _ _ _ (by simp)).trans (heap_alloc_new w _)))
  have hkb := cells_of3 ((hb.block (w.heap.size + 1) (by simp)).trans (by have := heap_alloc_new (w.alloc (.cells #[.int .i64 (n : Int), .int .u64 h1, .int .u64 l1] 24)) (.cells #[.int .i64 n2, .int .u64 h2, .int .u64 l2] 24); simpa using this))
  have HW1 : Hid (Below w.heap.size w w1) := (((Below.refl _ _).alloc (Nat.le_refl _) _).alloc (by simp) _).trans (hb.mono (by simp; omega))
  have hlt : w.heap.size + 1 < w1.heap.size := by have := hb.size; simp at this; omega
  obtain ⟨k0, k1, k2, _⟩ := hka
  obtain ⟨m0, m1, m2, _⟩ := hkb
  have HR8 := hide hr8
  clear hb hown hr8
  go_wp2_with fail
  refine (HT.out _ (HL.out.below HW1.out)).mono ?_
  rintro e w2 ⟨rfl, hb⟩
  have HW2 := hide (chainB HW1.out hb)
  have KA : Hid (∀ o x, w1.cell? ⟨w.heap.size, o, none⟩ = some x → w2.cell? ⟨w.heap.size, o, none⟩ = some x) := fun o x hx => (hb.cell (p := ⟨w.heap.size, o, none⟩) (show w.heap.size < w1.heap.size by omega)).trans hx
  have KB : Hid (∀ o x, w1.cell? ⟨w.heap.size + 1, o, none⟩ = some x → w2.cell? ⟨w.heap.size + 1, o, none⟩ = some x) := fun o x hx => (hb.cell (p := ⟨w.heap.size + 1, o, none⟩) (show w.heap.size + 1 < w1.heap.size by omega)).trans hx
  replace k0 := KA.out _ _ k0; replace k1 := KA.out _ _ k1; replace k2 := KA.out _ _ k2
  replace m0 := KB.out _ _ m0; replace m1 := KB.out _ _ m1; replace m2 := KB.out _ _ m2
  replace HR8 := hide (HR8.out.keep hb)
  have hlt2 := Nat.lt_of_lt_of_le hlt hb.size
  clear hb KA KB
  go_wp2_with fail
  refine (HA.out _ (HL.out.below HW2.out)).mono ?_
  rintro e w3 ⟨rfl, hb⟩
  have HW3 := hide (chainB HW2.out hb)
  have KA : Hid (∀ o x, w2.cell? ⟨w.heap.size, o, none⟩ = some x → w3.cell? ⟨w.heap.size, o, none⟩ = some x) := fun o x hx => (hb.cell (p := ⟨w.heap.size, o, none⟩) (show w.heap.size < w2.heap.size by omega)).trans hx
  have KB : Hid (∀ o x, w2.cell? ⟨w.heap.size + 1, o, none⟩ = some x → w3.cell? ⟨w.heap.size + 1, o, none⟩ = some x) := fun o x hx => (hb.cell (p := ⟨w.heap.size + 1, o, none⟩) (show w.heap.size + 1 < w2.heap.size by omega)).trans hx
  replace k0 := KA.out _ _ k0; replace k1 := KA.out _ _ k1; replace k2 := KA.out _ _ k2
  replace m0 := KB.out _ _ m0; replace m1 := KB.out _ _ m1; replace m2 := KB.out _ _ m2
  replace HR8 := hide (HR8.out.keep hb)
  have hlt3 := Nat.lt_of_lt_of_le hlt2 hb.size
  clear hb KA KB
  go_wp2_with fail
  refine (HR.out g _ _ (bs_of_row8 HR8.out)).mono ?_
  rintro e w4 ⟨rfl, hb⟩
  have HW4 := hide (chainB HW3.out hb)
  have KA : Hid (∀ o x, w3.cell? ⟨w.heap.size, o, none⟩ = some x → w4.cell? ⟨w.heap.size, o, none⟩ = some x) := fun o x hx => (hb.cell (p := ⟨w.heap.size, o, none⟩) (show w.heap.size < w3.heap.size by omega)).trans hx
  have KB : Hid (∀ o x, w3.cell? ⟨w.heap.size + 1, o, none⟩ = some x → w4.cell? ⟨w.heap.size + 1, o, none⟩ = some x) := fun o x hx => (hb.cell (p := ⟨w.heap.size + 1, o, none⟩) (show w.heap.size + 1 < w3.heap.size by omega)).trans hx
  replace k0 := KA.out _ _ k0; replace k1 := KA.out _ _ k1; replace k2 := KA.out _ _ k2
  replace m0 := KB.out _ _ m0; replace m1 := KB.out _ _ m1; replace m2 := KB.out _ _ m2
  have hlt4 := Nat.lt_of_lt_of_le hlt3 hb.size
  clear hb KA KB HR8
  go_wp2_with fail
  refine (HP.out _ (HL.out.below (HW4.out.alloc HW4.out.size _))).mono ?_
  rintro e w5 ⟨rfl, hb⟩
  have HW5 : Hid (Below w.heap.size w w5) := (HW4.out.alloc HW4.out.size _).trans (hb.mono (by simp; omega))
  have hx9 := cells3T hb
  obtain ⟨x0, x1, x2⟩ := hx9
  have KA : Hid (∀ o x, w4.cell? ⟨w.heap.size, o, none⟩ = some x → w5.cell? ⟨w.heap.size, o, none⟩ = some x) := fun o x hx => (hb.cell (p := ⟨w.heap.size, o, none⟩) (show w.heap.size < _ by simp; omega)).trans (by rw [World.cell?_alloc_past _ _ _ (show w.heap.size < w4.heap.size by omega)]; exact hx)
  have KB : Hid (∀ o x, w4.cell? ⟨w.heap.size + 1, o, none⟩ = some x → w5.cell? ⟨w.heap.size + 1, o, none⟩ = some x) := fun o x hx => (hb.cell (p := ⟨w.heap.size + 1, o, none⟩) (show w.heap.size + 1 < _ by simp; omega)).trans (by rw [World.cell?_alloc_past _ _ _ (show w.heap.size + 1 < w4.heap.size by omega)]; exact hx)
  replace k0 := KA.out _ _ k0; replace k1 := KA.out _ _ k1; replace k2 := KA.out _ _ k2
  replace m0 := KB.out _ _ m0; replace m1 := KB.out _ _ m1; replace m2 := KB.out _ _ m2
  have hlt5 : w4.heap.size < w5.heap.size := by have := hb.size; simp at this; omega
  clear hb KA KB
  have a5 : w.heap.size < w5.heap.size := by omega
  have b5 : w.heap.size + 1 < w5.heap.size := by omega
  have hn9 : IntKind.i64.wrap ((n : Int) + 7) = (n : Int) + 7 := by rw [IntKind.wrap_i64]; omega
  have hn0 : (0 : Int) ≤ (n : Int) + 7 := by omega
  have hqt : wrap64 (((n : Int) + 7).tdiv 8) = (N : Int) := by rw [Int.tdiv_eq_ediv_of_nonneg hn0, hq8]; unfold wrap64; omega
  clear hlt hlt2 hlt3 hlt4 hnI
  obtain hcase := HCS.out
  clear HCS
  rcases hcase with rfl | ⟨rfl, ⟨rfl, rfl, rfl, rfl⟩ | ⟨hne, hnn⟩⟩
  · clear HA HB HT HP HR
    go_wp2_with fail
    refine (HTX.out _ (HL.out.below (HW5.out.alloc HW5.out.size _))).mono ?_
    rintro e w6 ⟨rfl, hb⟩
    have HW6 : Hid (Below w.heap.size w w6) := (HW5.out.alloc HW5.out.size _).trans (hb.mono (by have := HW5.out.size; simp; omega))
    clear hb k0 k1 k2 m0 m1 m2 x0 x1 x2
    go_wp2
    go_ret
    exact ⟨rfl, HW6.out⟩
  · clear HA HB HT HP HR
    go_wp2_with fail
    refine (HTX.out _ (HL.out.below (HW5.out.alloc HW5.out.size _))).mono ?_
    rintro e w6 ⟨rfl, hb⟩
    have HW6 : Hid (Below w.heap.size w w6) := (HW5.out.alloc HW5.out.size _).trans (hb.mono (by have := HW5.out.size; simp; omega))
    have y0 : w6.cell? ⟨w.heap.size, 0, none⟩ = some (.int .i64 (n : Int)) := (hb.cell (p := ⟨w.heap.size, 0, none⟩) (show w.heap.size < _ by simp; omega)).trans (by rw [World.cell?_alloc_past _ _ _ (show w.heap.size < w5.heap.size by omega)]; exact k0)
    have y1 : w6.cell? ⟨w.heap.size, 1, none⟩ = some (.int .u64 h2) := (hb.cell (p := ⟨w.heap.size, 1, none⟩) (show w.heap.size < _ by simp; omega)).trans (by rw [World.cell?_alloc_past _ _ _ (show w.heap.size < w5.heap.size by omega)]; exact k1)
    have y2 : w6.cell? ⟨w.heap.size, 2, none⟩ = some (.int .u64 l2) := (hb.cell (p := ⟨w.heap.size, 2, none⟩) (show w.heap.size < _ by simp; omega)).trans (by rw [World.cell?_alloc_past _ _ _ (show w.heap.size < w5.heap.size by omega)]; exact k2)
    have z0 : w6.cell? ⟨w.heap.size + 1, 0, none⟩ = some (.int .i64 (n : Int)) := (hb.cell (p := ⟨w.heap.size + 1, 0, none⟩) (show w.heap.size + 1 < _ by simp; omega)).trans (by rw [World.cell?_alloc_past _ _ _ (show w.heap.size + 1 < w5.heap.size by omega)]; exact m0)
    have z1 : w6.cell? ⟨w.heap.size + 1, 1, none⟩ = some (.int .u64 h2) := (hb.cell (p := ⟨w.heap.size + 1, 1, none⟩) (show w.heap.size + 1 < _ by simp; omega)).trans (by rw [World.cell?_alloc_past _ _ _ (show w.heap.size + 1 < w5.heap.size by omega)]; exact m1)
    have z2 : w6.cell? ⟨w.heap.size + 1, 2, none⟩ = some (.int .u64 l2) := (hb.cell (p := ⟨w.heap.size + 1, 2, none⟩) (show w.heap.size + 1 < _ by simp; omega)).trans (by rw [World.cell?_alloc_past _ _ _ (show w.heap.size + 1 < w5.heap.size by omega)]; exact m2)
    clear k0 k1 k2 m0 m1 m2 x0 x1 x2
    clear hb
    go_wp2
    go_ret
    exact ⟨rfl, HW6.out⟩
  · clear HA HB HT HP HR
    go_wp2_with fail
    refine (HTX.out _ (HL.out.below (HW5.out.alloc HW5.out.size _))).mono ?_
    rintro e w6 ⟨rfl, hb⟩
    have HW6 : Hid (Below w.heap.size w w6) := (HW5.out.alloc HW5.out.size _).trans (hb.mono (by have := HW5.out.size; simp; omega))
    have y0 : w6.cell? ⟨w.heap.size, 0, none⟩ = some (.int .i64 (n : Int)) := (hb.cell (p := ⟨w.heap.size, 0, none⟩) (show w.heap.size < _ by simp; omega)).trans (by rw [World.cell?_alloc_past _ _ _ (show w.heap.size < w5.heap.size by omega)]; exact k0)
    have y1 : w6.cell? ⟨w.heap.size, 1, none⟩ = some (.int .u64 h1) := (hb.cell (p := ⟨w.heap.size, 1, none⟩) (show w.heap.size < _ by simp; omega)).trans (by rw [World.cell?_alloc_past _ _ _ (show w.heap.size < w5.heap.size by omega)]; exact k1)
    have y2 : w6.cell? ⟨w.heap.size, 2, none⟩ = some (.int .u64 l1) := (hb.cell (p := ⟨w.heap.size, 2, none⟩) (show w.heap.size < _ by simp; omega)).trans (by rw [World.cell?_alloc_past _ _ _ (show w.heap.size < w5.heap.size by omega)]; exact k2)
    have z0 : w6.cell? ⟨w.heap.size + 1, 0, none⟩ = some (.int .i64 n2) := (hb.cell (p := ⟨w.heap.size + 1, 0, none⟩) (show w.heap.size + 1 < _ by simp; omega)).trans (by rw [World.cell?_alloc_past _ _ _ (show w.heap.size + 1 < w5.heap.size by omega)]; exact m0)
    have z1 : w6.cell? ⟨w.heap.size + 1, 1, none⟩ = some (.int .u64 h2) := (hb.cell (p := ⟨w.heap.size + 1, 1, none⟩) (show w.heap.size + 1 < _ by simp; omega)).trans (by rw [World.cell?_alloc_past _ _ _ (show w.heap.size + 1 < w5.heap.size by omega)]; exact m1)
    have z2 : w6.cell? ⟨w.heap.size + 1, 2, none⟩ = some (.int .u64 l2) := (hb.cell (p := ⟨w.heap.size + 1, 2, none⟩) (show w.heap.size + 1 < _ by simp; omega)).trans (by rw [World.cell?_alloc_past _ _ _ (show w.heap.size + 1 < w5.heap.size by omega)]; exact m2)
    clear k0 k1 k2 m0 m1 m2 x0 x1 x2
    clear hb
    have HNN := hide hnn
    clear hnn
    go_wp2
    all_goals first
      | exact absurd ⟨(by omega : n2 = (n : Int)), (by omega : h2 = h1), (by omega : l2 = l1)⟩ HNN.out
      | (go_ret; exact ⟨rfl, HW6.out⟩)
theorem back_walk (n n2 : Int) (u v : Nat) (w : World) (hu : u < top) (hv : v < top) (hL : Ld w) :
    Calls Tryz.prog 3 #[.agg #[.int .i64 n, .int .u64 (wHi u), .int .u64 (wLo u)], .agg #[.int .i64 n2, .int .u64 (wHi v), .int .u64 (wLo v)]] w fun e w' => e = .returned (.bool true) ∧ Below w.heap.size w w' := by
  by_cases ho : okN n u = true
  · have hb := okN_bd ho
    obtain ⟨N, rfl⟩ : ∃ N : Nat, n = (N : Int) := ⟨n.toNat, by omega⟩
    exact back_yes N n2 u v w hu hv hL ho
  · exact back_no n n2 u v w hu hL (by simpa using ho)
end Go.Proofs.YtbbnjilajkllpaaGreatDoor
