/- bits.Read. -/
import Derived.Test.YtbbnjilajkllpaaGreatDoorByt
namespace Go.Proofs.YtbbnjilajkllpaaGreatDoor
open Go.RowKit

/- Bytes at a place. -/
def Bs (W : World) (q off : Nat) (xs : List Nat) : Prop := ∀ i (h : i < xs.length), W.cell? ⟨q, off + i, none⟩ = some (.int .u8 (xs[i] : Nat))
/- Bytes as a number, the highest first. -/
def bv (xs : List Nat) : Nat := xs.foldl (fun u x => u * 256 + x) 0
theorem bv_snoc (xs : List Nat) (x : Nat) : bv (xs ++ [x]) = bv xs * 256 + x := by simp [bv]
theorem bv_lt : ∀ (n : Nat) (xs : List Nat), xs.length = n → (∀ x ∈ xs, x < 256) → bv xs < 256 ^ n
  | 0, xs, h, _ => by obtain rfl : xs = [] := List.length_eq_zero_iff.1 h; simp [bv]
  | n + 1, xs, h, hb => by
    rcases List.eq_nil_or_concat xs with rfl | ⟨ys, x, rfl⟩
    · simp at h
    · rw [List.concat_eq_append] at h hb ⊢
      have h1 : ys.length = n := by simp at h; omega
      have := bv_lt n ys h1 (fun y hy => hb y (by simp [hy]))
      have hx := hb x (by simp)
      rw [bv_snoc, Nat.pow_succ]
      omega
theorem bv_top {xs : List Nat} (h : xs.length ≤ 16) (hb : ∀ x ∈ xs, x < 256) : bv xs < top := by
  have h1 := bv_lt _ xs rfl hb
  have h2 : 256 ^ xs.length ≤ 256 ^ 16 := Nat.pow_le_pow_right (by decide) h
  have h3 : (256 : Nat) ^ 16 = top := by decide
  omega
theorem lo_or (u x : Nat) (hx : x < 256) : bits .or .u64 (wLo (u * 256)) (x : Int) = wLo (u * 256 + x) := by
  have e : wLo (u * 256) = ((2 ^ 8 * (u % 72057594037927936) : Nat) : Int) := by
    have h : u * 256 % 2 ^ 64 = 2 ^ 8 * (u % 72057594037927936) := by omega
    rw [wLo_nat, h]
  rw [e, u64_or_nat _ _ (by omega) (by omega)]
  have h := Nat.two_pow_add_eq_or_of_lt (i := 8) (b := x) hx (u % 72057594037927936)
  have h2 : 2 ^ 8 * (u % 72057594037927936) + x = (u * 256 + x) % 2 ^ 64 := by omega
  rw [← h, wLo_nat, h2]
theorem hi_or (u x : Nat) (hx : x < 256) : wHi (u * 256) = wHi (u * 256 + x) := by
  have h : u * 256 / 2 ^ 64 = (u * 256 + x) / 2 ^ 64 := by omega
  rw [wHi_nat, wHi_nat, h]
theorem up8 (u x : Nat) (X Y : Int) (w : World) (h : u * 256 + x < top) (hx : x < 256) (hX : wHi (u * 256 + x) = X) (hY : wLo (u * 256) = Y) :
    Calls Tryz.prog 21 #[.int .u64 (wHi u), .int .u64 (wLo u), .int .u64 8] w fun e w' => e = .returned (.tuple #[.int .u64 X, .int .u64 Y]) ∧ w' = w := by
  have e : u * 2 ^ (8 : Int).toNat % top = u * 256 := Nat.mod_eq_of_lt (Nat.lt_of_le_of_lt (Nat.le_add_right _ x) h)
  have hu : u < top := Nat.lt_of_le_of_lt (by omega : u ≤ u * 256 + x) h
  exact upV u 8 X Y w hu (by decide) (by decide) (by rw [e, hi_or u x hx]; exact hX) (by rw [e]; exact hY)
structure RdM (w W : World) (n hi lo : Int) : Prop where
  bl : Below w.heap.size w W
  a : W.heap[w.heap.size]? = some (.cells #[.int .i64 0, .int .u64 0, .int .u64 0] 24 (0, 0))
  b : W.heap[w.heap.size + 1]? = some (.cells #[.int .i64 n, .int .u64 hi, .int .u64 lo] 24 (0, 0))
theorem cells3 {W : World} {s : Nat} {x y z : Value} {t : TypeId} (h : W.heap[s]? = some (.cells #[x, y, z] t (0, 0))) : W.cell? ⟨s, 0, none⟩ = some x ∧ W.cell? ⟨s, 1, none⟩ = some y ∧ W.cell? ⟨s, 2, none⟩ = some z ∧ ∀ o, W.frozen? ⟨s, o, none⟩ = false := by
  refine ⟨?_, ?_, ?_, fun o => ?_⟩
  · unfold World.cell?; simp only [h]; rfl
  · unfold World.cell?; simp only [h]; rfl
  · unfold World.cell?; simp only [h]; rfl
  · unfold World.frozen?; simp only [h]; simp
theorem RdM.start (w : World) (n : Int) : RdM w ((w.alloc (.cells #[.int .i64 0, .int .u64 0, .int .u64 0] 24)).alloc (.cells #[.int .i64 n, .int .u64 0, .int .u64 0] 24)) n 0 0 := by
  have h2 := heap_alloc_new (w.alloc (.cells #[.int .i64 0, .int .u64 0, .int .u64 0] 24)) (.cells #[.int .i64 n, .int .u64 0, .int .u64 0] 24)
  rw [World.size_alloc] at h2
  exact ⟨((Below.refl _ w).alloc (Nat.le_refl _) _).alloc (by simp) _, (Below.heap_alloc _ _ _ (by simp)).trans (heap_alloc_new w _), h2⟩
theorem RdM.set {w W : World} {n hi lo : Int} (h : RdM w W n hi lo) (x y z : Int) : RdM w (((W.setCell ⟨w.heap.size + 1, 1, none⟩ (.int .u64 x)).setCell ⟨w.heap.size + 1, 2, none⟩ (.int .u64 y)).setCell ⟨w.heap.size + 1, 2, none⟩ (.int .u64 z)) n x z := by
  refine ⟨((h.bl.setCell (by simp) _).setCell (by simp) _).setCell (by simp) _, ?_, ?_⟩
  · rw [Below.heap_setCell _ _ _ _ (by simp), Below.heap_setCell _ _ _ _ (by simp), Below.heap_setCell _ _ _ _ (by simp)]; exact h.a
  · exact heap_setCell_same _ _ _ _ _ _ (heap_setCell_same _ _ _ _ _ _ (heap_setCell_same _ _ _ _ _ _ h.b))
theorem RdM.next {w W W' : World} {n hi lo : Int} (h : RdM w W n hi lo) (hb : Below W.heap.size W W') : RdM w W' n hi lo :=
  ⟨h.bl.trans (hb.mono h.bl.size), (hb.block _ (Array.getElem?_eq_some_iff.1 h.a).1).trans h.a, (hb.block _ (Array.getElem?_eq_some_iff.1 h.b).1).trans h.b⟩
def numW (n u : Nat) : Value := .agg #[.int .i64 n, .int .u64 (wHi u), .int .u64 (wLo u)]
def zeroB : Value := .agg #[.int .i64 0, .int .u64 0, .int .u64 0]
set_option maxHeartbeats 2000000 in
theorem read_loop (n q off cap : Nat) (xs : List Nat) (w : World) (h0 : 1 ≤ n) (h1 : n ≤ 128) (hx : Bs w q off xs) (hb : ∀ x ∈ xs, x < 256) (hl : xs.length = (n + 7) / 8) (okv : Bool) (hok : okv = decide (bv xs < 2 ^ n)) :
    Calls Tryz.prog 8 #[.int .i64 n, .slice (some ⟨q, off, none⟩) xs.length cap] w fun e w' => (if okv then e = .returned (.tuple #[numW n (bv xs), .int .i64 0]) else e = .returned (.tuple #[zeroB, .int .i64 8])) ∧ Below w.heap.size w w' := by
  have HW : Hid (∀ W, Calls Tryz.prog 19 #[.int .i64 n] W fun e w' => e = .returned (.bool true) ∧ w' = W) := fun W => by
    have := widthMayBe_any n W
    rw [mayBe_yes (by omega) (by omega)] at this
    exact this
  have HC := hide (fun W => byteCount_any n W (by omega) (by omega))
  obtain ⟨N, hN⟩ : ∃ N, N = xs.length := ⟨_, rfl⟩
  have eN : ((((n : Int).toNat + 7) / 8 : Nat)) = N := by rw [Int.toNat_natCast]; omega
  rw [eN] at HC
  have hN16 : N ≤ 16 := by omega
  have hqw : ∀ i, i < N → q < w.heap.size := fun i hi => World.block_lt_of_cell? w _ (hx i (by omega))
  have HK : Hid (∀ W, Calls Tryz.prog 7 #[.agg #[.int .i64 n, .int .u64 (wHi (bv xs)), .int .u64 (wLo (bv xs))]] W fun e w' => e = .returned (.bool okv) ∧ Below W.heap.size W w') := fun W => by
    have := checkV n (bv xs) W (bv_top (by omega) hb)
    rw [mayBe_yes (by omega) (by omega), Int.toNat_natCast, Bool.true_and, ← hok] at this
    exact this
  have HX := hide hx; have HB := hide hb; have HL := hide hN
  obtain ⟨H, hH⟩ : ∃ H, wHi (bv xs) = H := ⟨_, rfl⟩
  obtain ⟨L, hL⟩ : ∃ L, wLo (bv xs) = L := ⟨_, rfl⟩
  unfold numW zeroB
  rw [hH, hL] at HK
  rw [hH, hL]
  have HH := hide hH; have HL2 := hide hL
  have HQ := hide hqw
  rw [← hN]
  clear eN hx hb hl hN hok hqw hH hL
  go_enter Tryz.func8, Tryz.ntmps8
  go_wp2_with fail
  refine (HW.out _).mono ?_
  rintro e w1 ⟨rfl, hw1⟩
  subst hw1
  go_wp2_with fail
  refine (HC.out _).mono ?_
  rintro e w2 ⟨rfl, hw2⟩
  subst hw2
  go_wp2
  go_loopw [23] (fun i wr => ∃ k u : Nat, k ≤ N ∧ i = .int .i64 k ∧ RdM w wr n (wHi u) (wLo u) ∧ Hid (u = bv (xs.take k))) (fun i _ => N - (intOf i).toNat)
  case atStart => exact ⟨0, 0, by omega, rfl, RdM.start w n, by exact rfl⟩
  case round =>
    obtain ⟨k, u, hk, rfl, hR, HU⟩ := hrel
    obtain ⟨b0, b1, b2, bf⟩ := cells3 hR.b
    obtain ⟨a0, a1, a2, af⟩ := cells3 hR.a
    have R := hide hR
    by_cases hlt : k < N
    · have hkx : k < xs.length := by have := HL.out; omega
      obtain ⟨x, hxk⟩ : ∃ x, xs[k] = x := ⟨_, rfl⟩
      have hx256 : x < 256 := by rw [← hxk]; exact HB.out _ (List.getElem_mem hkx)
      have hcx : wr.cell? ⟨q, off + k, none⟩ = some (.int .u8 (x : Int)) := by
        rw [hR.bl.cell (p := ⟨q, off + k, none⟩) (HQ.out k hlt), HX.out k hkx, hxk]
      have hut : u * 256 + x < top := by
        have e : u * 256 + x = bv (xs.take (k + 1)) := by rw [List.take_add_one, List.getElem?_eq_getElem hkx, Option.toList_some, bv_snoc, ← HU.out, hxk]
        rw [e]
        exact bv_top (by simp; omega) (fun y hy => HB.out y (List.mem_of_mem_take hy))
      have HN2 : Hid (u * 256 + x = bv (xs.take (k + 1))) := by
        show _ = _
        rw [List.take_add_one, List.getElem?_eq_getElem hkx, Option.toList_some, bv_snoc, ← HU.out, hxk]
      have hw8 : IntKind.u64.wrap (x : Int) = x := by rw [IntKind.wrap_u64]; omega
      obtain ⟨h3, hh3⟩ : ∃ h3, wHi (u * 256 + x) = h3 := ⟨_, rfl⟩
      obtain ⟨l2, hl2⟩ : ∃ l2, wLo (u * 256) = l2 := ⟨_, rfl⟩
      have HUP := hide (up8 u x h3 l2 wr hut hx256 hh3 hl2)
      have hor := lo_or u x hx256
      rw [hl2] at hor
      have HOR := hide hor
      have HH3 := hide hh3
      clear hR hxk hkx hut a0 a1 a2 af b0 hh3 hl2 hor
      generalize wHi u = h1 at *
      generalize wLo u = l1 at *
      go_wp2_with fail
      refine HUP.out.mono ?_
      rintro e w5 ⟨rfl, hw5⟩
      subst hw5
      go_wp2
      go_roundw
      case rel => exact ⟨k + 1, u * 256 + x, by omega, by go_num, by rw [HH3.out, ← HOR.out]; exact R.out.set _ _ _, HN2.out⟩
      case measure => simp [intOf]; omega
    · obtain rfl : k = N := by omega
      have hu : u = bv xs := by rw [HU.out, List.take_of_length_le (by have := HL.out; omega)]
      rw [hu, HH.out, HL2.out] at R
      rw [hu, HH.out] at b1
      rw [hu, HL2.out] at b2
      clear hu hR HU
      go_wp2_with fail
      refine (HK.out _).mono ?_
      rintro e w6 ⟨rfl, hb6⟩
      have R6 := hide (R.out.next hb6)
      obtain ⟨b0, b1, b2, bf⟩ := cells3 R6.out.b
      obtain ⟨a0, a1, a2, af⟩ := cells3 R6.out.a
      clear hb6 R
      cases okv
      · go_wp2
        refine bodyPost_ret (v := .tuple #[.agg #[.int .i64 0, .int .u64 0, .int .u64 0], .int .i64 8]) (by simp [results, Tryz.results8, go_sem, a0, a1, a2]) rfl ⟨rfl, ?_⟩
        exact ((R6.out.bl.setCell (Nat.le_refl _) _).setCell (Nat.le_refl _) _).setCell (Nat.le_refl _) _
      · go_wp2
        refine bodyPost_ret (v := .tuple #[.agg #[.int .i64 n, .int .u64 H, .int .u64 L], .int .i64 0]) (by simp [results, Tryz.results8, go_sem, a0, a1, a2]) rfl ⟨rfl, ?_⟩
        exact ((R6.out.bl.setCell (Nat.le_refl _) _).setCell (Nat.le_refl _) _).setCell (Nat.le_refl _) _
theorem readR_wide (n q off cap m : Nat) (w : World) (h1 : 128 < n) :
    Calls Tryz.prog 8 #[.int .i64 n, .slice (some ⟨q, off, none⟩) m cap] w fun e w' => e = .returned (.tuple #[zeroB, .int .i64 1]) ∧ Below w.heap.size w w' := by
  have HW := hide (fun W => widthMayBe_no n W (mayBe_no (by omega)))
  unfold zeroB
  clear h1
  go_enter Tryz.func8, Tryz.ntmps8
  go_wp2_with fail
  refine (HW.out _).mono ?_
  rintro e w1 ⟨rfl, rfl⟩
  go_wp2
  refine bodyPost_ret (v := .tuple #[.agg #[.int .i64 0, .int .u64 0, .int .u64 0], .int .i64 1]) (by simp [results, Tryz.results8, go_sem]) rfl ⟨rfl, ?_⟩
  exact (Below.refl _ _).alloc (Nat.le_refl _) _
/- bits.Read of what is handed out: the number, or none. -/
theorem readR_any (n q off cap : Nat) (xs : List Nat) (w : World) (h0 : 1 ≤ n) (hx : Bs w q off xs) (hb : ∀ x ∈ xs, x < 256) (hl : xs.length = (n + 7) / 8) :
    Calls Tryz.prog 8 #[.int .i64 n, .slice (some ⟨q, off, none⟩) xs.length cap] w fun e w' => ∃ b1 b2 b3 er : Int, e = .returned (.tuple #[.agg #[.int .i64 b1, .int .u64 b2, .int .u64 b3], .int .i64 er]) ∧ Below w.heap.size w w' ∧ ((n ≤ 128 ∧ bv xs < 2 ^ n ∧ er = 0 ∧ b1 = n ∧ b2 = wHi (bv xs) ∧ b3 = wLo (bv xs)) ∨ (¬ (n ≤ 128 ∧ bv xs < 2 ^ n) ∧ er ≠ 0)) := by
  by_cases h1 : n ≤ 128
  · by_cases h2 : bv xs < 2 ^ n
    · exact (read_loop n q off cap xs w h0 h1 hx hb hl true (by simp [h2])).mono (fun e W' ⟨k1, k2⟩ => ⟨_, _, _, _, k1, k2, .inl ⟨h1, h2, rfl, rfl, rfl, rfl⟩⟩)
    · exact (read_loop n q off cap xs w h0 h1 hx hb hl false (by simp [h2])).mono (fun e W' ⟨k1, k2⟩ => ⟨_, _, _, _, k1, k2, .inr ⟨fun h => h2 h.2, by decide⟩⟩)
  · exact (readR_wide n q off cap xs.length w (by omega)).mono (fun e W' ⟨k1, k2⟩ => ⟨_, _, _, _, k1, k2, .inr ⟨fun h => h1 h.1, by decide⟩⟩)
end Go.Proofs.YtbbnjilajkllpaaGreatDoor
