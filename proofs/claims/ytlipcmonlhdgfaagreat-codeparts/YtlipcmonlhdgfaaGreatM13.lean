/- Pieces of the proof: CoD, CoE, CoF. -/
import Derived.Test.YtlipcmonlhdgfaaGreatM12
import Derived.BigRegion
import Derived.Laws.StructEq
/- package code: the parts of an instruction. -/
namespace Go.Proofs.YtlipcmonlhdgfaaGreat
open Go.RowKit

theorem at11 {W : World} {b : Nat} {x0 x1 x2 x3 x4 x5 x6 x7 x8 x9 x10 : Value} {t : TypeId} (h : W.heap[b]? = some (.cells #[x0, x1, x2, x3, x4, x5, x6, x7, x8, x9, x10] t (0, 0))) : W.cell? ⟨b, 0, none⟩ = some x0 ∧ W.cell? ⟨b, 1, none⟩ = some x1 ∧ W.cell? ⟨b, 2, none⟩ = some x2 ∧ W.cell? ⟨b, 3, none⟩ = some x3 ∧ W.cell? ⟨b, 4, none⟩ = some x4 ∧ W.cell? ⟨b, 5, none⟩ = some x5 ∧ W.cell? ⟨b, 6, none⟩ = some x6 ∧ W.cell? ⟨b, 7, none⟩ = some x7 ∧ W.cell? ⟨b, 8, none⟩ = some x8 ∧ W.cell? ⟨b, 9, none⟩ = some x9 ∧ W.cell? ⟨b, 10, none⟩ = some x10 := by
  refine ⟨?_, ?_, ?_, ?_, ?_, ?_, ?_, ?_, ?_, ?_, ?_⟩
  all_goals (unfold World.cell?; simp only [h]; rfl)
def InL.val (x : InL) : Value := .agg #[.int .u8 x.v.op, .int .i64 x.v.to, .int .i64 x.v.a, .int .i64 x.v.b, .int .i64 x.v.n, .int .i64 x.v.m, .slice x.la x.v.l.length x.lc, .int .i64 x.v.lit.w, .int .u64 x.v.lit.hi, .int .u64 x.v.lit.lo, .int .u8 x.v.of]
/- Which parts there are. -/
def fls (x : In) : List Bool := [x.to != 0, x.a != 0, x.b != 0, x.n != 0, x.m != 0, decide (0 < x.l.length), !(x.lit.eq nb0), x.of != 0]
def prt : List Bool → Int → Int → Int
  | [], _, s => s
  | b :: r, p, s => prt r (p * 2) (if b then bits .or .i64 s p else s)
theorem prt_snoc : ∀ (l : List Bool) (b : Bool) (p s : Int), prt (l ++ [b]) p s = if b then bits .or .i64 (prt l p s) (p * 2 ^ l.length) else prt l p s
  | [], b, p, s => by simp [prt]
  | a :: l, b, p, s => by
    rw [List.cons_append, prt, prt_snoc l b, prt, List.length_cons, Int.pow_succ, Int.mul_assoc, Int.mul_comm 2]
theorem take_getD {l : List Bool} {k : Nat} (h : k < l.length) : l.take (k + 1) = l.take k ++ [l.getD k false] := by
  rw [List.take_succ_eq_append_getElem h, List.getD_eq_getElem?_getD, List.getElem?_eq_getElem h]; rfl
def prtI (x : In) : Int := prt (fls x) 1 0
theorem neq_bits (lw lh ll : Int) (W : World) : (binOp .neq 56 (.agg #[.int .i64 lw, .int .u64 lh, .int .u64 ll]) (.agg #[.int .i64 0, .int .u64 0, .int .u64 0])).run Tryz.prog W = .ok (.bool (!((⟨lw, lh, ll⟩ : Nb).eq nb0))) W := by
  by_cases h1 : lw = 0 <;> by_cases h2 : lh = 0 <;> by_cases h3 : ll = 0 <;> simp [go_sem, Nb.eq, nb0, h1, h2, h3]
set_option maxRecDepth 100000 in
set_option maxHeartbeats 8000000 in
theorem parts_any (x : InL) : Pure 109 #[x.val] (.int .i64 (prtI x.v)) := fun w => by
  obtain ⟨fs, hfs⟩ : ∃ fs, fs = fls x.v := ⟨_, rfl⟩
  unfold prtI
  rw [← hfs]
  have HFS := hide hfs
  clear hfs
  obtain ⟨⟨op, to, a, b, n, m, l, ⟨lw, lh, ll⟩, of⟩, la, lc⟩ := x
  simp only [InL.val]
  have hne := fun W => neq_bits lw lh ll W
  generalize hW1 : w.alloc (.cells #[.int .u8 op, .int .i64 to, .int .i64 a, .int .i64 b, .int .i64 n, .int .i64 m, .slice la l.length lc, .int .i64 lw, .int .u64 lh, .int .u64 ll, .int .u8 of] 59) = W1
  have B1 : Hid (Below w.heap.size w W1) := hW1 ▸ below1 _ _
  have K8 : Hid (W1.heap[w.heap.size]? = some (.cells #[.int .u8 op, .int .i64 to, .int .i64 a, .int .i64 b, .int .i64 n, .int .i64 m, .slice la l.length lc, .int .i64 lw, .int .u64 lh, .int .u64 ll, .int .u8 of] 59 (0, 0))) := by show _ = _; rw [← hW1]; exact heap_alloc_new _ _
  have HW1 := hide hW1
  clear hW1
  go_enter Tryz.func109, Tryz.ntmps109
  go_wp2
  rw [HW1.out]
  have hS0 : Below W1.heap.size W1 W1.drew := (Below.refl _ _).drew
  refine wp_region_noPanic ?_
  refine wp_region_held_drew (S := fun w' => Below W1.heap.size W1 w') (by kernel_rfl) hS0 (fun hHeld => ?_)
  clear hS0
  generalize W1.drew = wd at *
  refine wpAnyH_take (i := 0) (v := ?_) rfl (by kernel_rfl) (by kernel_rfl) (by kernel_rfl) (fun _ _ _ h => h) (Or.inl ⟨by rfl, ?_⟩) hHeld ?_
  rotate_left
  · (intro w hSw; clear hSw; go_simp; try (with_reducible rfl))
  refine wpAnyH_take (i := 1) (v := ?_) rfl (by kernel_rfl) (by kernel_rfl) (by kernel_rfl) (fun _ _ _ h => h) (Or.inl ⟨by rfl, ?_⟩) hHeld ?_
  rotate_left
  · (intro w hSw; obtain ⟨b0, b1, b2, b3, b4, b5, b6, b7, b8, b9, b10⟩ := at11 (heap_below hSw K8.out); clear hSw; go_simp; try (with_reducible rfl))
  refine wpAnyH_take (i := 2) (v := ?_) rfl (by kernel_rfl) (by kernel_rfl) (by kernel_rfl) (fun _ _ _ h => h) (Or.inl ⟨by rfl, ?_⟩) hHeld ?_
  rotate_left
  · (intro w hSw; clear hSw; go_simp; try (with_reducible rfl))
  refine wpAnyH_take (i := 3) (v := ?_) rfl (by kernel_rfl) (by kernel_rfl) (by kernel_rfl) (fun _ _ _ h => h) (Or.inl ⟨by rfl, ?_⟩) hHeld ?_
  rotate_left
  · (intro w hSw; clear hSw; go_simp; try (with_reducible rfl))
  refine wpAnyH_take (i := 4) (v := ?_) rfl (by kernel_rfl) (by kernel_rfl) (by kernel_rfl) (fun _ _ _ h => h) (Or.inl ⟨by rfl, ?_⟩) hHeld ?_
  rotate_left
  · (intro w hSw; clear hSw; go_simp; try (with_reducible rfl))
  refine wpAnyH_take (i := 5) (v := ?_) rfl (by kernel_rfl) (by kernel_rfl) (by kernel_rfl) (fun _ _ _ h => h) (Or.inl ⟨by rfl, ?_⟩) hHeld ?_
  rotate_left
  · (intro w hSw; obtain ⟨b0, b1, b2, b3, b4, b5, b6, b7, b8, b9, b10⟩ := at11 (heap_below hSw K8.out); clear hSw; go_simp; try (with_reducible rfl))
  refine wpAnyH_take (i := 6) (v := ?_) rfl (by kernel_rfl) (by kernel_rfl) (by kernel_rfl) (fun _ _ _ h => h) (Or.inl ⟨by rfl, ?_⟩) hHeld ?_
  rotate_left
  · (intro w hSw; clear hSw; go_simp; try (with_reducible rfl))
  refine wpAnyH_take (i := 7) (v := ?_) rfl (by kernel_rfl) (by kernel_rfl) (by kernel_rfl) (fun _ _ _ h => h) (Or.inl ⟨by rfl, ?_⟩) hHeld ?_
  rotate_left
  · (intro w hSw; clear hSw; go_simp; try (with_reducible rfl))
  refine wpAnyH_take (i := 8) (v := ?_) rfl (by kernel_rfl) (by kernel_rfl) (by kernel_rfl) (fun _ _ _ h => h) (Or.inl ⟨by rfl, ?_⟩) hHeld ?_
  rotate_left
  · (intro w hSw; clear hSw; go_simp; try (with_reducible rfl))
  refine wpAnyH_take (i := 9) (v := ?_) rfl (by kernel_rfl) (by kernel_rfl) (by kernel_rfl) (fun _ _ _ h => h) (Or.inl ⟨by rfl, ?_⟩) hHeld ?_
  rotate_left
  · (intro w hSw; obtain ⟨b0, b1, b2, b3, b4, b5, b6, b7, b8, b9, b10⟩ := at11 (heap_below hSw K8.out); clear hSw; go_simp; try (with_reducible rfl))
  refine wpAnyH_take (i := 10) (v := ?_) rfl (by kernel_rfl) (by kernel_rfl) (by kernel_rfl) (fun _ _ _ h => h) (Or.inl ⟨by rfl, ?_⟩) hHeld ?_
  rotate_left
  · (intro w hSw; clear hSw; go_simp; try (with_reducible rfl))
  refine wpAnyH_take (i := 11) (v := ?_) rfl (by kernel_rfl) (by kernel_rfl) (by kernel_rfl) (fun _ _ _ h => h) (Or.inl ⟨by rfl, ?_⟩) hHeld ?_
  rotate_left
  · (intro w hSw; clear hSw; go_simp; try (with_reducible rfl))
  refine wpAnyH_take (i := 12) (v := ?_) rfl (by kernel_rfl) (by kernel_rfl) (by kernel_rfl) (fun _ _ _ h => h) (Or.inl ⟨by rfl, ?_⟩) hHeld ?_
  rotate_left
  · (intro w hSw; clear hSw; go_simp; try (with_reducible rfl))
  refine wpAnyH_take (i := 13) (v := ?_) rfl (by kernel_rfl) (by kernel_rfl) (by kernel_rfl) (fun _ _ _ h => h) (Or.inl ⟨by rfl, ?_⟩) hHeld ?_
  rotate_left
  · (intro w hSw; obtain ⟨b0, b1, b2, b3, b4, b5, b6, b7, b8, b9, b10⟩ := at11 (heap_below hSw K8.out); clear hSw; go_simp; try (with_reducible rfl))
  refine wpAnyH_take (i := 14) (v := ?_) rfl (by kernel_rfl) (by kernel_rfl) (by kernel_rfl) (fun _ _ _ h => h) (Or.inl ⟨by rfl, ?_⟩) hHeld ?_
  rotate_left
  · (intro w hSw; clear hSw; go_simp; try (with_reducible rfl))
  refine wpAnyH_take (i := 15) (v := ?_) rfl (by kernel_rfl) (by kernel_rfl) (by kernel_rfl) (fun _ _ _ h => h) (Or.inl ⟨by rfl, ?_⟩) hHeld ?_
  rotate_left
  · (intro w hSw; clear hSw; go_simp; try (with_reducible rfl))
  refine wpAnyH_take (i := 16) (v := ?_) rfl (by kernel_rfl) (by kernel_rfl) (by kernel_rfl) (fun _ _ _ h => h) (Or.inl ⟨by rfl, ?_⟩) hHeld ?_
  rotate_left
  · (intro w hSw; clear hSw; go_simp; try (with_reducible rfl))
  refine wpAnyH_take (i := 17) (v := ?_) rfl (by kernel_rfl) (by kernel_rfl) (by kernel_rfl) (fun _ _ _ h => h) (Or.inl ⟨by rfl, ?_⟩) hHeld ?_
  rotate_left
  · (intro w hSw; obtain ⟨b0, b1, b2, b3, b4, b5, b6, b7, b8, b9, b10⟩ := at11 (heap_below hSw K8.out); clear hSw; go_simp; try (with_reducible rfl))
  refine wpAnyH_take (i := 18) (v := ?_) rfl (by kernel_rfl) (by kernel_rfl) (by kernel_rfl) (fun _ _ _ h => h) (Or.inl ⟨by rfl, ?_⟩) hHeld ?_
  rotate_left
  · (intro w hSw; clear hSw; go_simp; try (with_reducible rfl))
  refine wpAnyH_take (i := 19) (v := ?_) rfl (by kernel_rfl) (by kernel_rfl) (by kernel_rfl) (fun _ _ _ h => h) (Or.inl ⟨by rfl, ?_⟩) hHeld ?_
  rotate_left
  · (intro w hSw; clear hSw; go_simp; try (with_reducible rfl))
  refine wpAnyH_take (i := 20) (v := ?_) rfl (by kernel_rfl) (by kernel_rfl) (by kernel_rfl) (fun _ _ _ h => h) (Or.inl ⟨by rfl, ?_⟩) hHeld ?_
  rotate_left
  · (intro w hSw; clear hSw; go_simp; try (with_reducible rfl))
  refine wpAnyH_take (i := 21) (v := ?_) rfl (by kernel_rfl) (by kernel_rfl) (by kernel_rfl) (fun _ _ _ h => h) (Or.inl ⟨by rfl, ?_⟩) hHeld ?_
  rotate_left
  · (intro w hSw; obtain ⟨b0, b1, b2, b3, b4, b5, b6, b7, b8, b9, b10⟩ := at11 (heap_below hSw K8.out); clear hSw; go_simp; try (with_reducible rfl))
  refine wpAnyH_take (i := 22) (v := ?_) rfl (by kernel_rfl) (by kernel_rfl) (by kernel_rfl) (fun _ _ _ h => h) (Or.inl ⟨by rfl, ?_⟩) hHeld ?_
  rotate_left
  · (intro w hSw; clear hSw; go_simp; try (with_reducible rfl))
  refine wpAnyH_take (i := 23) (v := ?_) rfl (by kernel_rfl) (by kernel_rfl) (by kernel_rfl) (fun _ _ _ h => h) (Or.inl ⟨by rfl, ?_⟩) hHeld ?_
  rotate_left
  · (intro w hSw; clear hSw; go_simp; try (with_reducible rfl))
  refine wpAnyH_take (i := 24) (v := ?_) rfl (by kernel_rfl) (by kernel_rfl) (by kernel_rfl) (fun _ _ _ h => h) (Or.inl ⟨by rfl, ?_⟩) hHeld ?_
  rotate_left
  · (intro w hSw; clear hSw; go_simp; try (with_reducible rfl))
  refine wpAnyH_take (i := 25) (v := ?_) rfl (by kernel_rfl) (by kernel_rfl) (by kernel_rfl) (fun _ _ _ h => h) (Or.inl ⟨by rfl, ?_⟩) hHeld ?_
  rotate_left
  · (intro w hSw; clear hSw; go_simp; try (with_reducible rfl))
  refine wpAnyH_take (i := 26) (v := ?_) rfl (by kernel_rfl) (by kernel_rfl) (by kernel_rfl) (fun _ _ _ h => h) (Or.inl ⟨by rfl, ?_⟩) hHeld ?_
  rotate_left
  · (intro w hSw; obtain ⟨b0, b1, b2, b3, b4, b5, b6, b7, b8, b9, b10⟩ := at11 (heap_below hSw K8.out); clear hSw; go_simp; try (with_reducible rfl))
  refine wpAnyH_take (i := 27) (v := ?_) rfl (by kernel_rfl) (by kernel_rfl) (by kernel_rfl) (fun _ _ _ h => h) (Or.inl ⟨by rfl, ?_⟩) hHeld ?_
  rotate_left
  · (intro w hSw; clear hSw; go_simp; try (with_reducible rfl))
  refine wpAnyH_take (i := 28) (v := ?_) rfl (by kernel_rfl) (by kernel_rfl) (by kernel_rfl) (fun _ _ _ h => h) (Or.inl ⟨by rfl, ?_⟩) hHeld ?_
  rotate_left
  · (intro w hSw; clear hSw; go_simp; try (with_reducible rfl))
  refine wpAnyH_take (i := 29) (v := ?_) rfl (by kernel_rfl) (by kernel_rfl) (by kernel_rfl) (fun _ _ _ h => h) (Or.inl ⟨by rfl, ?_⟩) hHeld ?_
  rotate_left
  · (intro w hSw; clear hSw; go_simp; try (with_reducible rfl))
  refine wpAnyH_take (i := 30) (v := ?_) rfl (by kernel_rfl) (by kernel_rfl) (by kernel_rfl) (fun _ _ _ h => h) (Or.inl ⟨by rfl, ?_⟩) hHeld ?_
  rotate_left
  · (intro w hSw; clear hSw; go_simp; try (with_reducible rfl))
  refine wpAnyH_take (i := 31) (v := ?_) rfl (by kernel_rfl) (by kernel_rfl) (by kernel_rfl) (fun _ _ _ h => h) (Or.inl ⟨by rfl, ?_⟩) hHeld ?_
  rotate_left
  · (intro w hSw; obtain ⟨b0, b1, b2, b3, b4, b5, b6, b7, b8, b9, b10⟩ := at11 (heap_below hSw K8.out); clear hSw; go_simp; try (with_reducible rfl))
  refine wpAnyH_take (i := 32) (v := ?_) rfl (by kernel_rfl) (by kernel_rfl) (by kernel_rfl) (fun _ _ _ h => h) (Or.inl ⟨by rfl, ?_⟩) hHeld ?_
  rotate_left
  · (intro w hSw; clear hSw; go_simp; try (with_reducible rfl))
  refine wpAnyH_take (i := 33) (v := ?_) rfl (by kernel_rfl) (by kernel_rfl) (by kernel_rfl) (fun _ _ _ h => h) (Or.inl ⟨by rfl, ?_⟩) hHeld ?_
  rotate_left
  · (intro w hSw; clear hSw; go_simp; try (with_reducible rfl))
  refine wpAnyH_take (i := 36) (v := ?_) rfl (by kernel_rfl) (by kernel_rfl) (by kernel_rfl) (fun _ _ _ h => h) (Or.inl ⟨by rfl, ?_⟩) hHeld ?_
  rotate_left
  · (intro w hSw; clear hSw; go_simp; try (with_reducible rfl))
  refine wpAnyH_ready (rs := [34]) (by kernel_rfl) (by simp) ?_
  refine AllReadyH.cons rfl (fun K hK => ?_) AllReadyH.nil
  go_simp
  replace hHeld := bstep hHeld (below1 wd (.cells #[.int .i64 1, .bool (to != 0), .int .i64 2, .bool (a != 0), .int .i64 4, .bool (b != 0), .int .i64 8, .bool (n != 0), .int .i64 16, .bool (m != 0), .int .i64 32, .bool (decide (0 < l.length)), .int .i64 64, .bool (!((⟨lw, lh, ll⟩ : Nb).eq nb0)), .int .i64 128, .bool (of != 0)] 172))
  refine hK.out _ _ hHeld (fun _ => ?_)
  clear hK K
  refine wpAnyH_take (i := 35) (v := ?_) rfl (by kernel_rfl) (by kernel_rfl) (by kernel_rfl) (fun _ _ _ h => h) (Or.inl ⟨by rfl, ?_⟩) hHeld ?_
  rotate_left
  · (intro w hSw; clear hSw; go_simp; try (with_reducible rfl))
  refine wpAnyH_done (by kernel_rfl) ?_ _
  refine NoPanic.normal ?_
  have B2 := hide (bstep B1.out hHeld)
  clear hHeld
  generalize hW2 : wd.alloc (.cells #[.int .i64 1, .bool (to != 0), .int .i64 2, .bool (a != 0), .int .i64 4, .bool (b != 0), .int .i64 8, .bool (n != 0), .int .i64 16, .bool (m != 0), .int .i64 32, .bool (decide (0 < l.length)), .int .i64 64, .bool (!((⟨lw, lh, ll⟩ : Nb).eq nb0)), .int .i64 128, .bool (of != 0)] 172) = W2 at *
  have KS : Hid (W2.heap[wd.heap.size]? = some (.cells #[.int .i64 1, .bool (to != 0), .int .i64 2, .bool (a != 0), .int .i64 4, .bool (b != 0), .int .i64 8, .bool (n != 0), .int .i64 16, .bool (m != 0), .int .i64 32, .bool (decide (0 < l.length)), .int .i64 64, .bool (!((⟨lw, lh, ll⟩ : Nb).eq nb0)), .int .i64 128, .bool (of != 0)] 172 (0, 0))) := by show _ = _; rw [← hW2]; exact heap_alloc_new _ _
  clear hW2
  generalize wd.heap.size = q at *
  have HC : Hid (∀ W, Below W2.heap.size W2 W → ∀ k (h : k < 8), W.cell? ⟨q, k * 2, none⟩ = some (.int .i64 (2 ^ k : Nat)) ∧ W.cell? ⟨q, k * 2 + 1, none⟩ = some (.bool (fs.getD k false))) := fun W hb k h => by
    have hh := heap_below hb KS.out
    rw [HFS.out]
    rcases (by omega : k = 0 ∨ k = 1 ∨ k = 2 ∨ k = 3 ∨ k = 4 ∨ k = 5 ∨ k = 6 ∨ k = 7) with rfl | rfl | rfl | rfl | rfl | rfl | rfl | rfl
    all_goals (constructor <;> (unfold World.cell?; simp only [hh]; rfl))
  have HL8 : Hid (fs.length = 8) := by show _ = _; rw [HFS.out]; rfl
  clear KS
  go_simp
  go_wp2
  go_loopw [3, 42] (fun s i wr => ∃ k : Nat, k ≤ 8 ∧ i = .int .i64 k ∧ s = .int .i64 (prt (fs.take k) 1 0) ∧ Below W2.heap.size W2 wr) (fun _ i _ => 8 - (intOf i).toNat)
  case atStart => exact ⟨0, by omega, rfl, rfl, Below.refl _ _⟩
  case round =>
    obtain ⟨k, hk, rfl, rfl, hb⟩ := hrel
    have BB := hide hb
    by_cases hlt : k < 8
    · obtain ⟨c0, c1⟩ := HC.out _ hb k hlt
      have hkI : (k : Int) < 8 := by omega
      have HT : Hid (prt (fs.take (k + 1)) 1 0 = if fs.getD k false then bits .or .i64 (prt (fs.take k) 1 0) (2 ^ k : Nat) else prt (fs.take k) 1 0) := by
        show _ = _
        rw [take_getD (by have := HL8.out; omega), prt_snoc, List.length_take, Nat.min_eq_left (by have := HL8.out; omega), Int.one_mul]
        norm_cast
      clear hb
      generalize prt (fs.take k) 1 0 = S at *
      generalize ((2 ^ k : Nat) : Int) = P2 at *
      cases hf : fs.getD k false
      · rw [hf] at c1 HT
        go_wp2
        go_roundw
        case rel => exact ⟨k + 1, by omega, by go_num, by rw [HT.out]; rfl, BB.out.alloc BB.out.size _⟩
        case measure => simp [intOf]; omega
      · rw [hf] at c1 HT
        go_wp2
        go_roundw
        case rel => exact ⟨k + 1, by omega, by go_num, by rw [HT.out]; rfl, BB.out.alloc BB.out.size _⟩
        case measure => simp [intOf]; omega
    · obtain rfl : k = 8 := by omega
      have HT : Hid (fs.take 8 = fs) := by show _ = _; rw [← HL8.out, List.take_length]
      rw [HT.out]
      go_wp2
      go_ret
      exact ⟨rfl, bstep B2.out BB.out⟩
end Go.Proofs.YtlipcmonlhdgfaaGreat
/- package code: what rows ask of an instruction. -/
namespace Go.Proofs.YtlipcmonlhdgfaaGreat
open Go.RowKit

theorem at13 {W : World} {b : Nat} {x0 x1 x2 x3 x4 x5 x6 x7 x8 x9 x10 x11 x12 : Value} {t : TypeId} (h : W.heap[b]? = some (.cells #[x0, x1, x2, x3, x4, x5, x6, x7, x8, x9, x10, x11, x12] t (0, 0))) : W.cell? ⟨b, 0, none⟩ = some x0 ∧ W.cell? ⟨b, 1, none⟩ = some x1 ∧ W.cell? ⟨b, 2, none⟩ = some x2 ∧ W.cell? ⟨b, 3, none⟩ = some x3 ∧ W.cell? ⟨b, 4, none⟩ = some x4 ∧ W.cell? ⟨b, 5, none⟩ = some x5 ∧ W.cell? ⟨b, 6, none⟩ = some x6 ∧ W.cell? ⟨b, 7, none⟩ = some x7 ∧ W.cell? ⟨b, 8, none⟩ = some x8 ∧ W.cell? ⟨b, 9, none⟩ = some x9 ∧ W.cell? ⟨b, 10, none⟩ = some x10 ∧ W.cell? ⟨b, 11, none⟩ = some x11 ∧ W.cell? ⟨b, 12, none⟩ = some x12 := by
  refine ⟨?_, ?_, ?_, ?_, ?_, ?_, ?_, ?_, ?_, ?_, ?_, ?_, ?_⟩
  all_goals (unfold World.cell?; simp only [h]; rfl)
/- An instruction where it stands. -/
def isV (x : InL) (k e : Int) : Value := .agg #[.int .u8 x.v.op, .int .i64 x.v.to, .int .i64 x.v.a, .int .i64 x.v.b, .int .i64 x.v.n, .int .i64 x.v.m, .slice x.la x.v.l.length x.lc, .int .i64 x.v.lit.w, .int .u64 x.v.lit.hi, .int .u64 x.v.lit.lo, .int .u8 x.v.of, .int .i64 k, .int .i64 e]
/- Where the judge is kept for the rows' functions. -/
def Jb (W : World) (jb g : Nat) : Prop := W.heap[jb]? = some (.cells #[.pointer (some ⟨g, 0, none⟩)] 67 (0, 0))
theorem Jb.below {W W' : World} {jb g : Nat} (h : Jb W jb g) (hb : Below W.heap.size W W') : Jb W' jb g := heap_below hb h
theorem Jb.at {W : World} {jb g : Nat} (h : Jb W jb g) : W.cell? ⟨jb, 0, none⟩ = some (.pointer (some ⟨g, 0, none⟩)) := by
  unfold Jb at h; unfold World.cell?; simp only [h]; rfl
theorem always_any (x : InL) (k e : Int) : Pure 70 #[isV x k e] (.bool true) := fun w => by
  unfold isV
  generalize x.v.l.length = ln
  go_enter Tryz.func70, Tryz.ntmps70
  go_wp2
  go_ret
  exact ⟨rfl, below1 _ _⟩
theorem isFields_any (x : InL) (k e : Int) : Pure 59 #[isV x k e] (.bool (frB 1 x.v.l.length 64)) := fun w => by
  have HF : Hid (Pure _ _ _) := from_any 1 x.v.l.length 64
  unfold isV
  generalize frB 1 x.v.l.length 64 = t at *
  generalize x.v.l.length = ln at *
  go_enter Tryz.func59, Tryz.ntmps59
  go_wp2_with fail
  refine (HF.out _).mono ?_
  rintro e w1 ⟨rfl, hb⟩
  go_wp2
  go_ret
  exact ⟨rfl, bstep (below1 _ _) hb⟩
theorem isAhead_any (x : InL) (k e : Int) (hk : 0 ≤ k ∧ k ≤ 1000000) : Pure 75 #[isV x k e] (.bool (frB (k + 1) x.v.n e)) := fun w => by
  have HF : Hid (Pure _ _ _) := from_any (k + 1) x.v.n e
  have hw : IntKind.i64.wrap (k + 1) = k + 1 := by rw [IntKind.wrap_i64]; omega
  unfold isV
  generalize frB (k + 1) x.v.n e = t at *
  generalize x.v.l.length = ln at *
  clear hk
  go_enter Tryz.func75, Tryz.ntmps75
  go_wp2_with fail
  refine (HF.out _).mono ?_
  rintro e w1 ⟨rfl, hb⟩
  go_wp2
  go_ret
  exact ⟨rfl, bstep (below1 _ _) hb⟩
theorem row1_any (c : CoL) (g jb : Nat) (r : Value) (x : InL) (k e : Int) (w : World) (hj : Jd w g c r) (hjb : Jb w jb g) (hc : CoR w c) (hx : InR w x) : Calls Tryz.prog 51 #[isV x k e, .pointer (some ⟨jb, 0, none⟩)] w fun e w' => e = .returned (.bool (x.v.lit.ok && x.v.lit.w == wid c.sl x.v.to)) ∧ Below w.heap.size w w' := by
  have HF : Hid (∀ W, Below w.heap.size w W → _) := fun W hb => fits_any c g r x.v.lit x.v.to W hx.lit (hj.below hb) (hc.sl.below hb)
  have q := (hjb.below (below1 w (.cells #[.int .u8 x.v.op, .int .i64 x.v.to, .int .i64 x.v.a, .int .i64 x.v.b, .int .i64 x.v.n, .int .i64 x.v.m, .slice x.la x.v.l.length x.lc, .int .i64 x.v.lit.w, .int .u64 x.v.lit.hi, .int .u64 x.v.lit.lo, .int .u8 x.v.of, .int .i64 k, .int .i64 e] 104))).at
  unfold isV
  generalize (x.v.lit.ok && x.v.lit.w == wid c.sl x.v.to) = t at *
  generalize x.v.l.length = ln at *
  clear hj hjb hc hx
  obtain ⟨⟨op, to, a, b, n, m, l, ⟨lw, lh, ll⟩, of⟩, la, lc⟩ := x
  simp only [Nb.val] at *
  go_enter Tryz.func51, Tryz.ntmps51
  go_wp2_with fail
  refine (HF.out _ (below1 _ _)).mono ?_
  rintro e w1 ⟨rfl, hb⟩
  go_wp2
  go_ret
  exact ⟨rfl, bstep (below1 _ _) hb⟩
theorem row2_any (c : CoL) (g jb : Nat) (r : Value) (x : InL) (k e : Int) (w : World) (hj : Jd w g c r) (hjb : Jb w jb g) (hc : CoR w c) (_hx : InR w x) : Calls Tryz.prog 53 #[isV x k e, .pointer (some ⟨jb, 0, none⟩)] w fun e w' => e = .returned (.bool (wid c.sl x.v.to == wid c.sl x.v.a)) ∧ Below w.heap.size w w' := by
  have HF : Hid (∀ W, Below w.heap.size w W → _) := fun W hb => alike12_any c g r x.v.to x.v.a W (hj.below hb) (hc.sl.below hb)
  have q := (hjb.below (below1 w (.cells #[.int .u8 x.v.op, .int .i64 x.v.to, .int .i64 x.v.a, .int .i64 x.v.b, .int .i64 x.v.n, .int .i64 x.v.m, .slice x.la x.v.l.length x.lc, .int .i64 x.v.lit.w, .int .u64 x.v.lit.hi, .int .u64 x.v.lit.lo, .int .u8 x.v.of, .int .i64 k, .int .i64 e] 104))).at
  unfold isV
  generalize (wid c.sl x.v.to == wid c.sl x.v.a) = t at *
  generalize x.v.l.length = ln at *
  clear hj hjb hc _hx
  obtain ⟨⟨op, to, a, b, n, m, l, ⟨lw, lh, ll⟩, of⟩, la, lc⟩ := x
  simp only at *
  go_enter Tryz.func53, Tryz.ntmps53
  go_wp2_with fail
  refine (HF.out _ (below1 _ _)).mono ?_
  rintro e w1 ⟨rfl, hb⟩
  go_wp2
  go_ret
  exact ⟨rfl, bstep (below1 _ _) hb⟩
theorem row5_any (c : CoL) (g jb : Nat) (r : Value) (x : InL) (k e : Int) (w : World) (hj : Jd w g c r) (hjb : Jb w jb g) (hc : CoR w c) (_hx : InR w x) : Calls Tryz.prog 62 #[isV x k e, .pointer (some ⟨jb, 0, none⟩)] w fun e w' => e = .returned (.bool (wtn x.v.n c.hd.length)) ∧ Below w.heap.size w w' := by
  have HF : Hid (∀ W, Below w.heap.size w W → _) := fun W hb => isHead_any c g r x.v.n W (hj.below hb) hc.hd.ln
  have q := (hjb.below (below1 w (.cells #[.int .u8 x.v.op, .int .i64 x.v.to, .int .i64 x.v.a, .int .i64 x.v.b, .int .i64 x.v.n, .int .i64 x.v.m, .slice x.la x.v.l.length x.lc, .int .i64 x.v.lit.w, .int .u64 x.v.lit.hi, .int .u64 x.v.lit.lo, .int .u8 x.v.of, .int .i64 k, .int .i64 e] 104))).at
  unfold isV
  generalize wtn x.v.n c.hd.length = t at *
  generalize x.v.l.length = ln at *
  clear hj hjb hc _hx
  obtain ⟨⟨op, to, a, b, n, m, l, ⟨lw, lh, ll⟩, of⟩, la, lc⟩ := x
  simp only at *
  go_enter Tryz.func62, Tryz.ntmps62
  go_wp2_with fail
  refine (HF.out _ (below1 _ _)).mono ?_
  rintro e w1 ⟨rfl, hb⟩
  go_wp2
  go_ret
  exact ⟨rfl, bstep (below1 _ _) hb⟩
theorem row6_any (c : CoL) (g jb : Nat) (r : Value) (x : InL) (k e : Int) (w : World) (hj : Jd w g c r) (hjb : Jb w jb g) (hc : CoR w c) (_hx : InR w x) : Calls Tryz.prog 63 #[isV x k e, .pointer (some ⟨jb, 0, none⟩)] w fun e w' => e = .returned (.bool (wtn x.v.n c.hd.length)) ∧ Below w.heap.size w w' := by
  have HF : Hid (∀ W, Below w.heap.size w W → _) := fun W hb => isHead_any c g r x.v.n W (hj.below hb) hc.hd.ln
  have q := (hjb.below (below1 w (.cells #[.int .u8 x.v.op, .int .i64 x.v.to, .int .i64 x.v.a, .int .i64 x.v.b, .int .i64 x.v.n, .int .i64 x.v.m, .slice x.la x.v.l.length x.lc, .int .i64 x.v.lit.w, .int .u64 x.v.lit.hi, .int .u64 x.v.lit.lo, .int .u8 x.v.of, .int .i64 k, .int .i64 e] 104))).at
  unfold isV
  generalize wtn x.v.n c.hd.length = t at *
  generalize x.v.l.length = ln at *
  clear hj hjb hc _hx
  obtain ⟨⟨op, to, a, b, n, m, l, ⟨lw, lh, ll⟩, of⟩, la, lc⟩ := x
  simp only at *
  go_enter Tryz.func63, Tryz.ntmps63
  go_wp2_with fail
  refine (HF.out _ (below1 _ _)).mono ?_
  rintro e w1 ⟨rfl, hb⟩
  go_wp2
  go_ret
  exact ⟨rfl, bstep (below1 _ _) hb⟩
theorem row7_any (c : CoL) (g jb : Nat) (r : Value) (x : InL) (k e : Int) (w : World) (hj : Jd w g c r) (hjb : Jb w jb g) (hc : CoR w c) (_hx : InR w x) : Calls Tryz.prog 64 #[isV x k e, .pointer (some ⟨jb, 0, none⟩)] w fun e w' => e = .returned (.bool (ayB c.ar x.v.n 4)) ∧ Below w.heap.size w w' := by
  have HF : Hid (∀ W, Below w.heap.size w W → _) := fun W hb => isArray_any c g r x.v.n 4 W (hj.below hb) (hc.ar.below hb)
  have q := (hjb.below (below1 w (.cells #[.int .u8 x.v.op, .int .i64 x.v.to, .int .i64 x.v.a, .int .i64 x.v.b, .int .i64 x.v.n, .int .i64 x.v.m, .slice x.la x.v.l.length x.lc, .int .i64 x.v.lit.w, .int .u64 x.v.lit.hi, .int .u64 x.v.lit.lo, .int .u8 x.v.of, .int .i64 k, .int .i64 e] 104))).at
  unfold isV
  generalize ayB c.ar x.v.n 4 = t at *
  generalize x.v.l.length = ln at *
  clear hj hjb hc _hx
  obtain ⟨⟨op, to, a, b, n, m, l, ⟨lw, lh, ll⟩, of⟩, la, lc⟩ := x
  simp only at *
  go_enter Tryz.func64, Tryz.ntmps64
  go_wp2_with fail
  refine (HF.out _ (below1 _ _)).mono ?_
  rintro e w1 ⟨rfl, hb⟩
  go_wp2
  go_ret
  exact ⟨rfl, bstep (below1 _ _) hb⟩
theorem row11_any (x : InL) (k e : Int) : Pure 71 #[isV x k e] (.bool (wtn x.v.n 16)) := fun w => by
  have HF : Hid (Pure _ _ _) := within_any x.v.n 16 (by omega)
  unfold isV
  generalize wtn x.v.n 16 = t at *
  generalize x.v.l.length = ln at *
  go_enter Tryz.func71, Tryz.ntmps71
  go_wp2_with fail
  refine (HF.out _).mono ?_
  rintro e w1 ⟨rfl, hb⟩
  go_wp2
  go_ret
  exact ⟨rfl, bstep (below1 _ _) hb⟩
end Go.Proofs.YtlipcmonlhdgfaaGreat
/- package code: registers; rows that ask two things. -/
namespace Go.Proofs.YtlipcmonlhdgfaaGreat
open Go.RowKit

def rgB (ar : List Ay) (sl : List Int) (n s : Int) : Bool := ayB ar n 3 && (ar.getD n.toNat ⟨⟨#[]⟩, 0, 0⟩).w == wid sl s
set_option maxRecDepth 100000 in
set_option maxHeartbeats 4000000 in
theorem isRegister_any (x : CoL) (g : Nat) (r : Value) (n s : Int) (w : World) (hj : Jd w g x r) (ha : AysR w x.ra x.ar) (hs : IsR w x.sa x.sl) : Calls Tryz.prog 67 #[.pointer (some ⟨g, 0, none⟩), .int .i64 n, .int .i64 s] w fun e w' => e = .returned (.bool (rgB x.ar x.sl n s)) ∧ Below w.heap.size w w' := by
  have HA : Hid (∀ W, Below w.heap.size w W → _) := fun W hb => isArray_any x g r n 3 W (hj.below hb) (ha.below hb)
  have HW : Hid (∀ W, Below w.heap.size w W → _) := fun W hb => width12_any x g r s W (hj.below hb) (hs.below hb)
  unfold rgB
  generalize wid x.sl s = u at *
  have B1 : Below w.heap.size w w := Below.refl _ _
  cases hc : ayB x.ar n 3
  · rw [hc] at HA
    simp only [Bool.false_and]
    clear hc hj ha hs
    obtain ⟨X, f, hX, hS, hcov⟩ := class_of (fun w' => Below w.heap.size w w') w.drew (Below.refl _ _).drew
    have HC0 : Hid (∃ x, w.drew = f x) := hcov _ (Below.refl _ _).drew
    have HNX : Hid (∀ x w', Below (f x).heap.size (f x) w' → ∃ y, w' = f y) := fun x w' hb => hcov w' ((hS x).trans (hb.mono (hS x).size))
    have HBX : Hid (∀ x, Below w.heap.size w (f x)) := fun x => bstep B1 (hS x)
    clear hcov hS
    go_enter Tryz.func67, Tryz.ntmps67
    go_wp2
    refine wp_region_class f (by kernel_rfl) (by kernel_rfl) HC0.out ?_
    repeat (first
      | go_big_quiet_skip
      | (go_big_quiet_want; go_big_quiet_op; first
          | go_big_quiet_on
          | (apply Exists.intro
             refine ⟨fun _ => ?_, ?_⟩
             · first
                | (go_at_call 65; refine (HA.out _ (HBX.out _)).mono ?_; rintro e' wn ⟨rfl, hb⟩; exact ⟨rfl, HNX.out _ _ hb⟩)
                | (go_at_call 57; refine (HW.out _ (HBX.out _)).mono ?_; rintro e' wn ⟨rfl, hb⟩; exact ⟨rfl, HNX.out _ _ hb⟩)
             go_big_quiet_on)))
    refine wpQuiet_nil ?_
    rintro _ ⟨x, rfl⟩
    have HBY := hide (HBX.out x)
    go_wp2
    go_ret
    exact ⟨rfl, HBY.out⟩
  · rw [hc] at HA
    simp only [Bool.true_and]
    have hw : wtn n x.ar.length = true := by unfold ayB at hc; simp at hc; exact hc.1
    obtain ⟨i, rfl, hi⟩ := wtn_yes hw
    have hiI : (i : Int) < (x.ar.length : Int) := by omega
    rw [ay_get hi]
    obtain ⟨y, hy⟩ : ∃ y, x.ar[i] = y := ⟨_, rfl⟩
    have HY := hide hy
    rw [hy]
    obtain ⟨nm, yk, yw⟩ := y
    simp only
    have C8 : Hid (∀ W, Below w.heap.size w W → _) := fun W hb => (hj.below hb).at.2.2.2.2.2.2.2.2.1
    obtain ⟨p, off, ep, hp, -⟩ := ha.rd.some (by omega)
    have Q2 : Hid (∀ W, Below w.heap.size w W → W.cell? ⟨p, off + i * 3 + 2, none⟩ = some (.int .i64 yw)) := fun W hb => by
      obtain ⟨p', off', ep', hp', hcl⟩ := (ha.below hb).rd.some (by omega)
      rw [ep] at ep'
      injection ep' with ep'
      injection ep' with e1 e2
      subst e1 e2
      exact hcl i hi 2 (.int .i64 yw) (by rw [HY.out]; rfl)
    rw [ep] at C8
    clear hc hw hj ha hs hy HY ep hp
    generalize x.ar.length = m at *
    obtain ⟨X, f, hX, hS, hcov⟩ := class_of (fun w' => Below w.heap.size w w') w.drew (Below.refl _ _).drew
    have HC0 : Hid (∃ x, w.drew = f x) := hcov _ (Below.refl _ _).drew
    have HNX : Hid (∀ x w', Below (f x).heap.size (f x) w' → ∃ y, w' = f y) := fun x w' hb => hcov w' ((hS x).trans (hb.mono (hS x).size))
    have HBX : Hid (∀ x, Below w.heap.size w (f x)) := fun x => bstep B1 (hS x)
    have t8 := fun x => C8.out _ (HBX.out x)
    have t2 := fun x => Q2.out _ (HBX.out x)
    clear hcov hS C8 Q2
    go_enter Tryz.func67, Tryz.ntmps67
    go_wp2
    refine wp_region_class f (by kernel_rfl) (by kernel_rfl) HC0.out ?_
    repeat (first
      | go_big_quiet_skip
      | (go_big_quiet_want; go_big_quiet_op; first
          | go_big_quiet_on
          | (apply Exists.intro
             refine ⟨fun _ => ?_, ?_⟩
             · first
                | (go_at_call 65; refine (HA.out _ (HBX.out _)).mono ?_; rintro e' wn ⟨rfl, hb⟩; exact ⟨rfl, HNX.out _ _ hb⟩)
                | (go_at_call 57; refine (HW.out _ (HBX.out _)).mono ?_; rintro e' wn ⟨rfl, hb⟩; exact ⟨rfl, HNX.out _ _ hb⟩)
             go_big_quiet_on)))
    refine wpQuiet_nil ?_
    rintro _ ⟨x, rfl⟩
    have HBY := hide (HBX.out x)
    clear t8 t2
    go_wp2
    go_ret
    exact ⟨by first | rfl | simp, HBY.out⟩
end Go.Proofs.YtlipcmonlhdgfaaGreat
