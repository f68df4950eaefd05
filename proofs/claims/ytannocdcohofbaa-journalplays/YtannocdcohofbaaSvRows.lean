/- The table of sums. -/
import Derived.Test.YtannocdcohofbaaSvCrcB
import Derived.Test.YtannocdcohofbaaKeep
import Derived.Test.YtannocdcohofbaaRawMap
namespace Go.Proofs.Ytannocdcohofbaa
open Go.RowKit Go.MapKept

def S1 : ByteArray := { data := #[99, 114, 99, 49, 54] }
def S2 : ByteArray := { data := #[99, 114, 99, 51, 50] }
def S3 : ByteArray := { data := #[99, 115, 117, 109, 49, 54] }
def S4 : ByteArray := { data := #[120, 111, 114, 49, 54] }
def crcV (b : Nat) : Value := .func (Fn.func 65) #[] #[.pointer (some ⟨b, 0, none⟩), .pointer (some ⟨b + 1, 0, none⟩), .pointer (some ⟨b + 2, 0, none⟩)]
def rowV1 (b : Nat) : Value := .agg #[.string S1, .int .i64 16, crcV b]
def rowV2 (b : Nat) : Value := .agg #[.string S2, .int .i64 32, crcV b]
def rowV3 : Value := .agg #[.string S3, .int .i64 16, .func (Fn.func 61) #[] #[]]
def rowV4 : Value := .agg #[.string S4, .int .i64 16, .func (Fn.func 62) #[] #[]]
def rowsE (b1 b2 : Nat) : Array MapEntry := #[{ key := .int .i64 1, val := rowV1 b1, born := 0 }, { key := .int .i64 2, val := rowV2 b2, born := 1 }, { key := .int .i64 3, val := rowV3, born := 2 }, { key := .int .i64 4, val := rowV4, born := 3 }]
/- Three boxes of a CRC. -/
structure Box3 (W : World) (b p c t : Nat) : Prop where
  lt : b + 2 < W.heap.size
  p : W.cell? ⟨b, 0, none⟩ = some (.int .u32 p)
  c : W.cell? ⟨b + 1, 0, none⟩ = some (.int .u32 c)
  t : W.cell? ⟨b + 2, 0, none⟩ = some (.int .u32 t)
theorem Box3.below {W W' : World} {b p c t : Nat} (h : Box3 W b p c t) (hb : Below W.heap.size W W') : Box3 W' b p c t :=
  ⟨Nat.lt_of_lt_of_le h.lt hb.size, (hb.cell (p := ⟨b, 0, none⟩) (by have := h.lt; show b < _; omega)).trans h.p, (hb.cell (p := ⟨b + 1, 0, none⟩) (by have := h.lt; show b + 1 < _; omega)).trans h.c, (hb.cell (p := ⟨b + 2, 0, none⟩) (by have := h.lt; show b + 2 < _; omega)).trans h.t⟩
theorem Box3.grown {W W' : World} {b p c t B : Nat} (h : Box3 W b p c t) (hg : W.grownBy W' (some B)) (hB : B < b) : Box3 W' b p c t := by
  have k : ∀ i, b ≤ i → i < W.heap.size → ∀ o, W'.cell? ⟨i, o, none⟩ = W.cell? ⟨i, o, none⟩ := fun i h1 h2 o => World.cell?_of_block (w := W) (a := ⟨i, o, none⟩) (hg.block i h2 (by intro e; injection e with e; omega))
  have hl := h.lt
  exact ⟨Nat.lt_of_lt_of_le h.lt hg.size, (k b (by omega) (by omega) 0).trans h.p, (k (b + 1) (by omega) (by omega) 0).trans h.c, (k (b + 2) (by omega) (by omega) 0).trans h.t⟩
theorem crc_any (p c t : Nat) (w : World) : Calls Try.prog 60 #[.int .u32 p, .int .u32 c, .int .u32 t] w fun e w' => e = .returned (crcV w.heap.size) ∧ Box3 w' w.heap.size p c t ∧ Below w.heap.size w w' := by
  go_enter Try.func60, Try.ntmps60
  go_wp2
  go_ret
  have h1 := LC.new w (.int .u32 (p : Int)) 52
  have h2 := LC.new (w.alloc (.cells #[.int .u32 (p : Int)] 52)) (.int .u32 (c : Int)) 52
  have h3 := LC.new ((w.alloc (.cells #[.int .u32 (p : Int)] 52)).alloc (.cells #[.int .u32 (c : Int)] 52)) (.int .u32 (t : Int)) 52
  simp only [World.size_alloc] at h2 h3
  exact ⟨rfl, ⟨by simp, ((h1.alloc _).alloc _).1, (h2.alloc _).1, h3.1⟩, (((Below.refl _ _).alloc (Nat.le_refl _) _).alloc (by simp) _).alloc (by simp; omega) _⟩
structure RowsAt (W : World) (B b1 b2 : Nat) : Prop where
  map : W.heap[B]? = some (.map (rowsE b1 b2) 4)
  k1 : Box3 W b1 0xa001 0 0
  k2 : Box3 W b2 0xedb88320 0xffffffff 0xffffffff
theorem RowsAt.below {W W' : World} {B b1 b2 : Nat} (h : RowsAt W B b1 b2) (hb : Below W.heap.size W W') : RowsAt W' B b1 b2 :=
  ⟨(hb.block B (lt_of_block h.map)).trans h.map, h.k1.below hb, h.k2.below hb⟩
theorem below_row {B : Nat} {w a b : World} (h : Below B w a) (g : a.grownBy b (some B)) (hB : B ≤ a.heap.size) : Below B w b := h.grown g hB (fun k e => by injection e with e; omega)
set_option maxHeartbeats 2000000 in
theorem rows_any (w : World) : Calls Try.prog 53 #[] w fun e w' => e = .returned (.map (some w.heap.size)) ∧ ∃ b1 b2, RowsAt w' w.heap.size b1 b2 ∧ Below w.heap.size w w' := by
  have hmm := @run_makeMap Try.prog
  have hm0 : (w.alloc (.map #[] 0)).heap[w.heap.size]? = some (.map #[] 0) := heap_alloc_new w _
  have HN := hide ((Below.refl w.heap.size w).alloc (Nat.le_refl _) (.map #[] 0))
  have hz0 : (w.alloc (.map #[] 0)).heap.size = w.heap.size + 1 := by simp
  have HM := hide hm0; have HZ := hide hz0
  clear hm0 hz0
  go_enter Try.func53, Try.ntmps53
  go_wp2_with fail
  refine (crc_any 0xa001 0 0 _).mono ?_
  rintro e w1 ⟨rfl, x1, hb1⟩
  have HM := hide ((hb1.block w.heap.size (by rw [HZ.out]; omega)).trans HM.out)
  have HN := hide (HN.out.trans (hb1.mono HN.out.size))
  rw [HZ.out] at x1 ⊢
  have X1 := hide x1
  have HZ := hide (Nat.le_of_lt x1.lt)
  clear x1 hb1
  unfold crcV
  go_wp2_with (first
    | (refine wpList_insert_raw _ rfl _ _ _ 95 rfl 3 93 (.int .i64) Try.underlying95 Try.underlying3 w.heap.size 0 _ rfl (.int .i64 1) rfl (rowV1 (w.heap.size + 1)) rfl HM.out rfl (by intro x hx; simp at hx) ?_; intro W1 M1 G1; have HM := hide M1; have X1 := hide (X1.out.grown G1 (by omega)); have HN := hide (below_row HN.out G1 HN.out.size); have HZ := hide (Nat.le_trans HZ.out G1.size); clear M1 G1))
  refine (crc_any 0xedb88320 0xffffffff 0xffffffff _).mono ?_
  rintro e w2 ⟨rfl, x2, hb2⟩
  have HM := hide ((hb2.block w.heap.size (by have := HZ.out; omega)).trans HM.out)
  have HN := hide (HN.out.trans (hb2.mono HN.out.size))
  have X1 := hide (X1.out.below hb2)
  have X2 := hide x2
  have hlt : w.heap.size < W1.heap.size := by have := HZ.out; omega
  have HZ := hide (Nat.le_trans HZ.out hb2.size)
  clear x2 hb2
  obtain ⟨b2, hb2⟩ : ∃ b, b = W1.heap.size := ⟨_, rfl⟩
  rw [← hb2] at X2 hlt ⊢
  clear hb2
  unfold crcV
  go_wp2_with (first
    | (refine wpList_insert_raw _ rfl _ _ _ 95 rfl 3 93 (.int .i64) Try.underlying95 Try.underlying3 w.heap.size 1 _ rfl (.int .i64 2) rfl (rowV2 b2) rfl HM.out rfl (by intro x hx; simp at hx; subst hx; exact ⟨rfl, by simp⟩) ?_; intro W2 M2 G2; have HM := hide M2; have X1 := hide (X1.out.grown G2 (by omega)); have X2 := hide (X2.out.grown G2 hlt); have HN := hide (below_row HN.out G2 HN.out.size); have HZ := hide (Nat.le_trans HZ.out G2.size); clear M2 G2)
    | (refine wpList_insert_raw _ rfl _ _ _ 95 rfl 3 93 (.int .i64) Try.underlying95 Try.underlying3 w.heap.size 2 _ rfl (.int .i64 3) rfl (rowV3) rfl HM.out rfl (by intro x hx; simp at hx; rcases hx with rfl | rfl <;> exact ⟨rfl, by simp⟩) ?_; intro W3 M3 G3; have HM := hide M3; have X1 := hide (X1.out.grown G3 (by omega)); have X2 := hide (X2.out.grown G3 hlt); have HN := hide (below_row HN.out G3 HN.out.size); have HZ := hide (Nat.le_trans HZ.out G3.size); clear M3 G3)
    | (refine wpList_insert_raw _ rfl _ _ _ 95 rfl 3 93 (.int .i64) Try.underlying95 Try.underlying3 w.heap.size 3 _ rfl (.int .i64 4) rfl (rowV4) rfl HM.out rfl (by intro x hx; simp at hx; rcases hx with rfl | rfl | rfl <;> exact ⟨rfl, by simp⟩) ?_; intro W4 M4 G4; have HM := hide M4; have X1 := hide (X1.out.grown G4 (by omega)); have X2 := hide (X2.out.grown G4 hlt); have HN := hide (below_row HN.out G4 HN.out.size); have HZ := hide (Nat.le_trans HZ.out G4.size); clear M4 G4))
  go_ret
  exact ⟨rfl, w.heap.size + 1, b2, ⟨HM.out, X1.out, X2.out⟩, HN.out⟩
end Go.Proofs.Ytannocdcohofbaa
