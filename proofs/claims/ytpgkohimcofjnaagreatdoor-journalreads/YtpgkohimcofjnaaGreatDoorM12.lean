/- Pieces of the proof: SvRows, SvLook, SvSum, SvRef. -/
import Derived.Test.YtpgkohimcofjnaaGreatDoorM11
import Derived.Laws.EntriesVeiled
import Derived.RegionTactic
/- The table of sums. -/
namespace Go.Proofs.YtpgkohimcofjnaaGreatDoor
open Go.RowKit Go.MapKept

def S1 : ByteArray := { data := #[99, 114, 99, 49, 54] }
def S2 : ByteArray := { data := #[99, 114, 99, 51, 50] }
def S3 : ByteArray := { data := #[99, 115, 117, 109, 49, 54] }
def S4 : ByteArray := { data := #[120, 111, 114, 49, 54] }
def crcV (b : Nat) : Value := .func (Fn.func 192) #[] #[.pointer (some ⟨b, 0, none⟩), .pointer (some ⟨b + 1, 0, none⟩), .pointer (some ⟨b + 2, 0, none⟩)]
def rowV1 (b : Nat) : Value := .agg #[.string S1, .int .i64 16, crcV b]
def rowV2 (b : Nat) : Value := .agg #[.string S2, .int .i64 32, crcV b]
def rowV3 : Value := .agg #[.string S3, .int .i64 16, .func (Fn.func 187) #[] #[]]
def rowV4 : Value := .agg #[.string S4, .int .i64 16, .func (Fn.func 188) #[] #[]]
def rowsE (b1 b2 : Nat) : Array MapEntry := #[{ key := .int .i64 1, val := rowV1 b1, born := 0 }, { key := .int .i64 2, val := rowV2 b2, born := 1 }, { key := .int .i64 3, val := rowV3, born := 2 }, { key := .int .i64 4, val := rowV4, born := 3 }]
/- Three boxes of a CRC. -/
structure Box3 (W : World) (b p c t : Nat) : Prop where
  lt : b + 2 < W.heap.size
  p : W.cell? ⟨b, 0, none⟩ = some (.int .u32 p)
  c : W.cell? ⟨b + 1, 0, none⟩ = some (.int .u32 c)
  t : W.cell? ⟨b + 2, 0, none⟩ = some (.int .u32 t)
theorem Box3.below {W W' : World} {b p c t : Nat} (h : Box3 W b p c t) (hb : Below W.heap.size W W') : Box3 W' b p c t :=
  ⟨Nat.lt_of_lt_of_le h.lt hb.size, (hb.cell (p := ⟨b, 0, none⟩) (by have := h.lt; show b < _; omega)).trans h.p, (hb.cell (p := ⟨b + 1, 0, none⟩) (by have := h.lt; show b + 1 < _; omega)).trans h.c, (hb.cell (p := ⟨b + 2, 0, none⟩) (by have := h.lt; show b + 2 < _; omega)).trans h.t⟩
theorem Box3.grown {W W' : World} {b p c t B : Nat} (h : Box3 W b p c t) (hg : W.grownBy W' (some B)) (hB : B < b) : Box3 W' b p c t := by
  have k : ∀ i, b ≤ i → i < W.heap.size → ∀ o, W'.cell? ⟨i, o, none⟩ = W.cell? ⟨i, o, none⟩ := fun i h1 h2 o => World.cell?_of_block (w := W) (a := ⟨i, o, none⟩) (hg.block i h2 (by intro e; injection e with e; omega))
  have hl := h.lt
  exact ⟨Nat.lt_of_lt_of_le h.lt hg.size, (k b (by omega) (by omega) 0).trans h.p, (k (b + 1) (by omega) (by omega) 0).trans h.c, (k (b + 2) (by omega) (by omega) 0).trans h.t⟩
theorem crc_any (p c t : Nat) (w : World) : Calls Tryz.prog 186 #[.int .u32 p, .int .u32 c, .int .u32 t] w fun e w' => e = .returned (crcV w.heap.size) ∧ Box3 w' w.heap.size p c t ∧ Below w.heap.size w w' := by
  go_enter Tryz.func186, Tryz.ntmps186
  go_wp2
  go_ret
  have h1 := LC.new w (.int .u32 (p : Int)) 289
  have h2 := LC.new (w.alloc (.cells #[.int .u32 (p : Int)] 289)) (.int .u32 (c : Int)) 289
  have h3 := LC.new ((w.alloc (.cells #[.int .u32 (p : Int)] 289)).alloc (.cells #[.int .u32 (c : Int)] 289)) (.int .u32 (t : Int)) 289
  simp only [World.size_alloc] at h2 h3
  exact ⟨rfl, ⟨by simp, ((h1.alloc _).alloc _).1, (h2.alloc _).1, h3.1⟩, (((Below.refl _ _).alloc (Nat.le_refl _) _).alloc (by simp) _).alloc (by simp; omega) _⟩
structure RowsAt (W : World) (B b1 b2 : Nat) : Prop where
  map : W.heap[B]? = some (.map (rowsE b1 b2) 4)
  k1 : Box3 W b1 0xa001 0 0
  k2 : Box3 W b2 0xedb88320 0xffffffff 0xffffffff
theorem RowsAt.below {W W' : World} {B b1 b2 : Nat} (h : RowsAt W B b1 b2) (hb : Below W.heap.size W W') : RowsAt W' B b1 b2 :=
  ⟨(hb.block B (lt_of_block h.map)).trans h.map, h.k1.below hb, h.k2.below hb⟩
theorem below_row {B : Nat} {w a b : World} (h : Below B w a) (g : a.grownBy b (some B)) (hB : B ≤ a.heap.size) : Below B w b := h.grown g hB (fun k e => by injection e with e; omega)
set_option maxHeartbeats 2000000 in
theorem rows_any (w : World) : Calls Tryz.prog 183 #[] w fun e w' => e = .returned (.map (some w.heap.size)) ∧ ∃ b1 b2, RowsAt w' w.heap.size b1 b2 ∧ Below w.heap.size w w' := by
  have hmm := @run_makeMap Tryz.prog
  have hm0 : (w.alloc (.map #[] 0)).heap[w.heap.size]? = some (.map #[] 0) := heap_alloc_new w _
  have HN := hide ((Below.refl w.heap.size w).alloc (Nat.le_refl _) (.map #[] 0))
  have hz0 : (w.alloc (.map #[] 0)).heap.size = w.heap.size + 1 := by simp
  have HM := hide hm0; have HZ := hide hz0
  clear hm0 hz0
  go_enter Tryz.func183, Tryz.ntmps183
  go_wp2_with fail
  refine (crc_any 0xa001 0 0 _).mono ?_
  rintro e w1 ⟨rfl, x1, hb1⟩
  have HM := hide ((hb1.block w.heap.size (by rw [HZ.out]; omega)).trans HM.out)
  have HN := hide (HN.out.trans (hb1.mono HN.out.size))
  rw [HZ.out] at x1 ⊢
  have X1 := hide x1
  have HZ := hide (Nat.le_of_lt x1.lt)
  clear x1 hb1
  unfold crcV
  go_wp2_with (first
    | (refine wpList_insert_raw _ rfl _ _ _ 298 rfl 3 296 (.int .i64) Tryz.underlying298 Tryz.underlying3 w.heap.size 0 _ rfl (.int .i64 1) rfl (rowV1 (w.heap.size + 1)) rfl HM.out rfl (by intro x hx; simp at hx) ?_; intro W1 M1 G1; have HM := hide M1; have X1 := hide (X1.out.grown G1 (by omega)); have HN := hide (below_row HN.out G1 HN.out.size); have HZ := hide (Nat.le_trans HZ.out G1.size); clear M1 G1))
  refine (crc_any 0xedb88320 0xffffffff 0xffffffff _).mono ?_
  rintro e w2 ⟨rfl, x2, hb2⟩
  have HM := hide ((hb2.block w.heap.size (by have := HZ.out; omega)).trans HM.out)
  have HN := hide (HN.out.trans (hb2.mono HN.out.size))
  have X1 := hide (X1.out.below hb2)
  have X2 := hide x2
  have hlt : w.heap.size < W1.heap.size := by have := HZ.out; omega
  have HZ := hide (Nat.le_trans HZ.out hb2.size)
  clear x2 hb2
  obtain ⟨b2, hb2⟩ : ∃ b, b = W1.heap.size := ⟨_, rfl⟩
  rw [← hb2] at X2 hlt ⊢
  clear hb2
  unfold crcV
  go_wp2_with (first
    | (refine wpList_insert_raw _ rfl _ _ _ 298 rfl 3 296 (.int .i64) Tryz.underlying298 Tryz.underlying3 w.heap.size 1 _ rfl (.int .i64 2) rfl (rowV2 b2) rfl HM.out rfl (by intro x hx; simp at hx; subst hx; exact ⟨rfl, by simp⟩) ?_; intro W2 M2 G2; have HM := hide M2; have X1 := hide (X1.out.grown G2 (by omega)); have X2 := hide (X2.out.grown G2 hlt); have HN := hide (below_row HN.out G2 HN.out.size); have HZ := hide (Nat.le_trans HZ.out G2.size); clear M2 G2)
    | (refine wpList_insert_raw _ rfl _ _ _ 298 rfl 3 296 (.int .i64) Tryz.underlying298 Tryz.underlying3 w.heap.size 2 _ rfl (.int .i64 3) rfl (rowV3) rfl HM.out rfl (by intro x hx; simp at hx; rcases hx with rfl | rfl <;> exact ⟨rfl, by simp⟩) ?_; intro W3 M3 G3; have HM := hide M3; have X1 := hide (X1.out.grown G3 (by omega)); have X2 := hide (X2.out.grown G3 hlt); have HN := hide (below_row HN.out G3 HN.out.size); have HZ := hide (Nat.le_trans HZ.out G3.size); clear M3 G3)
    | (refine wpList_insert_raw _ rfl _ _ _ 298 rfl 3 296 (.int .i64) Tryz.underlying298 Tryz.underlying3 w.heap.size 3 _ rfl (.int .i64 4) rfl (rowV4) rfl HM.out rfl (by intro x hx; simp at hx; rcases hx with rfl | rfl | rfl <;> exact ⟨rfl, by simp⟩) ?_; intro W4 M4 G4; have HM := hide M4; have X1 := hide (X1.out.grown G4 (by omega)); have X2 := hide (X2.out.grown G4 hlt); have HN := hide (below_row HN.out G4 HN.out.size); have HZ := hide (Nat.le_trans HZ.out G4.size); clear M4 G4))
  go_ret
  exact ⟨rfl, w.heap.size + 1, b2, ⟨HM.out, X1.out, X2.out⟩, HN.out⟩
end Go.Proofs.YtpgkohimcofjnaaGreatDoor
/- Looking a sum up: Width, Name, Sum. -/
namespace Go.Proofs.YtpgkohimcofjnaaGreatDoor
open Go.RowKit Go.MapKept

def zeroRow : Value := .agg #[.string { data := #[] }, .int .i64 0, .nilFunc]
set_option maxRecDepth 100000 in
theorem zeroRow_run (w : World) : (zeroValue 296).run Tryz.prog w = .ok zeroRow w := by rfl
def rowOf (n : Int) (b1 b2 : Nat) : Value := if n = 1 then rowV1 b1 else if n = 2 then rowV2 b2 else if n = 3 then rowV3 else rowV4
theorem rowsE_mem {b1 b2 : Nat} {e : MapEntry} (h : e ∈ (rowsE b1 b2).toList) : ∃ n : Int, 1 ≤ n ∧ n ≤ 4 ∧ e.key = .int .i64 n ∧ e.val = rowOf n b1 b2 ∧ (e.born : Int) = n - 1 := by
  simp [rowsE] at h
  rcases h with rfl | rfl | rfl | rfl
  · exact ⟨1, by decide, by decide, rfl, rfl, rfl⟩
  · exact ⟨2, by decide, by decide, rfl, rfl, rfl⟩
  · exact ⟨3, by decide, by decide, rfl, rfl, rfl⟩
  · exact ⟨4, by decide, by decide, rfl, rfl, rfl⟩
theorem rowsE_has {b1 b2 : Nat} {n : Int} (h0 : 1 ≤ n) (h1 : n ≤ 4) : ∃ e ∈ (rowsE b1 b2).toList, e.key = .int .i64 n := by
  rcases (by omega : n = 1 ∨ n = 2 ∨ n = 3 ∨ n = 4) with rfl | rfl | rfl | rfl
  · exact ⟨_, List.mem_cons_self .., rfl⟩
  · exact ⟨_, List.mem_cons_of_mem _ (List.mem_cons_self ..), rfl⟩
  · exact ⟨_, List.mem_cons_of_mem _ (List.mem_cons_of_mem _ (List.mem_cons_self ..)), rfl⟩
  · exact ⟨_, List.mem_cons_of_mem _ (List.mem_cons_of_mem _ (List.mem_cons_of_mem _ (List.mem_cons_self ..))), rfl⟩
theorem RowsAt.yes {W : World} {B b1 b2 : Nat} (h : RowsAt W B b1 b2) {n : Int} (h0 : 1 ≤ n) (h1 : n ≤ 4) :
    (Instr.lookup 298 (.map (some B)) (.int .i64 n) true).run Tryz.prog W = .ok (.tuple #[rowOf n b1 b2, .bool true]) W ∧ (Instr.lookup 298 (.map (some B)) (.int .i64 n) false).run Tryz.prog W = .ok (rowOf n b1 b2) W := by
  rcases raw_look (P := Tryz.prog) h.map Tryz.underlying298 Tryz.underlying3 (.int .i64 n) rfl (fun x hx => by obtain ⟨m, _, _, e, _⟩ := rowsE_mem hx; rw [e]; rfl) zeroRow (zeroRow_run W) with ⟨e, he, hk, r1, r2⟩ | ⟨hno, _⟩
  · obtain ⟨m, _, _, e1, e2, _⟩ := rowsE_mem he
    rw [hk] at e1
    injection e1 with _ e1
    subst e1
    rw [e2] at r1 r2
    exact ⟨r1, r2⟩
  · obtain ⟨e, he, hk⟩ := rowsE_has (b1 := b1) (b2 := b2) h0 h1
    exact absurd hk (hno e he)
end Go.Proofs.YtpgkohimcofjnaaGreatDoor
/- sums.Sum. -/
namespace Go.Proofs.YtpgkohimcofjnaaGreatDoor
open Go.RowKit Go.MapKept

theorem cells_new3 (W : World) (x y z : Value) (t : TypeId) : (W.alloc (.cells #[x, y, z] t)).cell? ⟨W.heap.size, 0, none⟩ = some x ∧ (W.alloc (.cells #[x, y, z] t)).cell? ⟨W.heap.size, 1, none⟩ = some y ∧ (W.alloc (.cells #[x, y, z] t)).cell? ⟨W.heap.size, 2, none⟩ = some z ∧ ∀ o, (W.alloc (.cells #[x, y, z] t)).frozen? ⟨W.heap.size, o, none⟩ = false := by
  have h : (W.alloc (.cells #[x, y, z] t)).heap[W.heap.size]? = some (.cells #[x, y, z] t (0, 0)) := heap_alloc_new W _
  refine ⟨?_, ?_, ?_, fun o => ?_⟩
  · unfold World.cell?; simp only [h]; rfl
  · unfold World.cell?; simp only [h]; rfl
  · unfold World.cell?; simp only [h]; rfl
  · unfold World.frozen?; simp only [h]; simp
def SumS (w0 : World) (R r : Nat) (n : Int) (f : Value) (W : World) : Prop :=
  W.cell? ⟨R, 1, none⟩ = some (.int .i64 n) ∧ W.cell? ⟨R, 2, none⟩ = some f ∧ W.cell? ⟨r, 0, none⟩ = some (.int .i64 0) ∧ W.cell? ⟨r, 1, none⟩ = some (.int .u64 0) ∧ W.cell? ⟨r, 2, none⟩ = some (.int .u64 0) ∧ W.frozen? ⟨r, 0, none⟩ = false ∧ W.frozen? ⟨r, 1, none⟩ = false ∧ W.frozen? ⟨r, 2, none⟩ = false ∧ Below w0.heap.size w0 W
theorem sumS_step {w0 W W' : World} {R r : Nat} {n : Int} {f : Value} (hb : Below W.heap.size W W') (h : SumS w0 R r n f W) : SumS w0 R r n f W' := by
  obtain ⟨h1, h2, h3, h4, h5, h6, h7, h8, h9⟩ := h
  have lR : R < W.heap.size := World.block_lt_of_cell? W _ h1
  have lr : r < W.heap.size := World.block_lt_of_cell? W _ h3
  exact ⟨(hb.cell (p := ⟨R, 1, none⟩) lR).trans h1, (hb.cell (p := ⟨R, 2, none⟩) lR).trans h2, (hb.cell (p := ⟨r, 0, none⟩) lr).trans h3, (hb.cell (p := ⟨r, 1, none⟩) lr).trans h4, (hb.cell (p := ⟨r, 2, none⟩) lr).trans h5, (hb.frozen (p := ⟨r, 0, none⟩) lr).trans h6, (hb.frozen (p := ⟨r, 1, none⟩) lr).trans h7, (hb.frozen (p := ⟨r, 2, none⟩) lr).trans h8, h9.trans (hb.mono h9.size)⟩
theorem sumS_drew {w0 W : World} {R r : Nat} {n : Int} {f : Value} (h : SumS w0 R r n f W) : SumS w0 R r n f W.drew := ⟨h.1, h.2.1, h.2.2.1, h.2.2.2.1, h.2.2.2.2.1, h.2.2.2.2.2.1, h.2.2.2.2.2.2.1, h.2.2.2.2.2.2.2.1, h.2.2.2.2.2.2.2.2.drew⟩
theorem sumS_start {w w1 : World} {s : ByteArray} {n : Int} {f : Value} (hb : Below (w.alloc (.cells #[.int .i64 0, .int .u64 0, .int .u64 0] 73)).heap.size (w.alloc (.cells #[.int .i64 0, .int .u64 0, .int .u64 0] 73)) w1) :
    SumS w w1.heap.size w.heap.size n f (w1.alloc (.cells #[.string s, .int .i64 n, f] 296)) := by
  obtain ⟨a1, a2, a3, a4⟩ := cells_new3 w (.int .i64 0) (.int .u64 0) (.int .u64 0) 73
  obtain ⟨_, b2, b3, _⟩ := cells_new3 w1 (.string s) (.int .i64 n) f 296
  have hz := hb.size
  simp only [World.size_alloc] at hz hb
  have hk : Below w1.heap.size w1 (w1.alloc (.cells #[.string s, .int .i64 n, f] 296)) := (Below.refl _ w1).alloc (Nat.le_refl _) _
  have lr : w.heap.size < w1.heap.size := by omega
  have c : ∀ o, (w1.alloc (.cells #[.string s, .int .i64 n, f] 296)).cell? ⟨w.heap.size, o, none⟩ = (w.alloc (.cells #[.int .i64 0, .int .u64 0, .int .u64 0] 73)).cell? ⟨w.heap.size, o, none⟩ := fun o => (hk.cell (p := ⟨w.heap.size, o, none⟩) lr).trans (hb.cell (p := ⟨w.heap.size, o, none⟩) (by show w.heap.size < _; omega))
  have d : ∀ o, (w1.alloc (.cells #[.string s, .int .i64 n, f] 296)).frozen? ⟨w.heap.size, o, none⟩ = (w.alloc (.cells #[.int .i64 0, .int .u64 0, .int .u64 0] 73)).frozen? ⟨w.heap.size, o, none⟩ := fun o => (hk.frozen (p := ⟨w.heap.size, o, none⟩) lr).trans (hb.frozen (p := ⟨w.heap.size, o, none⟩) (by show w.heap.size < _; omega))
  exact ⟨b2, b3, (c 0).trans a1, (c 1).trans a2, (c 2).trans a3, (d 0).trans (a4 0), (d 1).trans (a4 1), (d 2).trans (a4 2), (((Below.refl _ w).alloc (Nat.le_refl _) _).trans (hb.mono (by omega))).alloc (by omega) _⟩
theorem sumS_all {w0 W2 W : World} {R r : Nat} {n : Int} {f : Value} (h : SumS w0 R r n f W) (hb : Below W2.heap.size W2 W) : (SumS w0 R r n f W ∧ Below W2.heap.size W2 W) ∧ W.cell? ⟨R, 1, none⟩ = some (.int .i64 n) ∧ W.cell? ⟨R, 2, none⟩ = some f ∧ W.cell? ⟨r, 0, none⟩ = some (.int .i64 0) ∧ W.cell? ⟨r, 1, none⟩ = some (.int .u64 0) ∧ W.cell? ⟨r, 2, none⟩ = some (.int .u64 0) ∧ W.frozen? ⟨r, 0, none⟩ = false ∧ W.frozen? ⟨r, 1, none⟩ = false ∧ W.frozen? ⟨r, 2, none⟩ = false :=
  ⟨⟨h, hb⟩, h.1, h.2.1, h.2.2.1, h.2.2.2.1, h.2.2.2.2.1, h.2.2.2.2.2.1, h.2.2.2.2.2.2.1, h.2.2.2.2.2.2.2.1⟩
theorem sumS_next {w0 W2 W W' : World} {R r : Nat} {n : Int} {f : Value} (hb : Below W.heap.size W W') (h : SumS w0 R r n f W ∧ Below W2.heap.size W2 W) : (SumS w0 R r n f W' ∧ Below W2.heap.size W2 W') ∧ W'.cell? ⟨R, 1, none⟩ = some (.int .i64 n) ∧ W'.cell? ⟨R, 2, none⟩ = some f ∧ W'.cell? ⟨r, 0, none⟩ = some (.int .i64 0) ∧ W'.cell? ⟨r, 1, none⟩ = some (.int .u64 0) ∧ W'.cell? ⟨r, 2, none⟩ = some (.int .u64 0) ∧ W'.frozen? ⟨r, 0, none⟩ = false ∧ W'.frozen? ⟨r, 1, none⟩ = false ∧ W'.frozen? ⟨r, 2, none⟩ = false :=
  sumS_all (sumS_step hb h.1) (h.2.trans (hb.mono h.2.size))
theorem sumF_16 (n : Int) (hn : n = 1 ∨ n = 3 ∨ n = 4) (l : List Nat) (hl : ∀ x ∈ l, x < 256) : sumF n l < 2 ^ (16 : Int).toNat := by
  have := sumF_lt n l hl
  rcases hn with rfl | rfl | rfl <;> exact this
theorem sumF_32 (l : List Nat) (hl : ∀ x ∈ l, x < 256) : sumF 2 l < 2 ^ (32 : Int).toNat := sumF_lt 2 l hl
theorem sumF_u32 (n : Int) (hn : n = 1 ∨ n = 2 ∨ n = 3 ∨ n = 4) (l : List Nat) (hl : ∀ x ∈ l, x < 256) : sumF n l < 4294967296 := by
  have h := sumF_lt n l hl
  rcases hn with rfl | rfl | rfl | rfl
  · exact Nat.lt_trans h (by decide)
  · exact h
  · exact Nat.lt_trans h (by decide)
  · exact Nat.lt_trans h (by decide)
set_option maxHeartbeats 1000000 in
theorem sum_two (a : Option Addr) (cap : Nat) (xs : List Nat) (w : World) (hx : ∀ y ∈ xs, y < 256) (hl : xs.length < 140737488355328) (hr : RdS w a xs) :
    Calls Tryz.prog 180 #[.int .i64 2, .slice a xs.length cap] w fun e w' => e = .returned (.tuple #[.agg #[.int .i64 32, .int .u64 0, .int .u64 ((sumF 2 xs : Nat) : Int)], .int .i64 0]) ∧ Below w.heap.size w w' := by
  have HR := hide hr
  clear hr
  go_enter Tryz.func180, Tryz.ntmps180
  go_wp2_with fail
  refine (rows_any _).mono ?_
  rintro e w1 ⟨rfl, b1, b2, hT, hb⟩
  have hrun := (hT.yes (n := 2) (by decide) (by decide)).1
  simp only [rowOf, rowV1, rowV2, rowV3, rowV4, crcV, reduceIte, Int.reduceEq, World.size_alloc] at hrun
  have hz : w.heap.size < w1.heap.size := by have := hb.size; simp at this; omega
  have HS0 := hide (fun s n f => sumS_start (s := s) (n := n) (f := f) hb)
  have HR0 := hide ((HR.out.below ((Below.refl _ w).alloc (Nat.le_refl _) _)).below hb)
  have HT0 := hide hT
  have HL := hide (sumF_32 xs hx)
  have hu := sumF_u32 2 (by decide) xs hx
  clear hT hb
  go_wp2_with fail
  have HS := hide (HS0.out S2 32 (.func (Fn.func 192) #[] #[.pointer (some ⟨b2, 0, none⟩), .pointer (some ⟨b2 + 1, 0, none⟩), .pointer (some ⟨b2 + 2, 0, none⟩)]))
  have hk : Below w1.heap.size w1 (w1.alloc (.cells #[.string S2, .int .i64 32, .func (Fn.func 192) #[] #[.pointer (some ⟨b2, 0, none⟩), .pointer (some ⟨b2 + 1, 0, none⟩), .pointer (some ⟨b2 + 2, 0, none⟩)]] 296)) := (Below.refl _ w1).alloc (Nat.le_refl _) _
  have HR1 := hide (HR0.out.below hk)
  have HT1 := hide (HT0.out.below hk)
  clear hk HS0 HR0 HT0 hrun
  generalize w1.alloc (.cells #[.string S2, .int .i64 32, .func (Fn.func 192) #[] #[.pointer (some ⟨b2, 0, none⟩), .pointer (some ⟨b2 + 1, 0, none⟩), .pointer (some ⟨b2 + 2, 0, none⟩)]] 296) = W2 at *
  generalize w1.heap.size = R at *
  have HC := hide (fun W' (h : SumS w R w.heap.size 32 (.func (Fn.func 192) #[] #[.pointer (some ⟨b2, 0, none⟩), .pointer (some ⟨b2 + 1, 0, none⟩), .pointer (some ⟨b2 + 2, 0, none⟩)]) W' ∧ Below W2.heap.size W2 W') => have k := (HT1.out.below h.2).k2; crc1_any 0xedb88320 0xffffffff 0xffffffff b2 (b2 + 1) (b2 + 2) a cap xs W' (by decide) (by decide) (by decide) k.p k.c k.t hx hl (HR1.out.below h.2))
  have e4 : crcF 0xedb88320 0xffffffff xs ^^^ 0xffffffff = sumF 2 xs := rfl
  rw [e4] at HC
  clear e4
  have HO := hide (fun W' => of_small 32 (sumF 2 xs) W' (by decide) HL.out)
  generalize hV : sumF 2 xs = V at *
  have HV := hide hV
  have hwv : IntKind.u64.wrap (V : Int) = V := by rw [IntKind.wrap_u64]; omega
  clear hV HL HR HR1 HT1 hl hx
  have HQ := hide (fun (W' : World) (hb : Below W2.drew.heap.size W2.drew W') => sumS_next (W2 := W2) (W := W2.drew) hb ⟨sumS_drew HS.out, (Below.refl _ _).drew⟩)
  have g := sumS_all (W2 := W2) HS.out (Below.refl _ _)
  obtain ⟨_, g1, g2, g3, g4, g5, g6, g7, g8⟩ := g
  have HC1 := hide (HC.out W2.drew ⟨sumS_drew HS.out, (Below.refl _ _).drew⟩)
  go_region_with (first
      | (go_at_call 192; refine HC1.out.mono ?_; rintro e wn ⟨rfl, hb⟩; obtain ⟨⟨q, _⟩, q1, q2, q3, q4, q5, q6, q7, q8⟩ := HQ.out _ hb; have Q := hide q; clear q hb)
      | (go_at_call 184; refine (HO.out _).mono ?_; rintro e wo ⟨rfl, hb⟩; obtain ⟨⟨k, _⟩, k1, k2, k3, k4, k5, k6, k7, k8⟩ := sumS_next (W2 := wn) hb ⟨Q.out, Below.refl _ _⟩; have K := hide k; clear k hb))
  all_goals
    go_wp2
    refine bodyPost_ret (v := .tuple #[.agg #[.int .i64 32, .int .u64 0, .int .u64 (V : Int)], .int .i64 0]) (by simp [results, Tryz.results180, go_sem, k3, k4, k5]) rfl ⟨by rw [HV.out], ?_⟩
    exact ((K.out.2.2.2.2.2.2.2.2.setCell (Nat.le_refl _) _).setCell (Nat.le_refl _) _).setCell (Nat.le_refl _) _
end Go.Proofs.YtpgkohimcofjnaaGreatDoor
/- The document's answers for sums: the second one. -/
namespace Go.Proofs.YtpgkohimcofjnaaGreatDoor
open Go.RowKit

theorem rwidth_two (w : World) : Calls Tryz.prog 178 #[.int .i64 2] w fun e w' => e = .returned (.int .i64 32) ∧ w' = w := by
  go_enter Tryz.func178, Tryz.ntmps178
  go_wp2
  go_ret
  exact ⟨rfl, rfl⟩
theorem not32 (x : Nat) (h : x < 4294967296) : bits .xor .u32 IntKind.u32.max (x : Int) = ((x ^^^ 0xffffffff : Nat) : Int) := by
  have e : IntKind.u32.max = ((0xffffffff : Nat) : Int) := by decide
  rw [e, u32_xor_nat _ _ (by decide) h, Nat.xor_comm]
def cbit (p x c k : Nat) : Nat := stn p k (c ^^^ x) ^^^ (x / 2 ^ k)
theorem cbit_zero (p x c : Nat) : cbit p x c 0 = c := by simp [cbit, stn, Nat.xor_assoc]
theorem cbit_end (p x c : Nat) (hx : x < 256) : cbit p x c 8 = stn p 8 (c ^^^ x) := by
  have : x / 2 ^ 8 = 0 := Nat.div_eq_of_lt hx
  simp [cbit, this]
theorem cbit_lt {p x c : Nat} (hp : p < 4294967296) (hc : c < 4294967296) (hx : x < 256) (k : Nat) : cbit p x c k < 4294967296 := by
  unfold cbit
  refine Nat.xor_lt_two_pow (n := 32) (stn32 hp k (Nat.xor_lt_two_pow (n := 32) hc (by omega))) ?_
  have := Nat.div_le_self x (2 ^ k)
  have h2 : (2 : Nat) ^ 32 = 4294967296 := by decide
  omega
theorem cbit_succ (p x c k : Nat) : cbit p x c (k + 1) = (cbit p x c k / 2) ^^^ ((cbit p x c k ^^^ (x / 2 ^ k)) % 2 * p) := by
  have h := bit_step p x k (cbit p x c k)
  have e : cbit p x c k ^^^ (x / 2 ^ k) = stn p k (c ^^^ x) := by unfold cbit; rw [Nat.xor_assoc, Nat.xor_self, Nat.xor_zero]
  rw [e, ← stn_succ] at h
  rw [e]
  unfold cbit at h ⊢
  rw [h, Nat.xor_assoc, Nat.xor_self, Nat.xor_zero]
theorem one_bit (c y : Nat) (hc : c < 4294967296) (hy : y < 256) : (bits .and .u32 (bits .xor .u32 (c : Int) (y : Int)) 1 == 1) = decide ((c ^^^ y) % 2 = 1) := by
  have hxy : c ^^^ y < 4294967296 := Nat.xor_lt_two_pow (n := 32) hc (by omega)
  rw [u32_xor_nat _ _ hc (by omega)]
  have := u32_and_nat (c ^^^ y) 1 hxy (by decide)
  rw [Nat.and_one_is_mod] at this
  have e : bits .and .u32 ((c ^^^ y : Nat) : Int) 1 = (((c ^^^ y) % 2 : Nat) : Int) := this
  rw [e]
  rcases Nat.mod_two_eq_zero_or_one (c ^^^ y) with h | h <;> rw [h] <;> rfl
set_option maxHeartbeats 1000000 in
theorem rcrc_any (p c0 : Nat) (a : Option Addr) (cap : Nat) (xs : List Nat) (w : World) (hp : p < 4294967296) (hc : c0 < 4294967296) (hx : ∀ y ∈ xs, y < 256) (hl : xs.length < 140737488355328) (hr : RdS w a xs) :
    Calls Tryz.prog 175 #[.slice a xs.length cap, .int .u32 p, .int .u32 c0] w fun e w' => e = .returned (.int .u32 ((crcF p c0 xs : Nat) : Int)) ∧ w' = w := by
  have HR := hide hr
  clear hr
  go_enter Tryz.func175, Tryz.ntmps175
  go_wp2
  go_loop [7, 8] (fun s i => ∃ k : Nat, k ≤ xs.length ∧ i = .int .i64 k ∧ s = .int .u32 ((crcF p c0 (xs.take k) : Nat) : Int)) (fun _ i => xs.length - (intOf i).toNat)
  case atStart => exact ⟨0, by omega, rfl, rfl⟩
  case round =>
    obtain ⟨k, hk, rfl, rfl⟩ := hrel
    have hs : crcF p c0 (xs.take k) < 4294967296 := crcF32 hp hc _ (fun y hy => hx y (List.mem_of_mem_take hy))
    by_cases hlt : k < xs.length
    · obtain ⟨q, off, rfl, _, hcell⟩ := HR.out.some (by omega)
      have hck := hcell k hlt
      have hxk : xs[k] < 256 := hx _ (List.getElem_mem hlt)
      have HN : Hid (crcF p c0 (xs.take (k + 1)) = stn p 8 (crcF p c0 (xs.take k) ^^^ xs[k])) := by show _ = _; rw [take_get xs k hlt, crcF_snoc]
      have hlI : (k : Int) < (xs.length : Int) := by omega
      clear hcell HR
      generalize crcF p c0 (xs.take k) = s at *
      generalize xs[k] = x at *
      go_wp2
      go_loop [7, 9] (fun c j => ∃ m : Nat, m ≤ 8 ∧ j = .int .i64 m ∧ c = .int .u32 ((cbit p x s m : Nat) : Int)) (fun _ j => 8 - (intOf j).toNat)
      case atStart => exact ⟨0, by omega, rfl, by rw [cbit_zero]⟩
      case round =>
        obtain ⟨m, hm, rfl, rfl⟩ := hrel
        by_cases hm8 : m < 8
        · have hcb := cbit_lt hp hs hxk m
          have HS := hide (cbit_succ p x s m)
          have hy : x / 2 ^ m < 256 := by have := Nat.div_le_self x (2 ^ m); omega
          have hb := one_bit (cbit p x s m) (x / 2 ^ m) hcb hy
          have hyI : (x : Int) / 2 ^ m = ((x / 2 ^ m : Nat) : Int) := by simp
          obtain ⟨y, hy0⟩ : ∃ y, y = x / 2 ^ m := ⟨_, rfl⟩
          rw [← hy0] at HS hb hyI hy
          clear hy0
          generalize cbit p x s m = c at *
          by_cases ho : (c ^^^ y) % 2 = 1
          · have hbt : (bits .and .u32 (bits .xor .u32 (c : Int) (y : Int)) 1 == 1) = true := by rw [hb]; simp [ho]
            have HX := hide (u32_xor_nat (c / 2) p (by omega) hp)
            rw [ho, Nat.one_mul] at HS
            clear hb ho
            go_wp2
            exact ⟨⟨m + 1, by omega, by go_num, by rw [HS.out, ← HX.out]; simp⟩, by simp [intOf]; omega⟩
          · have hbt : (bits .and .u32 (bits .xor .u32 (c : Int) (y : Int)) 1 == 1) = false := by rw [hb]; simp [ho]
            have h0 : (c ^^^ y) % 2 = 0 := by omega
            rw [h0, Nat.zero_mul, Nat.xor_zero] at HS
            clear hb ho h0
            go_wp2
            exact ⟨⟨m + 1, by omega, by go_num, by rw [HS.out]; simp⟩, by simp [intOf]; omega⟩
        · obtain rfl : m = 8 := by omega
          have HE := hide (cbit_end p x s hxk)
          generalize hcb : cbit p x s 8 = c at *
          go_wp2
          go_round
          case rel => exact ⟨k + 1, by omega, by go_num, by rw [HN.out, HE.out]⟩
          case measure => simp [intOf]; omega
    · obtain rfl : k = xs.length := by omega
      clear HR
      rw [List.take_length] at *
      generalize hsx : crcF p c0 xs = s at *
      have HSX := hide hsx
      clear hsx
      go_wp2
      go_ret
      exact ⟨by rw [HSX.out]; rfl, rfl⟩
set_option maxHeartbeats 1000000 in
theorem rsum_two (a : Option Addr) (cap : Nat) (xs : List Nat) (w : World) (hx : ∀ y ∈ xs, y < 256) (hl : xs.length < 140737488355328) (hr : RdS w a xs) :
    Calls Tryz.prog 111 #[.int .i64 2, .slice a xs.length cap] w fun e w' => e = .returned (.tuple #[.agg #[.int .i64 32, .int .u64 0, .int .u64 ((sumF 2 xs : Nat) : Int)], .int .i64 0]) ∧ Below w.heap.size w w' := by
  have HC := hide (rcrc_any 0xedb88320 0xffffffff a cap xs _ (by decide) (by decide) hx hl (hr.below ((Below.refl _ w).alloc (Nat.le_refl _) (.cells #[.int .i64 0, .int .u64 0, .int .u64 0] 73))))
  have hu := sumF_u32 2 (by decide) xs hx
  have hN := not32 (crcF 0xedb88320 0xffffffff xs) (crcF32 (by decide) (by decide) xs hx)
  rw [show (crcF 0xedb88320 0xffffffff xs ^^^ 0xffffffff) = sumF 2 xs from rfl] at hN
  generalize sumF 2 xs = V at *
  generalize crcF 0xedb88320 0xffffffff xs = Z at *
  clear hr
  go_enter Tryz.func111, Tryz.ntmps111
  go_wp2_with fail
  refine HC.out.mono ?_
  rintro e w1 ⟨rfl, rfl⟩
  go_wp2_with fail
  refine (rwidth_two _).mono ?_
  rintro e w2 ⟨rfl, rfl⟩
  go_wp2
  refine bodyPost_ret (v := .tuple #[.agg #[.int .i64 32, .int .u64 0, .int .u64 (V : Int)], .int .i64 0]) (by simp [results, Tryz.results111, go_sem]) rfl ⟨rfl, ?_⟩
  exact (Below.refl _ _).alloc (Nat.le_refl _) _
end Go.Proofs.YtpgkohimcofjnaaGreatDoor
