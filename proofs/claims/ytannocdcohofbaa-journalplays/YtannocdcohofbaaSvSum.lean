/- sums.Sum. -/
import Derived.Test.YtannocdcohofbaaSvLook
namespace Go.Proofs.Ytannocdcohofbaa
open Go.RowKit Go.MapKept

theorem cells_new3 (W : World) (x y z : Value) (t : TypeId) : (W.alloc (.cells #[x, y, z] t)).cell? ⟨W.heap.size, 0, none⟩ = some x ∧ (W.alloc (.cells #[x, y, z] t)).cell? ⟨W.heap.size, 1, none⟩ = some y ∧ (W.alloc (.cells #[x, y, z] t)).cell? ⟨W.heap.size, 2, none⟩ = some z ∧ ∀ o, (W.alloc (.cells #[x, y, z] t)).frozen? ⟨W.heap.size, o, none⟩ = false := by
  have h : (W.alloc (.cells #[x, y, z] t)).heap[W.heap.size]? = some (.cells #[x, y, z] t (0, 0)) := heap_alloc_new W _
  refine ⟨?_, ?_, ?_, fun o => ?_⟩
  · unfold World.cell?; simp only [h]; rfl
  · unfold World.cell?; simp only [h]; rfl
  · unfold World.cell?; simp only [h]; rfl
  · unfold World.frozen?; simp only [h]; simp
def SumS (w0 : World) (R r : Nat) (n : Int) (f : Value) (W : World) : Prop :=
  W.cell? ⟨R, 1, none⟩ = some (.int .i64 n) ∧ W.cell? ⟨R, 2, none⟩ = some f ∧ W.cell? ⟨r, 0, none⟩ = some (.int .i64 0) ∧ W.cell? ⟨r, 1, none⟩ = some (.int .u64 0) ∧ W.cell? ⟨r, 2, none⟩ = some (.int .u64 0) ∧ W.frozen? ⟨r, 0, none⟩ = false ∧ W.frozen? ⟨r, 1, none⟩ = false ∧ W.frozen? ⟨r, 2, none⟩ = false ∧ Below w0.heap.size w0 W
theorem sumS_step {w0 W W' : World} {R r : Nat} {n : Int} {f : Value} (hb : Below W.heap.size W W') (h : SumS w0 R r n f W) : SumS w0 R r n f W' := by
  obtain ⟨h1, h2, h3, h4, h5, h6, h7, h8, h9⟩ := h
  have lR : R < W.heap.size := World.block_lt_of_cell? W _ h1
  have lr : r < W.heap.size := World.block_lt_of_cell? W _ h3
  exact ⟨(hb.cell (p := ⟨R, 1, none⟩) lR).trans h1, (hb.cell (p := ⟨R, 2, none⟩) lR).trans h2, (hb.cell (p := ⟨r, 0, none⟩) lr).trans h3, (hb.cell (p := ⟨r, 1, none⟩) lr).trans h4, (hb.cell (p := ⟨r, 2, none⟩) lr).trans h5, (hb.frozen (p := ⟨r, 0, none⟩) lr).trans h6, (hb.frozen (p := ⟨r, 1, none⟩) lr).trans h7, (hb.frozen (p := ⟨r, 2, none⟩) lr).trans h8, h9.trans (hb.mono h9.size)⟩
theorem sumS_drew {w0 W : World} {R r : Nat} {n : Int} {f : Value} (h : SumS w0 R r n f W) : SumS w0 R r n f W.drew := ⟨h.1, h.2.1, h.2.2.1, h.2.2.2.1, h.2.2.2.2.1, h.2.2.2.2.2.1, h.2.2.2.2.2.2.1, h.2.2.2.2.2.2.2.1, h.2.2.2.2.2.2.2.2.drew⟩
theorem sumS_start {w w1 : World} {s : ByteArray} {n : Int} {f : Value} (hb : Below (w.alloc (.cells #[.int .i64 0, .int .u64 0, .int .u64 0] 86)).heap.size (w.alloc (.cells #[.int .i64 0, .int .u64 0, .int .u64 0] 86)) w1) :
    SumS w w1.heap.size w.heap.size n f (w1.alloc (.cells #[.string s, .int .i64 n, f] 93)) := by
  obtain ⟨a1, a2, a3, a4⟩ := cells_new3 w (.int .i64 0) (.int .u64 0) (.int .u64 0) 86
  obtain ⟨_, b2, b3, _⟩ := cells_new3 w1 (.string s) (.int .i64 n) f 93
  have hz := hb.size
  simp only [World.size_alloc] at hz hb
  have hk : Below w1.heap.size w1 (w1.alloc (.cells #[.string s, .int .i64 n, f] 93)) := (Below.refl _ w1).alloc (Nat.le_refl _) _
  have lr : w.heap.size < w1.heap.size := by omega
  have c : ∀ o, (w1.alloc (.cells #[.string s, .int .i64 n, f] 93)).cell? ⟨w.heap.size, o, none⟩ = (w.alloc (.cells #[.int .i64 0, .int .u64 0, .int .u64 0] 86)).cell? ⟨w.heap.size, o, none⟩ := fun o => (hk.cell (p := ⟨w.heap.size, o, none⟩) lr).trans (hb.cell (p := ⟨w.heap.size, o, none⟩) (by show w.heap.size < _; omega))
  have d : ∀ o, (w1.alloc (.cells #[.string s, .int .i64 n, f] 93)).frozen? ⟨w.heap.size, o, none⟩ = (w.alloc (.cells #[.int .i64 0, .int .u64 0, .int .u64 0] 86)).frozen? ⟨w.heap.size, o, none⟩ := fun o => (hk.frozen (p := ⟨w.heap.size, o, none⟩) lr).trans (hb.frozen (p := ⟨w.heap.size, o, none⟩) (by show w.heap.size < _; omega))
  exact ⟨b2, b3, (c 0).trans a1, (c 1).trans a2, (c 2).trans a3, (d 0).trans (a4 0), (d 1).trans (a4 1), (d 2).trans (a4 2), (((Below.refl _ w).alloc (Nat.le_refl _) _).trans (hb.mono (by omega))).alloc (by omega) _⟩
theorem sumS_all {w0 W2 W : World} {R r : Nat} {n : Int} {f : Value} (h : SumS w0 R r n f W) (hb : Below W2.heap.size W2 W) : (SumS w0 R r n f W ∧ Below W2.heap.size W2 W) ∧ W.cell? ⟨R, 1, none⟩ = some (.int .i64 n) ∧ W.cell? ⟨R, 2, none⟩ = some f ∧ W.cell? ⟨r, 0, none⟩ = some (.int .i64 0) ∧ W.cell? ⟨r, 1, none⟩ = some (.int .u64 0) ∧ W.cell? ⟨r, 2, none⟩ = some (.int .u64 0) ∧ W.frozen? ⟨r, 0, none⟩ = false ∧ W.frozen? ⟨r, 1, none⟩ = false ∧ W.frozen? ⟨r, 2, none⟩ = false :=
  ⟨⟨h, hb⟩, h.1, h.2.1, h.2.2.1, h.2.2.2.1, h.2.2.2.2.1, h.2.2.2.2.2.1, h.2.2.2.2.2.2.1, h.2.2.2.2.2.2.2.1⟩
theorem sumS_next {w0 W2 W W' : World} {R r : Nat} {n : Int} {f : Value} (hb : Below W.heap.size W W') (h : SumS w0 R r n f W ∧ Below W2.heap.size W2 W) : (SumS w0 R r n f W' ∧ Below W2.heap.size W2 W') ∧ W'.cell? ⟨R, 1, none⟩ = some (.int .i64 n) ∧ W'.cell? ⟨R, 2, none⟩ = some f ∧ W'.cell? ⟨r, 0, none⟩ = some (.int .i64 0) ∧ W'.cell? ⟨r, 1, none⟩ = some (.int .u64 0) ∧ W'.cell? ⟨r, 2, none⟩ = some (.int .u64 0) ∧ W'.frozen? ⟨r, 0, none⟩ = false ∧ W'.frozen? ⟨r, 1, none⟩ = false ∧ W'.frozen? ⟨r, 2, none⟩ = false :=
  sumS_all (sumS_step hb h.1) (h.2.trans (hb.mono h.2.size))
theorem sumF_16 (n : Int) (hn : n = 1 ∨ n = 3 ∨ n = 4) (l : List Nat) (hl : ∀ x ∈ l, x < 256) : sumF n l < 2 ^ (16 : Int).toNat := by
  have := sumF_lt n l hl
  rcases hn with rfl | rfl | rfl <;> exact this
theorem sumF_32 (l : List Nat) (hl : ∀ x ∈ l, x < 256) : sumF 2 l < 2 ^ (32 : Int).toNat := sumF_lt 2 l hl
theorem sumF_u32 (n : Int) (hn : n = 1 ∨ n = 2 ∨ n = 3 ∨ n = 4) (l : List Nat) (hl : ∀ x ∈ l, x < 256) : sumF n l < 4294967296 := by
  have h := sumF_lt n l hl
  rcases hn with rfl | rfl | rfl | rfl
  · exact Nat.lt_trans h (by decide)
  · exact h
  · exact Nat.lt_trans h (by decide)
  · exact Nat.lt_trans h (by decide)
set_option maxHeartbeats 1000000 in
theorem sum_two (a : Option Addr) (cap : Nat) (xs : List Nat) (w : World) (hx : ∀ y ∈ xs, y < 256) (hl : xs.length < 140737488355328) (hr : RdS w a xs) :
    Calls Try.prog 49 #[.int .i64 2, .slice a xs.length cap] w fun e w' => e = .returned (.tuple #[.agg #[.int .i64 32, .int .u64 0, .int .u64 ((sumF 2 xs : Nat) : Int)], .int .i64 0]) ∧ Below w.heap.size w w' := by
  have HR := hide hr
  clear hr
  go_enter Try.func49, Try.ntmps49
  go_wp2_with fail
  refine (rows_any _).mono ?_
  rintro e w1 ⟨rfl, b1, b2, hT, hb⟩
  have hrun := (hT.yes (n := 2) (by decide) (by decide)).1
  simp only [rowOf, rowV1, rowV2, rowV3, rowV4, crcV, reduceIte, Int.reduceEq, World.size_alloc] at hrun
  have hz : w.heap.size < w1.heap.size := by have := hb.size; simp at this; omega
  have HS0 := hide (fun s n f => sumS_start (s := s) (n := n) (f := f) hb)
  have HR0 := hide ((HR.out.below ((Below.refl _ w).alloc (Nat.le_refl _) _)).below hb)
  have HT0 := hide hT
  have HL := hide (sumF_32 xs hx)
  have hu := sumF_u32 2 (by decide) xs hx
  clear hT hb
  go_wp2_with fail
  have HS := hide (HS0.out S2 32 (.func (Fn.func 65) #[] #[.pointer (some ⟨b2, 0, none⟩), .pointer (some ⟨b2 + 1, 0, none⟩), .pointer (some ⟨b2 + 2, 0, none⟩)]))
  have hk : Below w1.heap.size w1 (w1.alloc (.cells #[.string S2, .int .i64 32, .func (Fn.func 65) #[] #[.pointer (some ⟨b2, 0, none⟩), .pointer (some ⟨b2 + 1, 0, none⟩), .pointer (some ⟨b2 + 2, 0, none⟩)]] 93)) := (Below.refl _ w1).alloc (Nat.le_refl _) _
  have HR1 := hide (HR0.out.below hk)
  have HT1 := hide (HT0.out.below hk)
  clear hk HS0 HR0 HT0 hrun
  generalize w1.alloc (.cells #[.string S2, .int .i64 32, .func (Fn.func 65) #[] #[.pointer (some ⟨b2, 0, none⟩), .pointer (some ⟨b2 + 1, 0, none⟩), .pointer (some ⟨b2 + 2, 0, none⟩)]] 93) = W2 at *
  generalize w1.heap.size = R at *
  have HC := hide (fun W' (h : SumS w R w.heap.size 32 (.func (Fn.func 65) #[] #[.pointer (some ⟨b2, 0, none⟩), .pointer (some ⟨b2 + 1, 0, none⟩), .pointer (some ⟨b2 + 2, 0, none⟩)]) W' ∧ Below W2.heap.size W2 W') => have k := (HT1.out.below h.2).k2; crc1_any 0xedb88320 0xffffffff 0xffffffff b2 (b2 + 1) (b2 + 2) a cap xs W' (by decide) (by decide) (by decide) k.p k.c k.t hx hl (HR1.out.below h.2))
  have e4 : crcF 0xedb88320 0xffffffff xs ^^^ 0xffffffff = sumF 2 xs := rfl
  rw [e4] at HC
  clear e4
  have HO := hide (fun W' => of_small 32 (sumF 2 xs) W' (by decide) HL.out)
  generalize hV : sumF 2 xs = V at *
  have HV := hide hV
  have hwv : IntKind.u64.wrap (V : Int) = V := by rw [IntKind.wrap_u64]; omega
  clear hV HL HR HR1 HT1 hl hx
  have HQ := hide (fun (W' : World) (hb : Below W2.drew.heap.size W2.drew W') => sumS_next (W2 := W2) (W := W2.drew) hb ⟨sumS_drew HS.out, (Below.refl _ _).drew⟩)
  have g := sumS_all (W2 := W2) HS.out (Below.refl _ _)
  obtain ⟨_, g1, g2, g3, g4, g5, g6, g7, g8⟩ := g
  have HC1 := hide (HC.out W2.drew ⟨sumS_drew HS.out, (Below.refl _ _).drew⟩)
  go_region_with (first
      | (go_at_call 65; refine HC1.out.mono ?_; rintro e wn ⟨rfl, hb⟩; obtain ⟨⟨q, _⟩, q1, q2, q3, q4, q5, q6, q7, q8⟩ := HQ.out _ hb; have Q := hide q; clear q hb)
      | (go_at_call 54; refine (HO.out _).mono ?_; rintro e wo ⟨rfl, hb⟩; obtain ⟨⟨k, _⟩, k1, k2, k3, k4, k5, k6, k7, k8⟩ := sumS_next (W2 := wn) hb ⟨Q.out, Below.refl _ _⟩; have K := hide k; clear k hb))
  all_goals
    go_wp2
    refine bodyPost_ret (v := .tuple #[.agg #[.int .i64 32, .int .u64 0, .int .u64 (V : Int)], .int .i64 0]) (by simp [results, Try.results49, go_sem, k3, k4, k5]) rfl ⟨by rw [HV.out], ?_⟩
    exact ((K.out.2.2.2.2.2.2.2.2.setCell (Nat.le_refl _) _).setCell (Nat.le_refl _) _).setCell (Nat.le_refl _) _
end Go.Proofs.Ytannocdcohofbaa
