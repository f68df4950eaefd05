/- Pieces of the proof: SmW, CoR, Vals, Base. -/
import Derived.Test.YtlipcmonlhdgfaaGreatM17
import Derived.Test.YtlipcmonlhdgfaaGreatM5
import Derived.Laws.EntriesVeiled
import Derived.Test.YtlipcmonlhdgfaaGreatM15
import Derived.Test.YtlipcmonlhdgfaaGreatM1
import Derived.Lib.Mul64
/- package sums: Width alone (cut from SuRows and SuLook, without what a sum is). -/
namespace Go.Proofs.YtlipcmonlhdgfaaGreat
open Go.RowKit Go.MapKept

def S1 : ByteArray := { data := #[99, 114, 99, 49, 54] }
def S2 : ByteArray := { data := #[99, 114, 99, 51, 50] }
def S3 : ByteArray := { data := #[99, 115, 117, 109, 49, 54] }
def S4 : ByteArray := { data := #[120, 111, 114, 49, 54] }
def crcV (b : Nat) : Value := .func (Fn.func 178) #[] #[.pointer (some ⟨b, 0, none⟩), .pointer (some ⟨b + 1, 0, none⟩), .pointer (some ⟨b + 2, 0, none⟩)]
def rowV1 (b : Nat) : Value := .agg #[.string S1, .int .i64 16, crcV b]
def rowV2 (b : Nat) : Value := .agg #[.string S2, .int .i64 32, crcV b]
def rowV3 : Value := .agg #[.string S3, .int .i64 16, .func (Fn.func 138) #[] #[]]
def rowV4 : Value := .agg #[.string S4, .int .i64 16, .func (Fn.func 139) #[] #[]]
def rowsE (b1 b2 : Nat) : Array MapEntry := #[{ key := .int .i64 1, val := rowV1 b1, born := 0 }, { key := .int .i64 2, val := rowV2 b2, born := 1 }, { key := .int .i64 3, val := rowV3, born := 2 }, { key := .int .i64 4, val := rowV4, born := 3 }]
/- Three boxes of a CRC. -/
structure Box3 (W : World) (b p c t : Nat) : Prop where
  lt : b + 2 < W.heap.size
  p : W.cell? ⟨b, 0, none⟩ = some (.int .u32 p)
  c : W.cell? ⟨b + 1, 0, none⟩ = some (.int .u32 c)
  t : W.cell? ⟨b + 2, 0, none⟩ = some (.int .u32 t)
theorem Box3.below {W W' : World} {b p c t : Nat} (h : Box3 W b p c t) (hb : Below W.heap.size W W') : Box3 W' b p c t :=
  ⟨Nat.lt_of_lt_of_le h.lt hb.size, (hb.cell (p := ⟨b, 0, none⟩) (by have := h.lt; show b < _; omega)).trans h.p, (hb.cell (p := ⟨b + 1, 0, none⟩) (by have := h.lt; show b + 1 < _; omega)).trans h.c, (hb.cell (p := ⟨b + 2, 0, none⟩) (by have := h.lt; show b + 2 < _; omega)).trans h.t⟩
theorem Box3.grown {W W' : World} {b p c t B : Nat} (h : Box3 W b p c t) (hg : W.grownBy W' (some B)) (hB : B < b) : Box3 W' b p c t := by
  have k : ∀ i, b ≤ i → i < W.heap.size → ∀ o, W'.cell? ⟨i, o, none⟩ = W.cell? ⟨i, o, none⟩ := fun i h1 h2 o => World.cell?_of_block (w := W) (a := ⟨i, o, none⟩) (hg.block i h2 (by intro e; injection e with e; omega))
  have hl := h.lt
  exact ⟨Nat.lt_of_lt_of_le h.lt hg.size, (k b (by omega) (by omega) 0).trans h.p, (k (b + 1) (by omega) (by omega) 0).trans h.c, (k (b + 2) (by omega) (by omega) 0).trans h.t⟩
theorem crc_any (p c t : Nat) (w : World) : Calls Tryz.prog 137 #[.int .u32 p, .int .u32 c, .int .u32 t] w fun e w' => e = .returned (crcV w.heap.size) ∧ Box3 w' w.heap.size p c t ∧ Below w.heap.size w w' := by
  go_enter Tryz.func137, Tryz.ntmps137
  go_wp2
  go_ret
  have h1 := LC.new w (.int .u32 (p : Int)) 180
  have h2 := LC.new (w.alloc (.cells #[.int .u32 (p : Int)] 180)) (.int .u32 (c : Int)) 180
  have h3 := LC.new ((w.alloc (.cells #[.int .u32 (p : Int)] 180)).alloc (.cells #[.int .u32 (c : Int)] 180)) (.int .u32 (t : Int)) 180
  simp only [World.size_alloc] at h2 h3
  exact ⟨rfl, ⟨by simp, ((h1.alloc _).alloc _).1, (h2.alloc _).1, h3.1⟩, (((Below.refl _ _).alloc (Nat.le_refl _) _).alloc (by simp) _).alloc (by simp; omega) _⟩
structure RowsAt (W : World) (B b1 b2 : Nat) : Prop where
  map : W.heap[B]? = some (.map (rowsE b1 b2) 4)
  k1 : Box3 W b1 0xa001 0 0
  k2 : Box3 W b2 0xedb88320 0xffffffff 0xffffffff
theorem RowsAt.below {W W' : World} {B b1 b2 : Nat} (h : RowsAt W B b1 b2) (hb : Below W.heap.size W W') : RowsAt W' B b1 b2 :=
  ⟨(hb.block B (lt_of_block h.map)).trans h.map, h.k1.below hb, h.k2.below hb⟩
theorem below_rowS {B : Nat} {w a b : World} (h : Below B w a) (g : a.grownBy b (some B)) (hB : B ≤ a.heap.size) : Below B w b := h.grown g hB (fun k e => by injection e with e; omega)
set_option maxHeartbeats 2000000 in
theorem rows_any (w : World) : Calls Tryz.prog 113 #[] w fun e w' => e = .returned (.map (some w.heap.size)) ∧ ∃ b1 b2, RowsAt w' w.heap.size b1 b2 ∧ Below w.heap.size w w' := by
  have hmm := @run_makeMap Tryz.prog
  have hm0 : (w.alloc (.map #[] 0)).heap[w.heap.size]? = some (.map #[] 0) := heap_alloc_new w _
  have HN := hide ((Below.refl w.heap.size w).alloc (Nat.le_refl _) (.map #[] 0))
  have hz0 : (w.alloc (.map #[] 0)).heap.size = w.heap.size + 1 := by simp
  have HM := hide hm0; have HZ := hide hz0
  clear hm0 hz0
  go_enter Tryz.func113, Tryz.ntmps113
  go_wp2_with fail
  refine (crc_any 0xa001 0 0 _).mono ?_
  rintro e w1 ⟨rfl, x1, hb1⟩
  have HM := hide ((hb1.block w.heap.size (by rw [HZ.out]; omega)).trans HM.out)
  have HN := hide (HN.out.trans (hb1.mono HN.out.size))
  rw [HZ.out] at x1 ⊢
  have X1 := hide x1
  have HZ := hide (Nat.le_of_lt x1.lt)
  clear x1 hb1
  unfold crcV
  go_wp2_with (first
    | (refine wpList_insert_raw _ rfl _ _ _ 152 rfl 3 151 (.int .i64) Tryz.underlying152 Tryz.underlying3 w.heap.size 0 _ rfl (.int .i64 1) rfl (rowV1 (w.heap.size + 1)) rfl HM.out rfl (by intro x hx; simp at hx) ?_; intro W1 M1 G1; have HM := hide M1; have X1 := hide (X1.out.grown G1 (by omega)); have HN := hide (below_rowS HN.out G1 HN.out.size); have HZ := hide (Nat.le_trans HZ.out G1.size); clear M1 G1))
  refine (crc_any 0xedb88320 0xffffffff 0xffffffff _).mono ?_
  rintro e w2 ⟨rfl, x2, hb2⟩
  have HM := hide ((hb2.block w.heap.size (by have := HZ.out; omega)).trans HM.out)
  have HN := hide (HN.out.trans (hb2.mono HN.out.size))
  have X1 := hide (X1.out.below hb2)
  have X2 := hide x2
  have hlt : w.heap.size < W1.heap.size := by have := HZ.out; omega
  have HZ := hide (Nat.le_trans HZ.out hb2.size)
  clear x2 hb2
  obtain ⟨b2, hb2⟩ : ∃ b, b = W1.heap.size := ⟨_, rfl⟩
  rw [← hb2] at X2 hlt ⊢
  clear hb2
  unfold crcV
  go_wp2_with (first
    | (refine wpList_insert_raw _ rfl _ _ _ 152 rfl 3 151 (.int .i64) Tryz.underlying152 Tryz.underlying3 w.heap.size 1 _ rfl (.int .i64 2) rfl (rowV2 b2) rfl HM.out rfl (by intro x hx; simp at hx; subst hx; exact ⟨rfl, by simp⟩) ?_; intro W2 M2 G2; have HM := hide M2; have X1 := hide (X1.out.grown G2 (by omega)); have X2 := hide (X2.out.grown G2 hlt); have HN := hide (below_rowS HN.out G2 HN.out.size); have HZ := hide (Nat.le_trans HZ.out G2.size); clear M2 G2)
    | (refine wpList_insert_raw _ rfl _ _ _ 152 rfl 3 151 (.int .i64) Tryz.underlying152 Tryz.underlying3 w.heap.size 2 _ rfl (.int .i64 3) rfl (rowV3) rfl HM.out rfl (by intro x hx; simp at hx; rcases hx with rfl | rfl <;> exact ⟨rfl, by simp⟩) ?_; intro W3 M3 G3; have HM := hide M3; have X1 := hide (X1.out.grown G3 (by omega)); have X2 := hide (X2.out.grown G3 hlt); have HN := hide (below_rowS HN.out G3 HN.out.size); have HZ := hide (Nat.le_trans HZ.out G3.size); clear M3 G3)
    | (refine wpList_insert_raw _ rfl _ _ _ 152 rfl 3 151 (.int .i64) Tryz.underlying152 Tryz.underlying3 w.heap.size 3 _ rfl (.int .i64 4) rfl (rowV4) rfl HM.out rfl (by intro x hx; simp at hx; rcases hx with rfl | rfl | rfl <;> exact ⟨rfl, by simp⟩) ?_; intro W4 M4 G4; have HM := hide M4; have X1 := hide (X1.out.grown G4 (by omega)); have X2 := hide (X2.out.grown G4 hlt); have HN := hide (below_rowS HN.out G4 HN.out.size); have HZ := hide (Nat.le_trans HZ.out G4.size); clear M4 G4))
  go_ret
  exact ⟨rfl, w.heap.size + 1, b2, ⟨HM.out, X1.out, X2.out⟩, HN.out⟩
def zeroRow : Value := .agg #[.string { data := #[] }, .int .i64 0, .nilFunc]
theorem zeroRow_run (w : World) : (zeroValue 151).run Tryz.prog w = .ok zeroRow w := by kernel_rfl
def rowOf (n : Int) (b1 b2 : Nat) : Value := if n = 1 then rowV1 b1 else if n = 2 then rowV2 b2 else if n = 3 then rowV3 else rowV4
set_option maxRecDepth 100000 in
theorem rowsE_mem {b1 b2 : Nat} {e : MapEntry} (h : e ∈ (rowsE b1 b2).toList) : ∃ n : Int, 1 ≤ n ∧ n ≤ 4 ∧ e.key = .int .i64 n ∧ e.val = rowOf n b1 b2 ∧ (e.born : Int) = n - 1 := by
  simp [rowsE] at h
  rcases h with rfl | rfl | rfl | rfl
  · exact ⟨1, by decide, by decide, rfl, rfl, rfl⟩
  · exact ⟨2, by decide, by decide, rfl, rfl, rfl⟩
  · exact ⟨3, by decide, by decide, rfl, rfl, rfl⟩
  · exact ⟨4, by decide, by decide, rfl, rfl, rfl⟩
theorem rowsE_has {b1 b2 : Nat} {n : Int} (h0 : 1 ≤ n) (h1 : n ≤ 4) : ∃ e ∈ (rowsE b1 b2).toList, e.key = .int .i64 n := by
  rcases (by omega : n = 1 ∨ n = 2 ∨ n = 3 ∨ n = 4) with rfl | rfl | rfl | rfl
  · exact ⟨_, List.mem_cons_self .., rfl⟩
  · exact ⟨_, List.mem_cons_of_mem _ (List.mem_cons_self ..), rfl⟩
  · exact ⟨_, List.mem_cons_of_mem _ (List.mem_cons_of_mem _ (List.mem_cons_self ..)), rfl⟩
  · exact ⟨_, List.mem_cons_of_mem _ (List.mem_cons_of_mem _ (List.mem_cons_of_mem _ (List.mem_cons_self ..))), rfl⟩
set_option maxRecDepth 100000 in
theorem RowsAt.yes {W : World} {B b1 b2 : Nat} (h : RowsAt W B b1 b2) {n : Int} (h0 : 1 ≤ n) (h1 : n ≤ 4) :
    (Instr.lookup 152 (.map (some B)) (.int .i64 n) true).run Tryz.prog W = .ok (.tuple #[rowOf n b1 b2, .bool true]) W ∧ (Instr.lookup 152 (.map (some B)) (.int .i64 n) false).run Tryz.prog W = .ok (rowOf n b1 b2) W := by
  rcases raw_look (P := Tryz.prog) h.map Tryz.underlying152 Tryz.underlying3 (.int .i64 n) rfl (fun x hx => by obtain ⟨m, _, _, e, _⟩ := rowsE_mem hx; rw [e]; rfl) zeroRow (zeroRow_run W) with ⟨e, he, hk, r1, r2⟩ | ⟨hno, _⟩
  · obtain ⟨m, _, _, e1, e2, _⟩ := rowsE_mem he
    rw [hk] at e1
    injection e1 with _ e1
    subst e1
    rw [e2] at r1 r2
    exact ⟨r1, r2⟩
  · obtain ⟨e, he, hk⟩ := rowsE_has (b1 := b1) (b2 := b2) h0 h1
    exact absurd hk (hno e he)
set_option maxRecDepth 100000 in
theorem RowsAt.no {W : World} {B b1 b2 : Nat} (h : RowsAt W B b1 b2) {n : Int} (h0 : ¬ (1 ≤ n ∧ n ≤ 4)) :
    (Instr.lookup 152 (.map (some B)) (.int .i64 n) true).run Tryz.prog W = .ok (.tuple #[zeroRow, .bool false]) W ∧ (Instr.lookup 152 (.map (some B)) (.int .i64 n) false).run Tryz.prog W = .ok zeroRow W := by
  rcases raw_look (P := Tryz.prog) h.map Tryz.underlying152 Tryz.underlying3 (.int .i64 n) rfl (fun x hx => by obtain ⟨m, _, _, e, _⟩ := rowsE_mem hx; rw [e]; rfl) zeroRow (zeroRow_run W) with ⟨e, he, hk, r1, r2⟩ | ⟨_, r1, r2⟩
  · obtain ⟨m, m0, m1, e1, _⟩ := rowsE_mem he
    rw [hk] at e1
    injection e1 with _ e1
    exact absurd ⟨by omega, by omega⟩ h0
  · exact ⟨r1, r2⟩
def widW (n : Int) : Int := if 1 ≤ n ∧ n ≤ 4 then (if n = 2 then 32 else 16) else 0
theorem run_field0 (s : ByteArray) (n : Int) (v : Value) (w : World) : (Instr.field 151 (.agg #[.string s, .int .i64 n, v]) 0).run Tryz.prog w = .ok (.string s) w := by kernel_rfl
theorem run_field1 (s : ByteArray) (n : Int) (v : Value) (w : World) : (Instr.field 151 (.agg #[.string s, .int .i64 n, v]) 1).run Tryz.prog w = .ok (.int .i64 n) w := by kernel_rfl
set_option maxRecDepth 100000 in
theorem width_any (n : Int) (w : World) : Calls Tryz.prog 58 #[.int .i64 n] w fun e w' => e = .returned (.int .i64 (widW n)) ∧ Below w.heap.size w w' := by
  by_cases h : 1 ≤ n ∧ n ≤ 4
  · rcases (by omega : n = 1 ∨ n = 2 ∨ n = 3 ∨ n = 4) with rfl | rfl | rfl | rfl
    all_goals
      go_enter Tryz.func58, Tryz.ntmps58
      go_wp2_with fail
      refine (rows_any _).mono ?_
      rintro e w1 ⟨rfl, b1, b2, hT, hb⟩
      have hrun := (hT.yes h.1 h.2).2
      simp only [rowOf, rowV1, rowV2, rowV3, rowV4, crcV, if_true, reduceIte, Int.reduceEq] at hrun
      clear hT
      have hf0 := run_field0
      have hf1 := run_field1
      go_wp2
      go_ret
      exact ⟨rfl, hb⟩
  · have e0 : widW n = 0 := if_neg h
    go_enter Tryz.func58, Tryz.ntmps58
    go_wp2_with fail
    refine (rows_any _).mono ?_
    rintro e w1 ⟨rfl, b1, b2, hT, hb⟩
    have hrun := (hT.no h).2
    unfold zeroRow at hrun
    have HE := hide e0
    clear hT h e0
    have hf0 := run_field0
    have hf1 := run_field1
    go_wp2
    go_ret
    exact ⟨by rw [HE.out]; rfl, hb⟩
end Go.Proofs.YtlipcmonlhdgfaaGreat
/- package code: the row of InHash. -/
namespace Go.Proofs.YtlipcmonlhdgfaaGreat
open Go.RowKit

set_option maxRecDepth 100000 in
set_option maxHeartbeats 4000000 in
theorem row3_any (c : CoL) (g jb : Nat) (r : Value) (x : InL) (k e : Int) (w : World) (hj : Jd w g c r) (hjb : Jb w jb g) (hc : CoR w c) (_hx : InR w x) : Calls Tryz.prog 56 #[isV x k e, .pointer (some ⟨jb, 0, none⟩)] w fun ed w' => ed = .returned (.bool (wid c.sl x.v.to == widW x.v.n && frB 1 x.v.l.length 64)) ∧ Below w.heap.size w w' := by
  have HW : Hid (∀ W, Below w.heap.size w W → _) := fun W hb => width12_any c g r x.v.to W (hj.below hb) (hc.sl.below hb)
  have HJ : Hid (∀ W, Below w.heap.size w W → _) := fun W hb => (hjb.below hb).at
  have HM : Hid (∀ W, _) := fun W => width_any x.v.n W
  have HI : Hid (Pure _ _ _) := isFields_any x k e
  unfold isV at *
  generalize frB 1 x.v.l.length 64 = t at *
  generalize wid c.sl x.v.to = u at *
  generalize widW x.v.n = v at *
  generalize x.v.l.length = ln at *
  clear hj hjb hc _hx
  obtain ⟨⟨op, to, a, b, n, m, l, ⟨lw, lh, ll⟩, of⟩, la, lc⟩ := x
  simp only at *
  generalize hW1 : w.alloc (.cells #[.int .u8 op, .int .i64 to, .int .i64 a, .int .i64 b, .int .i64 n, .int .i64 m, .slice la ln lc, .int .i64 lw, .int .u64 lh, .int .u64 ll, .int .u8 of, .int .i64 k, .int .i64 e] 104) = W1
  have B1 : Below w.heap.size w W1 := hW1 ▸ below1 _ _
  have K13 : Hid (W1.heap[w.heap.size]? = some (.cells #[.int .u8 op, .int .i64 to, .int .i64 a, .int .i64 b, .int .i64 n, .int .i64 m, .slice la ln lc, .int .i64 lw, .int .u64 lh, .int .u64 ll, .int .u8 of, .int .i64 k, .int .i64 e] 104 (0, 0))) := by show _ = _; rw [← hW1]; exact heap_alloc_new _ _
  have HW1 := hide hW1
  obtain ⟨X, f, hX, hS, hcov⟩ := class_of (fun w' => Below W1.heap.size W1 w') W1.drew (Below.refl _ _).drew
  have HC0 : Hid (∃ x, W1.drew = f x) := hcov _ (Below.refl _ _).drew
  have HNX : Hid (∀ x w', Below (f x).heap.size (f x) w' → ∃ y, w' = f y) := fun x w' hb => hcov w' ((hS x).trans (hb.mono (hS x).size))
  have HBX : Hid (∀ x, Below w.heap.size w (f x)) := fun x => bstep B1 (hS x)
  have q := fun x => HJ.out _ (HBX.out x)
  have t0 := fun x => (at13 (heap_below (hS x) K13.out)).1
  have t1 := fun x => (at13 (heap_below (hS x) K13.out)).2.1
  have t2 := fun x => (at13 (heap_below (hS x) K13.out)).2.2.1
  have t3 := fun x => (at13 (heap_below (hS x) K13.out)).2.2.2.1
  have t4 := fun x => (at13 (heap_below (hS x) K13.out)).2.2.2.2.1
  have t5 := fun x => (at13 (heap_below (hS x) K13.out)).2.2.2.2.2.1
  have t6 := fun x => (at13 (heap_below (hS x) K13.out)).2.2.2.2.2.2.1
  have t7 := fun x => (at13 (heap_below (hS x) K13.out)).2.2.2.2.2.2.2.1
  have t8 := fun x => (at13 (heap_below (hS x) K13.out)).2.2.2.2.2.2.2.2.1
  have t9 := fun x => (at13 (heap_below (hS x) K13.out)).2.2.2.2.2.2.2.2.2.1
  have t10 := fun x => (at13 (heap_below (hS x) K13.out)).2.2.2.2.2.2.2.2.2.2.1
  have t11 := fun x => (at13 (heap_below (hS x) K13.out)).2.2.2.2.2.2.2.2.2.2.2.1
  have t12 := fun x => (at13 (heap_below (hS x) K13.out)).2.2.2.2.2.2.2.2.2.2.2.2
  clear hcov hS B1 hW1 HJ
  by_cases h : u = v
  · subst h
    simp only [beq_self_eq_true, Bool.true_and]
    go_enter Tryz.func56, Tryz.ntmps56
    go_wp2
    rw [HW1.out]
    refine wp_region_class f (by kernel_rfl) (by kernel_rfl) HC0.out ?_
    repeat (first
      | go_big_quiet_skip
      | (go_big_quiet_want; go_big_quiet_op; first
          | go_big_quiet_on
          | (apply Exists.intro
             refine ⟨fun _ => ?_, ?_⟩
             · first
                | (go_at_call 57; refine (HW.out _ (HBX.out _)).mono ?_; rintro e' wn ⟨rfl, hb⟩; exact ⟨rfl, HNX.out _ _ hb⟩)
                | (go_at_call 58; refine (HM.out _).mono ?_; rintro e' wn ⟨rfl, hb⟩; exact ⟨rfl, HNX.out _ _ hb⟩)
                | (go_at_call 59; refine (HI.out _).mono ?_; rintro e' wn ⟨rfl, hb⟩; exact ⟨rfl, HNX.out _ _ hb⟩)
             go_big_quiet_on)))
    refine wpQuiet_nil ?_
    rintro _ ⟨x, rfl⟩
    go_wp2
    go_ret
    exact ⟨rfl, HBX.out x⟩
  · have d1 : (u == v) = false := by simp [h]
    have d2 : (u = v) = False := by simp [h]
    rw [d1, Bool.false_and]
    go_enter Tryz.func56, Tryz.ntmps56
    go_wp2
    rw [HW1.out]
    refine wp_region_class f (by kernel_rfl) (by kernel_rfl) HC0.out ?_
    repeat (first
      | go_big_quiet_skip
      | (go_big_quiet_want; go_big_quiet_op; first
          | go_big_quiet_on
          | (apply Exists.intro
             refine ⟨fun _ => ?_, ?_⟩
             · first
                | (go_at_call 57; refine (HW.out _ (HBX.out _)).mono ?_; rintro e' wn ⟨rfl, hb⟩; exact ⟨rfl, HNX.out _ _ hb⟩)
                | (go_at_call 58; refine (HM.out _).mono ?_; rintro e' wn ⟨rfl, hb⟩; exact ⟨rfl, HNX.out _ _ hb⟩)
                | (go_at_call 59; refine (HI.out _).mono ?_; rintro e' wn ⟨rfl, hb⟩; exact ⟨rfl, HNX.out _ _ hb⟩)
             go_big_quiet_on)))
    refine wpQuiet_nil ?_
    rintro _ ⟨x, rfl⟩
    go_wp2
    go_ret
    exact ⟨rfl, HBX.out x⟩
end Go.Proofs.YtlipcmonlhdgfaaGreat
/- Numbers by their value: plain facts. -/
namespace Go.Proofs.YtlipcmonlhdgfaaGreat

def wHi (v : Nat) : Int := ((v / 18446744073709551616 : Nat) : Int)
def wLo (v : Nat) : Int := ((v % 18446744073709551616 : Nat) : Int)
def top : Nat := 340282366920938463463374607431768211456
theorem top_eq : top = 2 ^ 128 := by decide
theorem wHi_bd {v : Nat} (h : v < top) : 0 ≤ wHi v ∧ wHi v < 18446744073709551616 := by
  unfold wHi top at *; omega
theorem wLo_bd (v : Nat) : 0 ≤ wLo v ∧ wLo v < 18446744073709551616 := by
  unfold wLo; omega
theorem w_join (v : Nat) : wHi v * 18446744073709551616 + wLo v = v := by
  unfold wHi wLo; omega
theorem words_of {hi lo : Int} (a0 : 0 ≤ hi) (a1 : hi < 18446744073709551616) (b0 : 0 ≤ lo) (b1 : lo < 18446744073709551616) : ∃ v, v < top ∧ hi = wHi v ∧ lo = wLo v := by
  refine ⟨(hi * 18446744073709551616 + lo).toNat, ?_, ?_, ?_⟩
  · unfold top; omega
  · unfold wHi; omega
  · unfold wLo; omega
theorem w_inj {u v : Nat} (h : wHi u = wHi v) (k : wLo u = wLo v) : u = v := by
  have h1 := w_join u; have h2 := w_join v; rw [h, k] at h1; omega
theorem w_eq (u v : Nat) : (wHi u == wHi v && wLo u == wLo v) = decide (u = v) := by
  by_cases h : u = v
  · subst h; simp
  · simp only [h, decide_false]
    cases e1 : (wHi u == wHi v)
    · rfl
    · cases e2 : (wLo u == wLo v)
      · rfl
      · exact absurd (w_inj (by simpa using e1) (by simpa using e2)) h
theorem w_lt (u v : Nat) : u < v ↔ wHi u < wHi v ∨ wHi u = wHi v ∧ wLo u < wLo v := by
  have h1 := w_join u; have h2 := w_join v; have h3 := wLo_bd u; have h4 := wLo_bd v
  constructor
  · intro h
    by_cases e : wHi u < wHi v
    · exact .inl e
    · refine .inr ⟨?_, ?_⟩ <;> omega
  · intro h; omega
theorem w_zero : wHi 0 = 0 ∧ wLo 0 = 0 := ⟨rfl, rfl⟩
theorem w_of_lo {v : Nat} (h : v < 18446744073709551616) : wHi v = 0 ∧ wLo v = v := by
  unfold wHi wLo; omega

theorem pow_split {n : Nat} (h : 64 ≤ n) : (2 : Nat) ^ n = 18446744073709551616 * 2 ^ (n - 64) := by
  have : (2 : Nat) ^ n = 2 ^ 64 * 2 ^ (n - 64) := by rw [← Nat.pow_add]; congr 1; omega
  rw [this]
theorem pow_le_top {n : Nat} (h : n ≤ 128) : (2 : Nat) ^ n ≤ top := by rw [top_eq]; exact Nat.pow_le_pow_right (by decide) h
theorem mod_lt_top {v n : Nat} (h : n ≤ 128) : v % 2 ^ n < top := Nat.lt_of_lt_of_le (Nat.mod_lt _ (Nat.pow_pos (by decide))) (pow_le_top h)

theorem cut_lo (n : Int) (v : Nat) (h0 : 1 ≤ n) : cLo n (wLo v) = wLo (v % 2 ^ n.toNat) := by
  obtain ⟨n, rfl⟩ := Int.eq_ofNat_of_zero_le (by omega : 0 ≤ n)
  rw [Int.toNat_natCast]
  unfold cLo wLo
  by_cases h : (n : Int) ≤ 64
  · rw [if_pos h, Int.toNat_natCast]
    have hd : (2 : Nat) ^ n ∣ 18446744073709551616 := by
      have : (18446744073709551616 : Nat) = 2 ^ 64 := by decide
      rw [this]; exact Nat.pow_dvd_pow 2 (by omega)
    have hlt : v % 2 ^ n < 18446744073709551616 := by
      have h1 := Nat.mod_lt v (Nat.pow_pos (n := n) (by decide : 0 < 2))
      have h2 := Nat.le_of_dvd (by decide) hd
      omega
    rw [Nat.mod_eq_of_lt hlt]
    have e : ((2 : Int) ^ n) = ((2 ^ n : Nat) : Int) := by simp
    rw [e, ← Int.natCast_emod, Nat.mod_mod_of_dvd _ hd]
  · rw [if_neg h]
    have hd : (18446744073709551616 : Nat) ∣ 2 ^ n := ⟨_, pow_split (by omega)⟩
    rw [Nat.mod_mod_of_dvd _ hd]
theorem cut_hi (n : Int) (v : Nat) (h0 : 1 ≤ n) : cHi n (wHi v) = wHi (v % 2 ^ n.toNat) := by
  obtain ⟨n, rfl⟩ := Int.eq_ofNat_of_zero_le (by omega : 0 ≤ n)
  rw [Int.toNat_natCast]
  unfold cHi wHi
  by_cases h : (n : Int) ≤ 64
  · rw [if_pos h]
    have h1 := Nat.mod_lt v (Nat.pow_pos (n := n) (by decide : 0 < 2))
    have h2 : (2 : Nat) ^ n ≤ 2 ^ 64 := Nat.pow_le_pow_right (by decide) (by omega)
    rw [Nat.div_eq_of_lt (by omega)]; rfl
  · rw [if_neg h, show ((n : Int) - 64).toNat = n - 64 by omega]
    have e : ((2 : Int) ^ (n - 64)) = ((2 ^ (n - 64) : Nat) : Int) := by simp
    rw [e, ← Int.natCast_emod, pow_split (n := n) (by omega), Nat.mod_mul_right_div_self]
theorem ok_iff (n : Int) (v : Nat) (h0 : 1 ≤ n) : (cHi n (wHi v) == wHi v && cLo n (wLo v) == wLo v) = decide (v < 2 ^ n.toNat) := by
  rw [cut_hi n v h0, cut_lo n v h0, w_eq]
  by_cases h : v < 2 ^ n.toNat
  · simp [h, Nat.mod_eq_of_lt h]
  · have := Nat.mod_lt v (Nat.pow_pos (n := n.toNat) (by decide : 0 < 2))
    simp only [h, decide_false, decide_eq_false_iff_not]
    omega

theorem mod_top (v : Nat) {n : Nat} (h : n ≤ 128) : v % top % 2 ^ n = v % 2 ^ n := by
  rw [top_eq]; exact Nat.mod_mod_of_dvd _ (Nat.pow_dvd_pow 2 h)
theorem mod_top_lt (v : Nat) : v % top < top := Nat.mod_lt _ (by decide)
theorem wHi_nat (v : Nat) : wHi v = ((v / 2 ^ 64 : Nat) : Int) := rfl
theorem wLo_nat (v : Nat) : wLo v = ((v % 2 ^ 64 : Nat) : Int) := rfl
theorem part_lt {v : Nat} (h : v < top) : v / 2 ^ 64 < 18446744073709551616 ∧ v % 2 ^ 64 < 18446744073709551616 := by unfold top at h; omega

/- and, or, xor -/
theorem and_hi {u v : Nat} (hu : u < top) (hv : v < top) : bits .and .u64 (wHi u) (wHi v) = wHi (u &&& v) := by
  rw [wHi_nat, wHi_nat, wHi_nat, u64_and_nat _ _ (part_lt hu).1 (part_lt hv).1]
  congr 1
  refine Nat.eq_of_testBit_eq fun j => ?_
  simp only [Nat.testBit_and, Nat.testBit_div_two_pow]
theorem and_lo {u v : Nat} (hu : u < top) (hv : v < top) : bits .and .u64 (wLo u) (wLo v) = wLo (u &&& v) := by
  rw [wLo_nat, wLo_nat, wLo_nat, u64_and_nat _ _ (part_lt hu).2 (part_lt hv).2]
  congr 1
  refine Nat.eq_of_testBit_eq fun j => ?_
  simp only [Nat.testBit_and, Nat.testBit_mod_two_pow]
  by_cases h : j < 64 <;> simp [h]
theorem or_hi {u v : Nat} (hu : u < top) (hv : v < top) : bits .or .u64 (wHi u) (wHi v) = wHi (u ||| v) := by
  rw [wHi_nat, wHi_nat, wHi_nat, u64_or_nat _ _ (part_lt hu).1 (part_lt hv).1]
  congr 1
  refine Nat.eq_of_testBit_eq fun j => ?_
  simp only [Nat.testBit_or, Nat.testBit_div_two_pow]
theorem or_lo {u v : Nat} (hu : u < top) (hv : v < top) : bits .or .u64 (wLo u) (wLo v) = wLo (u ||| v) := by
  rw [wLo_nat, wLo_nat, wLo_nat, u64_or_nat _ _ (part_lt hu).2 (part_lt hv).2]
  congr 1
  refine Nat.eq_of_testBit_eq fun j => ?_
  simp only [Nat.testBit_or, Nat.testBit_mod_two_pow]
  by_cases h : j < 64 <;> simp [h]
theorem xor_hi {u v : Nat} (hu : u < top) (hv : v < top) : bits .xor .u64 (wHi u) (wHi v) = wHi (u ^^^ v) := by
  rw [wHi_nat, wHi_nat, wHi_nat, u64_xor_nat _ _ (part_lt hu).1 (part_lt hv).1]
  congr 1
  refine Nat.eq_of_testBit_eq fun j => ?_
  simp only [Nat.testBit_xor, Nat.testBit_div_two_pow]
theorem xor_lo {u v : Nat} (hu : u < top) (hv : v < top) : bits .xor .u64 (wLo u) (wLo v) = wLo (u ^^^ v) := by
  rw [wLo_nat, wLo_nat, wLo_nat, u64_xor_nat _ _ (part_lt hu).2 (part_lt hv).2]
  congr 1
  refine Nat.eq_of_testBit_eq fun j => ?_
  simp only [Nat.testBit_xor, Nat.testBit_mod_two_pow]
  by_cases h : j < 64 <;> simp [h]

/- add, sub, mul -/
theorem add_hi (u v : Nat) : IntKind.u64.wrap (IntKind.u64.wrap (wHi u + wHi v) + (wLo u + wLo v) / 18446744073709551616) = wHi ((u + v) % top) := by
  rw [IntKind.wrap_u64, IntKind.wrap_u64]; unfold wHi wLo top; omega
theorem add_lo (u v : Nat) : (wLo u + wLo v) % 18446744073709551616 = wLo ((u + v) % top) := by
  unfold wLo top; omega
def bor (x y : Int) : Int := if x < y then 1 else 0
theorem sub_hi {u v : Nat} (hv : v < top) : IntKind.u64.wrap (IntKind.u64.wrap (wHi u - wHi v) - bor (wLo u) (wLo v)) = wHi ((u + top - v) % top) := by
  rw [IntKind.wrap_u64, IntKind.wrap_u64]; unfold bor wHi wLo top at *; split <;> omega
theorem sub_lo {u v : Nat} (hv : v < top) : (wLo u - wLo v) % 18446744073709551616 = wLo ((u + top - v) % top) := by
  unfold wLo top at *; omega
theorem mul_split (u v : Nat) : (u * v) % top = ((u % 2 ^ 64) * (v % 2 ^ 64) + ((u / 2 ^ 64) * (v % 2 ^ 64) + (u % 2 ^ 64) * (v / 2 ^ 64)) * 2 ^ 64) % top := by
  have e : u * v = (u % 2 ^ 64) * (v % 2 ^ 64) + ((u / 2 ^ 64) * (v % 2 ^ 64) + (u % 2 ^ 64) * (v / 2 ^ 64)) * 2 ^ 64 + top * ((u / 2 ^ 64) * (v / 2 ^ 64)) := by
    have h := Lib.split_mul (u / 2 ^ 64) (u % 2 ^ 64) (v / 2 ^ 64) (v % 2 ^ 64) (2 ^ 64)
    rw [Nat.div_add_mod' u (2 ^ 64), Nat.div_add_mod' v (2 ^ 64)] at h
    rw [h]
    have t : (2 : Nat) ^ 64 * 2 ^ 64 = top := by decide
    rw [t, Nat.mul_comm (u / 2 ^ 64 * (v / 2 ^ 64)) top]
    omega
  rw [e, Nat.add_mul_mod_self_left]
theorem mul_hi (u v : Nat) : IntKind.u64.wrap (IntKind.u64.wrap (((u % 18446744073709551616) * (v % 18446744073709551616) / 18446744073709551616 : Nat) + IntKind.u64.wrap (wHi u * wLo v)) + IntKind.u64.wrap (wLo u * wHi v)) = wHi ((u * v) % top) := by
  rw [mul_split, IntKind.wrap_u64, IntKind.wrap_u64, IntKind.wrap_u64, IntKind.wrap_u64]
  have e1 : wHi u * wLo v = (((u / 2 ^ 64) * (v % 2 ^ 64) : Nat) : Int) := by rw [wHi_nat, wLo_nat, Int.natCast_mul]
  have e2 : wLo u * wHi v = (((u % 2 ^ 64) * (v / 2 ^ 64) : Nat) : Int) := by rw [wHi_nat, wLo_nat, Int.natCast_mul]
  rw [e1, e2, wHi_nat]
  have e3 : (u % 18446744073709551616) * (v % 18446744073709551616) = (u % 2 ^ 64) * (v % 2 ^ 64) := rfl
  rw [e3]
  generalize (u % 2 ^ 64) * (v % 2 ^ 64) = p
  generalize (u / 2 ^ 64) * (v % 2 ^ 64) = q
  generalize (u % 2 ^ 64) * (v / 2 ^ 64) = r
  unfold top; omega
theorem mul_lo (u v : Nat) : (((u % 18446744073709551616) * (v % 18446744073709551616) % 18446744073709551616 : Nat) : Int) = wLo ((u * v) % top) := by
  rw [mul_split, wLo_nat]
  have e3 : (u % 18446744073709551616) * (v % 18446744073709551616) = (u % 2 ^ 64) * (v % 2 ^ 64) := rfl
  rw [e3]
  generalize (u % 2 ^ 64) * (v % 2 ^ 64) = p
  generalize ((u / 2 ^ 64) * (v % 2 ^ 64) + (u % 2 ^ 64) * (v / 2 ^ 64)) = q
  unfold top; omega
end Go.Proofs.YtlipcmonlhdgfaaGreat
/- cut, Of and Check, told by value. -/
namespace Go.Proofs.YtlipcmonlhdgfaaGreat
open Go.RowKit

def okN (n : Int) (v : Nat) : Bool := mayBe n && decide (v < 2 ^ n.toNat)
theorem cutV (n X Y : Int) (v : Nat) (w : World) (m0 : 1 ≤ n) (m1 : n ≤ 128) (hv : v < top) (hX : X = wHi v) (hY : Y = wLo v) :
    Calls Tryz.prog 135 #[.int .i64 n, .int .u64 X, .int .u64 Y] w fun e w' => e = .returned (.agg #[.int .i64 n, .int .u64 (wHi (v % 2 ^ n.toNat)), .int .u64 (wLo (v % 2 ^ n.toNat))]) ∧ Below w.heap.size w w' := by
  subst hX hY
  have h := cut_any n (wHi v) (wLo v) w m0 m1 (wHi_bd hv).1 (wHi_bd hv).2 (wLo_bd v).1 (wLo_bd v).2
  rw [cut_hi n v m0, cut_lo n v m0] at h
  exact h
theorem cutR (n X Y rh rl : Int) (v : Nat) (w : World) (m0 : 1 ≤ n) (m1 : n ≤ 128) (hv : v < top) (hX : X = wHi v) (hY : Y = wLo v) (hh : wHi (v % 2 ^ n.toNat) = rh) (hl : wLo (v % 2 ^ n.toNat) = rl) :
    Calls Tryz.prog 135 #[.int .i64 n, .int .u64 X, .int .u64 Y] w fun e w' => e = .returned (.agg #[.int .i64 n, .int .u64 rh, .int .u64 rl]) ∧ Below w.heap.size w w' := by
  subst hh hl
  exact cutV n X Y v w m0 m1 hv hX hY
theorem checkV (n : Int) (v : Nat) (w : World) (hv : v < top) :
    Calls Tryz.prog 108 #[.agg #[.int .i64 n, .int .u64 (wHi v), .int .u64 (wLo v)]] w fun e w' => e = .returned (.bool (mayBe n && decide (v < 2 ^ n.toNat))) ∧ Below w.heap.size w w' := by
  have h := check_any n (wHi v) (wLo v) w (wHi_bd hv).1 (wHi_bd hv).2 (wLo_bd v).1 (wLo_bd v).2
  have e : okB n (wHi v) (wLo v) = (mayBe n && decide (v < 2 ^ n.toNat)) := by
    unfold okB
    cases hm : mayBe n
    · rfl
    · have h0 : 1 ≤ n ∧ n ≤ 128 := by simpa [mayBe] using hm
      rw [ok_iff n v h0.1]
  rw [e] at h
  exact h
theorem ofV (n X Y : Int) (v : Nat) (w : World) (m0 : 1 ≤ n) (m1 : n ≤ 128) (hv : v < top) (hX : X = wHi v) (hY : Y = wLo v) :
    Calls Tryz.prog 192 #[.int .i64 n, .int .u64 X, .int .u64 Y] w fun e w' => e = .returned (.tuple #[.agg #[.int .i64 n, .int .u64 (wHi (v % 2 ^ n.toNat)), .int .u64 (wLo (v % 2 ^ n.toNat))], .int .i64 0]) ∧ Below w.heap.size w w' := by
  subst hX hY
  have h := of_yes n (wHi v) (wLo v) w m0 m1 (wHi_bd hv).1 (wHi_bd hv).2 (wLo_bd v).1 (wLo_bd v).2
  rw [cut_hi n v m0, cut_lo n v m0] at h
  exact h
end Go.Proofs.YtlipcmonlhdgfaaGreat
