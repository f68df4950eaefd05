/- Pieces of the proof: GnR, GnO, MtB, MtC. -/
import Derived.Test.YteflnicgohjiiaaGreatDoorM1
import Derived.Test.YteflnicgohjiiaaGreatDoorM3
import Derived.Test.YteflnicgohjiiaaGreatDoorM2
/- What came in, opened: structs field by field; numbers, and lists of them. -/
namespace Go.Proofs.YteflnicgohjiiaaGreatDoor
open Go.ChangeShapes Go.WideShapes Go.ChangeAt Go.RowKit

variable {H : Type} {enc : TypeId × Value → H} {W : World} {base : Nat}
theorem open_field {t : TypeId} {fs : Array Field} (ht : Tryz.prog.underlying t = some (.struct fs)) {fuel : Nat} {cs : List Value} {x : DataW H × List MemPlace} (h : DataW.trod enc Tryz.prog W base (fun _ => true) true fuel t cs = some x) (hw : ∀ n ∈ x.1.weights Tryz.prog t, n ≤ reachBytes) (i : Nat) (f : Field) (hf : fs[i]? = some f) :
    ∃ (m : Nat) (y : DataW H × List MemPlace), DataW.trod enc Tryz.prog W base (fun _ => true) true m f.type ((cs.drop f.offset).take (Tryz.prog.cellsOf f.type)) = some y ∧ ∀ n ∈ y.1.weights Tryz.prog f.type, n ≤ reachBytes := by
  obtain ⟨xs, m, _, hx, _, hl, hxs⟩ := DataW.trod_struct ht h
  have hi : i < xs.length := by rw [hl]; exact (Array.getElem?_eq_some_iff.1 hf).1
  have h1 := hxs i f hf
  rw [List.getElem?_eq_getElem hi] at h1
  refine ⟨m, xs[i], h1, fun n hn => hw n ?_⟩
  rw [hx, DataW.weights, ht]
  refine DataW.weights_mem_each (j := i) (t := f.type) (d := xs[i].1) ?_ ?_ n hn
  · rw [List.getElem?_map, Array.getElem?_toList, hf]; rfl
  · rw [List.getElem?_map, List.getElem?_eq_getElem hi]; rfl
theorem field_at {t : TypeId} {fs : Array Field} (ht : Tryz.prog.underlying t = some (.struct fs)) {fuel : Nat} {cs : List Value} {x : DataW H × List MemPlace} (h : DataW.trod enc Tryz.prog W base (fun _ => true) true fuel t cs = some x) (hw : ∀ n ∈ x.1.weights Tryz.prog t, n ≤ reachBytes) (i : Nat) {f : Field} (hf : fs[i]? = some f) {ft : TypeId} {off c : Nat} (e1 : f.type = ft) (e2 : f.offset = off) (e3 : Tryz.prog.cellsOf ft = c) :
    ∃ (m : Nat) (y : DataW H × List MemPlace), DataW.trod enc Tryz.prog W base (fun _ => true) true m ft ((cs.drop off).take c) = some y ∧ ∀ n ∈ y.1.weights Tryz.prog ft, n ≤ reachBytes := by
  subst e1 e2 e3
  exact open_field ht h hw i f hf
theorem len_struct {t : TypeId} {fs : Array Field} (ht : Tryz.prog.underlying t = some (.struct fs)) {fuel : Nat} {cs : List Value} {x : DataW H × List MemPlace} (h : DataW.trod enc Tryz.prog W base (fun _ => true) true fuel t cs = some x) : cs.length = Tryz.prog.cellsOf t := by
  obtain ⟨xs, m, _, hx, hl, _, hxs⟩ := DataW.trod_struct ht h
  exact hl
theorem cellsNb : Tryz.prog.cellsOf 86 = 3 := by kernel_rfl
theorem cellsIn : Tryz.prog.cellsOf 3 = 1 := by kernel_rfl
theorem cellsUl : Tryz.prog.cellsOf 83 = 1 := by kernel_rfl
theorem cellsSt : Tryz.prog.cellsOf 9 = 1 := by kernel_rfl
theorem cellsSl2 : Tryz.prog.cellsOf 28 = 1 := by kernel_rfl
theorem cellsSl5 : Tryz.prog.cellsOf 23 = 1 := by kernel_rfl
theorem three {α : Type} {l : List α} (h : l.length = 3) : ∃ a b c, l = [a, b, c] := by
  rcases l with _ | ⟨a, _ | ⟨b, _ | ⟨c, _ | ⟨d, r⟩⟩⟩⟩
  · cases h
  · cases h
  · cases h
  · exact ⟨a, b, c, rfl⟩
  · simp at h
theorem four {α : Type} {l : List α} (h : l.length = 4) : ∃ a b c d, l = [a, b, c, d] := by
  rcases l with _ | ⟨a, l⟩
  · cases h
  · obtain ⟨b, c, d, rfl⟩ := three (l := l) (by simpa using h)
    exact ⟨a, b, c, d, rfl⟩
theorem seven {α : Type} {l : List α} (h : l.length = 7) : ∃ a b c d e f g, l = [a, b, c, d, e, f, g] := by
  rcases l with _ | ⟨a, _ | ⟨b, _ | ⟨c, l⟩⟩⟩
  · cases h
  · cases h
  · cases h
  · obtain ⟨d, e, f, g, rfl⟩ := four (l := l) (by simpa using h)
    exact ⟨a, b, c, d, e, f, g, rfl⟩
set_option maxRecDepth 100000 in
theorem open_nb {fuel : Nat} {cs : List Value} {x : DataW H × List MemPlace} (h : DataW.trod enc Tryz.prog W base (fun _ => true) true fuel 86 cs = some x) (hw : ∀ n ∈ x.1.weights Tryz.prog 86, n ≤ reachBytes) : ∃ y : Nb, cs = y.cells ∧ NbR y := by
  have hl := len_struct Tryz.underlying86 h
  rw [cellsNb] at hl
  obtain ⟨a, b, c, rfl⟩ := three hl
  obtain ⟨_, y0, h0, _⟩ := field_at Tryz.underlying86 h hw 0 rfl (ft := 3) (off := 0) rfl rfl cellsIn
  obtain ⟨_, y1, h1, _⟩ := field_at Tryz.underlying86 h hw 1 rfl (ft := 83) (off := 1) rfl rfl cellsUl
  obtain ⟨_, y2, h2, _⟩ := field_at Tryz.underlying86 h hw 2 rfl (ft := 83) (off := 2) rfl rfl cellsUl
  obtain ⟨p, q0, _, w0⟩ := DataW.trod_int Tryz.underlying3 h0
  obtain ⟨q, q1, _, w1⟩ := DataW.trod_int Tryz.underlying83 h1
  obtain ⟨r, q2, _, w2⟩ := DataW.trod_int Tryz.underlying83 h2
  simp at q0 q1 q2
  subst q0 q1 q2
  exact ⟨⟨p, q, r⟩, rfl, ⟨intE w0, wordE w1, wordE w2⟩⟩
theorem bytesNb : Tryz.prog.bytesOf 86 = 24 := by kernel_rfl
theorem bytesIn : Tryz.prog.bytesOf 3 = 8 := by kernel_rfl
theorem reach_le {n k : Nat} (h : n * k ≤ reachBytes) (hk : 0 < k) : n ≤ 140737488355328 := by
  have h1 : n ≤ n * k := Nat.le_mul_of_pos_right n hk
  unfold reachBytes at h
  omega
theorem rdN_of {a : Option Addr} {cap : Nat} {l : List Nb} (h : LiE W 3 Nb.cells a cap l) : RdN W a l := by
  rcases h.rd with h | ⟨p, off, e, hp, hc⟩
  · exact .inl h
  · exact .inr ⟨p, off, e, hp, fun i hi => ⟨hc i hi 0 _ rfl, hc i hi 1 _ rfl, hc i hi 2 _ rfl⟩⟩
theorem open_nbs {fuel : Nat} {v : Value} {x : DataW H × List MemPlace} (h : DataW.trod enc Tryz.prog W base (fun _ => true) true fuel 28 [v] = some x) (hw : ∀ n ∈ x.1.weights Tryz.prog 28, n ≤ reachBytes) : ∃ (a : Option Addr) (cap : Nat) (l : List Nb), v = .slice a l.length cap ∧ RdN W a l ∧ (a = none → cap = 0) ∧ l.length ≤ 140737488355328 ∧ ∀ y ∈ l, NbR y := by
  obtain ⟨a, cap, l, h1, h2, h3, h4⟩ := open_list Tryz.underlying28 cellsNb (by decide) Nb.cells NbR (fun h hw => open_nb h hw) h hw
  rw [bytesNb] at h3
  exact ⟨a, cap, l, h1, rdN_of h2, h2.nn, reach_le h3 (by decide), h4⟩
end Go.Proofs.YteflnicgohjiiaaGreatDoor
/- bits.Of. -/
namespace Go.Proofs.YteflnicgohjiiaaGreatDoor
open Go.RowKit

theorem of_not (n hi lo : Int) (w : World) (h : ¬ (1 ≤ n ∧ n ≤ 128)) : Calls Tryz.prog 253 #[.int .i64 n, .int .u64 hi, .int .u64 lo] w fun e w' => e = .returned (.tuple #[.agg #[.int .i64 0, .int .u64 0, .int .u64 0], .int .i64 1]) ∧ Below w.heap.size w w' := by
  have hm := mayBe_no h
  clear h
  go_enter Tryz.func253, Tryz.ntmps253
  go_wp2_with (go_at_call 230; refine (widthMayBe_any _ _).mono ?_; rintro e w' ⟨rfl, rfl⟩)
  refine bodyPost_ret (v := .tuple #[.agg #[.int .i64 0, .int .u64 0, .int .u64 0], .int .i64 1]) (by simp [results, Tryz.results253, go_sem]) rfl ⟨rfl, ?_⟩
  exact (Below.refl _ _).alloc (Nat.le_refl _) _
theorem of_may (n hi lo : Int) (w : World) (h0 : 1 ≤ n) (h1 : n ≤ 128) (a0 : 0 ≤ hi) (a1 : hi < 18446744073709551616) (b0 : 0 ≤ lo) (b1 : lo < 18446744073709551616) : Calls Tryz.prog 253 #[.int .i64 n, .int .u64 hi, .int .u64 lo] w fun e w' => e = .returned (.tuple #[.agg #[.int .i64 n, .int .u64 (cHi n hi), .int .u64 (cLo n lo)], .int .i64 0]) ∧ Below w.heap.size w w' := by
  have hm := mayBe_yes h0 h1
  go_enter Tryz.func253, Tryz.ntmps253
  go_wp2_with (first
    | (go_at_call 230; refine (widthMayBe_any _ _).mono ?_; rintro e w' ⟨rfl, rfl⟩)
    | (go_at_call 231; refine (cut_any n hi lo _ h0 h1 a0 a1 b0 b1).mono ?_; rintro e w1 ⟨rfl, hb⟩; obtain ⟨hc, hf⟩ := bcell hb; have hz : w.heap.size < w1.heap.size := by have := hb.size; simp at this; omega))
  refine bodyPost_ret (v := .tuple #[.agg #[.int .i64 n, .int .u64 (cHi n hi), .int .u64 (cLo n lo)], .int .i64 0]) (by simp [results, Tryz.results253, go_sem, hc]) rfl ⟨rfl, ?_⟩
  exact (((((Below.refl _ _).alloc (Nat.le_refl _) _).trans (hb.mono (by simp))).setCell (Nat.le_refl _) _).setCell (Nat.le_refl _) _).setCell (Nat.le_refl _) _
end Go.Proofs.YteflnicgohjiiaaGreatDoor
/- package match: the small questions on numbers. -/
namespace Go.Proofs.YteflnicgohjiiaaGreatDoor
open Go.RowKit

theorem from_any (a n b : Int) (w : World) : Calls Tryz.prog 211 #[.int .i64 a, .int .i64 n, .int .i64 b] w fun e w' => e = .returned (.bool (fromB a n b)) ∧ w' = w := by
  unfold fromB
  by_cases h1 : a ≤ n
  · by_cases h2 : n ≤ b
    all_goals
      go_enter Tryz.func211, Tryz.ntmps211
      go_wp2
      go_ret
      exact ⟨by simp [h1, h2], rfl⟩
  · go_enter Tryz.func211, Tryz.ntmps211
    go_wp2
    go_ret
    exact ⟨by simp; omega, rfl⟩
theorem covers_any (m b : Nb) : Pure 239 #[m.val, b.val] (.bool (covB m b)) := fun w => by
  unfold covB
  obtain ⟨mw, mh, ml⟩ := m
  obtain ⟨bw, bh, bl⟩ := b
  unfold Nb.val
  cases e1 : (bits .andNot .u64 bh mh == 0) <;> cases e2 : (bits .andNot .u64 bl ml == 0)
  all_goals
    go_enter Tryz.func239, Tryz.ntmps239
    go_wp2
    go_ret
    exact ⟨rfl, ((Below.refl _ _).alloc (Nat.le_refl _) _).alloc (by simp) _⟩
theorem alike_any (a b m : Nb) : Pure 241 #[a.val, b.val, m.val] (.bool (aliB a b m)) := fun w => by
  unfold aliB
  obtain ⟨aw, ah, al⟩ := a
  obtain ⟨bw, bh, bl⟩ := b
  obtain ⟨mw, mh, ml⟩ := m
  unfold Nb.val
  cases e1 : (bits .and .u64 (bits .xor .u64 ah bh) mh == 0) <;> cases e2 : (bits .and .u64 (bits .xor .u64 al bl) ml == 0)
  all_goals
    go_enter Tryz.func241, Tryz.ntmps241
    go_wp2
    go_ret
    exact ⟨rfl, (((Below.refl _ _).alloc (Nat.le_refl _) _).alloc (by simp) _).alloc (by simp; omega) _⟩
theorem atMost_any (a b : Nb) : Pure 243 #[a.val, b.val] (.bool (atmB a b)) := fun w => by
  unfold atmB
  obtain ⟨aw, ah, al⟩ := a
  obtain ⟨bw, bh, bl⟩ := b
  unfold Nb.val
  by_cases h1 : ah < bh
  · go_enter Tryz.func243, Tryz.ntmps243
    go_wp2
    go_ret
    exact ⟨by simp [h1], ((Below.refl _ _).alloc (Nat.le_refl _) _).alloc (by simp) _⟩
  · by_cases h2 : ah = bh
    · subst h2
      by_cases h3 : al ≤ bl
      all_goals
        go_enter Tryz.func243, Tryz.ntmps243
        go_wp2
        go_ret
        exact ⟨by simp [h3], ((Below.refl _ _).alloc (Nat.le_refl _) _).alloc (by simp) _⟩
    · have h2' : (ah == bh) = false := by simp [h2]
      go_enter Tryz.func243, Tryz.ntmps243
      go_wp2
      go_ret
      exact ⟨by simp [h1], ((Below.refl _ _).alloc (Nat.le_refl _) _).alloc (by simp) _⟩
theorem isWide_any (b : Nb) (n : Int) (hb : NbR b) : Pure 135 #[b.val, .int .i64 n] (.bool (wide b n)) := fun w => by
  obtain ⟨bw, bh, bl⟩ := b
  obtain ⟨_, ⟨h0, h1⟩, ⟨h2, h3⟩⟩ := hb
  unfold wide Nb.ok
  simp only at h0 h1 h2 h3
  have HC : Hid (∀ W, Calls Tryz.prog 212 #[.agg #[.int .i64 bw, .int .u64 bh, .int .u64 bl]] W fun e w' => e = .returned (.bool (okB bw bh bl)) ∧ Below W.heap.size W w') := fun W => check_any bw bh bl W h0 h1 h2 h3
  clear h0 h1 h2 h3
  simp only [Nb.val]
  generalize okB bw bh bl = t at *
  by_cases hw : bw = n
  · subst hw
    go_enter Tryz.func135, Tryz.ntmps135
    go_wp2_with (go_at_call 212; refine (HC.out _).mono ?_; rintro e w1 ⟨rfl, hb⟩)
    go_ret
    exact ⟨by simp, ((Below.refl _ _).alloc (Nat.le_refl _) _).trans (hb.mono (by simp))⟩
  · have hw' : (bw == n) = false := by simp [hw]
    go_enter Tryz.func135, Tryz.ntmps135
    go_wp2
    go_ret
    exact ⟨by simp, (Below.refl _ _).alloc (Nat.le_refl _) _⟩
theorem of_pure (n : Int) (w : World) : Calls Tryz.prog 253 #[.int .i64 n, .int .u64 18446744073709551615, .int .u64 18446744073709551615] w fun e w' => (∃ c, e = .returned (.tuple #[.agg #[.int .i64 (ofB n ones ones).w, .int .u64 (ofB n ones ones).hi, .int .u64 (ofB n ones ones).lo], .int .i64 c])) ∧ Below w.heap.size w w' := by
  by_cases h : 1 ≤ n ∧ n ≤ 128
  · have E : ofB n ones ones = ⟨n, cHi n ones, cLo n ones⟩ := by unfold ofB; rw [mayBe_yes h.1 h.2]; rfl
    rw [E]
    exact (of_may n ones ones w h.1 h.2 (by decide) (by decide) (by decide) (by decide)).mono (fun e w' k => ⟨⟨0, k.1⟩, k.2⟩)
  · have E : ofB n ones ones = nb0 := by unfold ofB; rw [mayBe_no h]; rfl
    rw [E]
    exact (of_not n ones ones w h).mono (fun e w' k => ⟨⟨1, k.1⟩, k.2⟩)
theorem first_any (a n : Int) (h0 : 0 ≤ n) (h1 : n ≤ a) (h2 : a < 9223372036854775808) : Pure 251 #[.int .i64 a, .int .i64 n] (fstB a n).val := fun w => by
  have hsub : IntKind.i64.wrap (a - n) = a - n := by rw [IntKind.wrap_i64]; omega
  have H1 : Hid (∀ W, _) := fun W => of_pure a W
  have H2 : Hid (∀ W, _) := fun W => of_pure (a - n) W
  have E : Hid ((fstB a n).val = .agg #[.int .i64 a, .int .u64 (bits .andNot .u64 (ofB a ones ones).hi (ofB (a - n) ones ones).hi), .int .u64 (bits .andNot .u64 (ofB a ones ones).lo (ofB (a - n) ones ones).lo)]) := rfl
  generalize (fstB a n).val = V at *
  generalize ofB a ones ones = x at *
  generalize ofB (a - n) ones ones = y at *
  obtain ⟨xw, xh, xl⟩ := x
  obtain ⟨yw, yh, yl⟩ := y
  simp only at H1 H2 E
  clear h0 h1 h2
  go_enter Tryz.func251, Tryz.ntmps251
  go_wp2_with fail
  refine (H1.out _).mono ?_
  rintro e w1 ⟨⟨c, rfl⟩, hb⟩
  have HB1 := hide hb
  have K1 := hide (heap_below hb (heap_alloc_new _ _))
  clear hb
  go_wp2_with fail
  refine (H2.out _).mono ?_
  rintro e w2 ⟨⟨c2, rfl⟩, hb⟩
  have HB2 := hide hb
  have k := heap_below hb (heap_past _ K1.out)
  have l := heap_below hb (heap_alloc_new _ _)
  obtain ⟨-, q1, q2, -⟩ := at3 (heap_past (.cells #[.int .i64 yw, .int .u64 yh, .int .u64 yl] 86) l)
  obtain ⟨r0, r1, r2, r3⟩ := at3 (heap_past (.cells #[.int .i64 yw, .int .u64 yh, .int .u64 yl] 86) k)
  clear hb k l
  go_wp2
  refine bodyPost_ret (v := .agg #[.int .i64 a, .int .u64 (bits .andNot .u64 xh yh), .int .u64 (bits .andNot .u64 xl yl)]) (by simp [results, Tryz.results251, go_sem, r0, r1, r2]) rfl ⟨by rw [E.out], ?_⟩
  exact ((((((((Below.refl _ _).alloc (Nat.le_refl _) _).trans (HB1.out.mono (by simp))).alloc (by have := HB1.out.size; simp at this; omega) _).trans (HB2.out.mono (by have := HB1.out.size; simp at this ⊢; omega))).alloc (by have := HB1.out.size; have := HB2.out.size; simp at *; omega) _).setCell (Nat.le_refl _) _).setCell (Nat.le_refl _) _).setCell (Nat.le_refl _) _
end Go.Proofs.YteflnicgohjiiaaGreatDoor
/- package match: what each kind of key asks, but for prefixes. -/
namespace Go.Proofs.YteflnicgohjiiaaGreatDoor
open Go.RowKit

theorem exactMay_any (x : Mx) (n : Int) : Pure 233 #[x.val, .int .i64 n] (.bool (mayK 1 x n)) := fun w => by
  obtain ⟨⟨vw, vh, vl⟩, ⟨mw, mh, ml⟩, len⟩ := x
  simp only [mayK, Mx.val, Nb.eq, nb0]
  cases e1 : (mw == 0) <;> cases e2 : (mh == 0) <;> cases e3 : (ml == 0) <;> cases e4 : (len == 0)
  all_goals
    go_enter Tryz.func233, Tryz.ntmps233
    go_wp2
    go_ret
    exact ⟨rfl, below1 _ _⟩
theorem exactMat_any (x : Mx) (key : Nb) : Pure 234 #[x.val, key.val] (.bool (matK 1 x key)) := fun w => by
  obtain ⟨⟨vw, vh, vl⟩, ⟨mw, mh, ml⟩, len⟩ := x
  obtain ⟨kw, kh, kl⟩ := key
  simp only [matK, Mx.val, Nb.val, Nb.eq]
  cases e1 : (kw == vw) <;> cases e2 : (kh == vh) <;> cases e3 : (kl == vl)
  all_goals
    go_enter Tryz.func234, Tryz.ntmps234
    go_wp2
    go_ret
    exact ⟨rfl, below2 _ _ _⟩
set_option maxHeartbeats 1000000 in
theorem maskMay_any (x : Mx) (n : Int) (hx : MxR x) : Pure 238 #[x.val, .int .i64 n] (.bool (mayK 3 x n)) := fun w => by
  have HW : Hid (Pure _ _ _) := isWide_any x.m n hx.m
  have HC : Hid (Pure _ _ _) := covers_any x.m x.v
  clear hx
  simp only [mayK]
  generalize wide x.m n = t1 at *
  generalize covB x.m x.v = t2 at *
  obtain ⟨⟨vw, vh, vl⟩, ⟨mw, mh, ml⟩, len⟩ := x
  simp only [Mx.val, Nb.val] at *
  cases t1
  · go_enter Tryz.func238, Tryz.ntmps238
    go_wp2_with (go_at_call 135; refine (HW.out _).mono ?_; rintro e w1 ⟨rfl, hb⟩)
    go_ret
    exact ⟨rfl, bstep (below1 _ _) hb⟩
  · cases t2
    · go_enter Tryz.func238, Tryz.ntmps238
      go_wp2_with (first | (go_at_call 135; refine (HW.out _).mono ?_; rintro e w1 ⟨rfl, hb⟩; obtain ⟨p0, p1, p2, p3, p4, p5, p6⟩ := at7 (heap_below hb (heap_alloc_new _ _))) | (go_at_call 239; refine (HC.out _).mono ?_; rintro e w2 ⟨rfl, hb2⟩))
      go_ret
      exact ⟨rfl, bstep (bstep (below1 _ _) hb) hb2⟩
    · cases e4 : (len == 0)
      all_goals
        go_enter Tryz.func238, Tryz.ntmps238
        go_wp2_with (first | (go_at_call 135; refine (HW.out _).mono ?_; rintro e w1 ⟨rfl, hb⟩; obtain ⟨p0, p1, p2, p3, p4, p5, p6⟩ := at7 (heap_below hb (heap_alloc_new _ _))) | (go_at_call 239; refine (HC.out _).mono ?_; rintro e w2 ⟨rfl, hb2⟩; obtain ⟨r0, r1, r2, r3, r4, r5, r6⟩ := at7 (heap_below hb2 (heap_below hb (heap_alloc_new _ _)))))
        go_ret
        exact ⟨rfl, bstep (bstep (below1 _ _) hb) hb2⟩
set_option maxHeartbeats 1000000 in
theorem rangeMay_any (x : Mx) (n : Int) (hx : MxR x) : Pure 242 #[x.val, .int .i64 n] (.bool (mayK 4 x n)) := fun w => by
  have HW : Hid (Pure _ _ _) := isWide_any x.m n hx.m
  have HC : Hid (Pure _ _ _) := atMost_any x.v x.m
  clear hx
  simp only [mayK]
  generalize wide x.m n = t1 at *
  generalize atmB x.v x.m = t2 at *
  obtain ⟨⟨vw, vh, vl⟩, ⟨mw, mh, ml⟩, len⟩ := x
  simp only [Mx.val, Nb.val] at *
  cases t1
  · go_enter Tryz.func242, Tryz.ntmps242
    go_wp2_with (go_at_call 135; refine (HW.out _).mono ?_; rintro e w1 ⟨rfl, hb⟩)
    go_ret
    exact ⟨rfl, bstep (below1 _ _) hb⟩
  · cases t2
    · go_enter Tryz.func242, Tryz.ntmps242
      go_wp2_with (first | (go_at_call 135; refine (HW.out _).mono ?_; rintro e w1 ⟨rfl, hb⟩; obtain ⟨p0, p1, p2, p3, p4, p5, p6⟩ := at7 (heap_below hb (heap_alloc_new _ _))) | (go_at_call 243; refine (HC.out _).mono ?_; rintro e w2 ⟨rfl, hb2⟩))
      go_ret
      exact ⟨rfl, bstep (bstep (below1 _ _) hb) hb2⟩
    · cases e4 : (len == 0)
      all_goals
        go_enter Tryz.func242, Tryz.ntmps242
        go_wp2_with (first | (go_at_call 135; refine (HW.out _).mono ?_; rintro e w1 ⟨rfl, hb⟩; obtain ⟨p0, p1, p2, p3, p4, p5, p6⟩ := at7 (heap_below hb (heap_alloc_new _ _))) | (go_at_call 243; refine (HC.out _).mono ?_; rintro e w2 ⟨rfl, hb2⟩; obtain ⟨r0, r1, r2, r3, r4, r5, r6⟩ := at7 (heap_below hb2 (heap_below hb (heap_alloc_new _ _)))))
        go_ret
        exact ⟨rfl, bstep (bstep (below1 _ _) hb) hb2⟩
theorem maskMat_any (x : Mx) (key : Nb) (hx : MxR x) : Pure 240 #[x.val, key.val] (.bool (matK 3 x key)) := fun w => by
  have HW : Hid (Pure _ _ _) := isWide_any x.m key.w hx.m
  have HC : Hid (Pure _ _ _) := alike_any key x.v x.m
  clear hx
  simp only [matK]
  generalize wide x.m key.w = t1 at *
  generalize aliB key x.v x.m = t2 at *
  obtain ⟨⟨vw, vh, vl⟩, ⟨mw, mh, ml⟩, len⟩ := x
  obtain ⟨kw, kh, kl⟩ := key
  simp only [Mx.val, Nb.val] at *
  cases t1
  · go_enter Tryz.func240, Tryz.ntmps240
    go_wp2_with (go_at_call 135; refine (HW.out _).mono ?_; rintro e w1 ⟨rfl, hb⟩)
    go_ret
    exact ⟨rfl, bstep (below2 _ _ _) hb⟩
  · go_enter Tryz.func240, Tryz.ntmps240
    go_wp2_with (first | (go_at_call 135; refine (HW.out _).mono ?_; rintro e w1 ⟨rfl, hb⟩; obtain ⟨p0, p1, p2, p3, p4, p5, p6⟩ := at7 (heap_below hb (heap_past _ (heap_alloc_new _ _))); obtain ⟨q0, q1, q2, -⟩ := at3 (heap_below hb (heap_snd _ _ _ _))) | (go_at_call 241; refine (HC.out _).mono ?_; rintro e w2 ⟨rfl, hb2⟩))
    go_ret
    exact ⟨by simp, bstep (bstep (below2 _ _ _) hb) hb2⟩
theorem rangeMat_any (x : Mx) (key : Nb) (hx : MxR x) : Pure 244 #[x.val, key.val] (.bool (matK 4 x key)) := fun w => by
  have HW : Hid (Pure _ _ _) := isWide_any x.m key.w hx.m
  have HC : Hid (Pure _ _ _) := atMost_any x.v key
  have HD : Hid (Pure _ _ _) := atMost_any key x.m
  clear hx
  simp only [matK]
  generalize wide x.m key.w = t1 at *
  generalize atmB x.v key = t2 at *
  generalize atmB key x.m = t3 at *
  obtain ⟨⟨vw, vh, vl⟩, ⟨mw, mh, ml⟩, len⟩ := x
  obtain ⟨kw, kh, kl⟩ := key
  simp only [Mx.val, Nb.val] at *
  cases t1
  · go_enter Tryz.func244, Tryz.ntmps244
    go_wp2_with (go_at_call 135; refine (HW.out _).mono ?_; rintro e w1 ⟨rfl, hb⟩)
    go_ret
    exact ⟨rfl, bstep (below2 _ _ _) hb⟩
  · cases t2
    · go_enter Tryz.func244, Tryz.ntmps244
      go_wp2_with fail
      refine (HW.out _).mono ?_
      rintro e w1 ⟨rfl, hb⟩
      obtain ⟨p0, p1, p2, p3, p4, p5, p6⟩ := at7 (heap_below hb (heap_past _ (heap_alloc_new _ _)))
      obtain ⟨q0, q1, q2, -⟩ := at3 (heap_below hb (heap_snd _ _ _ _))
      go_wp2_with fail
      refine (HC.out _).mono ?_
      rintro e w2 ⟨rfl, hb2⟩
      go_wp2
      go_ret
      exact ⟨rfl, bstep (bstep (below2 _ _ _) hb) hb2⟩
    · go_enter Tryz.func244, Tryz.ntmps244
      go_wp2_with fail
      refine (HW.out _).mono ?_
      rintro e w1 ⟨rfl, hb⟩
      have h7 := heap_below hb (heap_past _ (heap_alloc_new _ _))
      have h3 := heap_below hb (heap_snd _ _ _ _)
      obtain ⟨p0, p1, p2, p3, p4, p5, p6⟩ := at7 h7
      obtain ⟨q0, q1, q2, -⟩ := at3 h3
      have H7 := hide h7
      have H3 := hide h3
      clear h7 h3
      go_wp2_with fail
      refine (HC.out _).mono ?_
      rintro e w2 ⟨rfl, hb2⟩
      obtain ⟨r0, r1, r2, r3, r4, r5, r6⟩ := at7 (heap_below hb2 H7.out)
      obtain ⟨s0, s1, s2, -⟩ := at3 (heap_below hb2 H3.out)
      go_wp2_with fail
      refine (HD.out _).mono ?_
      rintro e w3 ⟨rfl, hb3⟩
      go_wp2
      go_ret
      exact ⟨by simp, bstep (bstep (bstep (below2 _ _ _) hb) hb2) hb3⟩
end Go.Proofs.YteflnicgohjiiaaGreatDoor
