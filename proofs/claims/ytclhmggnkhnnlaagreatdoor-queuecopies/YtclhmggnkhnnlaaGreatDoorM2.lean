/- Pieces of the proof: RowLm, FrM. -/
import Derived.Test.YtclhmggnkhnnlaaGreatDoorM1
import Derived.SizedLaws
import Derived.Maps.AppendAt
/- What came in, opened: a list of lists of bytes. (RowL without the disk's stems.) -/
namespace Go.Proofs.YtclhmggnkhnnlaaGreatDoor
open Go.ChangeShapes Go.WideShapes Go.ChangeAt Go.RowKit

set_option maxRecDepth 100000 in
theorem placeT {W : World} {base : Nat} {t e : TypeId} {a : Addr} {len cap : Nat} (ht : Tryz.prog.underlying t = some (.slice e)) (h : Value.okWide Tryz.prog W .any base t (.slice (some a) len cap)) : a.spot = none ∧ a.block < W.heap.size ∧ len ≤ cap ∧ cap ≤ 9223372036854775807 := by
  simp only [Value.okWide, ht, Cell.okWide] at h
  simp only [Cell.ok, ht] at h
  obtain ⟨h1, h2, _, h4, row, cells, h5, _⟩ := h
  refine ⟨h4, ?_, h1, ?_⟩
  · unfold World.shape? at h5
    cases hb : W.heap[a.block]? with
    | none => rw [hb] at h5; simp at h5
    | some o => exact (Array.getElem?_eq_some_iff.1 hb).1
  · have : IntKind.i64.max = 9223372036854775807 := by decide
    omega
theorem exists_list {α : Type} (n : Nat) (Q : Nat → α → Prop) (h : ∀ i, i < n → ∃ a, Q i a) : ∃ l : List α, l.length = n ∧ ∀ i (h : i < l.length), Q i l[i] := by
  induction n with
  | zero => exact ⟨[], rfl, fun i h => by simp at h⟩
  | succ n ih =>
    obtain ⟨l, h1, h2⟩ := ih (fun i hi => h i (by omega))
    obtain ⟨a, ha⟩ := h n (by omega)
    refine ⟨l ++ [a], by simp [h1], fun i hi => ?_⟩
    by_cases e : i < l.length
    · rw [List.getElem_append_left e]; exact h2 i e
    · have : i = l.length := by simp at hi; omega
      subst this
      simp only [List.getElem_concat_length]
      rw [h1]; exact ha
theorem mem_weightsAll {H : Type} {P : Program} {e : TypeId} {d : DataW H} : ∀ {ds : List (DataW H)}, d ∈ ds → ∀ x ∈ d.weights P e, x ∈ DataW.weightsAll P e ds := by
  intro ds
  induction ds with
  | nil => intro h; simp at h
  | cons y r ih =>
    intro h x hx
    rw [DataW.weightsAll]
    rcases List.mem_cons.1 h with rfl | h
    · exact List.mem_append_left _ hx
    · exact List.mem_append_right _ (ih h x hx)
theorem bytes8 : Tryz.prog.bytesOf 5 = 1 := by kernel_rfl
theorem cellsS : Tryz.prog.cellsOf 24 = 1 := by kernel_rfl
theorem cell_lt {W : World} {a : Addr} {v : Value} (h : W.cell? a = some v) : a.spot = none ∧ a.block < W.heap.size := by
  unfold World.cell? at h
  cases hb : W.heap[a.block]? with
  | none => rw [hb] at h; simp at h
  | some o =>
    refine ⟨?_, (Array.getElem?_eq_some_iff.1 hb).1⟩
    rw [hb] at h
    cases o with
    | cells c t f =>
      simp only at h
      split at h
      · cases h
      · rename_i hs; simpa using hs
    | _ => simp at h
/- One list of bytes, off a cell. -/
set_option maxRecDepth 100000 in
theorem open_it {H : Type} {enc : TypeId × Value → H} {W : World} {base fuel : Nat} {v : Value} {x : DataW H × List MemPlace} (h : DataW.trod enc Tryz.prog W base (fun _ => true) true fuel 24 [v] = some x) (hw : ∀ n ∈ x.1.weights Tryz.prog 24, n ≤ reachBytes) :
    ∃ it : It, v = .slice it.a it.xs.length it.cap ∧ ItOk W it ∧ it.cap ≤ 140737488355328 ∧ ∀ y ∈ it.xs, y < 256 := by
  rcases open_ints Tryz.underlying24 Tryz.underlying5 cellsB8 h with ⟨hcs, _⟩ | ⟨a, len, cap, zs, hcs, _, hl, _, hzl, hx, hc, hwf⟩
  · simp at hcs
    subst hcs
    exact ⟨⟨none, 0, []⟩, rfl, ⟨.inl rfl, Nat.le_refl _, fun _ => rfl, Nat.zero_le _⟩, Nat.zero_le _, fun y hy => by simp at hy⟩
  · simp at hcs
    subst hcs
    have hzl' : zs.length = cap := by simpa using hzl
    have hlen : len = ((zs.take len).map Int.toNat).length := by simp; omega
    have hcap : cap ≤ 140737488355328 := by
      have := hw (((lits .u8 (zs.take len) : List (DataW H)).length + (lits .u8 (zs.drop len) : List (DataW H)).length) * Tryz.prog.bytesOf 5) (by rw [hx, DataW.weights, Tryz.underlying24]; exact List.mem_cons_self ..)
      rw [bytes8] at this
      simp [lits] at this
      unfold reachBytes at this
      omega
    refine ⟨⟨some a, cap, (zs.take len).map Int.toNat⟩, by rw [← hlen], ⟨?_, by rw [← hlen]; exact hl, (fun e => by cases e), by rw [← hlen]; omega⟩, hcap, fun y hy => ?_⟩
    · by_cases h0 : len = 0
      · left; simp [h0]
      · have hz := cell_lt (hc 0 (by omega))
        obtain ⟨b, off, sp⟩ := a
        have e0 : (⟨b, off, sp⟩ : Addr).add 0 = ⟨b, off, sp⟩ := by simp [Addr.add]
        rw [e0] at hz
        obtain ⟨rfl, hlt⟩ : sp = none ∧ b < W.heap.size := hz
        refine .inr ⟨b, off, rfl, hlt, fun i hi => ?_⟩
        rw [← hlen] at hi
        have h1 := hc i (by omega)
        rw [add_at] at h1
        have hi2 : i < zs.length := by omega
        have h2 : zs.getD i 0 = zs[i] := by rw [List.getD_eq_getElem?_getD, List.getElem?_eq_getElem hi2]; rfl
        have h3 := byteD (hwf zs[i] (List.getElem_mem hi2))
        rw [h1, h2]
        simp only [List.getElem_map, List.getElem_take]
        rw [Int.toNat_of_nonneg h3.1]
    · obtain ⟨n, hn, rfl⟩ := List.mem_map.1 hy
      have := byteD (hwf n (List.mem_of_mem_take hn)); omega
set_option maxRecDepth 100000 in
theorem open_its {H : Type} {enc : TypeId × Value → H} {W : World} {base fuel : Nat} {base2 : Nat} {a0 : Option Addr} {len cap : Nat} {x : DataW H × List MemPlace} (hok : Value.okWide Tryz.prog W .any base 142 (.slice a0 len cap)) (h : DataW.trod enc Tryz.prog W base2 (fun _ => true) true fuel 142 (Value.slice a0 len cap).cells.toList = some x) (hw : ∀ n ∈ x.1.weights Tryz.prog 142, n ≤ reachBytes) :
    ∃ ls : List It, len = ls.length ∧ RdL W a0 ls ∧ len ≤ cap ∧ (∀ it ∈ ls, it.cap ≤ 140737488355328 ∧ ∀ y ∈ it.xs, y < 256) ∧ (a0 = none → cap = 0) := by
  rcases DataW.trod_slice Tryz.underlying142 h with ⟨hcs, _⟩ | ⟨a, len', cap', elems, rest, n, _, hcs, hx, _, hl, _, hlen, hel, _⟩
  · simp [Value.cells] at hcs
    obtain ⟨rfl, rfl, rfl⟩ := hcs
    exact ⟨[], rfl, ⟨.inl rfl, fun it hi => by simp at hi⟩, Nat.le_refl _, fun it hi => by simp at hi, fun _ => rfl⟩
  · simp [Value.cells] at hcs
    obtain ⟨rfl, rfl, rfl⟩ := hcs
    obtain ⟨hs, hlt, hlc, hcm⟩ := placeT Tryz.underlying142 hok
    obtain ⟨b, off, sp⟩ := a
    obtain rfl : sp = none := hs
    obtain ⟨ls, hll, hls⟩ := exists_list (α := It) len (fun i it => W.cell? ⟨b, off + i, none⟩ = some (.slice it.a it.xs.length it.cap) ∧ ItOk W it ∧ it.cap ≤ 140737488355328 ∧ ∀ y ∈ it.xs, y < 256) (fun i hi => by
      have hE := hel i hi
      rw [cellsS, Nat.mul_one] at hE
      have hi' : i < elems.length := by omega
      rw [List.getElem?_eq_getElem hi', Option.bind_eq_some_iff] at hE
      obtain ⟨cs', hcs', hy⟩ := hE
      obtain ⟨v, rfl, hcell⟩ : ∃ v, cs' = [v] ∧ W.cell? ((⟨b, off, none⟩ : Addr).add i) = some v := by
        obtain ⟨v, hv⟩ : ∃ v, cs' = [v] := by
          unfold World.cells? at hcs'
          split at hcs'
          · simp only [List.range_succ, List.range_zero, List.nil_append, List.mapM_cons, List.mapM_nil] at hcs'
            cases hcc : W.cell? (((⟨b, off, none⟩ : Addr).add i).add 0) with
            | none => simp [hcc] at hcs'
            | some c => simp [hcc] at hcs'; exact ⟨c, hcs'.symm⟩
          · cases hcs'
        subst hv
        exact ⟨v, rfl, cell_of_cells?_one hcs'⟩
      obtain ⟨it, h1, h2⟩ := open_it hy (fun m hm => hw m (by
        rw [hx, DataW.weights, Tryz.underlying142]
        exact List.mem_cons_of_mem _ (List.mem_append_left _ (mem_weightsAll (List.mem_map.2 ⟨_, List.getElem_mem hi', rfl⟩) m hm))))
      rw [add_at, h1] at hcell
      exact ⟨it, hcell, h2⟩)
    refine ⟨ls, hll.symm, ⟨.inr ⟨b, off, rfl, hlt, fun i hi => (hls i hi).1⟩, fun it hi => ?_⟩, hlc, fun it hi => ?_, fun e => by cases e⟩
    · obtain ⟨i, hi2, rfl⟩ := List.getElem_of_mem hi
      exact (hls i hi2).2.1
    · obtain ⟨i, hi2, rfl⟩ := List.getElem_of_mem hi
      exact (hls i hi2).2.2
end Go.Proofs.YtclhmggnkhnnlaaGreatDoor
/- What a call may touch: all blocks but some stay. -/
namespace Go.Proofs.YtclhmggnkhnnlaaGreatDoor
open Go.RowKit

structure Fr (E : Nat → Prop) (W W' : World) : Prop where
  os : W'.os = W.os
  tape : W'.tape = W.tape
  output : W'.output = W.output
  size : W.heap.size ≤ W'.heap.size
  block : ∀ b, b < W.heap.size → ¬ E b → W'.heap[b]? = W.heap[b]?
theorem Fr.refl (E : Nat → Prop) (W : World) : Fr E W W := ⟨rfl, rfl, rfl, Nat.le_refl _, fun _ _ _ => rfl⟩
theorem Fr.trans {E E' : Nat → Prop} {W W1 W2 : World} (h : Fr E W W1) (k : Fr E' W1 W2) (hE : ∀ b, b < W.heap.size → E' b → E b) : Fr E W W2 :=
  ⟨k.os.trans h.os, k.tape.trans h.tape, k.output.trans h.output, Nat.le_trans h.size k.size, fun b hb hn => (k.block b (Nat.lt_of_lt_of_le hb h.size) (fun e => hn (hE b hb e))).trans (h.block b hb hn)⟩
theorem Fr.ofBelow {E : Nat → Prop} {W W' : World} (h : Below W.heap.size W W') : Fr E W W' := ⟨h.os, h.tape, h.output, h.size, fun b hb _ => h.block b hb⟩
theorem Fr.below {E : Nat → Prop} {B : Nat} {W W' : World} (h : Fr E W W') (hE : ∀ b, E b → B ≤ b) (hB : B ≤ W.heap.size) : Below B W W' :=
  ⟨h.os, h.tape, h.output, h.size, fun b hb => h.block b (by omega) (fun e => by have := hE b e; omega)⟩
theorem Fr.drew {E : Nat → Prop} {W W' : World} (h : Fr E W W') : Fr E W W'.drew := ⟨h.os, h.tape, h.output, h.size, h.block⟩
theorem Fr.drewN {E : Nat → Prop} {W W' : World} (h : Fr E W W') (n : Nat) : Fr E W (W'.drewN n) := ⟨h.os, h.tape, h.output, h.size, h.block⟩
theorem Fr.grown {E : Nat → Prop} {W W' : World} {row : Option Nat} (h : W.grownBy W' row) (hE : ∀ r, row = some r → E r) : Fr E W W' := by
  exact ⟨h.os, h.tape, h.output, h.size, fun b hb hn => h.block b hb (fun e => hn (hE b e.symm))⟩
theorem Fr.set {E : Nat → Prop} {W W' : World} (h : Fr E W W') (p : Addr) (v : Value) (hE : E p.block) : Fr E W (W'.setCell p v) := by
  have hb := (Below.refl 0 W').setCell (p := p) (Nat.zero_le _) v
  exact ⟨hb.os.trans h.os, hb.tape.trans h.tape, hb.output.trans h.output, Nat.le_trans h.size hb.size, fun b hb hn => by rw [Below.heap_setCell _ _ _ _ (fun e => hn (by rw [e]; exact hE))]; exact h.block b hb hn⟩
theorem Fr.alloc {E : Nat → Prop} {W W' : World} (h : Fr E W W') (o : Obj) : Fr E W (W'.alloc o) := h.trans (E' := fun _ => False) (Fr.ofBelow ((Below.refl _ _).alloc (Nat.le_refl _) o)) (fun _ _ e => e.elim)
theorem Fr.cell {E : Nat → Prop} {W W' : World} (h : Fr E W W') {b o : Nat} {v : Value} (hc : W.cell? ⟨b, o, none⟩ = some v) (hn : ¬ E b) : W'.cell? ⟨b, o, none⟩ = some v :=
  (World.cell?_of_block (w := W) (a := ⟨b, o, none⟩) (h.block b (World.block_lt_of_cell? W _ hc) hn)).trans hc
end Go.Proofs.YtclhmggnkhnnlaaGreatDoor
