/- What came in, opened: a list of operations. -/
import Derived.Test.YtgfmkhgdndodkaaGreatDoorRowB
import Derived.Test.YtgfmkhgdndodkaaGreatDoorDkZ
import Derived.SizedLaws
import Derived.Deep.Strs
namespace Go.Proofs.YtgfmkhgdndodkaaGreatDoor
open Go.ChangeShapes Go.WideShapes Go.ChangeAt Go.RowKit

structure It where
  a : Option Addr
  cap : Nat
  xs : List Nat
structure ItOk (W : World) (it : It) : Prop where
  rd : RdA W it.a it.xs
  le : it.xs.length ≤ it.cap
  nn : it.a = none → it.cap = 0
  ln : it.xs.length ≤ 140737488355328

set_option maxRecDepth 100000 in
theorem placeT {W : World} {base : Nat} {t e : TypeId} {a : Addr} {len cap : Nat} (ht : Tryz.prog.underlying t = some (.slice e)) (h : Value.okWide Tryz.prog W .any base t (.slice (some a) len cap)) : a.spot = none ∧ a.block < W.heap.size ∧ len ≤ cap ∧ cap ≤ 9223372036854775807 := by
  simp only [Value.okWide, ht, Cell.okWide] at h
  simp only [Cell.ok, ht] at h
  obtain ⟨h1, h2, _, h4, row, cells, h5, _⟩ := h
  refine ⟨h4, ?_, h1, ?_⟩
  · unfold World.shape? at h5
    cases hb : W.heap[a.block]? with
    | none => rw [hb] at h5; simp at h5
    | some o => exact (Array.getElem?_eq_some_iff.1 hb).1
  · have : IntKind.i64.max = 9223372036854775807 := by decide
    omega
theorem exists_list {α : Type} (n : Nat) (Q : Nat → α → Prop) (h : ∀ i, i < n → ∃ a, Q i a) : ∃ l : List α, l.length = n ∧ ∀ i (h : i < l.length), Q i l[i] := by
  induction n with
  | zero => exact ⟨[], rfl, fun i h => by simp at h⟩
  | succ n ih =>
    obtain ⟨l, h1, h2⟩ := ih (fun i hi => h i (by omega))
    obtain ⟨a, ha⟩ := h n (by omega)
    refine ⟨l ++ [a], by simp [h1], fun i hi => ?_⟩
    by_cases e : i < l.length
    · rw [List.getElem_append_left e]; exact h2 i e
    · have : i = l.length := by simp at hi; omega
      subst this
      simp only [List.getElem_concat_length]
      rw [h1]; exact ha
theorem mem_weightsAll {H : Type} {P : Program} {e : TypeId} {d : DataW H} : ∀ {ds : List (DataW H)}, d ∈ ds → ∀ x ∈ d.weights P e, x ∈ DataW.weightsAll P e ds := by
  intro ds
  induction ds with
  | nil => intro h; simp at h
  | cons y r ih =>
    intro h x hx
    rw [DataW.weightsAll]
    rcases List.mem_cons.1 h with rfl | h
    · exact List.mem_append_left _ hx
    · exact List.mem_append_right _ (ih h x hx)
theorem bytes8 : Tryz.prog.bytesOf 5 = 1 := by kernel_rfl
theorem cellsS : Tryz.prog.cellsOf 31 = 1 := by kernel_rfl
theorem cell_lt {W : World} {a : Addr} {v : Value} (h : W.cell? a = some v) : a.spot = none ∧ a.block < W.heap.size := by
  unfold World.cell? at h
  cases hb : W.heap[a.block]? with
  | none => rw [hb] at h; simp at h
  | some o =>
    refine ⟨?_, (Array.getElem?_eq_some_iff.1 hb).1⟩
    rw [hb] at h
    cases o with
    | cells c t f =>
      simp only at h
      split at h
      · cases h
      · rename_i hs; simpa using hs
    | _ => simp at h
/- One list of bytes, off a cell. -/
set_option maxRecDepth 100000 in
theorem open_it {H : Type} {enc : TypeId × Value → H} {W : World} {base fuel : Nat} {v : Value} {x : DataW H × List MemPlace} (h : DataW.trod enc Tryz.prog W base (fun _ => true) true fuel 31 [v] = some x) (hw : ∀ n ∈ x.1.weights Tryz.prog 31, n ≤ reachBytes) :
    ∃ it : It, v = .slice it.a it.xs.length it.cap ∧ ItOk W it ∧ it.cap ≤ 140737488355328 ∧ ∀ y ∈ it.xs, y < 256 := by
  rcases open_ints Tryz.underlying31 Tryz.underlying5 cellsB8 h with ⟨hcs, _⟩ | ⟨a, len, cap, zs, hcs, _, hl, _, hzl, hx, hc, hwf⟩
  · simp at hcs
    subst hcs
    exact ⟨⟨none, 0, []⟩, rfl, ⟨.inl rfl, Nat.le_refl _, fun _ => rfl, Nat.zero_le _⟩, Nat.zero_le _, fun y hy => by simp at hy⟩
  · simp at hcs
    subst hcs
    have hzl' : zs.length = cap := by simpa using hzl
    have hlen : len = ((zs.take len).map Int.toNat).length := by simp; omega
    have hcap : cap ≤ 140737488355328 := by
      have := hw (((lits .u8 (zs.take len) : List (DataW H)).length + (lits .u8 (zs.drop len) : List (DataW H)).length) * Tryz.prog.bytesOf 5) (by rw [hx, DataW.weights, Tryz.underlying31]; exact List.mem_cons_self ..)
      rw [bytes8] at this
      simp [lits] at this
      unfold reachBytes at this
      omega
    refine ⟨⟨some a, cap, (zs.take len).map Int.toNat⟩, by rw [← hlen], ⟨?_, by rw [← hlen]; exact hl, (fun e => by cases e), by rw [← hlen]; omega⟩, hcap, fun y hy => ?_⟩
    · by_cases h0 : len = 0
      · left; simp [h0]
      · have hz := cell_lt (hc 0 (by omega))
        obtain ⟨b, off, sp⟩ := a
        have e0 : (⟨b, off, sp⟩ : Addr).add 0 = ⟨b, off, sp⟩ := by simp [Addr.add]
        rw [e0] at hz
        obtain ⟨rfl, hlt⟩ : sp = none ∧ b < W.heap.size := hz
        refine .inr ⟨b, off, rfl, hlt, fun i hi => ?_⟩
        rw [← hlen] at hi
        have h1 := hc i (by omega)
        rw [add_at] at h1
        have hi2 : i < zs.length := by omega
        have h2 : zs.getD i 0 = zs[i] := by rw [List.getD_eq_getElem?_getD, List.getElem?_eq_getElem hi2]; rfl
        have h3 := byteD (hwf zs[i] (List.getElem_mem hi2))
        rw [h1, h2]
        simp only [List.getElem_map, List.getElem_take]
        rw [Int.toNat_of_nonneg h3.1]
    · obtain ⟨n, hn, rfl⟩ := List.mem_map.1 hy
      have := byteD (hwf n (List.mem_of_mem_take hn)); omega
theorem wordID {x : Int} (h : (Lit.int .i64 x).wf = true) : -9223372036854775808 ≤ x ∧ x < 9223372036854775808 := by
  simp [Lit.wf, IntKind.min, IntKind.max, IntKind.signed, IntKind.bits] at h
  exact ⟨by omega, by omega⟩
theorem cellsI : Tryz.prog.cellsOf 3 = 1 := by kernel_rfl
theorem cellsT : Tryz.prog.cellsOf 69 = 3 := by kernel_rfl
theorem cells_three {W : World} {base : Nat} {a : Addr} {cs : List Value} (h : W.cells? base a 3 = some cs) : ∃ u v x, cs = [u, v, x] ∧ W.cell? a = some u ∧ W.cell? (a.add 1) = some v ∧ W.cell? (a.add 2) = some x := by
  unfold World.cells? at h
  split at h
  · simp only [List.range_succ, List.range_zero, List.nil_append, List.cons_append, List.mapM_cons, List.mapM_nil] at h
    cases h0 : W.cell? (a.add 0) with
    | none => simp [h0] at h
    | some u =>
      cases h1 : W.cell? (a.add 1) with
      | none => simp [h0, h1] at h
      | some v =>
        cases h2 : W.cell? (a.add 2) with
        | none => simp [h0, h1, h2] at h
        | some x =>
          simp [h0, h1, h2] at h
          refine ⟨u, v, x, h.symm, ?_, rfl, rfl⟩
          have e : a.add 0 = a := by simp [Addr.add]
          rw [← e]; exact h0
  · cases h
set_option maxRecDepth 100000 in
theorem open_sops {H : Type} {enc : TypeId × Value → H} {W : World} {base fuel : Nat} {base2 : Nat} {a0 : Option Addr} {len cap : Nat} {x : DataW H × List MemPlace} (hok : Value.okWide Tryz.prog W .any base 22 (.slice a0 len cap)) (h : DataW.trod enc Tryz.prog W base2 (fun _ => true) true fuel 22 (Value.slice a0 len cap).cells.toList = some x) (hw : ∀ n ∈ x.1.weights Tryz.prog 22, n ≤ reachBytes) :
    ∃ os : List Sop, len = os.length ∧ RdO W a0 os ∧ ∀ o ∈ os, ∀ y ∈ o.xs, y < 256 := by
  rcases DataW.trod_slice Tryz.underlying22 h with ⟨hcs, _⟩ | ⟨a, len', cap', elems, rest, n, _, hcs, hx, _, hl, _, hlen, hel, _⟩
  · simp [Value.cells] at hcs
    obtain ⟨rfl, rfl, rfl⟩ := hcs
    exact ⟨[], rfl, ⟨.inl rfl, fun it hi => by simp at hi⟩, fun it hi => by simp at hi⟩
  · simp [Value.cells] at hcs
    obtain ⟨rfl, rfl, rfl⟩ := hcs
    obtain ⟨hs, hlt, hlc, hcm⟩ := placeT Tryz.underlying22 hok
    obtain ⟨b, off, sp⟩ := a
    obtain rfl : sp = none := hs
    have hwx : x.1.weights Tryz.prog 22 = ((elems.map (·.1)).length + (rest.map (·.1)).length) * Tryz.prog.bytesOf 69 :: (DataW.weightsAll Tryz.prog 69 (elems.map (·.1)) ++ DataW.weightsAll Tryz.prog 69 (rest.map (·.1))) := by
      rw [hx, DataW.weights, Tryz.underlying22]
    obtain ⟨os, hll, hls⟩ := exists_list (α := Sop) len (fun i o => W.cell? ⟨b, off + i * 3, none⟩ = some (.int .u8 (o.k : Nat)) ∧ W.cell? ⟨b, off + i * 3 + 1, none⟩ = some (.int .i64 o.n) ∧ W.cell? ⟨b, off + i * 3 + 2, none⟩ = some (.slice o.a o.xs.length o.cap) ∧ SopOk W o ∧ ∀ y ∈ o.xs, y < 256) (fun i hi => by
      have hE := hel i hi
      rw [cellsT] at hE
      have hi' : i < elems.length := by omega
      rw [List.getElem?_eq_getElem hi', Option.bind_eq_some_iff] at hE
      obtain ⟨cs', hcs', hy⟩ := hE
      obtain ⟨u, v, t, rfl, hcu, hcv, hct⟩ := cells_three hcs'
      obtain ⟨y0, y1, y2, n', hye, _, ht0, ht1, ht2⟩ := Go.Deep.trod_struct3 Tryz.underlying69 hy
      rw [add_at] at hcu hcv hct
      rw [add_at] at hcv hct
      simp only [List.drop_zero, List.drop_succ_cons] at ht0 ht1 ht2
      rw [cellsB8] at ht0
      rw [cellsI] at ht1
      rw [cellsS] at ht2
      have ht0' : DataW.trod enc Tryz.prog W base2 (fun _ => true) true n' 5 [u] = some y0 := ht0
      have ht1' : DataW.trod enc Tryz.prog W base2 (fun _ => true) true n' 3 [v] = some y1 := ht1
      have ht2' : DataW.trod enc Tryz.prog W base2 (fun _ => true) true n' 31 [t] = some y2 := ht2
      obtain ⟨it, h1, h2, h3, h4⟩ := open_it ht2' (fun m hm => hw m (by
        rw [hwx]
        refine List.mem_cons_of_mem _ (List.mem_append_left _ (mem_weightsAll (List.mem_map.2 ⟨_, List.getElem_mem hi', rfl⟩) m ?_))
        rw [hye, DataW.weights, Tryz.underlying69]
        exact List.mem_append_right _ (List.mem_append_right _ (List.mem_append_left _ hm))))
      obtain ⟨kc, hk, _, hkw⟩ := DataW.trod_int Tryz.underlying5 ht0'
      obtain rfl : u = .int .u8 kc := by simpa using hk
      have hkb := byteD hkw
      obtain ⟨kn, rfl⟩ := Int.eq_ofNat_of_zero_le hkb.1
      obtain ⟨z, hz, _, hzw⟩ := DataW.trod_int Tryz.underlying3 ht1'
      obtain rfl : v = .int .i64 z := by simpa using hz
      subst h1
      exact ⟨⟨kn, z, it.a, it.cap, it.xs⟩, hcu, hcv, hct, ⟨by show kn < 256; omega, (wordID hzw).2, h2.rd, h2.le, h2.nn, h2.ln⟩, h4⟩)
    refine ⟨os, hll.symm, ⟨.inr ⟨b, off, rfl, hlt, fun i hi => ⟨(hls i hi).1, (hls i hi).2.1, (hls i hi).2.2.1⟩⟩, fun o ho => ?_⟩, fun o ho => ?_⟩
    · obtain ⟨i, hi2, rfl⟩ := List.getElem_of_mem ho
      exact (hls i hi2).2.2.2.1
    · obtain ⟨i, hi2, rfl⟩ := List.getElem_of_mem ho
      exact (hls i hi2).2.2.2.2
end Go.Proofs.YtgfmkhgdndodkaaGreatDoor
