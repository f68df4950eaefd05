/- What came in, opened: a list of acts. -/
import Derived.Test.YtnihneicoikdhaaGreatDoorRowLm
import Derived.Test.YtnihneicoikdhaaGreatDoorQvX
import Derived.Deep.Strs
namespace Go.Proofs.YtnihneicoikdhaaGreatDoor
open Go.ChangeShapes Go.WideShapes Go.ChangeAt Go.RowKit

theorem cellsAct : Tryz.prog.cellsOf 72 = 4 := by kernel_rfl
theorem cellsCp : Tryz.prog.cellsOf 37 = 2 := by kernel_rfl
theorem cellsIn : Tryz.prog.cellsOf 3 = 1 := by kernel_rfl
theorem cellsBo : Tryz.prog.cellsOf 4 = 1 := by kernel_rfl
theorem cells_four {W : World} {base : Nat} {a : Addr} {cs : List Value} (h : W.cells? base a 4 = some cs) : ∃ u v x y, cs = [u, v, x, y] ∧ W.cell? a = some u ∧ W.cell? (a.add 1) = some v ∧ W.cell? (a.add 2) = some x ∧ W.cell? (a.add 3) = some y := by
  unfold World.cells? at h
  split at h
  · simp only [List.range_succ, List.range_zero, List.nil_append, List.cons_append, List.mapM_cons, List.mapM_nil] at h
    cases h0 : W.cell? (a.add 0) with
    | none => simp [h0] at h
    | some u =>
      cases h1 : W.cell? (a.add 1) with
      | none => simp [h0, h1] at h
      | some v =>
        cases h2 : W.cell? (a.add 2) with
        | none => simp [h0, h1, h2] at h
        | some x =>
          cases h3 : W.cell? (a.add 3) with
          | none => simp [h0, h1, h2, h3] at h
          | some y =>
            simp [h0, h1, h2, h3] at h
            refine ⟨u, v, x, y, h.symm, ?_, rfl, rfl, rfl⟩
            have e : a.add 0 = a := by simp [Addr.add]
            rw [← e]; exact h0
  · cases h
/- One list of bytes, off a cell; as long as memory lets it be. -/
set_option maxRecDepth 100000 in
theorem open_itR {H : Type} {enc : TypeId × Value → H} {W : World} {base fuel : Nat} {v : Value} {x : DataW H × List MemPlace} (h : DataW.trod enc Tryz.prog W base (fun _ => true) true fuel 35 [v] = some x) (hw : ∀ n ∈ x.1.weights Tryz.prog 35, n ≤ reachBytes) :
    ∃ it : It, v = .slice it.a it.xs.length it.cap ∧ ItOk W it ∧ it.xs.length ≤ 140737488351232 := by
  obtain ⟨it, h1, h2, h3, _⟩ := open_it h hw
  refine ⟨it, h1, h2, ?_⟩
  rcases open_ints Tryz.underlying35 Tryz.underlying5 cellsB8 h with ⟨hcs, _⟩ | ⟨a, len, cap, zs, hcs, _, hl, _, hzl, hx, hc, hwf⟩
  · simp at hcs
    rw [h1] at hcs
    injection hcs with _ hcs _
    omega
  · simp at hcs
    rw [h1] at hcs
    injection hcs with _ hcs _
    have hzl' : zs.length = cap := by simpa using hzl
    have := hw (((lits .u8 (zs.take len) : List (DataW H)).length + (lits .u8 (zs.drop len) : List (DataW H)).length) * Tryz.prog.bytesOf 5) (by rw [hx, DataW.weights, Tryz.underlying35]; exact List.mem_cons_self ..)
    rw [bytes8] at this
    simp [lits] at this
    unfold reachBytes at this
    omega
set_option maxRecDepth 100000 in
theorem trod_bool1 {H : Type} {enc : TypeId × Value → H} {W : World} {base fuel : Nat} {v : Value} {x : DataW H × List MemPlace} (h : DataW.trod enc Tryz.prog W base (fun _ => true) true fuel 4 [v] = some x) : ∃ b, v = .bool b := by
  cases fuel with
  | zero => simp [DataW.trod] at h
  | succ n =>
    simp only [DataW.trod, Tryz.underlying4] at h
    cases v with
    | bool b => exact ⟨b, rfl⟩
    | _ => simp at h
set_option maxRecDepth 100000 in
theorem open_acts {H : Type} {enc : TypeId × Value → H} {W : World} {base fuel : Nat} {base2 : Nat} {a0 : Option Addr} {len cap : Nat} {x : DataW H × List MemPlace} (hok : Value.okWide Tryz.prog W .any base 22 (.slice a0 len cap)) (h : DataW.trod enc Tryz.prog W base2 (fun _ => true) true fuel 22 (Value.slice a0 len cap).cells.toList = some x) (hw : ∀ n ∈ x.1.weights Tryz.prog 22, n ≤ reachBytes) :
    ∃ qs : List Qa, len = qs.length ∧ RdQ W a0 qs := by
  rcases DataW.trod_slice Tryz.underlying22 h with ⟨hcs, _⟩ | ⟨a, len', cap', elems, rest, n, _, hcs, hx, _, hl, _, hlen, hel, _⟩
  · simp [Value.cells] at hcs
    obtain ⟨rfl, rfl, rfl⟩ := hcs
    exact ⟨[], rfl, ⟨.inl rfl, fun it hi => by simp at hi⟩⟩
  · simp [Value.cells] at hcs
    obtain ⟨rfl, rfl, rfl⟩ := hcs
    obtain ⟨hs, hlt, hlc, hcm⟩ := placeT Tryz.underlying22 hok
    obtain ⟨b, off, sp⟩ := a
    obtain rfl : sp = none := hs
    have hwx : x.1.weights Tryz.prog 22 = ((elems.map (·.1)).length + (rest.map (·.1)).length) * Tryz.prog.bytesOf 72 :: (DataW.weightsAll Tryz.prog 72 (elems.map (·.1)) ++ DataW.weightsAll Tryz.prog 72 (rest.map (·.1))) := by
      rw [hx, DataW.weights, Tryz.underlying22]
    obtain ⟨os, hll, hls⟩ := exists_list (α := Qa) len (fun i o => W.cell? ⟨b, off + i * 4, none⟩ = some (.bool o.put) ∧ W.cell? ⟨b, off + i * 4 + 1, none⟩ = some (.int .i64 o.port) ∧ W.cell? ⟨b, off + i * 4 + 2, none⟩ = some (.slice o.a o.xs.length o.cap) ∧ W.cell? ⟨b, off + i * 4 + 3, none⟩ = some (.int .i64 o.n) ∧ QaOk W o) (fun i hi => by
      have hE := hel i hi
      rw [cellsAct] at hE
      have hi' : i < elems.length := by omega
      rw [List.getElem?_eq_getElem hi', Option.bind_eq_some_iff] at hE
      obtain ⟨cs', hcs', hy⟩ := hE
      obtain ⟨u, v, t, z, rfl, hcu, hcv, hct, hcz⟩ := cells_four hcs'
      obtain ⟨y0, y1, y2, n', hye, _, ht0, ht1, ht2⟩ := Go.Deep.trod_struct3 Tryz.underlying72 hy
      rw [add_at] at hcu hcv hct hcz
      rw [add_at] at hcv hct hcz
      simp only [List.drop_zero, List.drop_succ_cons] at ht0 ht1 ht2
      rw [cellsBo] at ht0
      rw [cellsCp] at ht1
      rw [cellsIn] at ht2
      have ht0' : DataW.trod enc Tryz.prog W base2 (fun _ => true) true n' 4 [u] = some y0 := ht0
      have ht1' : DataW.trod enc Tryz.prog W base2 (fun _ => true) true n' 37 [v, t] = some y1 := ht1
      have ht2' : DataW.trod enc Tryz.prog W base2 (fun _ => true) true n' 3 [z] = some y2 := ht2
      obtain ⟨z0, z1, n'', hze, _, hs0, hs1⟩ := trod_struct2 Tryz.underlying37 ht1'
      simp only [List.drop_zero, List.drop_succ_cons] at hs0 hs1
      rw [cellsIn] at hs0
      rw [cellsS] at hs1
      have hs0' : DataW.trod enc Tryz.prog W base2 (fun _ => true) true n'' 3 [v] = some z0 := hs0
      have hs1' : DataW.trod enc Tryz.prog W base2 (fun _ => true) true n'' 35 [t] = some z1 := hs1
      obtain ⟨it, h1, h2, h3⟩ := open_itR hs1' (fun m hm => hw m (by
        rw [hwx]
        refine List.mem_cons_of_mem _ (List.mem_append_left _ (mem_weightsAll (List.mem_map.2 ⟨_, List.getElem_mem hi', rfl⟩) m ?_))
        rw [hye, DataW.weights, Tryz.underlying72]
        refine List.mem_append_right _ (List.mem_append_left _ ?_)
        rw [hze, DataW.weights, Tryz.underlying37]
        exact List.mem_append_right _ (List.mem_append_left _ hm)))
      obtain ⟨kb, rfl⟩ := trod_bool1 ht0'
      obtain ⟨pz, hpz, _, _⟩ := DataW.trod_int Tryz.underlying3 hs0'
      obtain rfl : v = .int .i64 pz := by simpa using hpz
      obtain ⟨nz, hnz, _, _⟩ := DataW.trod_int Tryz.underlying3 ht2'
      obtain rfl : z = .int .i64 nz := by simpa using hnz
      subst h1
      exact ⟨⟨kb, pz, it.a, it.cap, it.xs, nz⟩, hcu, hcv, hct, hcz, ⟨h2.rd, h2.nn, h3, h2.le⟩⟩)
    refine ⟨os, hll.symm, ⟨.inr ⟨b, off, rfl, hlt, fun i hi => ⟨(hls i hi).1, (hls i hi).2.1, (hls i hi).2.2.1, (hls i hi).2.2.2.1⟩⟩, fun o ho => ?_⟩⟩
    obtain ⟨i, hi2, rfl⟩ := List.getElem_of_mem ho
    exact (hls i hi2).2.2.2.2
end Go.Proofs.YtnihneicoikdhaaGreatDoor
