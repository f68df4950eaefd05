/- CellsApart, as plain data. -/
import Derived.Test.YtngeclnlgoamkaaCeN
namespace Go.Proofs.Ytngeclnlgoamkaa
open Go.RowKit

/- A variable that is made, its cells told by a list. -/
theorem wpList_allocZ {P : Program} {w : World} {ops : Array Oper} {rest : List Oper} {o : Oper} {a : Act} {Q : Exit → Act → World → Prop} (hg : o.guard = none) (t : TypeId) (ho : o.op = .alloc t) (cs : List Value) (hz : ∀ w, (zeroValue t).run P w = .ok (.agg cs.toArray) w)
    (h : ∀ w', Hid (w'.heap[w.heap.size]? = some (.cells cs.toArray t (0, 0))) → Hid (Below w.heap.size w w') → wpList P ops Q rest (a.put o.dst (.pointer (some ⟨w.heap.size, 0, none⟩))) w') : wpList P ops Q (o :: rest) a w := by
  refine wpList_plain hg fun K hK => ?_
  have h3 : (execOp a.eval o).run P w = .ok (.value (.pointer (some ⟨w.heap.size, 0, none⟩))) (w.alloc (.cells cs.toArray t)) := by
    simp [execOp, ho, Instr.alloc, hz, newVar, newRow, Value.cells, Result.andThen]
  unfold Oper.wp
  rw [h3]
  exact hK _ _ (h _ (heap_alloc_new w _) (below1 w _))
def cntF (xs : List Nat) (k v : Nat) : Nat := (xs.take k).count v
theorem cntF_zero (xs : List Nat) (v : Nat) : cntF xs 0 v = 0 := by simp [cntF]
theorem cntF_succ (xs : List Nat) (k v : Nat) (h : k < xs.length) : cntF xs (k + 1) v = cntF xs k v + (if xs[k] = v then 1 else 0) := by
  unfold cntF
  rw [List.take_succ_eq_append_getElem h, List.count_append]
  congr 1
  simp [List.count_singleton]
theorem cntF_le (xs : List Nat) (k v : Nat) : cntF xs k v ≤ xs.length := by
  unfold cntF
  refine Nat.le_trans List.count_le_length ?_
  simp; omega
def arK (n : Nat) (xs : List Nat) (k : Nat) : Ar := ⟨⟨#[99]⟩, 4, 64, 0, 0, (List.range n).map (fun v => (⟨64, 0, (cntF xs k v : Nat)⟩ : Nb)), []⟩
def wantK (n : Nat) (xs : List Nat) (k : Nat) : List Value := (List.range 256).map (fun v => .int .u64 ((if v < n then cntF xs k v else 0 : Nat) : Int))
theorem arK_len (n : Nat) (xs : List Nat) (k : Nat) : (arK n xs k).cs.length = n := by simp [arK]
theorem wantK_len (n : Nat) (xs : List Nat) (k : Nat) : (wantK n xs k).length = 256 := by simp [wantK]
theorem arK_zero (n : Nat) (xs : List Nat) : arK n xs 0 = counterA ⟨#[99]⟩ n 0 0 := by
  unfold arK counterA
  congr 1
  apply List.ext_getElem
  · simp
  · intro i h1 h2
    simp [cntF_zero]
theorem wantK_zero (n : Nat) (xs : List Nat) : wantK n xs 0 = List.replicate 256 (.int .u64 0) := by
  have key : ∀ m : Nat, (List.range m).map (fun v => Value.int .u64 ((if v < n then cntF xs 0 v else 0 : Nat) : Int)) = List.replicate m (.int .u64 0) := fun m => by
    apply List.ext_getElem
    · simp
    · intro i h1 h2
      simp [cntF_zero]
  exact key 256
theorem ok64 {v : Nat} (h : v < 18446744073709551616) : (⟨64, 0, v⟩ : Nb).ok = true := by
  have h1 : cLo 64 (v : Int) = v := by
    rw [cLo_le (by decide)]
    have : (2 : Int) ^ (64 : Int).toNat = 18446744073709551616 := by decide
    rw [this]; omega
  have h2 : cHi 64 0 = 0 := cHi_le (by decide)
  simp [Nb.ok, okB, mayBe, h1, h2]
theorem ok8 {v : Nat} (h : v < 256) : (⟨8, 0, v⟩ : Nb).ok = true := by
  have h1 : cLo 8 (v : Int) = v := by
    rw [cLo_le (by decide)]
    have : (2 : Int) ^ (8 : Int).toNat = 256 := by decide
    rw [this]; omega
  have h2 : cHi 8 0 = 0 := cHi_le (by decide)
  simp [Nb.ok, okB, mayBe, h1, h2]
theorem arK_may (n : Nat) (xs : List Nat) (k : Nat) (h1 : 1 ≤ n) (h2 : n ≤ 4096) (hx : xs.length ≤ 500) : mayA (arK n xs k) = true := by
  unfold mayA
  have e1 : frameB (arK n xs k) = true := by simp [frameB, arK, plainB]
  have e2 : fromB 1 (arK n xs k).cs.length 4096 = true := by rw [arK_len]; simp [fromB]; omega
  have e3 : ((arK n xs k).cs.any fun b => !holdsB (arK n xs k) b) = false := by
    rw [List.any_eq_false]
    intro b hb
    simp only [arK, List.mem_map, List.mem_range] at hb
    obtain ⟨v, _, rfl⟩ := hb
    have := cntF_le xs k v
    have ho : (⟨64, 0, (cntF xs k v : Nat)⟩ : Nb).ok = true := ok64 (by omega)
    simp [holdsB, arK, ho]
  rw [e1, e2, e3]; rfl
theorem arK_g (n : Nat) (xs : List Nat) (k : Nat) (h2 : n ≤ 4096) (hx : xs.length ≤ 500) : ArG (arK n xs k) := by
  refine ⟨by rw [arK_len]; omega, by simp [arK], fun b hb => ?_, fun m hm => by simp [arK] at hm, i64s, i64z, i64z, ⟨by show (0 : Int) ≤ 4; decide, by show (4 : Int) < 256; decide⟩⟩
  simp only [arK, List.mem_map, List.mem_range] at hb
  obtain ⟨v, _, rfl⟩ := hb
  have := cntF_le xs k v
  refine ⟨i64s, u64z, ⟨?_, ?_⟩⟩
  · show (0 : Int) ≤ (cntF xs k v : Nat); omega
  · show ((cntF xs k v : Nat) : Int) < 18446744073709551616; omega
theorem arK_count (n : Nat) (xs : List Nat) (k x : Nat) (h1 : 1 ≤ n) (h2 : n ≤ 4096) (hx : xs.length ≤ 500) (hv : x < 256) : countC (arK n xs k) ⟨8, 0, x⟩ = if x < n then 0 else 11 := by
  unfold countC findA
  have e1 : (⟨8, 0, x⟩ : Nb).ok = true := ok8 hv
  have e0 : ((arK n xs k).kind == 4) = true := rfl
  rw [e0, arK_may n xs k h1 h2 hx, e1, Bool.true_and, Bool.true_and, if_pos rfl, arK_len]
  by_cases h : x < n
  · rw [if_pos h, if_pos ⟨rfl, by show (x : Int) < n; omega⟩]
  · rw [if_neg h, if_neg (fun hh => h (by have : (x : Int) < n := hh.2; omega))]
theorem arK_put (n : Nat) (xs : List Nat) (k : Nat) (h : k < xs.length) (hx : xs.length ≤ 500) (hn : xs[k] < n) : (arK n xs k).put xs[k] (inc ((arK n xs k).cs.getD xs[k] nb0)) = arK n xs (k + 1) := by
  have hle := cntF_le xs k xs[k]
  have hg : (arK n xs k).cs.getD xs[k] nb0 = ⟨64, 0, (cntF xs k xs[k] : Nat)⟩ := by
    rw [List.getD_eq_getElem?_getD, List.getElem?_eq_getElem (by rw [arK_len]; exact hn)]
    simp [arK]
  have hw : IntKind.u64.wrap ((cntF xs k xs[k] : Nat) + 1 : Int) = ((cntF xs k xs[k] + 1 : Nat) : Int) := by rw [IntKind.wrap_u64]; omega
  rw [hg]
  unfold Ar.put inc
  simp only [hw]
  unfold arK
  congr 1
  apply List.ext_getElem
  · simp
  · intro i h1 h2
    simp only [List.getElem_set, List.getElem_map, List.getElem_range]
    rw [cntF_succ xs k i h]
    by_cases e : xs[k] = i
    · rw [if_pos e, if_pos e, e]
    · rw [if_neg e, if_neg e]; rfl
theorem arK_same (n : Nat) (xs : List Nat) (k : Nat) (h : k < xs.length) (hn : ¬ xs[k] < n) : arK n xs (k + 1) = arK n xs k := by
  unfold arK
  congr 1
  apply List.map_congr_left
  intro v hv
  rw [List.mem_range] at hv
  rw [cntF_succ xs k v h, if_neg (by omega)]; rfl
theorem wantK_same (n : Nat) (xs : List Nat) (k : Nat) (h : k < xs.length) (hn : ¬ xs[k] < n) : wantK n xs (k + 1) = wantK n xs k := by
  unfold wantK
  apply List.map_congr_left
  intro v _
  by_cases hv : v < n
  · rw [if_pos hv, if_pos hv, cntF_succ xs k v h, if_neg (by omega)]; rfl
  · rw [if_neg hv, if_neg hv]
theorem wantK_get (n : Nat) (xs : List Nat) (k v : Nat) (hv : v < 256) : (wantK n xs k)[v]? = some (.int .u64 ((if v < n then cntF xs k v else 0 : Nat) : Int)) := by
  unfold wantK
  rw [List.getElem?_map, List.getElem?_range hv]
  rfl
theorem wantK_set (n : Nat) (xs : List Nat) (k : Nat) (h : k < xs.length) (hn : xs[k] < n) : (wantK n xs k).set xs[k] (.int .u64 ((cntF xs k xs[k] + 1 : Nat) : Int)) = wantK n xs (k + 1) := by
  apply List.ext_getElem
  · simp [wantK]
  · intro i h1 h2
    simp only [wantK, List.getElem_set, List.getElem_map, List.getElem_range]
    rw [cntF_succ xs k i h]
    by_cases e : xs[k] = i
    · rw [if_pos e, if_pos (by omega), if_pos e, e]
    · rw [if_neg e, if_neg e]; rfl
end Go.Proofs.Ytngeclnlgoamkaa
