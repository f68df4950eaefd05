/- Pieces of the proof: CoS, CoT, RawMap, Keep. -/
import Derived.Test.YtlipcmonlhdgfaaGreatM13
import Derived.MapFrom
import Derived.Maps.Own
import Derived.Maps.OwnOps
import Derived.Maps.RangeRun
import Derived.WalkKit
import Derived.RangeFuncNested
import Derived.RangeFuncBound
import Derived.RangeFuncCalls
import Derived.RangeFuncLeaves
import Derived.Shelf.Abstract
import Derived.Shelf.RegionOpen
import Derived.OwnWalkIn
import Derived.TacticsInMore
import Derived.LoopNIn
import Derived.LoopIn
import Derived.Laws.Pointers
import Derived.Deep.RegionHeld3
import Derived.WalkSpells
import Derived.WalkLawsBesides
/- package code: the table of rows; row. -/
namespace Go.Proofs.YtlipcmonlhdgfaaGreat
open Go.RowKit

structure Rw where
  op : Int
  ls : Int
  has : Int
  fn : Value
def Rw.cells (r : Rw) : List Value := [.int .u8 r.op, .int .i64 r.ls, .int .i64 r.has, r.fn]
def rowsT (g jb : Nat) : List Rw := [
  ⟨1, 0, 65, .func (.func 51) #[] #[.pointer (some ⟨jb, 0, none⟩)]⟩,
  ⟨2, 0, 3, .func (.func 53) #[] #[.pointer (some ⟨jb, 0, none⟩)]⟩,
  ⟨3, 0, 159, .func (.func 55) #[.pointer (some ⟨g, 0, none⟩)] #[]⟩,
  ⟨4, 0, 41, .func (.func 56) #[] #[.pointer (some ⟨jb, 0, none⟩)]⟩,
  ⟨5, 0, 9, .func (.func 60) #[] #[.pointer (some ⟨jb, 0, none⟩)]⟩,
  ⟨6, 1, 8, .func (.func 62) #[] #[.pointer (some ⟨jb, 0, none⟩)]⟩,
  ⟨7, 1, 8, .func (.func 63) #[] #[.pointer (some ⟨jb, 0, none⟩)]⟩,
  ⟨8, 1, 10, .func (.func 64) #[] #[.pointer (some ⟨jb, 0, none⟩)]⟩,
  ⟨9, 1, 11, .func (.func 66) #[] #[.pointer (some ⟨jb, 0, none⟩)]⟩,
  ⟨10, 1, 14, .func (.func 68) #[] #[.pointer (some ⟨jb, 0, none⟩)]⟩,
  ⟨11, 1, 11, .func (.func 69) #[] #[.pointer (some ⟨jb, 0, none⟩)]⟩,
  ⟨12, 1, 1, .func (.func 70) #[] #[]⟩,
  ⟨13, 1, 0, .func (.func 70) #[] #[]⟩,
  ⟨16, 1, 0, .func (.func 70) #[] #[]⟩,
  ⟨17, 1, 0, .func (.func 70) #[] #[]⟩,
  ⟨14, 1, 32, .func (.func 59) #[] #[]⟩,
  ⟨15, 1, 8, .func (.func 71) #[] #[]⟩,
  ⟨18, 2, 8, .func (.func 73) #[] #[.pointer (some ⟨jb, 0, none⟩)]⟩,
  ⟨19, 2, 40, .func (.func 74) #[.pointer (some ⟨g, 0, none⟩)] #[]⟩,
  ⟨20, 1, 8, .func (.func 75) #[] #[]⟩,
  ⟨21, 1, 10, .func (.func 76) #[] #[.pointer (some ⟨jb, 0, none⟩)]⟩]
theorem rowsT_len (g jb : Nat) : (rowsT g jb).length = 21 := rfl
/- The rows as they lie. -/
def RwR (W : World) (v : Value) (g jb : Nat) : Prop := ∃ q c, v = .slice (some ⟨q, 0, none⟩) 21 c ∧ q < W.heap.size ∧ ∀ i (h : i < (rowsT g jb).length) j u, ((rowsT g jb)[i].cells)[j]? = some u → W.cell? ⟨q, i * 4 + j, none⟩ = some u
theorem RwR.below {W W' : World} {v : Value} {g jb : Nat} (h : RwR W v g jb) (hb : Below W.heap.size W W') : RwR W' v g jb := by
  obtain ⟨q, c, e, hq, hc⟩ := h
  exact ⟨q, c, e, Nat.lt_of_lt_of_le hq hb.size, fun i hi j u hu => (hb.cell (p := ⟨q, _, none⟩) hq).trans (hc i hi j u hu)⟩
theorem rw_len (r : Rw) : r.cells.length = 4 := rfl
theorem rwR_new (W : World) (g jb : Nat) (t : TypeId) : RwR (W.alloc (.cells (flat Rw.cells (rowsT g jb)).toArray t)) (.slice (some ⟨W.heap.size, 0, none⟩) 21 21) g jb := by
  refine ⟨W.heap.size, 21, rfl, by simp, fun i hi j u hu => ?_⟩
  have hj : j < 4 := by have := (List.getElem?_eq_some_iff.1 hu).1; rw [rw_len] at this; exact this
  refine (cellA (heap_alloc_new W _) (i * 4 + j)).trans ?_
  rw [← hu, ← flat_get rw_len (rowsT g jb) i j hi hj]
  simp
set_option maxRecDepth 100000 in
set_option maxHeartbeats 4000000 in
theorem allRows_any (g : Nat) (w : World) : Calls Tryz.prog 26 #[.pointer (some ⟨g, 0, none⟩)] w fun e w' => ∃ v, e = .returned v ∧ RwR w' v g w.heap.size ∧ Jb w' w.heap.size g ∧ Below w.heap.size w w' := by
  go_enter Tryz.func26, Tryz.ntmps26
  go_wp2
  go_ret
  have hN := rwR_new (w.alloc (.cells #[.pointer (some ⟨g, 0, none⟩)] 67)) g w.heap.size 108
  simp only [World.size_alloc, rowsT, Rw.cells, flat, List.flatMap_cons, List.flatMap_nil, List.cons_append, List.nil_append, List.append_nil] at hN
  refine ⟨_, rfl, hN, ?_, below2 _ _ _⟩
  exact heap_past _ (heap_alloc_new w _)
end Go.Proofs.YtlipcmonlhdgfaaGreat
/- package code: row. -/
namespace Go.Proofs.YtlipcmonlhdgfaaGreat
open Go.RowKit

theorem res_pairK {P : Program} {f : Func} {tmps : Array Value} {w : World} {s u : Nat} {t : TypeId} {b : Nat} {cs : List Value} {e : TypeId} {v : Value} (hf : f.results = #[.cell s t, .tmp u]) (hx : tmps.getD s undef = .pointer (some ⟨b, 0, none⟩)) (hu : tmps.getD u undef = v) (ha : ∀ w, (isAgg t).run P w = .ok true w) (hs : ∀ w, (sizeOf t).run P w = .ok cs.length w) (hb : w.heap[b]? = some (.cells cs.toArray e (0, 0))) : (results f tmps).run P w = .ok (.tuple #[.agg cs.toArray, v]) w := by
  unfold results
  rw [hf]
  have h := run_loadA (P := P) ha hs hb
  have hx' : tmps[s]?.getD undef = .pointer (some ⟨b, 0, none⟩) := by rw [← hx]; simp
  have hu' : tmps[u]?.getD undef = v := by rw [← hu]; simp
  simp [Array.mapM_eq_mapM_toList, hx', hu', asAddr, h]
def rw0 : Rw := ⟨0, 0, 0, .nilFunc⟩
def rowA (g jb : Nat) (op : Int) : Rw × Bool := match (rowsT g jb).find? (fun r => r.op == op) with | some r => (r, true) | none => (rw0, false)
theorem rw_one (g jb : Nat) : ∀ r ∈ rowsT g jb, ∀ v ∈ r.cells, v.oneCell' = true := fun r hr v hv => by
  have hf : r.fn.oneCell' = true := by
    simp only [rowsT, List.mem_cons, List.not_mem_nil, or_false] at hr
    rcases hr with rfl | rfl | rfl | rfl | rfl | rfl | rfl | rfl | rfl | rfl | rfl | rfl | rfl | rfl | rfl | rfl | rfl | rfl | rfl | rfl | rfl <;> rfl
  simp only [Rw.cells, List.mem_cons, List.not_mem_nil, or_false] at hv
  rcases hv with rfl | rfl | rfl | rfl
  · rfl
  · rfl
  · rfl
  · exact hf
theorem rw0_one : ∀ v ∈ rw0.cells, v.oneCell' = true := fun v hv => by
  simp only [rw0, Rw.cells, List.mem_cons, List.not_mem_nil, or_false] at hv
  rcases hv with rfl | rfl | rfl | rfl <;> rfl
theorem find_at {α : Type} {p : α → Bool} : ∀ {l : List α} {k : Nat} (hk : k < l.length), (∀ i (h : i < k), p (l[i]'(by omega)) = false) → p l[k] = true → l.find? p = some l[k]
  | [], k, hk, _, _ => by simp at hk
  | x :: l, 0, _, _, h => by simp at h; rw [List.find?_cons_of_pos h]; rfl
  | x :: l, k + 1, hk, h0, h => by
    have hx : p x = false := h0 0 (by omega)
    rw [List.find?_cons_of_neg (by simp [hx])]
    have := find_at (l := l) (k := k) (by simpa using hk) (fun i hi => h0 (i + 1) (by omega)) (by simpa using h)
    rw [this]; rfl
theorem find_no {α : Type} {p : α → Bool} {l : List α} (h : ∀ i (h : i < l.length), p l[i] = false) : l.find? p = none := by
  rw [List.find?_eq_none]
  intro x hx
  obtain ⟨i, hi, rfl⟩ := List.getElem_of_mem hx
  simp [h i hi]
theorem szRw : ∀ w, (sizeOf 108).run Tryz.prog w = .ok 4 w := fun w => by kernel_rfl
theorem agRw : ∀ w, (isAgg 108).run Tryz.prog w = .ok true w := fun w => by kernel_rfl
set_option maxRecDepth 100000 in
set_option maxHeartbeats 4000000 in
theorem row_any (c : CoL) (g jb : Nat) (rv : Value) (op : Int) (w : World) (hj : Jd w g c rv) (hr : RwR w rv g jb) : Calls Tryz.prog 141 #[.pointer (some ⟨g, 0, none⟩), .int .u8 op] w fun e w' => e = .returned (.tuple #[.agg (rowA g jb op).1.cells.toArray, .bool (rowA g jb op).2]) ∧ Below w.heap.size w w' := by
  have H1 := hide (rw_one g jb)
  have HL := rowsT_len g jb
  obtain ⟨q, cp, rfl, hq, hc⟩ := hr
  unfold rowA
  generalize rowsT g jb = L at *
  have HC := hide hc
  have HQ := hide hq
  have HJ : Hid (∀ W, Below w.heap.size w W → W.cell? ⟨g, 9, none⟩ = some (.slice (some ⟨q, 0, none⟩) 21 cp)) := fun W hb => (hj.below hb).at.2.2.2.2.2.2.2.2.2
  clear hj hc hq
  generalize hR : (match L.find? (fun r => r.op == op) with | some r => (r, true) | none => (rw0, false)) = R
  have HR := hide hR
  clear hR
  have HZ : Hid ((w.alloc (.cells #[.int .u8 0, .int .i64 0, .int .i64 0, .nilFunc] 108)).heap[w.heap.size]? = some (.cells rw0.cells.toArray 108 (0, 0))) := heap_alloc_new w _
  have HB0 := hide (below1 w (.cells #[.int .u8 0, .int .i64 0, .int .i64 0, .nilFunc] 108))
  have q9 := HJ.out _ HB0.out
  go_enter Tryz.func141, Tryz.ntmps141
  go_wp2
  go_loopw [12] (fun i wr => ∃ k : Nat, k ≤ 21 ∧ i = .int .i64 k ∧ (∀ j (_ : j < k) (h' : j < L.length), (L[j].op == op) = false) ∧ wr.heap[w.heap.size]? = some (.cells rw0.cells.toArray 108 (0, 0)) ∧ Below w.heap.size w wr) (fun i _ => 21 - (intOf i).toNat)
  case atStart => exact ⟨0, by omega, rfl, fun j h => by omega, HZ.out, HB0.out⟩
  case round =>
    obtain ⟨k, hk, rfl, hno, hz, hb⟩ := hrel
    have HN := hide hno
    have HZ1 := hide hz
    have BB := hide hb
    have q9 := HJ.out _ hb
    have hkb : k ≤ 21 := hk
    clear hno hz
    by_cases hlt : k < 21
    · have hkI : (k : Int) < 21 := by omega
      have hkL : k < L.length := by omega
      have HCk : Hid (∀ j u, (L[k].cells)[j]? = some u → wr.cell? ⟨q, k * 4 + j, none⟩ = some u) := fun j u hu => (hb.cell (p := ⟨q, _, none⟩) HQ.out).trans (HC.out k hkL j u hu)
      have c0 := HCk.out 0 _ rfl
      rw [Nat.add_zero] at c0
      have HO := hide (H1.out L[k] (List.getElem_mem hkL))
      have HF : Hid (L[k].op = op → R = (L[k], true)) := fun e => by rw [← HR.out, find_at hkL (fun i hi => HN.out i hi (by omega)) (by simpa using e)]
      have HN2 : Hid (¬ L[k].op = op → ∀ j (_ : j < k + 1) (h' : j < L.length), (L[j].op == op) = false) := fun e j h1 h2 => by
        by_cases h : j < k
        · exact HN.out j h h2
        · obtain rfl : j = k := by omega
          simpa using e
      clear hb HC HZ HB0
      generalize L[k] = x at *
      have HX4 : Hid (x.cells.length = 4) := rfl
      by_cases he : x.op = op
      · have hf := hide (HF.out he)
        rw [he] at c0
        clear HF HN2 he HN
        generalize hxc : x.cells = xc at *
        have HXC := hide hxc
        clear hxc
        go_wp2_with (first
          | (refine wpList_loadW rfl 108 _ rfl q (k * 4) xc rfl agRw (by rw [HX4.out]; exact szRw) HCk.out ?_)
          | (refine wpList_storeA rfl 108 _ _ rfl w.heap.size xc _ 108 rfl rfl (by rw [HX4.out]; exact szRw) HZ1.out (by rw [HX4.out]; rfl) HO.out ?_; intro w5 hw5; have Z5 : Hid (w5.heap[w.heap.size]? = some (.cells xc.toArray 108 (0, 0))) := (by show _ = _; rw [hw5]; exact got0 HZ1.out (by rw [HX4.out]; rfl)); have B5 : Hid (Below w.heap.size w w5) := BB.out.trans ((by rw [hw5]; exact fr_all _ _ _ _ : Fr (· = w.heap.size) _ w5).below (fun b e => by omega) BB.out.size); clear hw5))
        exact bodyPost_ret (res_pairK (cs := xc) (v := .bool true) Tryz.results141 rfl rfl agRw (by rw [HX4.out]; exact szRw) Z5.out) rfl ⟨by rw [hf.out, HXC.out], B5.out⟩
      · have hn2 := hide (HN2.out he)
        have he' : (x.op = op) = False := by simp [he]
        clear HF HN2 HN
        go_wp2
        go_roundw
        case rel => exact ⟨k + 1, by omega, by go_num, hn2.out, HZ1.out, BB.out⟩
        case measure => simp [intOf]; omega
    · obtain rfl : k = 21 := by omega
      have hf : Hid (R = (rw0, false)) := by
        show _ = _
        rw [← HR.out, find_no (fun i hi => HN.out i (by omega) hi)]
      have HX4 : Hid (rw0.cells.length = 4) := rfl
      have HO := hide rw0_one
      clear hb HC HZ HB0 HN
      go_wp2_with (refine wpList_storeA rfl 108 _ _ rfl w.heap.size rw0.cells _ 108 rfl rfl (by rw [HX4.out]; exact szRw) HZ1.out (by rw [HX4.out]; rfl) HO.out ?_; intro w5 hw5; have Z5 : Hid (w5.heap[w.heap.size]? = some (.cells rw0.cells.toArray 108 (0, 0))) := (by show _ = _; rw [hw5]; exact got0 HZ1.out (by rw [HX4.out]; rfl)); have B5 : Hid (Below w.heap.size w w5) := BB.out.trans ((by rw [hw5]; exact fr_all _ _ _ _ : Fr (· = w.heap.size) _ w5).below (fun b e => by omega) BB.out.size); clear hw5)
      exact bodyPost_ret (res_pairK (cs := rw0.cells) (v := .bool false) Tryz.results141 rfl rfl agRw szRw Z5.out) rfl ⟨by rw [hf.out], B5.out⟩
end Go.Proofs.YtlipcmonlhdgfaaGreat
/- Maps as they lie in memory, whatever their elements: the insert of a new key, the look-up, the range. No program in sight. -/
namespace Go.Proofs.YtlipcmonlhdgfaaGreat
open Go.RowKit Go.MapKept

theorem raw_insert {P : Program} {W : World} {B n : Nat} {es : Array MapEntry} {t kt et : TypeId} {d : TypeDesc} (hb : W.heap[B]? = some (.map es n)) (ht : P.underlying t = some (.map kt et)) (hkt : P.underlying kt = some d)
    (k v : Value) (hk : IsKey d k) (hks : ∀ x ∈ es.toList, IsKey d x.key ∧ x.key ≠ k) :
    ∃ W', (Instr.mapUpdate t (.map (some B)) k v).run P W = .ok () W' ∧ W'.heap[B]? = some (.map (es.push { key := k, val := v, born := n }) (n + 1)) ∧ W.grownBy W' (some B) := by
  rcases findNow_spec hk es.toList 0 (fun x hx => (hks x hx).1) with ⟨h1, _⟩ | ⟨j, e, h1, h2, h3⟩
  · have hrun : (Instr.mapUpdate t (.map (some B)) k v).run P W = .ok () { W with heap := W.heap.setIfInBounds B (.map (es.push { key := k, val := v, born := n }) (n + 1)) } := by
      simp [Instr.mapUpdate, run_underlying ht, MapKept.run_getObj_map hb, run_checkKey hkt hk, run_findKey hkt h1, MapKept.run_setObj_map _ hb, Result.andThen]
    have hh := heap_set (o' := Obj.map (es.push { key := k, val := v, born := n }) (n + 1)) hb
    exact ⟨_, hrun, hh.1, ⟨rfl, rfl, rfl, by simp, fun i _ hi => hh.2 i (fun e => hi (by rw [e]))⟩⟩
  · exact absurd h3 (hks e (List.mem_of_getElem? h2)).2
theorem wpList_insert_raw {P : Program} (w : World) {ops : Array Oper} {rest : List Oper} {o : Oper} {a : Act} {Q : Exit → Act → World → Prop}
    (hg : o.guard = none) (m x v : Operand) (t : TypeId) (hop : o.op = Op.insert t m x v) (kt et : TypeId) (d : TypeDesc) (ht : P.underlying t = some (.map kt et)) (hkt : P.underlying kt = some d)
    (B n : Nat) (es : Array MapEntry) (hm : a.eval m = .map (some B)) (k : Value) (hx : a.eval x = k) (val : Value) (hv : a.eval v = val) (hb : w.heap[B]? = some (.map es n)) (hk : IsKey d k) (hks : ∀ x ∈ es.toList, IsKey d x.key ∧ x.key ≠ k)
    (hK : ∀ w', w'.heap[B]? = some (.map (es.push { key := k, val := val, born := n }) (n + 1)) → w.grownBy w' (some B) → wpList P ops Q rest (a.put o.dst undef) w') :
    wpList P ops Q (o :: rest) a w := by
  refine wpList_plain hg fun K' hK' => ?_
  obtain ⟨w', hrun, r1, r2⟩ := raw_insert hb ht hkt k val hk hks
  unfold Oper.wp
  simp [execOp, hop, hm, hx, hv, hrun, Result.andThen]
  exact hK' _ _ (hK w' r1 r2)
/- A look-up: the key is there, or it is not. -/
theorem raw_look {P : Program} {W : World} {B n : Nat} {es : Array MapEntry} {t kt et : TypeId} {d : TypeDesc} (hb : W.heap[B]? = some (.map es n)) (ht : P.underlying t = some (.map kt et)) (hkt : P.underlying kt = some d)
    (k : Value) (hk : IsKey d k) (hks : ∀ x ∈ es.toList, IsKey d x.key) (zv : Value) (hz : (zeroValue et).run P W = .ok zv W) :
    (∃ e ∈ es.toList, e.key = k ∧ (Instr.lookup t (.map (some B)) k true).run P W = .ok (.tuple #[e.val, .bool true]) W ∧ (Instr.lookup t (.map (some B)) k false).run P W = .ok e.val W) ∨
    ((∀ e ∈ es.toList, e.key ≠ k) ∧ (Instr.lookup t (.map (some B)) k true).run P W = .ok (.tuple #[zv, .bool false]) W ∧ (Instr.lookup t (.map (some B)) k false).run P W = .ok zv W) := by
  rcases findNow_spec hk es.toList 0 hks with ⟨h1, h2⟩ | ⟨j, e, h1, h2, h3⟩
  · refine .inr ⟨h2, ?_, ?_⟩
    · simp [Instr.lookup, run_underlying ht, MapKept.run_getObj_map hb, run_checkKey hkt hk, run_findKey hkt h1, hz, Result.andThen]
    · simp [Instr.lookup, run_underlying ht, MapKept.run_getObj_map hb, run_checkKey hkt hk, run_findKey hkt h1, hz, Result.andThen]
  · refine .inl ⟨e, List.mem_of_getElem? h2, h3, ?_, ?_⟩
    · simp [Instr.lookup, run_underlying ht, MapKept.run_getObj_map hb, run_checkKey hkt hk, run_findKey hkt h1, Result.andThen]
    · simp [Instr.lookup, run_underlying ht, MapKept.run_getObj_map hb, run_checkKey hkt hk, run_findKey hkt h1, Result.andThen]
end Go.Proofs.YtlipcmonlhdgfaaGreat
/- Cells of one's own, and what a loop over a function keeps: no program in sight. -/
namespace Go.Proofs.YtlipcmonlhdgfaaGreat
open Go.RowKit Go.Shelf

def KeepBut (E : Nat → Prop) (n₀ : Nat) (W W' : World) : Prop := W.heap.size ≤ W'.heap.size ∧ ∀ b, b < n₀ → ¬ E b → W'.heap[b]? = W.heap[b]?
theorem KeepBut.refl {E : Nat → Prop} {n₀ : Nat} {W : World} : KeepBut E n₀ W W := ⟨Nat.le_refl _, fun _ _ _ => rfl⟩
theorem KeepBut.t {E : Nat → Prop} {n₀ : Nat} {A B C : World} (h : KeepBut E n₀ A B) (k : KeepBut E n₀ B C) : KeepBut E n₀ A C := ⟨Nat.le_trans h.1 k.1, fun b hb he => (k.2 b hb he).trans (h.2 b hb he)⟩
theorem KeepBut.b {E : Nat → Prop} {n₀ : Nat} {w : World} (hn : n₀ ≤ w.heap.size) (W : World) (l : Nat) (o o' : Obj) (hl : w.heap.size ≤ l) (_ : W.heap[l]? = some o) (_ : o.isCells = false) (_ : o.isWalk = false) : KeepBut E n₀ W (W.putObj l o') :=
  ⟨by simp, fun b hb _ => World.putObj_heap_other (by omega)⟩
theorem KeepBut.ofBelow {E : Nat → Prop} {n₀ : Nat} {A B : World} (h : Below A.heap.size A B) (hn : n₀ ≤ A.heap.size) : KeepBut E n₀ A B := ⟨h.size, fun b hb _ => h.block b (by omega)⟩
theorem KeepBut.drew {E : Nat → Prop} {n₀ : Nat} {A B : World} (h : KeepBut E n₀ A B) : KeepBut E n₀ A B.drew := h
theorem KeepBut.cell {E : Nat → Prop} {n₀ : Nat} {A B : World} (h : KeepBut E n₀ A B) {p : Addr} (hp : p.block < n₀) (he : ¬ E p.block) : B.cell? p = A.cell? p := World.cell?_of_block (w := A) (h.2 p.block hp he)
def LC (W : World) (b : Nat) (v : Value) : Prop := W.cell? ⟨b, 0, none⟩ = some v ∧ W.frozen? ⟨b, 0, none⟩ = false
theorem LC.box {W : World} {b : Nat} {v : Value} {t : TypeId} (h : W.heap[b]? = some (.cells #[v] t (0, 0))) : LC W b v := by
  constructor <;> simp [World.cell?, World.frozen?, h]
theorem LC.new (W : World) (v : Value) (t : TypeId) : LC (W.alloc (.cells #[v] t)) W.heap.size v := LC.box (World.alloc_heap_new W _)
theorem LC.kept {W W' : World} {row : Option Nat} {b : Nat} {v : Value} (h : LC W b v) (hg : W.grownBy W' row) (hr : ∀ r, row = some r → ∃ o : Obj, W.heap[r]? = some o ∧ o.isCells = false) : LC W' b v :=
  ⟨cell_kept h.1 hg hr, (frozen_kept h.1 hg hr).trans h.2⟩
theorem LC.alloc {W : World} {b : Nat} {v : Value} (o : Obj) (h : LC W b v) : LC (W.alloc o) b v := h.kept (World.grownBy_alloc W o none) (fun r e => by cases e)
theorem LC.drew {W : World} {b : Nat} {v : Value} (h : LC W b v) : LC W.drew b v := h
theorem LC.set {W : World} {b : Nat} {v : Value} (h : LC W b v) (u : Value) : LC (W.setCell ⟨b, 0, none⟩ u) b u := ⟨World.cell?_setCell_same' _ _ _ (by rw [h.1]; rfl), by rw [World.frozen?_setCell]; exact h.2⟩
theorem LC.far {W : World} {b : Nat} {v : Value} (h : LC W b v) (p : Addr) (u : Value) (hne : p.block ≠ b) : LC (W.setCell p u) b v := ⟨(World.cell?_setCell_far _ _ _ _ hne).trans h.1, by rw [World.frozen?_setCell]; exact h.2⟩
theorem LC.below {W W' : World} {b B : Nat} {v : Value} (h : LC W b v) (hb : Below B W W') (hl : b < B) : LC W' b v := ⟨(hb.cell (p := ⟨b, 0, none⟩) hl).trans h.1, (hb.frozen (p := ⟨b, 0, none⟩) hl).trans h.2⟩
theorem LC.lt {W : World} {b : Nat} {v : Value} (h : LC W b v) : b < W.heap.size := World.block_lt_of_cell? W _ h.1
theorem LC.own (b : Nat) {β : Type} (f : β → Value) : Own (fun (s : β) W => LC W b (f s)) := fun _ _ _ _ hs hg hr => hs.kept hg hr
theorem LC.cast {W : World} {b : Nat} {v u : Value} (h : LC W b v) (e : v = u) : LC W b u := e ▸ h
theorem KeepBut.setCell {E : Nat → Prop} {n₀ : Nat} {A B : World} (h : KeepBut E n₀ A B) (p : Addr) (v : Value) (he : E p.block) : KeepBut E n₀ A (B.setCell p v) :=
  ⟨by simpa using h.1, fun b hb hne => by rw [Below.heap_setCell _ _ _ _ (fun e => hne (by rw [e]; exact he))]; exact h.2 b hb hne⟩
theorem KeepBut.alloc {E : Nat → Prop} {n₀ : Nat} {A B : World} (h : KeepBut E n₀ A B) (hn : n₀ ≤ B.heap.size) (o : Obj) : KeepBut E n₀ A (B.alloc o) :=
  ⟨by have := h.1; simp; omega, fun b hb hne => (Below.heap_alloc _ _ _ (by omega)).trans (h.2 b hb hne)⟩
end Go.Proofs.YtlipcmonlhdgfaaGreat
