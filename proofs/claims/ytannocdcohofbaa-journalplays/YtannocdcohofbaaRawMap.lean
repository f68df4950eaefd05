/- Maps as they lie in memory, whatever their elements: the insert of a new key, the look-up, the range. No program in sight. -/
import Derived.MapFrom
import Derived.Maps.Own
import Derived.Maps.OwnOps
import Derived.Maps.RangeRun
import Derived.WalkKit
namespace Go.Proofs.Ytannocdcohofbaa
open Go.RowKit Go.MapKept

theorem raw_insert {P : Program} {W : World} {B n : Nat} {es : Array MapEntry} {t kt et : TypeId} {d : TypeDesc} (hb : W.heap[B]? = some (.map es n)) (ht : P.underlying t = some (.map kt et)) (hkt : P.underlying kt = some d)
    (k v : Value) (hk : IsKey d k) (hks : ∀ x ∈ es.toList, IsKey d x.key ∧ x.key ≠ k) :
    ∃ W', (Instr.mapUpdate t (.map (some B)) k v).run P W = .ok () W' ∧ W'.heap[B]? = some (.map (es.push { key := k, val := v, born := n }) (n + 1)) ∧ W.grownBy W' (some B) := by
  rcases findNow_spec hk es.toList 0 (fun x hx => (hks x hx).1) with ⟨h1, _⟩ | ⟨j, e, h1, h2, h3⟩
  · have hrun : (Instr.mapUpdate t (.map (some B)) k v).run P W = .ok () { W with heap := W.heap.setIfInBounds B (.map (es.push { key := k, val := v, born := n }) (n + 1)) } := by
      simp [Instr.mapUpdate, run_underlying ht, MapKept.run_getObj_map hb, run_checkKey hkt hk, run_findKey hkt h1, MapKept.run_setObj_map _ hb, Result.andThen]
    have hh := heap_set (o' := Obj.map (es.push { key := k, val := v, born := n }) (n + 1)) hb
    exact ⟨_, hrun, hh.1, ⟨rfl, rfl, rfl, by simp, fun i _ hi => hh.2 i (fun e => hi (by rw [e]))⟩⟩
  · exact absurd h3 (hks e (List.mem_of_getElem? h2)).2
theorem wpList_insert_raw {P : Program} (w : World) {ops : Array Oper} {rest : List Oper} {o : Oper} {a : Act} {Q : Exit → Act → World → Prop}
    (hg : o.guard = none) (m x v : Operand) (t : TypeId) (hop : o.op = Op.insert t m x v) (kt et : TypeId) (d : TypeDesc) (ht : P.underlying t = some (.map kt et)) (hkt : P.underlying kt = some d)
    (B n : Nat) (es : Array MapEntry) (hm : a.eval m = .map (some B)) (k : Value) (hx : a.eval x = k) (val : Value) (hv : a.eval v = val) (hb : w.heap[B]? = some (.map es n)) (hk : IsKey d k) (hks : ∀ x ∈ es.toList, IsKey d x.key ∧ x.key ≠ k)
    (hK : ∀ w', w'.heap[B]? = some (.map (es.push { key := k, val := val, born := n }) (n + 1)) → w.grownBy w' (some B) → wpList P ops Q rest (a.put o.dst undef) w') :
    wpList P ops Q (o :: rest) a w := by
  refine wpList_plain hg fun K' hK' => ?_
  obtain ⟨w', hrun, r1, r2⟩ := raw_insert hb ht hkt k val hk hks
  unfold Oper.wp
  simp [execOp, hop, hm, hx, hv, hrun, Result.andThen]
  exact hK' _ _ (hK w' r1 r2)
/- A look-up: the key is there, or it is not. -/
theorem raw_look {P : Program} {W : World} {B n : Nat} {es : Array MapEntry} {t kt et : TypeId} {d : TypeDesc} (hb : W.heap[B]? = some (.map es n)) (ht : P.underlying t = some (.map kt et)) (hkt : P.underlying kt = some d)
    (k : Value) (hk : IsKey d k) (hks : ∀ x ∈ es.toList, IsKey d x.key) (zv : Value) (hz : (zeroValue et).run P W = .ok zv W) :
    (∃ e ∈ es.toList, e.key = k ∧ (Instr.lookup t (.map (some B)) k true).run P W = .ok (.tuple #[e.val, .bool true]) W ∧ (Instr.lookup t (.map (some B)) k false).run P W = .ok e.val W) ∨
    ((∀ e ∈ es.toList, e.key ≠ k) ∧ (Instr.lookup t (.map (some B)) k true).run P W = .ok (.tuple #[zv, .bool false]) W ∧ (Instr.lookup t (.map (some B)) k false).run P W = .ok zv W) := by
  rcases findNow_spec hk es.toList 0 hks with ⟨h1, h2⟩ | ⟨j, e, h1, h2, h3⟩
  · refine .inr ⟨h2, ?_, ?_⟩
    · simp [Instr.lookup, run_underlying ht, MapKept.run_getObj_map hb, run_checkKey hkt hk, run_findKey hkt h1, hz, Result.andThen]
    · simp [Instr.lookup, run_underlying ht, MapKept.run_getObj_map hb, run_checkKey hkt hk, run_findKey hkt h1, hz, Result.andThen]
  · refine .inl ⟨e, List.mem_of_getElem? h2, h3, ?_, ?_⟩
    · simp [Instr.lookup, run_underlying ht, MapKept.run_getObj_map hb, run_checkKey hkt hk, run_findKey hkt h1, Result.andThen]
    · simp [Instr.lookup, run_underlying ht, MapKept.run_getObj_map hb, run_checkKey hkt hk, run_findKey hkt h1, Result.andThen]
end Go.Proofs.Ytannocdcohofbaa
