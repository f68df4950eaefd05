/- A table of function values by small numbers, as a map literal lays it: laws for the insert and the look-up. -/
import Derived.Test.YtbbnjilajkllpaaGreatDoorChk
import Derived.MapFrom
import Derived.Maps.Own
import Derived.Maps.OwnOps
namespace Go.Proofs.YtbbnjilajkllpaaGreatDoor
open Go.RowKit Go.MapKept


def Spec := World → Value → Prop
/- A fact on a value that hangs on no other blocks than such as are no map. -/
def Steady (s : Spec) : Prop := ∀ (B : Nat) (W W' : World) (v : Value), (∃ es c, W.heap[B]? = some (.map es c)) → (∀ b, b ≠ B → b < W.heap.size → W'.heap[b]? = W.heap[b]?) → s W v → s W' v

def Fit (W : World) : List MapEntry → List (Int × Spec) → Prop
  | [], [] => True
  | e :: es, s :: ss => e.key = .int .u8 s.1 ∧ s.2 W e.val ∧ Fit W es ss
  | _, _ => False
def Tab (W : World) (B : Nat) (l : List (Int × Spec)) : Prop := ∃ es : Array MapEntry, W.heap[B]? = some (.map es es.size) ∧ Fit W es.toList l
def AllSteady (l : List (Int × Spec)) : Prop := ∀ s ∈ l, Steady s.2

theorem Fit.move {W W' : World} {B : Nat} (hB : ∃ es c, W.heap[B]? = some (.map es c)) (hk : ∀ b, b ≠ B → b < W.heap.size → W'.heap[b]? = W.heap[b]?) : ∀ {es : List MapEntry} {l : List (Int × Spec)}, AllSteady l → Fit W es l → Fit W' es l
  | [], [], _, _ => trivial
  | _ :: _, s :: _, ha, h => ⟨h.1, ha s (List.mem_cons_self ..) B W W' _ hB hk h.2.1, Fit.move hB hk (fun x hx => ha x (List.mem_cons_of_mem _ hx)) h.2.2⟩
  | [], _ :: _, _, h => h
  | _ :: _, [], _, h => h
theorem Fit.snoc {W : World} {e : MapEntry} {s : Int × Spec} : ∀ {es : List MapEntry} {l : List (Int × Spec)}, Fit W es l → e.key = .int .u8 s.1 → s.2 W e.val → Fit W (es ++ [e]) (l ++ [s])
  | [], [], _, h1, h2 => ⟨h1, h2, trivial⟩
  | _ :: _, _ :: _, h, h1, h2 => ⟨h.1, h.2.1, Fit.snoc h.2.2 h1 h2⟩
  | [], _ :: _, h, _, _ => h.elim
  | _ :: _, [], h, _, _ => h.elim
theorem Fit.keys {W : World} : ∀ {es : List MapEntry} {l : List (Int × Spec)}, Fit W es l → ∀ x ∈ es, ∃ s ∈ l, x.key = .int .u8 s.1
  | [], _, _, _, hx => by cases hx
  | e :: es, s :: ss, h, x, hx => by
    rcases List.mem_cons.1 hx with rfl | hx
    · exact ⟨s, List.mem_cons_self .., h.1⟩
    · obtain ⟨t, ht, e⟩ := Fit.keys h.2.2 x hx
      exact ⟨t, List.mem_cons_of_mem _ ht, e⟩
  | _ :: _, [], h, _, _ => h.elim
theorem Fit.at {W : World} : ∀ {es : List MapEntry} {l : List (Int × Spec)}, Fit W es l → ∀ (j : Nat) (e : MapEntry), es[j]? = some e → ∃ s ∈ l, e.key = .int .u8 s.1 ∧ s.2 W e.val
  | [], _, _, _, _, he => by simp at he
  | e :: es, s :: ss, h, 0, x, he => by simp at he; subst he; exact ⟨s, List.mem_cons_self .., h.1, h.2.1⟩
  | e :: es, s :: ss, h, j + 1, x, he => by
    obtain ⟨t, ht, e⟩ := Fit.at h.2.2 j x (by simpa using he)
    exact ⟨t, List.mem_cons_of_mem _ ht, e⟩
  | _ :: _, [], h, _, _, _ => h.elim
theorem Fit.has {W : World} : ∀ {es : List MapEntry} {l : List (Int × Spec)}, Fit W es l → ∀ s ∈ l, ∃ x ∈ es, x.key = .int .u8 s.1
  | [], [], _, _, hs => by cases hs
  | e :: es, t :: ts, h, s, hs => by
    rcases List.mem_cons.1 hs with rfl | hs
    · exact ⟨e, List.mem_cons_self .., h.1⟩
    · obtain ⟨x, hx, e⟩ := Fit.has h.2.2 s hs
      exact ⟨x, List.mem_cons_of_mem _ hx, e⟩
  | [], _ :: _, h, _, _ => h.elim
  | _ :: _, [], h, _, _ => h.elim

theorem Tab.empty (w : World) : Tab (w.alloc (.map #[] 0)) w.heap.size [] := ⟨#[], heap_alloc_new w _, trivial⟩
theorem Tab.move {W W' : World} {B : Nat} {l : List (Int × Spec)} (h : Tab W B l) (ha : AllSteady l) (hk : ∀ b, b < W.heap.size → W'.heap[b]? = W.heap[b]?) : Tab W' B l := by
  obtain ⟨es, hb, hf⟩ := h
  exact ⟨es, (hk B (lt_of_block hb)).trans hb, hf.move ⟨_, _, hb⟩ (fun b _ hlt => hk b hlt) ha⟩

/- What an insert of a key that is not there leaves. -/
theorem Tab.insert {P : Program} {W : World} {B : Nat} {l : List (Int × Spec)} {t kt et : TypeId} (h : Tab W B l) (ha : AllSteady l) (ht : P.underlying t = some (.map kt et)) (hkt : P.underlying kt = some (.int .u8))
    (k : Int) (v : Value) (s : Spec) (hs : Steady s) (hnew : ∀ x ∈ l, x.1 ≠ k) (hv : s W v) :
    ∃ W', (Instr.mapUpdate t (.map (some B)) (.int .u8 k) v).run P W = .ok () W' ∧ Tab W' B (l ++ [(k, s)]) ∧ W.grownBy W' (some B) := by
  obtain ⟨es, hb, hf⟩ := h
  have hk : IsKey (.int .u8) (.int .u8 k) := rfl
  have hks : ∀ x ∈ es.toList, IsKey (.int .u8) x.key := fun x hx => by obtain ⟨s, _, e⟩ := hf.keys x hx; rw [e]; rfl
  rcases findNow_spec hk es.toList 0 hks with ⟨h1, _⟩ | ⟨j, e, h1, h2, h3⟩
  · have hrun : (Instr.mapUpdate t (.map (some B)) (.int .u8 k) v).run P W = .ok () { W with heap := W.heap.setIfInBounds B (.map (es.push { key := .int .u8 k, val := v, born := es.size }) (es.size + 1)) } := by
      simp [Instr.mapUpdate, run_underlying ht, MapKept.run_getObj_map hb, run_checkKey hkt hk, run_findKey hkt h1, MapKept.run_setObj_map _ hb, Result.andThen]
    have hh := heap_set (o' := Obj.map (es.push { key := .int .u8 k, val := v, born := es.size }) (es.size + 1)) hb
    refine ⟨_, hrun, ⟨es.push { key := .int .u8 k, val := v, born := es.size }, ?_, ?_⟩, ⟨rfl, rfl, rfl, by simp, fun i _ hi => hh.2 i (fun e => hi (by rw [e]))⟩⟩
    · rw [Array.size_push]; exact hh.1
    · rw [Array.toList_push]
      refine Fit.snoc (Fit.move ⟨_, _, hb⟩ (fun b hne _ => hh.2 b hne) ha hf) rfl ?_
      exact hs B W _ _ ⟨_, _, hb⟩ (fun b hne _ => hh.2 b hne) hv
  · exfalso
    obtain ⟨s, hs, e1, _⟩ := hf.at j e h2
    rw [h3] at e1
    injection e1 with _ e2
    exact hnew s hs e2.symm

theorem wpList_insert_tab {P : Program} (w : World) {ops : Array Oper} {rest : List Oper} {o : Oper} {a : Act} {Q : Exit → Act → World → Prop}
    (hg : o.guard = none) (m x v : Operand) (t : TypeId) (hop : o.op = Op.insert t m x v) (kt et : TypeId) (ht : P.underlying t = some (.map kt et)) (hkt : P.underlying kt = some (.int .u8))
    (B : Nat) (l : List (Int × Spec)) (hm : a.eval m = .map (some B)) (k : Int) (hx : a.eval x = .int .u8 k) (val : Value) (hv : a.eval v = val) (s : Spec) (h : Tab w B l) (ha : AllSteady l) (hs : Steady s) (hnew : ∀ x ∈ l, x.1 ≠ k) (hval : s w val)
    (hK : ∀ w', Tab w' B (l ++ [(k, s)]) → w.grownBy w' (some B) → wpList P ops Q rest (a.put o.dst undef) w') :
    wpList P ops Q (o :: rest) a w := by
  refine wpList_plain hg fun K' hK' => ?_
  obtain ⟨w', hrun, r1, r2⟩ := h.insert ha ht hkt k val s hs hnew hval
  unfold Oper.wp
  simp [execOp, hop, hm, hx, hv, hrun, Result.andThen]
  exact hK' _ _ (hK w' r1 r2)

/- What a look-up finds. -/
theorem Tab.look {P : Program} {W : World} {B : Nat} {l : List (Int × Spec)} {t kt et : TypeId} (h : Tab W B l) (ht : P.underlying t = some (.map kt et)) (hkt : P.underlying kt = some (.int .u8)) (hz : (zeroValue et).run P W = .ok .nilFunc W) (k : Int) :
    (∃ s ∈ l, s.1 = k ∧ ∃ v, (Instr.lookup t (.map (some B)) (.int .u8 k) true).run P W = .ok (.tuple #[v, .bool true]) W ∧ s.2 W v) ∨
    ((∀ s ∈ l, s.1 ≠ k) ∧ (Instr.lookup t (.map (some B)) (.int .u8 k) true).run P W = .ok (.tuple #[.nilFunc, .bool false]) W) := by
  obtain ⟨es, hb, hf⟩ := h
  have hk : IsKey (.int .u8) (.int .u8 k) := rfl
  have hks : ∀ x ∈ es.toList, IsKey (.int .u8) x.key := fun x hx => by obtain ⟨s, _, e⟩ := hf.keys x hx; rw [e]; rfl
  rcases findNow_spec hk es.toList 0 hks with ⟨h1, h2⟩ | ⟨j, e, h1, h2, h3⟩
  · refine .inr ⟨fun s hs e => ?_, ?_⟩
    · obtain ⟨x, hx, hxk⟩ := hf.has s hs
      exact h2 x hx (by rw [hxk, e])
    · simp [Instr.lookup, run_underlying ht, MapKept.run_getObj_map hb, run_checkKey hkt hk, run_findKey hkt h1, hz, Result.andThen]
  · obtain ⟨s, hs, e1, e2⟩ := hf.at j e h2
    refine .inl ⟨s, hs, ?_, e.val, ?_, e2⟩
    · rw [h3] at e1
      injection e1 with _ e2
      exact e2.symm
    · simp [Instr.lookup, run_underlying ht, MapKept.run_getObj_map hb, run_checkKey hkt hk, run_findKey hkt h1, Result.andThen]
end Go.Proofs.YtbbnjilajkllpaaGreatDoor
