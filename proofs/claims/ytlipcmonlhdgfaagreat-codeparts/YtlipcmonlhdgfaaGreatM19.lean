/- Pieces of the proof: Tab, Ops. -/
import Derived.Test.YtlipcmonlhdgfaaGreatM1
import Derived.MapFrom
import Derived.Maps.Own
import Derived.Maps.OwnOps
import Derived.Laws.EntriesVeiled
/- A table of function values by small numbers, as a map literal lays it: laws for the insert and the look-up. -/
namespace Go.Proofs.YtlipcmonlhdgfaaGreat
open Go.RowKit Go.MapKept


def Spec := World → Value → Prop
/- A fact on a value that hangs on no other blocks than such as are no map. -/
def Steady (s : Spec) : Prop := ∀ (B : Nat) (W W' : World) (v : Value), (∃ es c, W.heap[B]? = some (.map es c)) → (∀ b, b ≠ B → b < W.heap.size → W'.heap[b]? = W.heap[b]?) → s W v → s W' v

def Fit (W : World) : List MapEntry → List (Int × Spec) → Prop
  | [], [] => True
  | e :: es, s :: ss => e.key = .int .u8 s.1 ∧ s.2 W e.val ∧ Fit W es ss
  | _, _ => False
def Tab (W : World) (B : Nat) (l : List (Int × Spec)) : Prop := ∃ es : Array MapEntry, W.heap[B]? = some (.map es es.size) ∧ Fit W es.toList l
def AllSteady (l : List (Int × Spec)) : Prop := ∀ s ∈ l, Steady s.2

theorem Fit.move {W W' : World} {B : Nat} (hB : ∃ es c, W.heap[B]? = some (.map es c)) (hk : ∀ b, b ≠ B → b < W.heap.size → W'.heap[b]? = W.heap[b]?) : ∀ {es : List MapEntry} {l : List (Int × Spec)}, AllSteady l → Fit W es l → Fit W' es l
  | [], [], _, _ => trivial
  | _ :: _, s :: _, ha, h => ⟨h.1, ha s (List.mem_cons_self ..) B W W' _ hB hk h.2.1, Fit.move hB hk (fun x hx => ha x (List.mem_cons_of_mem _ hx)) h.2.2⟩
  | [], _ :: _, _, h => h
  | _ :: _, [], _, h => h
theorem Fit.snoc {W : World} {e : MapEntry} {s : Int × Spec} : ∀ {es : List MapEntry} {l : List (Int × Spec)}, Fit W es l → e.key = .int .u8 s.1 → s.2 W e.val → Fit W (es ++ [e]) (l ++ [s])
  | [], [], _, h1, h2 => ⟨h1, h2, trivial⟩
  | _ :: _, _ :: _, h, h1, h2 => ⟨h.1, h.2.1, Fit.snoc h.2.2 h1 h2⟩
  | [], _ :: _, h, _, _ => h.elim
  | _ :: _, [], h, _, _ => h.elim
theorem Fit.keys {W : World} : ∀ {es : List MapEntry} {l : List (Int × Spec)}, Fit W es l → ∀ x ∈ es, ∃ s ∈ l, x.key = .int .u8 s.1
  | [], _, _, _, hx => by cases hx
  | e :: es, s :: ss, h, x, hx => by
    rcases List.mem_cons.1 hx with rfl | hx
    · exact ⟨s, List.mem_cons_self .., h.1⟩
    · obtain ⟨t, ht, e⟩ := Fit.keys h.2.2 x hx
      exact ⟨t, List.mem_cons_of_mem _ ht, e⟩
  | _ :: _, [], h, _, _ => h.elim
theorem Fit.at {W : World} : ∀ {es : List MapEntry} {l : List (Int × Spec)}, Fit W es l → ∀ (j : Nat) (e : MapEntry), es[j]? = some e → ∃ s ∈ l, e.key = .int .u8 s.1 ∧ s.2 W e.val
  | [], _, _, _, _, he => by simp at he
  | e :: es, s :: ss, h, 0, x, he => by simp at he; subst he; exact ⟨s, List.mem_cons_self .., h.1, h.2.1⟩
  | e :: es, s :: ss, h, j + 1, x, he => by
    obtain ⟨t, ht, e⟩ := Fit.at h.2.2 j x (by simpa using he)
    exact ⟨t, List.mem_cons_of_mem _ ht, e⟩
  | _ :: _, [], h, _, _, _ => h.elim
theorem Fit.has {W : World} : ∀ {es : List MapEntry} {l : List (Int × Spec)}, Fit W es l → ∀ s ∈ l, ∃ x ∈ es, x.key = .int .u8 s.1
  | [], [], _, _, hs => by cases hs
  | e :: es, t :: ts, h, s, hs => by
    rcases List.mem_cons.1 hs with rfl | hs
    · exact ⟨e, List.mem_cons_self .., h.1⟩
    · obtain ⟨x, hx, e⟩ := Fit.has h.2.2 s hs
      exact ⟨x, List.mem_cons_of_mem _ hx, e⟩
  | [], _ :: _, h, _, _ => h.elim
  | _ :: _, [], h, _, _ => h.elim

theorem Tab.empty (w : World) : Tab (w.alloc (.map #[] 0)) w.heap.size [] := ⟨#[], heap_alloc_new w _, trivial⟩
theorem Tab.move {W W' : World} {B : Nat} {l : List (Int × Spec)} (h : Tab W B l) (ha : AllSteady l) (hk : ∀ b, b < W.heap.size → W'.heap[b]? = W.heap[b]?) : Tab W' B l := by
  obtain ⟨es, hb, hf⟩ := h
  exact ⟨es, (hk B (lt_of_block hb)).trans hb, hf.move ⟨_, _, hb⟩ (fun b _ hlt => hk b hlt) ha⟩

/- What an insert of a key that is not there leaves. -/
theorem Tab.insert {P : Program} {W : World} {B : Nat} {l : List (Int × Spec)} {t kt et : TypeId} (h : Tab W B l) (ha : AllSteady l) (ht : P.underlying t = some (.map kt et)) (hkt : P.underlying kt = some (.int .u8))
    (k : Int) (v : Value) (s : Spec) (hs : Steady s) (hnew : ∀ x ∈ l, x.1 ≠ k) (hv : s W v) :
    ∃ W', (Instr.mapUpdate t (.map (some B)) (.int .u8 k) v).run P W = .ok () W' ∧ Tab W' B (l ++ [(k, s)]) ∧ W.grownBy W' (some B) := by
  obtain ⟨es, hb, hf⟩ := h
  have hk : IsKey (.int .u8) (.int .u8 k) := rfl
  have hks : ∀ x ∈ es.toList, IsKey (.int .u8) x.key := fun x hx => by obtain ⟨s, _, e⟩ := hf.keys x hx; rw [e]; rfl
  rcases findNow_spec hk es.toList 0 hks with ⟨h1, _⟩ | ⟨j, e, h1, h2, h3⟩
  · have hrun : (Instr.mapUpdate t (.map (some B)) (.int .u8 k) v).run P W = .ok () { W with heap := W.heap.setIfInBounds B (.map (es.push { key := .int .u8 k, val := v, born := es.size }) (es.size + 1)) } := by
      simp [Instr.mapUpdate, run_underlying ht, MapKept.run_getObj_map hb, run_checkKey hkt hk, run_findKey hkt h1, MapKept.run_setObj_map _ hb, Result.andThen]
    have hh := heap_set (o' := Obj.map (es.push { key := .int .u8 k, val := v, born := es.size }) (es.size + 1)) hb
    refine ⟨_, hrun, ⟨es.push { key := .int .u8 k, val := v, born := es.size }, ?_, ?_⟩, ⟨rfl, rfl, rfl, by simp, fun i _ hi => hh.2 i (fun e => hi (by rw [e]))⟩⟩
    · rw [Array.size_push]; exact hh.1
    · rw [Array.toList_push]
      refine Fit.snoc (Fit.move ⟨_, _, hb⟩ (fun b hne _ => hh.2 b hne) ha hf) rfl ?_
      exact hs B W _ _ ⟨_, _, hb⟩ (fun b hne _ => hh.2 b hne) hv
  · exfalso
    obtain ⟨s, hs, e1, _⟩ := hf.at j e h2
    rw [h3] at e1
    injection e1 with _ e2
    exact hnew s hs e2.symm

theorem wpList_insert_tab {P : Program} (w : World) {ops : Array Oper} {rest : List Oper} {o : Oper} {a : Act} {Q : Exit → Act → World → Prop}
    (hg : o.guard = none) (m x v : Operand) (t : TypeId) (hop : o.op = Op.insert t m x v) (kt et : TypeId) (ht : P.underlying t = some (.map kt et)) (hkt : P.underlying kt = some (.int .u8))
    (B : Nat) (l : List (Int × Spec)) (hm : a.eval m = .map (some B)) (k : Int) (hx : a.eval x = .int .u8 k) (val : Value) (hv : a.eval v = val) (s : Spec) (h : Tab w B l) (ha : AllSteady l) (hs : Steady s) (hnew : ∀ x ∈ l, x.1 ≠ k) (hval : s w val)
    (hK : ∀ w', Tab w' B (l ++ [(k, s)]) → w.grownBy w' (some B) → wpList P ops Q rest (a.put o.dst undef) w') :
    wpList P ops Q (o :: rest) a w := by
  refine wpList_plain hg fun K' hK' => ?_
  obtain ⟨w', hrun, r1, r2⟩ := h.insert ha ht hkt k val s hs hnew hval
  unfold Oper.wp
  simp [execOp, hop, hm, hx, hv, hrun, Result.andThen]
  exact hK' _ _ (hK w' r1 r2)

/- What a look-up finds. -/
theorem Tab.look {P : Program} {W : World} {B : Nat} {l : List (Int × Spec)} {t kt et : TypeId} (h : Tab W B l) (ht : P.underlying t = some (.map kt et)) (hkt : P.underlying kt = some (.int .u8)) (hz : (zeroValue et).run P W = .ok .nilFunc W) (k : Int) :
    (∃ s ∈ l, s.1 = k ∧ ∃ v, (Instr.lookup t (.map (some B)) (.int .u8 k) true).run P W = .ok (.tuple #[v, .bool true]) W ∧ s.2 W v) ∨
    ((∀ s ∈ l, s.1 ≠ k) ∧ (Instr.lookup t (.map (some B)) (.int .u8 k) true).run P W = .ok (.tuple #[.nilFunc, .bool false]) W) := by
  obtain ⟨es, hb, hf⟩ := h
  have hk : IsKey (.int .u8) (.int .u8 k) := rfl
  have hks : ∀ x ∈ es.toList, IsKey (.int .u8) x.key := fun x hx => by obtain ⟨s, _, e⟩ := hf.keys x hx; rw [e]; rfl
  rcases findNow_spec hk es.toList 0 hks with ⟨h1, h2⟩ | ⟨j, e, h1, h2, h3⟩
  · refine .inr ⟨fun s hs e => ?_, ?_⟩
    · obtain ⟨x, hx, hxk⟩ := hf.has s hs
      exact h2 x hx (by rw [hxk, e])
    · simp [Instr.lookup, run_underlying ht, MapKept.run_getObj_map hb, run_checkKey hkt hk, run_findKey hkt h1, hz, Result.andThen]
  · obtain ⟨s, hs, e1, e2⟩ := hf.at j e h2
    refine .inl ⟨s, hs, ?_, e.val, ?_, e2⟩
    · rw [h3] at e1
      injection e1 with _ e2
      exact e2.symm
    · simp [Instr.lookup, run_underlying ht, MapKept.run_getObj_map hb, run_checkKey hkt hk, run_findKey hkt h1, Result.andThen]
end Go.Proofs.YtlipcmonlhdgfaaGreat
/- The table of operations, as bits.operations lays it. -/
namespace Go.Proofs.YtlipcmonlhdgfaaGreat
open Go.RowKit

def fnV (f : Nat) : Value := .func (Fn.func f) #[] #[]
def pairC (f : Nat) (gv : Value) (W : World) (v : Value) : Prop := ∃ b1 b2, v = .func (Fn.func 187) #[] #[.pointer (some ⟨b1, 0, none⟩), .pointer (some ⟨b2, 0, none⟩)] ∧
  W.heap[b1]? = some (.cells #[.func (Fn.func f) #[] #[]] 109 (0, 0)) ∧ W.heap[b2]? = some (.cells #[gv] 196 (0, 0))
def plainT (f : Nat) : Spec := fun _ v => v = .func (Fn.func f) #[] #[]
def movedT (f : Nat) : Spec := fun W v => ∃ b, v = .func (Fn.func 191) #[] #[.pointer (some ⟨b, 0, none⟩)] ∧ W.heap[b]? = some (.cells #[.func (Fn.func f) #[] #[]] 198 (0, 0))
def toldT (f : Nat) : Spec := fun W v => ∃ b, v = .func (Fn.func 193) #[] #[.pointer (some ⟨b, 0, none⟩)] ∧ W.heap[b]? = some (.cells #[.func (Fn.func f) #[] #[]] 200 (0, 0))
def pairT (f : Nat) (G : Spec) : Spec := fun W v => ∃ gv, pairC f gv W v ∧ G W gv

theorem cells_stay {B : Nat} {W W' : World} {b : Nat} {cs : Array Value} {t : TypeId} (hB : ∃ es c, W.heap[B]? = some (.map es c)) (hk : ∀ b, b ≠ B → b < W.heap.size → W'.heap[b]? = W.heap[b]?) (h : W.heap[b]? = some (.cells cs t (0, 0))) : W'.heap[b]? = some (.cells cs t (0, 0)) := by
  obtain ⟨es, c, hm⟩ := hB
  have hne : b ≠ B := by rintro rfl; rw [hm] at h; simp at h
  rw [hk b hne (lt_of_block h)]; exact h
theorem plainT_steady (f : Nat) : Steady (plainT f) := fun _ _ _ _ _ _ h => h
theorem movedT_steady (f : Nat) : Steady (movedT f) := fun _ _ _ _ hB hk ⟨b, hv, hc⟩ => ⟨b, hv, cells_stay hB hk hc⟩
theorem toldT_steady (f : Nat) : Steady (toldT f) := fun _ _ _ _ hB hk ⟨b, hv, hc⟩ => ⟨b, hv, cells_stay hB hk hc⟩
theorem pairT_steady (f : Nat) {G : Spec} (hG : Steady G) : Steady (pairT f G) := fun B W W' _ hB hk ⟨gv, ⟨b1, b2, hv, h1, h2⟩, hg⟩ => ⟨gv, ⟨b1, b2, hv, cells_stay hB hk h1, cells_stay hB hk h2⟩, hG B W W' _ hB hk hg⟩
theorem steady_nil : AllSteady [] := fun _ h => by cases h
theorem steady_snoc {l : List (Int × Spec)} {s : Int × Spec} (h : AllSteady l) (hs : Steady s.2) : AllSteady (l ++ [s]) := fun x hx => by
  rcases List.mem_append.1 hx with hx | hx
  · exact h x hx
  · rw [List.mem_singleton.1 hx]; exact hs

theorem pair_any (f g : Nat) (caps : Array Value) (w : World) :
    Calls Tryz.prog 155 #[.func (Fn.func f) #[] #[], .func (Fn.func g) #[] caps] w fun e w' => ∃ v, e = .returned v ∧ pairC f (.func (Fn.func g) #[] caps) w' v ∧ Below w.heap.size w w' := by
  go_enter Tryz.func155, Tryz.ntmps155
  go_wp2
  go_ret
  refine ⟨_, rfl, ⟨w.heap.size, w.heap.size + 1, rfl, ?_, ?_⟩, ((Below.refl _ _).alloc (Nat.le_refl _) _).alloc (by simp) _⟩
  · rw [Below.heap_alloc _ _ _ (by simp)]; exact heap_alloc_new _ _
  · have := heap_alloc_new (w.alloc (.cells #[.func (Fn.func f) #[] #[]] 109)) (.cells #[.func (Fn.func g) #[] caps] 196); simpa using this
theorem moved_any (f : Nat) (w : World) :
    Calls Tryz.prog 165 #[.func (Fn.func f) #[] #[]] w fun e w' => ∃ v, e = .returned v ∧ movedT f w' v ∧ Below w.heap.size w w' := by
  go_enter Tryz.func165, Tryz.ntmps165
  go_wp2
  go_ret
  exact ⟨_, rfl, ⟨w.heap.size, rfl, heap_alloc_new _ _⟩, (Below.refl _ _).alloc (Nat.le_refl _) _⟩
theorem told_any (f : Nat) (w : World) :
    Calls Tryz.prog 172 #[.func (Fn.func f) #[] #[]] w fun e w' => ∃ v, e = .returned v ∧ toldT f w' v ∧ Below w.heap.size w w' := by
  go_enter Tryz.func172, Tryz.ntmps172
  go_wp2
  go_ret
  exact ⟨_, rfl, ⟨w.heap.size, rfl, heap_alloc_new _ _⟩, (Below.refl _ _).alloc (Nat.le_refl _) _⟩

def S5 : Spec := pairT 156 (plainT 157)
theorem S5_steady : Steady S5 := pairT_steady _ (plainT_steady _)
def S6 : Spec := pairT 156 (plainT 158)
theorem S6_steady : Steady S6 := pairT_steady _ (plainT_steady _)
def S7 : Spec := pairT 156 (plainT 159)
theorem S7_steady : Steady S7 := pairT_steady _ (plainT_steady _)
def S8 : Spec := pairT 156 (plainT 160)
theorem S8_steady : Steady S8 := pairT_steady _ (plainT_steady _)
def S9 : Spec := pairT 156 (plainT 161)
theorem S9_steady : Steady S9 := pairT_steady _ (plainT_steady _)
def S10 : Spec := pairT 156 (plainT 162)
theorem S10_steady : Steady S10 := pairT_steady _ (plainT_steady _)
def S11 : Spec := plainT 163
theorem S11_steady : Steady S11 := plainT_steady _
def S12 : Spec := pairT 164 (movedT 166)
theorem S12_steady : Steady S12 := pairT_steady _ (movedT_steady _)
def S13 : Spec := pairT 164 (movedT 167)
theorem S13_steady : Steady S13 := pairT_steady _ (movedT_steady _)
def S14 : Spec := pairT 168 (plainT 169)
theorem S14_steady : Steady S14 := pairT_steady _ (plainT_steady _)
def S15 : Spec := plainT 170
theorem S15_steady : Steady S15 := plainT_steady _
def S16 : Spec := plainT 171
theorem S16_steady : Steady S16 := plainT_steady _
def S17 : Spec := pairT 156 (toldT 173)
theorem S17_steady : Steady S17 := pairT_steady _ (toldT_steady _)
def S18 : Spec := pairT 156 (toldT 174)
theorem S18_steady : Steady S18 := pairT_steady _ (toldT_steady _)
def S19 : Spec := pairT 156 (toldT 175)
theorem S19_steady : Steady S19 := pairT_steady _ (toldT_steady _)
def S20 : Spec := pairT 156 (toldT 176)
theorem S20_steady : Steady S20 := pairT_steady _ (toldT_steady _)
def S21 : Spec := pairT 177 (plainT 160)
theorem S21_steady : Steady S21 := pairT_steady _ (plainT_steady _)
def S22 : Spec := pairT 177 (plainT 161)
theorem S22_steady : Steady S22 := pairT_steady _ (plainT_steady _)

theorem below_row {B : Nat} {w a b : World} (h : Below B w a) (g : a.grownBy b (some B)) (hB : B ≤ a.heap.size) : Below B w b := h.grown g hB (fun k e => by injection e with e; omega)
theorem movedT_keep {f : Nat} {W W' : World} {v : Value} (h : movedT f W v) (hb : Below W.heap.size W W') : movedT f W' v := by
  obtain ⟨b, hv, hc⟩ := h
  exact ⟨b, hv, (hb.block b (lt_of_block hc)).trans hc⟩
theorem toldT_keep {f : Nat} {W W' : World} {v : Value} (h : toldT f W v) (hb : Below W.heap.size W W') : toldT f W' v := by
  obtain ⟨b, hv, hc⟩ := h
  exact ⟨b, hv, (hb.block b (lt_of_block hc)).trans hc⟩
def tableL : List (Int × Spec) := [(5, S5), (6, S6), (7, S7), (8, S8), (9, S9), (10, S10), (11, S11), (12, S12), (13, S13), (14, S14), (15, S15), (16, S16), (17, S17), (18, S18), (19, S19), (20, S20), (21, S21), (22, S22)]

set_option maxHeartbeats 4000000 in
theorem operations_any (w : World) :
    Calls Tryz.prog 136 #[] w fun e w' => e = .returned (.map (some w.heap.size)) ∧ Tab w' w.heap.size tableL ∧ Below w.heap.size w w' := by
  have hmm := @run_makeMap Tryz.prog
  have hT := Tab.empty w
  have hN := (Below.refl w.heap.size w).alloc (Nat.le_refl _) (.map #[] 0)
  have hL := steady_nil
  have HT := hide hT; have HN := hide hN; have HL := hide hL
  clear hT hN hL
  go_enter Tryz.func136, Tryz.ntmps136
  go_wp2_with fail
  refine (pair_any 156 157 #[] _).mono ?_
  rintro e U5 ⟨v, rfl, hp5, B5⟩
  have hp := hide (⟨_, hp5, rfl⟩ : S5 U5 v)
  have HT := hide ((unhide HT).move (unhide HL) (fun b h => B5.block b h)); have HN := hide ((unhide HN).trans (B5.mono (unhide HN).size))
  clear B5 hp5
  go_wp2_with (first | (refine wpList_insert_tab _ rfl _ _ _ 177 rfl 57 175 Tryz.underlying177 Tryz.underlying57 w.heap.size _ rfl 5 rfl _ rfl S5 (unhide HT) (unhide HL) S5_steady (by simp) (unhide hp) ?_; intro W5 T5 G5; have HT := hide T5; have HN := hide (below_row (unhide HN) G5 (unhide HN).size); have HL := hide (steady_snoc (s := (5, S5)) (unhide HL) S5_steady); clear T5 G5))
  clear hp
  refine (pair_any 156 158 #[] _).mono ?_
  rintro e U6 ⟨v, rfl, hp6, B6⟩
  have hp := hide (⟨_, hp6, rfl⟩ : S6 U6 v)
  have HT := hide ((unhide HT).move (unhide HL) (fun b h => B6.block b h)); have HN := hide ((unhide HN).trans (B6.mono (unhide HN).size))
  clear B6 hp6
  go_wp2_with (first | (refine wpList_insert_tab _ rfl _ _ _ 177 rfl 57 175 Tryz.underlying177 Tryz.underlying57 w.heap.size _ rfl 6 rfl _ rfl S6 (unhide HT) (unhide HL) S6_steady (by simp) (unhide hp) ?_; intro W6 T6 G6; have HT := hide T6; have HN := hide (below_row (unhide HN) G6 (unhide HN).size); have HL := hide (steady_snoc (s := (6, S6)) (unhide HL) S6_steady); clear T6 G6))
  clear hp
  refine (pair_any 156 159 #[] _).mono ?_
  rintro e U7 ⟨v, rfl, hp7, B7⟩
  have hp := hide (⟨_, hp7, rfl⟩ : S7 U7 v)
  have HT := hide ((unhide HT).move (unhide HL) (fun b h => B7.block b h)); have HN := hide ((unhide HN).trans (B7.mono (unhide HN).size))
  clear B7 hp7
  go_wp2_with (first | (refine wpList_insert_tab _ rfl _ _ _ 177 rfl 57 175 Tryz.underlying177 Tryz.underlying57 w.heap.size _ rfl 7 rfl _ rfl S7 (unhide HT) (unhide HL) S7_steady (by simp) (unhide hp) ?_; intro W7 T7 G7; have HT := hide T7; have HN := hide (below_row (unhide HN) G7 (unhide HN).size); have HL := hide (steady_snoc (s := (7, S7)) (unhide HL) S7_steady); clear T7 G7))
  clear hp
  refine (pair_any 156 160 #[] _).mono ?_
  rintro e U8 ⟨v, rfl, hp8, B8⟩
  have hp := hide (⟨_, hp8, rfl⟩ : S8 U8 v)
  have HT := hide ((unhide HT).move (unhide HL) (fun b h => B8.block b h)); have HN := hide ((unhide HN).trans (B8.mono (unhide HN).size))
  clear B8 hp8
  go_wp2_with (first | (refine wpList_insert_tab _ rfl _ _ _ 177 rfl 57 175 Tryz.underlying177 Tryz.underlying57 w.heap.size _ rfl 8 rfl _ rfl S8 (unhide HT) (unhide HL) S8_steady (by simp) (unhide hp) ?_; intro W8 T8 G8; have HT := hide T8; have HN := hide (below_row (unhide HN) G8 (unhide HN).size); have HL := hide (steady_snoc (s := (8, S8)) (unhide HL) S8_steady); clear T8 G8))
  clear hp
  refine (pair_any 156 161 #[] _).mono ?_
  rintro e U9 ⟨v, rfl, hp9, B9⟩
  have hp := hide (⟨_, hp9, rfl⟩ : S9 U9 v)
  have HT := hide ((unhide HT).move (unhide HL) (fun b h => B9.block b h)); have HN := hide ((unhide HN).trans (B9.mono (unhide HN).size))
  clear B9 hp9
  go_wp2_with (first | (refine wpList_insert_tab _ rfl _ _ _ 177 rfl 57 175 Tryz.underlying177 Tryz.underlying57 w.heap.size _ rfl 9 rfl _ rfl S9 (unhide HT) (unhide HL) S9_steady (by simp) (unhide hp) ?_; intro W9 T9 G9; have HT := hide T9; have HN := hide (below_row (unhide HN) G9 (unhide HN).size); have HL := hide (steady_snoc (s := (9, S9)) (unhide HL) S9_steady); clear T9 G9))
  clear hp
  refine (pair_any 156 162 #[] _).mono ?_
  rintro e U10 ⟨v, rfl, hp10, B10⟩
  have hp := hide (⟨_, hp10, rfl⟩ : S10 U10 v)
  have HT := hide ((unhide HT).move (unhide HL) (fun b h => B10.block b h)); have HN := hide ((unhide HN).trans (B10.mono (unhide HN).size))
  clear B10 hp10
  go_wp2_with (first | (refine wpList_insert_tab _ rfl _ _ _ 177 rfl 57 175 Tryz.underlying177 Tryz.underlying57 w.heap.size _ rfl 10 rfl _ rfl S10 (unhide HT) (unhide HL) S10_steady (by simp) (unhide hp) ?_; intro W10 T10 G10; have HT := hide T10; have HN := hide (below_row (unhide HN) G10 (unhide HN).size); have HL := hide (steady_snoc (s := (10, S10)) (unhide HL) S10_steady); clear T10 G10) | (refine wpList_insert_tab _ rfl _ _ _ 177 rfl 57 175 Tryz.underlying177 Tryz.underlying57 w.heap.size _ rfl 11 rfl _ rfl S11 (unhide HT) (unhide HL) S11_steady (by simp) rfl ?_; intro W11 T11 G11; have HT := hide T11; have HN := hide (below_row (unhide HN) G11 (unhide HN).size); have HL := hide (steady_snoc (s := (11, S11)) (unhide HL) S11_steady); clear T11 G11))
  clear hp
  refine (moved_any 166 _).mono ?_
  rintro e V12 ⟨v, rfl, ⟨bb, rfl, hm12⟩, B12⟩
  have HT := hide ((unhide HT).move (unhide HL) (fun b h => B12.block b h)); have HN := hide ((unhide HN).trans (B12.mono (unhide HN).size))
  have HM := hide (⟨bb, rfl, hm12⟩ : movedT 166 V12 _)
  clear B12 hm12
  go_wp2_with fail
  refine (pair_any 164 _ _ _).mono ?_
  rintro e U12 ⟨v, rfl, hp12, B12⟩
  have hp := hide (⟨_, hp12, movedT_keep (unhide HM) B12⟩ : S12 U12 v)
  clear HM
  have HT := hide ((unhide HT).move (unhide HL) (fun b h => B12.block b h)); have HN := hide ((unhide HN).trans (B12.mono (unhide HN).size))
  clear B12 hp12
  go_wp2_with (first | (refine wpList_insert_tab _ rfl _ _ _ 177 rfl 57 175 Tryz.underlying177 Tryz.underlying57 w.heap.size _ rfl 12 rfl _ rfl S12 (unhide HT) (unhide HL) S12_steady (by simp) (unhide hp) ?_; intro W12 T12 G12; have HT := hide T12; have HN := hide (below_row (unhide HN) G12 (unhide HN).size); have HL := hide (steady_snoc (s := (12, S12)) (unhide HL) S12_steady); clear T12 G12))
  clear hp
  refine (moved_any 167 _).mono ?_
  rintro e V13 ⟨v, rfl, ⟨bb, rfl, hm13⟩, B13⟩
  have HT := hide ((unhide HT).move (unhide HL) (fun b h => B13.block b h)); have HN := hide ((unhide HN).trans (B13.mono (unhide HN).size))
  have HM := hide (⟨bb, rfl, hm13⟩ : movedT 167 V13 _)
  clear B13 hm13
  go_wp2_with fail
  refine (pair_any 164 _ _ _).mono ?_
  rintro e U13 ⟨v, rfl, hp13, B13⟩
  have hp := hide (⟨_, hp13, movedT_keep (unhide HM) B13⟩ : S13 U13 v)
  clear HM
  have HT := hide ((unhide HT).move (unhide HL) (fun b h => B13.block b h)); have HN := hide ((unhide HN).trans (B13.mono (unhide HN).size))
  clear B13 hp13
  go_wp2_with (first | (refine wpList_insert_tab _ rfl _ _ _ 177 rfl 57 175 Tryz.underlying177 Tryz.underlying57 w.heap.size _ rfl 13 rfl _ rfl S13 (unhide HT) (unhide HL) S13_steady (by simp) (unhide hp) ?_; intro W13 T13 G13; have HT := hide T13; have HN := hide (below_row (unhide HN) G13 (unhide HN).size); have HL := hide (steady_snoc (s := (13, S13)) (unhide HL) S13_steady); clear T13 G13))
  clear hp
  refine (pair_any 168 169 #[] _).mono ?_
  rintro e U14 ⟨v, rfl, hp14, B14⟩
  have hp := hide (⟨_, hp14, rfl⟩ : S14 U14 v)
  have HT := hide ((unhide HT).move (unhide HL) (fun b h => B14.block b h)); have HN := hide ((unhide HN).trans (B14.mono (unhide HN).size))
  clear B14 hp14
  go_wp2_with (first | (refine wpList_insert_tab _ rfl _ _ _ 177 rfl 57 175 Tryz.underlying177 Tryz.underlying57 w.heap.size _ rfl 14 rfl _ rfl S14 (unhide HT) (unhide HL) S14_steady (by simp) (unhide hp) ?_; intro W14 T14 G14; have HT := hide T14; have HN := hide (below_row (unhide HN) G14 (unhide HN).size); have HL := hide (steady_snoc (s := (14, S14)) (unhide HL) S14_steady); clear T14 G14) | (refine wpList_insert_tab _ rfl _ _ _ 177 rfl 57 175 Tryz.underlying177 Tryz.underlying57 w.heap.size _ rfl 15 rfl _ rfl S15 (unhide HT) (unhide HL) S15_steady (by simp) rfl ?_; intro W15 T15 G15; have HT := hide T15; have HN := hide (below_row (unhide HN) G15 (unhide HN).size); have HL := hide (steady_snoc (s := (15, S15)) (unhide HL) S15_steady); clear T15 G15) | (refine wpList_insert_tab _ rfl _ _ _ 177 rfl 57 175 Tryz.underlying177 Tryz.underlying57 w.heap.size _ rfl 16 rfl _ rfl S16 (unhide HT) (unhide HL) S16_steady (by simp) rfl ?_; intro W16 T16 G16; have HT := hide T16; have HN := hide (below_row (unhide HN) G16 (unhide HN).size); have HL := hide (steady_snoc (s := (16, S16)) (unhide HL) S16_steady); clear T16 G16))
  clear hp
  refine (told_any 173 _).mono ?_
  rintro e V17 ⟨v, rfl, ⟨bb, rfl, hm17⟩, B17⟩
  have HT := hide ((unhide HT).move (unhide HL) (fun b h => B17.block b h)); have HN := hide ((unhide HN).trans (B17.mono (unhide HN).size))
  have HM := hide (⟨bb, rfl, hm17⟩ : toldT 173 V17 _)
  clear B17 hm17
  go_wp2_with fail
  refine (pair_any 156 _ _ _).mono ?_
  rintro e U17 ⟨v, rfl, hp17, B17⟩
  have hp := hide (⟨_, hp17, toldT_keep (unhide HM) B17⟩ : S17 U17 v)
  clear HM
  have HT := hide ((unhide HT).move (unhide HL) (fun b h => B17.block b h)); have HN := hide ((unhide HN).trans (B17.mono (unhide HN).size))
  clear B17 hp17
  go_wp2_with (first | (refine wpList_insert_tab _ rfl _ _ _ 177 rfl 57 175 Tryz.underlying177 Tryz.underlying57 w.heap.size _ rfl 17 rfl _ rfl S17 (unhide HT) (unhide HL) S17_steady (by simp) (unhide hp) ?_; intro W17 T17 G17; have HT := hide T17; have HN := hide (below_row (unhide HN) G17 (unhide HN).size); have HL := hide (steady_snoc (s := (17, S17)) (unhide HL) S17_steady); clear T17 G17))
  clear hp
  refine (told_any 174 _).mono ?_
  rintro e V18 ⟨v, rfl, ⟨bb, rfl, hm18⟩, B18⟩
  have HT := hide ((unhide HT).move (unhide HL) (fun b h => B18.block b h)); have HN := hide ((unhide HN).trans (B18.mono (unhide HN).size))
  have HM := hide (⟨bb, rfl, hm18⟩ : toldT 174 V18 _)
  clear B18 hm18
  go_wp2_with fail
  refine (pair_any 156 _ _ _).mono ?_
  rintro e U18 ⟨v, rfl, hp18, B18⟩
  have hp := hide (⟨_, hp18, toldT_keep (unhide HM) B18⟩ : S18 U18 v)
  clear HM
  have HT := hide ((unhide HT).move (unhide HL) (fun b h => B18.block b h)); have HN := hide ((unhide HN).trans (B18.mono (unhide HN).size))
  clear B18 hp18
  go_wp2_with (first | (refine wpList_insert_tab _ rfl _ _ _ 177 rfl 57 175 Tryz.underlying177 Tryz.underlying57 w.heap.size _ rfl 18 rfl _ rfl S18 (unhide HT) (unhide HL) S18_steady (by simp) (unhide hp) ?_; intro W18 T18 G18; have HT := hide T18; have HN := hide (below_row (unhide HN) G18 (unhide HN).size); have HL := hide (steady_snoc (s := (18, S18)) (unhide HL) S18_steady); clear T18 G18))
  clear hp
  refine (told_any 175 _).mono ?_
  rintro e V19 ⟨v, rfl, ⟨bb, rfl, hm19⟩, B19⟩
  have HT := hide ((unhide HT).move (unhide HL) (fun b h => B19.block b h)); have HN := hide ((unhide HN).trans (B19.mono (unhide HN).size))
  have HM := hide (⟨bb, rfl, hm19⟩ : toldT 175 V19 _)
  clear B19 hm19
  go_wp2_with fail
  refine (pair_any 156 _ _ _).mono ?_
  rintro e U19 ⟨v, rfl, hp19, B19⟩
  have hp := hide (⟨_, hp19, toldT_keep (unhide HM) B19⟩ : S19 U19 v)
  clear HM
  have HT := hide ((unhide HT).move (unhide HL) (fun b h => B19.block b h)); have HN := hide ((unhide HN).trans (B19.mono (unhide HN).size))
  clear B19 hp19
  go_wp2_with (first | (refine wpList_insert_tab _ rfl _ _ _ 177 rfl 57 175 Tryz.underlying177 Tryz.underlying57 w.heap.size _ rfl 19 rfl _ rfl S19 (unhide HT) (unhide HL) S19_steady (by simp) (unhide hp) ?_; intro W19 T19 G19; have HT := hide T19; have HN := hide (below_row (unhide HN) G19 (unhide HN).size); have HL := hide (steady_snoc (s := (19, S19)) (unhide HL) S19_steady); clear T19 G19))
  clear hp
  refine (told_any 176 _).mono ?_
  rintro e V20 ⟨v, rfl, ⟨bb, rfl, hm20⟩, B20⟩
  have HT := hide ((unhide HT).move (unhide HL) (fun b h => B20.block b h)); have HN := hide ((unhide HN).trans (B20.mono (unhide HN).size))
  have HM := hide (⟨bb, rfl, hm20⟩ : toldT 176 V20 _)
  clear B20 hm20
  go_wp2_with fail
  refine (pair_any 156 _ _ _).mono ?_
  rintro e U20 ⟨v, rfl, hp20, B20⟩
  have hp := hide (⟨_, hp20, toldT_keep (unhide HM) B20⟩ : S20 U20 v)
  clear HM
  have HT := hide ((unhide HT).move (unhide HL) (fun b h => B20.block b h)); have HN := hide ((unhide HN).trans (B20.mono (unhide HN).size))
  clear B20 hp20
  go_wp2_with (first | (refine wpList_insert_tab _ rfl _ _ _ 177 rfl 57 175 Tryz.underlying177 Tryz.underlying57 w.heap.size _ rfl 20 rfl _ rfl S20 (unhide HT) (unhide HL) S20_steady (by simp) (unhide hp) ?_; intro W20 T20 G20; have HT := hide T20; have HN := hide (below_row (unhide HN) G20 (unhide HN).size); have HL := hide (steady_snoc (s := (20, S20)) (unhide HL) S20_steady); clear T20 G20))
  clear hp
  refine (pair_any 177 160 #[] _).mono ?_
  rintro e U21 ⟨v, rfl, hp21, B21⟩
  have hp := hide (⟨_, hp21, rfl⟩ : S21 U21 v)
  have HT := hide ((unhide HT).move (unhide HL) (fun b h => B21.block b h)); have HN := hide ((unhide HN).trans (B21.mono (unhide HN).size))
  clear B21 hp21
  go_wp2_with (first | (refine wpList_insert_tab _ rfl _ _ _ 177 rfl 57 175 Tryz.underlying177 Tryz.underlying57 w.heap.size _ rfl 21 rfl _ rfl S21 (unhide HT) (unhide HL) S21_steady (by simp) (unhide hp) ?_; intro W21 T21 G21; have HT := hide T21; have HN := hide (below_row (unhide HN) G21 (unhide HN).size); have HL := hide (steady_snoc (s := (21, S21)) (unhide HL) S21_steady); clear T21 G21))
  clear hp
  refine (pair_any 177 161 #[] _).mono ?_
  rintro e U22 ⟨v, rfl, hp22, B22⟩
  have hp := hide (⟨_, hp22, rfl⟩ : S22 U22 v)
  have HT := hide ((unhide HT).move (unhide HL) (fun b h => B22.block b h)); have HN := hide ((unhide HN).trans (B22.mono (unhide HN).size))
  clear B22 hp22
  go_wp2_with (first | (refine wpList_insert_tab _ rfl _ _ _ 177 rfl 57 175 Tryz.underlying177 Tryz.underlying57 w.heap.size _ rfl 22 rfl _ rfl S22 (unhide HT) (unhide HL) S22_steady (by simp) (unhide hp) ?_; intro W22 T22 G22; have HT := hide T22; have HN := hide (below_row (unhide HN) G22 (unhide HN).size); have HL := hide (steady_snoc (s := (22, S22)) (unhide HL) S22_steady); clear T22 G22))
  clear hp
  go_ret
  exact ⟨rfl, unhide HT, unhide HN⟩
end Go.Proofs.YtlipcmonlhdgfaaGreat
