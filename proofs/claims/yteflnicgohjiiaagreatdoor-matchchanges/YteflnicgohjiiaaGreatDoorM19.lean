/- Pieces of the proof: MwC, RowCa. -/
import Derived.Test.YteflnicgohjiiaaGreatDoorM18
/- beyond: is a case too great? -/
namespace Go.Proofs.YteflnicgohjiiaaGreatDoor
open Go.RowKit

def caCells (x : TbL) (la : Option Addr) (lc : Nat) (l : List EnL) (y : EnL) : Array Value := #[.slice x.ka x.t.ks.length x.kc, .slice x.wa x.t.ws.length x.wc, .int .i64 x.t.size, .slice la l.length lc, .slice y.ma y.e.ms.length y.mc, .int .i64 y.e.prio, .string y.e.act, .slice y.aa y.e.args.length y.ac]
def caSz (x : TbL) (l : List EnL) (y : EnL) : Nat := esz (ens l) + szE y.e + x.t.ks.length + x.t.ws.length
structure CaO (W : World) (x : TbL) (la : Option Addr) (lc : Nat) (l : List EnL) (y : EnL) : Prop where
  t : TbR W x
  es : RdEO W la l
  ln : l.length ≤ 140737488355328
  lz : la = none → lc = 0
  e : EnO W y
theorem at8 {W : World} {b : Nat} {x0 x1 x2 x3 x4 x5 x6 x7 : Value} {t : TypeId} (h : W.heap[b]? = some (.cells #[x0, x1, x2, x3, x4, x5, x6, x7] t (0, 0))) : W.cell? ⟨b, 0, none⟩ = some x0 ∧ W.cell? ⟨b, 1, none⟩ = some x1 ∧ W.cell? ⟨b, 2, none⟩ = some x2 ∧ W.cell? ⟨b, 3, none⟩ = some x3 ∧ W.cell? ⟨b, 4, none⟩ = some x4 ∧ W.cell? ⟨b, 5, none⟩ = some x5 ∧ W.cell? ⟨b, 6, none⟩ = some x6 ∧ W.cell? ⟨b, 7, none⟩ = some x7 := by
  refine ⟨?_, ?_, ?_, ?_, ?_, ?_, ?_, ?_⟩
  all_goals (unfold World.cell?; simp only [h]; rfl)
theorem esz_bd {W : World} {la : Option Addr} {l : List EnL} (h : RdEO W la l) (hl : l.length ≤ 140737488355328) : esz (ens l) ≤ 600000000000000 := by
  have := szF_bd 500000000000000 (ens l) (ens l).length (fun e he => by
    obtain ⟨x, hx, rfl⟩ := List.mem_map.1 he
    have := h.ok x hx
    exact szE_bd this.sb this.mb this.ab) (by rw [ens_len]; omega)
  unfold esz; omega
set_option maxRecDepth 100000 in
set_option maxHeartbeats 4000000 in
theorem beyond_any (x : TbL) (la : Option Addr) (lc : Nat) (l : List EnL) (y : EnL) (w : World) (h : CaO w x la lc l y) : Calls Tryz.prog 4 #[.agg (caCells x la lc l y)] w fun e w' => e = .returned (.bool (decide (30000 < caSz x l y))) ∧ Below w.heap.size w w' := by
  have b1 := esz_bd h.es h.ln
  have b2 := szE_bd h.e.sb h.e.mb h.e.ab
  have b3 := h.t.kn
  have b4 := h.t.wn
  have HE : Hid (Pure _ _ _) := enSize_any y h.e.sb h.e.mb h.e.ab
  have HS : Hid (∀ W, Below w.heap.size w W → _) := fun W hb => ensSize_any la lc l W (h.es.below hb) h.ln
  clear h
  unfold caSz
  generalize esz (ens l) = n1 at *
  generalize szE y.e = n2 at *
  obtain ⟨⟨ks, ws, size⟩, ka, kc, wa, wc⟩ := x
  obtain ⟨⟨ms, prio, act, args⟩, ma, mc, aa, ac⟩ := y
  simp only [caCells, EnL.val] at *
  have e1 : wrap64 ((n1 : Int) + (n2 : Int)) = (n1 : Int) + (n2 : Int) := by unfold wrap64; omega
  have e2 : wrap64 ((n1 : Int) + (n2 : Int) + (ks.length : Int)) = (n1 : Int) + (n2 : Int) + (ks.length : Int) := by unfold wrap64; omega
  have e3 : wrap64 ((n1 : Int) + (n2 : Int) + (ks.length : Int) + (ws.length : Int)) = (n1 : Int) + (n2 : Int) + (ks.length : Int) + (ws.length : Int) := by unfold wrap64; omega
  clear b1 b2 b3 b4
  generalize hW1 : w.alloc (.cells #[.slice ka ks.length kc, .slice wa ws.length wc, .int .i64 size, .slice la l.length lc, .slice ma ms.length mc, .int .i64 prio, .string act, .slice aa args.length ac] 32) = W1
  have B1 : Below w.heap.size w W1 := hW1 ▸ below1 _ _
  have h8 : W1.heap[w.heap.size]? = some (.cells #[.slice ka ks.length kc, .slice wa ws.length wc, .int .i64 size, .slice la l.length lc, .slice ma ms.length mc, .int .i64 prio, .string act, .slice aa args.length ac] 32 (0, 0)) := hW1 ▸ heap_alloc_new _ _
  obtain ⟨X, f, hX, hS, hcov⟩ := class_of (fun w' => Below W1.heap.size W1 w') W1.drew (Below.refl _ _).drew
  have HC0 : Hid (∃ x, W1.drew = f x) := hcov _ (Below.refl _ _).drew
  have HNX : Hid (∀ x w', Below (f x).heap.size (f x) w' → ∃ y, w' = f y) := fun x w' hb => hcov w' ((hS x).trans (hb.mono (hS x).size))
  have HBX : Hid (∀ x, Below w.heap.size w (f x)) := fun x => bstep B1 (hS x)
  have t0 := fun x => (at8 (heap_below (hS x) h8)).1
  have t1 := fun x => (at8 (heap_below (hS x) h8)).2.1
  have t3 := fun x => (at8 (heap_below (hS x) h8)).2.2.2.1
  have t4 := fun x => (at8 (heap_below (hS x) h8)).2.2.2.2.1
  have t5 := fun x => (at8 (heap_below (hS x) h8)).2.2.2.2.2.1
  have t6 := fun x => (at8 (heap_below (hS x) h8)).2.2.2.2.2.2.1
  have t7 := fun x => (at8 (heap_below (hS x) h8)).2.2.2.2.2.2.2
  have HW1 := hide hW1
  clear hcov hS B1 h8 hW1
  go_enter Tryz.func4, Tryz.ntmps4
  go_wp2
  rw [HW1.out]
  refine wp_region_class f (by kernel_rfl) (by kernel_rfl) HC0.out ?_
  repeat (first
    | go_big_quiet_skip
    | (go_big_quiet_want; go_big_quiet_op; first
        | go_big_quiet_on
        | (apply Exists.intro
           refine ⟨fun _ => ?_, ?_⟩
           · first
              | (go_at_call 21; refine (HS.out _ (HBX.out _)).mono ?_; rintro e' wn ⟨rfl, hb⟩; exact ⟨rfl, HNX.out _ _ hb⟩)
              | (go_at_call 22; refine (HE.out _).mono ?_; rintro e' wn ⟨rfl, hb⟩; exact ⟨rfl, HNX.out _ _ hb⟩)
           go_big_quiet_on)))
  refine wpQuiet_nil ?_
  rintro _ ⟨x, rfl⟩
  go_wp2
  go_ret
  exact ⟨by simp; omega, HBX.out x⟩
end Go.Proofs.YteflnicgohjiiaaGreatDoor
/- What came in, opened: a case. -/
namespace Go.Proofs.YteflnicgohjiiaaGreatDoor
open Go.ChangeShapes Go.WideShapes Go.ChangeAt Go.RowKit

theorem eight8 {α : Type} {l : List α} (h : l.length = 8) : ∃ a b c d e f g i, l = [a, b, c, d, e, f, g, i] := by
  rcases l with _ | ⟨a, l⟩
  · cases h
  · obtain ⟨b, c, d, e, f, g, i, rfl⟩ := seven (l := l) (by simpa using h)
    exact ⟨a, b, c, d, e, f, g, i, rfl⟩
set_option maxRecDepth 100000 in
theorem open_case {H : Type} {enc : TypeId × Value → H} {W : World} {base fuel : Nat} {cs : List Value} {x : DataW H × List MemPlace} (h : DataW.trod enc Tryz.prog W base (fun _ => true) true fuel 32 cs = some x) (hw : ∀ n ∈ x.1.weights Tryz.prog 32, n ≤ reachBytes) : ∃ (t : TbL) (la : Option Addr) (lc : Nat) (l : List EnL) (y : EnL), cs = (caCells t la lc l y).toList ∧ CaO W t la lc l y := by
  have hl := len_struct Tryz.underlying32 h
  rw [cellsCa] at hl
  obtain ⟨a, b, c, d, e, f, g, i, rfl⟩ := eight8 hl
  obtain ⟨_, y0, h0, w0⟩ := field_at Tryz.underlying32 h hw 0 rfl (ft := 25) (off := 0) rfl rfl cellsTb
  obtain ⟨_, y1, h1, w1⟩ := field_at Tryz.underlying32 h hw 1 rfl (ft := 26) (off := 3) rfl rfl cellsSl3
  obtain ⟨_, y2, h2, w2⟩ := field_at Tryz.underlying32 h hw 2 rfl (ft := 30) (off := 4) rfl rfl cellsEn
  obtain ⟨t, e0, r0⟩ := open_tb h0 w0
  obtain ⟨la, lc, l, e1, r1, z1, n1⟩ := open_ens h1 w1
  obtain ⟨y, e2, r2⟩ := open_en h2 w2
  simp [EnL.cells] at e0 e2
  obtain ⟨rfl, rfl, rfl⟩ := e0
  obtain ⟨rfl, rfl, rfl, rfl⟩ := e2
  subst e1
  exact ⟨t, la, lc, l, y, rfl, ⟨r0, r1, n1, z1, r2⟩⟩
end Go.Proofs.YteflnicgohjiiaaGreatDoor
