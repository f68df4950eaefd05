/- beyond: is a case too great? -/
import Derived.Test.YthkhdmdllhbfeaaMwB
namespace Go.Proofs.Ythkhdmdllhbfeaa
open Go.RowKit

def caCells (x : TbL) (la : Option Addr) (lc : Nat) (l : List EnL) (y : EnL) : Array Value := #[.slice x.ka x.t.ks.length x.kc, .slice x.wa x.t.ws.length x.wc, .int .i64 x.t.size, .slice la l.length lc, .slice y.ma y.e.ms.length y.mc, .int .i64 y.e.prio, .string y.e.act, .slice y.aa y.e.args.length y.ac]
def caSz (x : TbL) (l : List EnL) (y : EnL) : Nat := esz (ens l) + szE y.e + x.t.ks.length + x.t.ws.length
structure CaO (W : World) (x : TbL) (la : Option Addr) (lc : Nat) (l : List EnL) (y : EnL) : Prop where
  t : TbR W x
  es : RdEO W la l
  ln : l.length ≤ 140737488355328
  lz : la = none → lc = 0
  e : EnO W y
theorem at8 {W : World} {b : Nat} {x0 x1 x2 x3 x4 x5 x6 x7 : Value} {t : TypeId} (h : W.heap[b]? = some (.cells #[x0, x1, x2, x3, x4, x5, x6, x7] t (0, 0))) : W.cell? ⟨b, 0, none⟩ = some x0 ∧ W.cell? ⟨b, 1, none⟩ = some x1 ∧ W.cell? ⟨b, 2, none⟩ = some x2 ∧ W.cell? ⟨b, 3, none⟩ = some x3 ∧ W.cell? ⟨b, 4, none⟩ = some x4 ∧ W.cell? ⟨b, 5, none⟩ = some x5 ∧ W.cell? ⟨b, 6, none⟩ = some x6 ∧ W.cell? ⟨b, 7, none⟩ = some x7 := by
  refine ⟨?_, ?_, ?_, ?_, ?_, ?_, ?_, ?_⟩
  all_goals (unfold World.cell?; simp only [h]; rfl)
theorem esz_bd {W : World} {la : Option Addr} {l : List EnL} (h : RdEO W la l) (hl : l.length ≤ 140737488355328) : esz (ens l) ≤ 600000000000000 := by
  have := szF_bd 500000000000000 (ens l) (ens l).length (fun e he => by
    obtain ⟨x, hx, rfl⟩ := List.mem_map.1 he
    have := h.ok x hx
    exact szE_bd this.sb this.mb this.ab) (by rw [ens_len]; omega)
  unfold esz; omega
set_option maxRecDepth 100000 in
set_option maxHeartbeats 4000000 in
theorem beyond_any (x : TbL) (la : Option Addr) (lc : Nat) (l : List EnL) (y : EnL) (w : World) (h : CaO w x la lc l y) : Calls Try.prog 5 #[.agg (caCells x la lc l y)] w fun e w' => e = .returned (.bool (decide (30000 < caSz x l y))) ∧ Below w.heap.size w w' := by
  have b1 := esz_bd h.es h.ln
  have b2 := szE_bd h.e.sb h.e.mb h.e.ab
  have b3 := h.t.kn
  have b4 := h.t.wn
  have HE : Hid (Pure _ _ _) := enSize_any y h.e.sb h.e.mb h.e.ab
  have HS : Hid (∀ W, Below w.heap.size w W → _) := fun W hb => ensSize_any la lc l W (h.es.below hb) h.ln
  clear h
  unfold caSz
  generalize esz (ens l) = n1 at *
  generalize szE y.e = n2 at *
  obtain ⟨⟨ks, ws, size⟩, ka, kc, wa, wc⟩ := x
  obtain ⟨⟨ms, prio, act, args⟩, ma, mc, aa, ac⟩ := y
  simp only [caCells, EnL.val] at *
  have e1 : wrap64 ((n1 : Int) + (n2 : Int)) = (n1 : Int) + (n2 : Int) := by unfold wrap64; omega
  have e2 : wrap64 ((n1 : Int) + (n2 : Int) + (ks.length : Int)) = (n1 : Int) + (n2 : Int) + (ks.length : Int) := by unfold wrap64; omega
  have e3 : wrap64 ((n1 : Int) + (n2 : Int) + (ks.length : Int) + (ws.length : Int)) = (n1 : Int) + (n2 : Int) + (ks.length : Int) + (ws.length : Int) := by unfold wrap64; omega
  clear b1 b2 b3 b4
  generalize hW1 : w.alloc (.cells #[.slice ka ks.length kc, .slice wa ws.length wc, .int .i64 size, .slice la l.length lc, .slice ma ms.length mc, .int .i64 prio, .string act, .slice aa args.length ac] 32) = W1
  have B1 : Below w.heap.size w W1 := hW1 ▸ below1 _ _
  have h8 : W1.heap[w.heap.size]? = some (.cells #[.slice ka ks.length kc, .slice wa ws.length wc, .int .i64 size, .slice la l.length lc, .slice ma ms.length mc, .int .i64 prio, .string act, .slice aa args.length ac] 32 (0, 0)) := hW1 ▸ heap_alloc_new _ _
  obtain ⟨X, f, hX, hS, hcov⟩ := class_of (fun w' => Below W1.heap.size W1 w') W1.drew (Below.refl _ _).drew
  have HC0 : Hid (∃ x, W1.drew = f x) := hcov _ (Below.refl _ _).drew
  have HNX : Hid (∀ x w', Below (f x).heap.size (f x) w' → ∃ y, w' = f y) := fun x w' hb => hcov w' ((hS x).trans (hb.mono (hS x).size))
  have HBX : Hid (∀ x, Below w.heap.size w (f x)) := fun x => bstep B1 (hS x)
  have t0 := fun x => (at8 (heap_below (hS x) h8)).1
  have t1 := fun x => (at8 (heap_below (hS x) h8)).2.1
  have t3 := fun x => (at8 (heap_below (hS x) h8)).2.2.2.1
  have t4 := fun x => (at8 (heap_below (hS x) h8)).2.2.2.2.1
  have t5 := fun x => (at8 (heap_below (hS x) h8)).2.2.2.2.2.1
  have t6 := fun x => (at8 (heap_below (hS x) h8)).2.2.2.2.2.2.1
  have t7 := fun x => (at8 (heap_below (hS x) h8)).2.2.2.2.2.2.2
  have HW1 := hide hW1
  clear hcov hS B1 h8 hW1
  go_enter Try.func5, Try.ntmps5
  go_wp2
  rw [HW1.out]
  refine wp_region_class f (by kernel_rfl) (by kernel_rfl) HC0.out ?_
  repeat (first
    | go_big_quiet_skip
    | (go_big_quiet_want; go_big_quiet_op; first
        | go_big_quiet_on
        | (apply Exists.intro
           refine ⟨fun _ => ?_, ?_⟩
           · first
              | (go_at_call 16; refine (HS.out _ (HBX.out _)).mono ?_; rintro e' wn ⟨rfl, hb⟩; exact ⟨rfl, HNX.out _ _ hb⟩)
              | (go_at_call 17; refine (HE.out _).mono ?_; rintro e' wn ⟨rfl, hb⟩; exact ⟨rfl, HNX.out _ _ hb⟩)
           go_big_quiet_on)))
  refine wpQuiet_nil ?_
  rintro _ ⟨x, rfl⟩
  go_wp2
  go_ret
  exact ⟨by simp; omega, HBX.out x⟩
end Go.Proofs.Ythkhdmdllhbfeaa
