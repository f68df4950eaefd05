/- package match: where the entry of a place stands. -/
import Derived.Test.YthkhdmdllhbfeaaMtK
namespace Go.Proofs.Ythkhdmdllhbfeaa
open Go.RowKit

structure RdE (W : World) (a : Option Addr) (l : List EnL) : Prop where
  rd : l = [] ∨ ∃ p off, a = some ⟨p, off, none⟩ ∧ p < W.heap.size ∧ ∀ i (h : i < l.length), W.cell? ⟨p, off + i * 4, none⟩ = some (.slice l[i].ma l[i].e.ms.length l[i].mc) ∧ W.cell? ⟨p, off + i * 4 + 1, none⟩ = some (.int .i64 l[i].e.prio) ∧ W.cell? ⟨p, off + i * 4 + 2, none⟩ = some (.string l[i].e.act) ∧ W.cell? ⟨p, off + i * 4 + 3, none⟩ = some (.slice l[i].aa l[i].e.args.length l[i].ac)
  ok : ∀ x ∈ l, EnR W x
theorem RdE.below {W W' : World} {a : Option Addr} {l : List EnL} (h : RdE W a l) (hb : Below W.heap.size W W') : RdE W' a l := by
  refine ⟨?_, fun x hx => (h.ok x hx).below hb⟩
  rcases h.rd with h | ⟨p, off, rfl, hp, hc⟩
  · exact .inl h
  · exact .inr ⟨p, off, rfl, Nat.lt_of_lt_of_le hp hb.size, fun i hi => ⟨(hb.cell (p := ⟨p, _, none⟩) hp).trans (hc i hi).1, (hb.cell (p := ⟨p, _, none⟩) hp).trans (hc i hi).2.1, (hb.cell (p := ⟨p, _, none⟩) hp).trans (hc i hi).2.2.1, (hb.cell (p := ⟨p, _, none⟩) hp).trans (hc i hi).2.2.2⟩⟩
theorem RdE.some {W : World} {a : Option Addr} {l : List EnL} (h : RdE W a l) (hx : 0 < l.length) : ∃ p off, a = some ⟨p, off, none⟩ ∧ p < W.heap.size ∧ ∀ i (h : i < l.length), W.cell? ⟨p, off + i * 4, none⟩ = some (.slice l[i].ma l[i].e.ms.length l[i].mc) ∧ W.cell? ⟨p, off + i * 4 + 1, none⟩ = some (.int .i64 l[i].e.prio) ∧ W.cell? ⟨p, off + i * 4 + 2, none⟩ = some (.string l[i].e.act) ∧ W.cell? ⟨p, off + i * 4 + 3, none⟩ = some (.slice l[i].aa l[i].e.args.length l[i].ac) := by
  rcases h.rd with rfl | h
  · simp at hx
  · exact h
def sameP (x e : En) : Bool := x.prio == e.prio && eqMs x.ms e.ms
def EnB (W : World) (b : Nat) (x : EnL) : Prop := W.heap[b]? = some (.cells #[.slice x.ma x.e.ms.length x.mc, .int .i64 x.e.prio, .string x.e.act, .slice x.aa x.e.args.length x.ac] 30 (0, 0))
theorem EnB.below {W W' : World} {b : Nat} {x : EnL} (h : EnB W b x) (hb : Below W.heap.size W W') : EnB W' b x := heap_below hb h
set_option maxHeartbeats 2000000 in
theorem isPlace_any (x y : EnL) (eb : Nat) (w : World) (hx : EnR w x) (hy : EnR w y) (hB : EnB w eb y) :
    Calls Try.prog 52 #[x.val, .pointer (some ⟨eb, 0, none⟩)] w fun e w' => e = .returned (.bool (sameP x.e y.e)) ∧ Below w.heap.size w w' := by
  have HQ : Hid (∀ W, Below w.heap.size w W → _) := fun W hb => equal_any x.ma y.ma x.mc y.mc x.e.ms y.e.ms W (hx.ms.below hb) (hy.ms.below hb) (by have := hx.mn; omega)
  have hB1 := fun o => at4 (heap_past o hB)
  unfold sameP
  clear hx hy hB
  generalize eqMs x.e.ms y.e.ms = t at *
  obtain ⟨⟨ms, prio, act, args⟩, ma, mc, aa, ac⟩ := x
  obtain ⟨⟨ms2, prio2, act2, args2⟩, ma2, mc2, aa2, ac2⟩ := y
  simp only [EnL.val] at *
  obtain ⟨b0, b1, -, -, -⟩ := hB1 (.cells #[.slice ma ms.length mc, .int .i64 prio, .string act, .slice aa args.length ac] 30)
  clear hB1
  by_cases hp : prio = prio2
  · subst hp
    go_enter Try.func52, Try.ntmps52
    go_wp2_with fail
    refine (HQ.out _ (below1 _ _)).mono ?_
    rintro e w1 ⟨rfl, hb⟩
    go_wp2
    go_ret
    exact ⟨by simp, bstep (below1 _ _) hb⟩
  · have f1 : (prio == prio2) = false := by simp [hp]
    have f2 : (prio = prio2) = False := by simp [hp]
    clear hp
    go_enter Try.func52, Try.ntmps52
    go_wp2
    go_ret
    exact ⟨by simp [f1], below1 _ _⟩
set_option maxRecDepth 100000 in
set_option maxHeartbeats 4000000 in
theorem indexPlace_any (a : Option Addr) (cap : Nat) (l : List EnL) (y : EnL) (eb : Nat) (w : World) (hr : RdE w a l) (hl : l.length ≤ 1000000) (hy : EnR w y) (hB : EnB w eb y) :
    Calls Try.prog 51 #[.slice a l.length cap, .func (.func 52) #[] #[.pointer (some ⟨eb, 0, none⟩)]] w fun e w' => e = .returned (.int .i64 (firstI (fun x : EnL => sameP x.e y.e) l)) ∧ Below w.heap.size w w' := by
  have HR := hide hr
  have HC0 : Hid (∀ i (h : i < l.length) W, Below w.heap.size w W → _) := fun i h W hb => isPlace_any l[i] y eb W ((hr.ok _ (List.getElem_mem h)).below hb) (hy.below hb) (hB.below hb)
  clear hr hy hB
  generalize hP : (fun x : EnL => sameP x.e y.e) = P at *
  have HC : Hid (∀ i (h : i < l.length) W, Below w.heap.size w W → Calls Try.prog 52 #[l[i].val, .pointer (some ⟨eb, 0, none⟩)] W fun e w' => e = .returned (.bool (P l[i])) ∧ Below W.heap.size W w') := fun i h W hb => by rw [← hP]; exact HC0.out i h W hb
  clear HC0 hP
  go_enter Try.func51, Try.ntmps51
  go_wp2
  go_loopw [8] (fun i wr => ∃ k : Nat, k ≤ l.length ∧ i = .int .i64 k ∧ (∀ j (hj : j < k) (hj' : j < l.length), P l[j] = false) ∧ Below w.heap.size w wr) (fun i _ => l.length - (intOf i).toNat)
  case atStart => exact ⟨0, by omega, rfl, fun j hj => absurd hj (by omega), Below.refl _ _⟩
  case round =>
    obtain ⟨k, hk, rfl, hn, hb⟩ := hrel
    have HN := hide hn
    have HW := hide hb
    clear hn hb
    by_cases hlt : k < l.length
    · obtain ⟨p, off, rfl, hp, hcl⟩ := (HR.out.below HW.out).some (by omega)
      obtain ⟨q0, q1, q2, q3⟩ := hcl k hlt
      have hlI : (k : Int) < (l.length : Int) := by omega
      have HD := hide (HC.out k hlt wr HW.out)
      have HX : Hid (P l[k] = false → ∀ j (hj : j < k + 1) (hj' : j < l.length), P l[j] = false) := fun ho j hj hj' => by
        by_cases e : j = k
        · subst e; exact ho
        · exact HN.out j (by omega) hj'
      have HO : Hid (P l[k] = true → firstI P l = k) := fun ho => firstI_hit hlt ho (fun j hj => HN.out j hj (by omega))
      clear hcl hp
      generalize P l[k] = t at *
      generalize l[k] = x at *
      obtain ⟨⟨ms, prio, act, args⟩, ma, mc, aa, ac⟩ := x
      simp only [EnL.val] at *
      cases t
      · go_wp2_with fail
        refine HD.out.mono ?_
        rintro e w1 ⟨rfl, hb⟩
        go_wp2
        go_roundw
        case rel => exact ⟨k + 1, by omega, by go_num, HX.out (by first | rfl | trivial), bstep HW.out hb⟩
        case measure => simp [intOf]; omega
      · go_wp2_with fail
        refine HD.out.mono ?_
        rintro e w1 ⟨rfl, hb⟩
        go_wp2
        go_ret
        exact ⟨by rw [HO.out (by first | rfl | trivial)]; rfl, bstep HW.out hb⟩
    · obtain rfl : k = l.length := by omega
      have HH := hide (firstI_none (p := P) (l := l) (fun j hj => HN.out j hj hj))
      go_wp2
      go_ret
      exact ⟨by rw [HH.out]; rfl, HW.out⟩
theorem placeOf_any (a : Option Addr) (cap : Nat) (l : List EnL) (y : EnL) (w : World) (hr : RdE w a l) (hl : l.length ≤ 1000000) (hy : EnR w y) :
    Calls Try.prog 32 #[.slice a l.length cap, y.val] w fun e w' => e = .returned (.int .i64 (firstI (fun x : EnL => sameP x.e y.e) l)) ∧ Below w.heap.size w w' := by
  have hmf : ∀ (fn : Fn) (first cap : Array Value) (w : World), (Instr.makeFunc fn first cap).run Try.prog w = .ok (.func fn first cap) w := fun _ _ _ _ => rfl
  have HI : Hid (∀ W b, Below w.heap.size w W → EnB W b y → _) := fun W b hb hB => indexPlace_any a cap l y b W (hr.below hb) hl (hy.below hb) hB
  clear hr hl hy
  generalize firstI (fun x : EnL => sameP x.e y.e) l = r at *
  obtain ⟨⟨ms, prio, act, args⟩, ma, mc, aa, ac⟩ := y
  simp only [EnL.val] at *
  go_enter Try.func32, Try.ntmps32
  go_wp2_with fail
  refine (HI.out _ _ (below1 _ _) (heap_alloc_new _ _)).mono ?_
  rintro e w1 ⟨rfl, hb⟩
  go_wp2
  go_ret
  exact ⟨rfl, bstep (below1 _ _) hb⟩
end Go.Proofs.Ythkhdmdllhbfeaa
