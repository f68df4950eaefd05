/- Pieces of the proof: MtL, MtM. -/
import Derived.Test.YteflnicgohjiiaaGreatDoorM8
import Derived.Test.YteflnicgohjiiaaGreatDoorM3
import Derived.Laws.AppendOwnNone
/- package match: where the entry of a place stands. -/
namespace Go.Proofs.YteflnicgohjiiaaGreatDoor
open Go.RowKit

structure RdE (W : World) (a : Option Addr) (l : List EnL) : Prop where
  rd : l = [] ∨ ∃ p off, a = some ⟨p, off, none⟩ ∧ p < W.heap.size ∧ ∀ i (h : i < l.length), W.cell? ⟨p, off + i * 4, none⟩ = some (.slice l[i].ma l[i].e.ms.length l[i].mc) ∧ W.cell? ⟨p, off + i * 4 + 1, none⟩ = some (.int .i64 l[i].e.prio) ∧ W.cell? ⟨p, off + i * 4 + 2, none⟩ = some (.string l[i].e.act) ∧ W.cell? ⟨p, off + i * 4 + 3, none⟩ = some (.slice l[i].aa l[i].e.args.length l[i].ac)
  ok : ∀ x ∈ l, EnR W x
theorem RdE.below {W W' : World} {a : Option Addr} {l : List EnL} (h : RdE W a l) (hb : Below W.heap.size W W') : RdE W' a l := by
  refine ⟨?_, fun x hx => (h.ok x hx).below hb⟩
  rcases h.rd with h | ⟨p, off, rfl, hp, hc⟩
  · exact .inl h
  · exact .inr ⟨p, off, rfl, Nat.lt_of_lt_of_le hp hb.size, fun i hi => ⟨(hb.cell (p := ⟨p, _, none⟩) hp).trans (hc i hi).1, (hb.cell (p := ⟨p, _, none⟩) hp).trans (hc i hi).2.1, (hb.cell (p := ⟨p, _, none⟩) hp).trans (hc i hi).2.2.1, (hb.cell (p := ⟨p, _, none⟩) hp).trans (hc i hi).2.2.2⟩⟩
theorem RdE.some {W : World} {a : Option Addr} {l : List EnL} (h : RdE W a l) (hx : 0 < l.length) : ∃ p off, a = some ⟨p, off, none⟩ ∧ p < W.heap.size ∧ ∀ i (h : i < l.length), W.cell? ⟨p, off + i * 4, none⟩ = some (.slice l[i].ma l[i].e.ms.length l[i].mc) ∧ W.cell? ⟨p, off + i * 4 + 1, none⟩ = some (.int .i64 l[i].e.prio) ∧ W.cell? ⟨p, off + i * 4 + 2, none⟩ = some (.string l[i].e.act) ∧ W.cell? ⟨p, off + i * 4 + 3, none⟩ = some (.slice l[i].aa l[i].e.args.length l[i].ac) := by
  rcases h.rd with rfl | h
  · simp at hx
  · exact h
def sameP (x e : En) : Bool := x.prio == e.prio && eqMs x.ms e.ms
def EnB (W : World) (b : Nat) (x : EnL) : Prop := W.heap[b]? = some (.cells #[.slice x.ma x.e.ms.length x.mc, .int .i64 x.e.prio, .string x.e.act, .slice x.aa x.e.args.length x.ac] 30 (0, 0))
theorem EnB.below {W W' : World} {b : Nat} {x : EnL} (h : EnB W b x) (hb : Below W.heap.size W W') : EnB W' b x := heap_below hb h
set_option maxHeartbeats 2000000 in
theorem isPlace_any (x y : EnL) (eb : Nat) (w : World) (hx : EnR w x) (hy : EnR w y) (hB : EnB w eb y) :
    Calls Tryz.prog 140 #[x.val, .pointer (some ⟨eb, 0, none⟩)] w fun e w' => e = .returned (.bool (sameP x.e y.e)) ∧ Below w.heap.size w w' := by
  have HQ : Hid (∀ W, Below w.heap.size w W → _) := fun W hb => equal_any x.ma y.ma x.mc y.mc x.e.ms y.e.ms W (hx.ms.below hb) (hy.ms.below hb) (by have := hx.mn; omega)
  have hB1 := fun o => at4 (heap_past o hB)
  unfold sameP
  clear hx hy hB
  generalize eqMs x.e.ms y.e.ms = t at *
  obtain ⟨⟨ms, prio, act, args⟩, ma, mc, aa, ac⟩ := x
  obtain ⟨⟨ms2, prio2, act2, args2⟩, ma2, mc2, aa2, ac2⟩ := y
  simp only [EnL.val] at *
  obtain ⟨b0, b1, -, -, -⟩ := hB1 (.cells #[.slice ma ms.length mc, .int .i64 prio, .string act, .slice aa args.length ac] 30)
  clear hB1
  by_cases hp : prio = prio2
  · subst hp
    go_enter Tryz.func140, Tryz.ntmps140
    go_wp2_with fail
    refine (HQ.out _ (below1 _ _)).mono ?_
    rintro e w1 ⟨rfl, hb⟩
    go_wp2
    go_ret
    exact ⟨by simp, bstep (below1 _ _) hb⟩
  · have f1 : (prio == prio2) = false := by simp [hp]
    have f2 : (prio = prio2) = False := by simp [hp]
    clear hp
    go_enter Tryz.func140, Tryz.ntmps140
    go_wp2
    go_ret
    exact ⟨by simp [f1], below1 _ _⟩
set_option maxRecDepth 100000 in
set_option maxHeartbeats 4000000 in
theorem indexPlace_any (a : Option Addr) (cap : Nat) (l : List EnL) (y : EnL) (eb : Nat) (w : World) (hr : RdE w a l) (hl : l.length ≤ 1000000) (hy : EnR w y) (hB : EnB w eb y) :
    Calls Tryz.prog 139 #[.slice a l.length cap, .func (.func 140) #[] #[.pointer (some ⟨eb, 0, none⟩)]] w fun e w' => e = .returned (.int .i64 (firstI (fun x : EnL => sameP x.e y.e) l)) ∧ Below w.heap.size w w' := by
  have HR := hide hr
  have HC0 : Hid (∀ i (h : i < l.length) W, Below w.heap.size w W → _) := fun i h W hb => isPlace_any l[i] y eb W ((hr.ok _ (List.getElem_mem h)).below hb) (hy.below hb) (hB.below hb)
  clear hr hy hB
  generalize hP : (fun x : EnL => sameP x.e y.e) = P at *
  have HC : Hid (∀ i (h : i < l.length) W, Below w.heap.size w W → Calls Tryz.prog 140 #[l[i].val, .pointer (some ⟨eb, 0, none⟩)] W fun e w' => e = .returned (.bool (P l[i])) ∧ Below W.heap.size W w') := fun i h W hb => by rw [← hP]; exact HC0.out i h W hb
  clear HC0 hP
  go_enter Tryz.func139, Tryz.ntmps139
  go_wp2
  go_loopw [8] (fun i wr => ∃ k : Nat, k ≤ l.length ∧ i = .int .i64 k ∧ (∀ j (hj : j < k) (hj' : j < l.length), P l[j] = false) ∧ Below w.heap.size w wr) (fun i _ => l.length - (intOf i).toNat)
  case atStart => exact ⟨0, by omega, rfl, fun j hj => absurd hj (by omega), Below.refl _ _⟩
  case round =>
    obtain ⟨k, hk, rfl, hn, hb⟩ := hrel
    have HN := hide hn
    have HW := hide hb
    clear hn hb
    by_cases hlt : k < l.length
    · obtain ⟨p, off, rfl, hp, hcl⟩ := (HR.out.below HW.out).some (by omega)
      obtain ⟨q0, q1, q2, q3⟩ := hcl k hlt
      have hlI : (k : Int) < (l.length : Int) := by omega
      have HD := hide (HC.out k hlt wr HW.out)
      have HX : Hid (P l[k] = false → ∀ j (hj : j < k + 1) (hj' : j < l.length), P l[j] = false) := fun ho j hj hj' => by
        by_cases e : j = k
        · subst e; exact ho
        · exact HN.out j (by omega) hj'
      have HO : Hid (P l[k] = true → firstI P l = k) := fun ho => firstI_hit hlt ho (fun j hj => HN.out j hj (by omega))
      clear hcl hp
      generalize P l[k] = t at *
      generalize l[k] = x at *
      obtain ⟨⟨ms, prio, act, args⟩, ma, mc, aa, ac⟩ := x
      simp only [EnL.val] at *
      cases t
      · go_wp2_with fail
        refine HD.out.mono ?_
        rintro e w1 ⟨rfl, hb⟩
        go_wp2
        go_roundw
        case rel => exact ⟨k + 1, by omega, by go_num, HX.out (by first | rfl | trivial), bstep HW.out hb⟩
        case measure => simp [intOf]; omega
      · go_wp2_with fail
        refine HD.out.mono ?_
        rintro e w1 ⟨rfl, hb⟩
        go_wp2
        go_ret
        exact ⟨by rw [HO.out (by first | rfl | trivial)]; rfl, bstep HW.out hb⟩
    · obtain rfl : k = l.length := by omega
      have HH := hide (firstI_none (p := P) (l := l) (fun j hj => HN.out j hj hj))
      go_wp2
      go_ret
      exact ⟨by rw [HH.out]; rfl, HW.out⟩
theorem placeOf_any (a : Option Addr) (cap : Nat) (l : List EnL) (y : EnL) (w : World) (hr : RdE w a l) (hl : l.length ≤ 1000000) (hy : EnR w y) :
    Calls Tryz.prog 30 #[.slice a l.length cap, y.val] w fun e w' => e = .returned (.int .i64 (firstI (fun x : EnL => sameP x.e y.e) l)) ∧ Below w.heap.size w w' := by
  have hmf : ∀ (fn : Fn) (first cap : Array Value) (w : World), (Instr.makeFunc fn first cap).run Tryz.prog w = .ok (.func fn first cap) w := fun _ _ _ _ => rfl
  have HI : Hid (∀ W b, Below w.heap.size w W → EnB W b y → _) := fun W b hb hB => indexPlace_any a cap l y b W (hr.below hb) hl (hy.below hb) hB
  clear hr hl hy
  generalize firstI (fun x : EnL => sameP x.e y.e) l = r at *
  obtain ⟨⟨ms, prio, act, args⟩, ma, mc, aa, ac⟩ := y
  simp only [EnL.val] at *
  go_enter Tryz.func30, Tryz.ntmps30
  go_wp2_with fail
  refine (HI.out _ _ (below1 _ _) (heap_alloc_new _ _)).mono ?_
  rintro e w1 ⟨rfl, hb⟩
  go_wp2
  go_ret
  exact ⟨rfl, bstep (below1 _ _) hb⟩
end Go.Proofs.YteflnicgohjiiaaGreatDoor
/- package match: copies of entries. -/
namespace Go.Proofs.YteflnicgohjiiaaGreatDoor
open Go.RowKit

theorem Tryz.infoMt : (Tryz.prog.info? 105).map (fun i => (i.zero, i.size, i.bytes)) = some (some (.agg #[.int .i64 0, .int .u64 0, .int .u64 0, .int .i64 0, .int .u64 0, .int .u64 0, .int .i64 0]), 7, 56) := by kernel_rfl
theorem Tryz.infoEn : (Tryz.prog.info? 30).map (fun i => (i.zero, i.size, i.bytes)) = some (some (.agg #[.slice none 0 0, .int .i64 0, .string ⟨#[]⟩, .slice none 0 0]), 4, 72) := by kernel_rfl
def Mx.cells (m : Mx) : List Value := [.int .i64 m.v.w, .int .u64 m.v.hi, .int .u64 m.v.lo, .int .i64 m.m.w, .int .u64 m.m.hi, .int .u64 m.m.lo, .int .i64 m.len]
def EnL.cells (x : EnL) : List Value := [.slice x.ma x.e.ms.length x.mc, .int .i64 x.e.prio, .string x.e.act, .slice x.aa x.e.args.length x.ac]
/- Cells of a list, one element behind the other. -/
theorem mx_len (m : Mx) : m.cells.length = 7 := rfl
theorem en_len (x : EnL) : x.cells.length = 4 := rfl
theorem mx_one (m : Mx) : ∀ u ∈ m.cells, u.oneCell' = true := fun u hu => by
  simp only [Mx.cells, List.mem_cons, List.not_mem_nil, or_false] at hu
  rcases hu with rfl | rfl | rfl | rfl | rfl | rfl | rfl <;> rfl
theorem en_one (x : EnL) : ∀ u ∈ x.cells, u.oneCell' = true := fun u hu => by
  simp only [EnL.cells, List.mem_cons, List.not_mem_nil, or_false] at hu
  rcases hu with rfl | rfl | rfl | rfl <;> rfl
/- What lies cell by cell can be read, and back. -/
theorem mx_src {W : World} {p off : Nat} {l : List Mx} (h : ∀ i (h : i < l.length), W.cell? ⟨p, off + i * 7, none⟩ = some (.int .i64 l[i].v.w) ∧ W.cell? ⟨p, off + i * 7 + 1, none⟩ = some (.int .u64 l[i].v.hi) ∧ W.cell? ⟨p, off + i * 7 + 2, none⟩ = some (.int .u64 l[i].v.lo) ∧ W.cell? ⟨p, off + i * 7 + 3, none⟩ = some (.int .i64 l[i].m.w) ∧ W.cell? ⟨p, off + i * 7 + 4, none⟩ = some (.int .u64 l[i].m.hi) ∧ W.cell? ⟨p, off + i * 7 + 5, none⟩ = some (.int .u64 l[i].m.lo) ∧ W.cell? ⟨p, off + i * 7 + 6, none⟩ = some (.int .i64 l[i].len)) : ∀ j u, (flat Mx.cells l)[j]? = some u → W.cell? ((⟨p, off, none⟩ : Addr).add j) = some u := by
  refine flat_src (by decide) mx_len (fun i hi j u hu => ?_)
  obtain ⟨h0, h1, h2, h3, h4, h5, h6⟩ := h i hi
  have hj : j < 7 := (List.getElem?_eq_some_iff.1 hu).1
  rcases (by omega : j = 0 ∨ j = 1 ∨ j = 2 ∨ j = 3 ∨ j = 4 ∨ j = 5 ∨ j = 6) with rfl | rfl | rfl | rfl | rfl | rfl | rfl
  all_goals (injection hu with hu; subst hu; assumption)
/- A row of one's own, read. -/
theorem rdX_own {W : World} {B n : Nat} {a : Option Addr} {k cap : Nat} {l : List Mx} (h : W.ownsRow B 105 7 (.slice a k cap) n (flat Mx.cells l)) : k = l.length ∧ RdX W a l ∧ (a = none → cap = 0) ∧ ∀ q, a = some q → B ≤ q.block ∧ q.block < W.heap.size := by
  have hl := h.1
  rw [flat_length mx_len] at hl
  rcases own_form h with ⟨hv, hn⟩ | ⟨g, cap', hv, hg, hlt, hc⟩
  · injection hv with h1 h2 h3
    subst h1 h2 h3 hn
    have h0 : l = [] := List.length_eq_zero_iff.1 (by omega)
    subst h0
    exact ⟨rfl, .inl rfl, fun _ => rfl, fun q e => by cases e⟩
  · injection hv with h1 h2 h3
    subst h1 h2 h3
    refine ⟨by omega, .inr ⟨g, 0, rfl, hlt, fun i hi => ?_⟩, fun e => (by cases e), fun q e => (by cases e; exact ⟨hg, hlt⟩)⟩
    have key := own_cell mx_len h rfl i hi
    exact ⟨key 0 _ rfl, key 1 _ rfl, key 2 _ rfl, key 3 _ rfl, key 4 _ rfl, key 5 _ rfl, key 6 _ rfl⟩
/- What is read survives that another block grows. -/
theorem rdX_kept {W W' : World} {a : Option Addr} {l : List Mx} {row : Option Nat} (h : RdX W a l) (hg : W.grownBy W' row) (hne : ∀ q, a = some q → row ≠ some q.block) : RdX W' a l := by
  rcases h with h | ⟨p, off, rfl, hp, hc⟩
  · exact .inl h
  · have hn := hne _ rfl
    have key : ∀ o v, W.cell? ⟨p, o, none⟩ = some v → W'.cell? ⟨p, o, none⟩ = some v := fun o v hv => (World.cell?_of_block (w := W) (a := ⟨p, o, none⟩) (hg.block p hp (fun e => hn e.symm))).trans hv
    refine .inr ⟨p, off, rfl, Nat.lt_of_lt_of_le hp hg.size, fun i hi => ?_⟩
    obtain ⟨h0, h1, h2, h3, h4, h5, h6⟩ := hc i hi
    exact ⟨key _ _ h0, key _ _ h1, key _ _ h2, key _ _ h3, key _ _ h4, key _ _ h5, key _ _ h6⟩
theorem rdX_setc {W : World} {a : Option Addr} {l : List Mx} (h : RdX W a l) (p : Addr) (v : Value) (hne : ∀ q, a = some q → p.block ≠ q.block) : RdX (W.setCell p v) a l := by
  refine rdX_kept h (W' := W.setCell p v) (row := some p.block) ?_ (fun q e h => hne q e (by injection h))
  have hb := (Below.refl 0 W).setCell (p := p) (Nat.zero_le _) v
  exact ⟨hb.os, hb.tape, hb.output, hb.size, fun b _ hn => Below.heap_setCell _ _ _ _ (fun e => hn (by rw [e]))⟩
/- 'append(nil, l...)', of matches and of numbers: a list of one's own. -/
theorem wpList_copyX {w : World} {ops : Array Oper} {rest : List Oper} {o : Oper} {a : Act} {Q : Exit → Act → World → Prop} (hgd : o.guard = none) (s x : Operand) (ho : o.op = .call { callee := .builtin .append, args := #[s, x], argTypes := #[27, 27] })
    (hs : a.eval s = .slice none 0 0) (sa : Option Addr) (cap : Nat) (l : List Mx) (hx : a.eval x = .slice sa l.length cap) (hr : RdX w sa l) (hn : sa = none → cap = 0) (hl : l.length ≤ 1000000)
    (h : ∀ a' cap' w', RdX w' a' l → (a' = none → cap' = 0) → (∀ q, a' = some q → w.heap.size ≤ q.block ∧ q.block < w'.heap.size) → Below w.heap.size w w' → wpList Tryz.prog ops Q rest (a.put o.dst (.slice a' l.length cap')) w') :
    wpList Tryz.prog ops Q (o :: rest) a w := by
  obtain ⟨i0, hi0, hz0, hz1, hz2⟩ := info_parts Tryz.infoMt
  have key : ∀ (ad : Addr) (hsrc : ∀ j u, (flat Mx.cells l)[j]? = some u → w.cell? (ad.add j) = some u), a.eval x = .slice (some ad) l.length cap → wpList Tryz.prog ops Q (o :: rest) a w := fun ad hsrc hx' => by
    refine wpList_append_own_at w hgd s x 27 ho w.heap.size 105 i0 _ 7 56 Tryz.underlying27 hi0 hz0 hz1 hz2 rfl (by decide) _ 0 [] hs (World.ownsRow_nil _ _ _ _) ad l.length cap (flat Mx.cells l) hx' (flat_length mx_len l) hsrc (flat_one mx_one l) (by unfold maxLen; omega) (by omega) (Nat.le_refl _) ?_
    intro v' w' h1 h2 _ _
    rw [List.nil_append, Nat.zero_add] at h1
    rcases own_form h1 with ⟨rfl, hn0⟩ | ⟨g, cap', rfl, _⟩
    · obtain ⟨e1, e2, e3, e4⟩ := rdX_own h1
      have := h none 0 w' e2 e3 e4 ((Below.refl _ _).grown h2 (Nat.le_refl _) (fun k e => by cases e))
      rw [← e1] at this
      exact this
    · obtain ⟨e1, e2, e3, e4⟩ := rdX_own h1
      exact h _ _ w' e2 e3 e4 ((Below.refl _ _).grown h2 (Nat.le_refl _) (fun k e => by cases e))
  rcases hr with rfl | ⟨p, off, rfl, hp, hc⟩
  · cases sa with
    | none =>
      have hx2 : a.eval x = .slice none 0 0 := by rw [hx, hn rfl]; rfl
      refine wpList_append_own_none hgd s x 27 ho w.heap.size 105 i0 7 Tryz.underlying27 hi0 _ 0 [] hs (World.ownsRow_nil _ _ _ _) hx2 ?_
      exact h none 0 w (.inl rfl) (fun _ => rfl) (fun q e => by cases e) (Below.refl _ _)
    | some q => exact key q (fun j u hu => by simp [flat] at hu) hx
  · exact key _ (mx_src hc) hx
end Go.Proofs.YteflnicgohjiiaaGreatDoor
