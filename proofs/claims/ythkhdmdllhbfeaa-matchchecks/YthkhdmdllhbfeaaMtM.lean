/- package match: copies of entries. -/
import Derived.Test.YthkhdmdllhbfeaaMtL
import Derived.Test.YthkhdmdllhbfeaaGnM
import Derived.Laws.AppendOwnNone
namespace Go.Proofs.Ythkhdmdllhbfeaa
open Go.RowKit

theorem Try.infoMt : (Try.prog.info? 62).map (fun i => (i.zero, i.size, i.bytes)) = some (some (.agg #[.int .i64 0, .int .u64 0, .int .u64 0, .int .i64 0, .int .u64 0, .int .u64 0, .int .i64 0]), 7, 56) := by kernel_rfl
theorem Try.infoEn : (Try.prog.info? 30).map (fun i => (i.zero, i.size, i.bytes)) = some (some (.agg #[.slice none 0 0, .int .i64 0, .string ⟨#[]⟩, .slice none 0 0]), 4, 72) := by kernel_rfl
def Mx.cells (m : Mx) : List Value := [.int .i64 m.v.w, .int .u64 m.v.hi, .int .u64 m.v.lo, .int .i64 m.m.w, .int .u64 m.m.hi, .int .u64 m.m.lo, .int .i64 m.len]
def EnL.cells (x : EnL) : List Value := [.slice x.ma x.e.ms.length x.mc, .int .i64 x.e.prio, .string x.e.act, .slice x.aa x.e.args.length x.ac]
/- Cells of a list, one element behind the other. -/
theorem mx_len (m : Mx) : m.cells.length = 7 := rfl
theorem en_len (x : EnL) : x.cells.length = 4 := rfl
theorem mx_one (m : Mx) : ∀ u ∈ m.cells, u.oneCell' = true := fun u hu => by
  simp only [Mx.cells, List.mem_cons, List.not_mem_nil, or_false] at hu
  rcases hu with rfl | rfl | rfl | rfl | rfl | rfl | rfl <;> rfl
theorem en_one (x : EnL) : ∀ u ∈ x.cells, u.oneCell' = true := fun u hu => by
  simp only [EnL.cells, List.mem_cons, List.not_mem_nil, or_false] at hu
  rcases hu with rfl | rfl | rfl | rfl <;> rfl
/- What lies cell by cell can be read, and back. -/
theorem mx_src {W : World} {p off : Nat} {l : List Mx} (h : ∀ i (h : i < l.length), W.cell? ⟨p, off + i * 7, none⟩ = some (.int .i64 l[i].v.w) ∧ W.cell? ⟨p, off + i * 7 + 1, none⟩ = some (.int .u64 l[i].v.hi) ∧ W.cell? ⟨p, off + i * 7 + 2, none⟩ = some (.int .u64 l[i].v.lo) ∧ W.cell? ⟨p, off + i * 7 + 3, none⟩ = some (.int .i64 l[i].m.w) ∧ W.cell? ⟨p, off + i * 7 + 4, none⟩ = some (.int .u64 l[i].m.hi) ∧ W.cell? ⟨p, off + i * 7 + 5, none⟩ = some (.int .u64 l[i].m.lo) ∧ W.cell? ⟨p, off + i * 7 + 6, none⟩ = some (.int .i64 l[i].len)) : ∀ j u, (flat Mx.cells l)[j]? = some u → W.cell? ((⟨p, off, none⟩ : Addr).add j) = some u := by
  refine flat_src (by decide) mx_len (fun i hi j u hu => ?_)
  obtain ⟨h0, h1, h2, h3, h4, h5, h6⟩ := h i hi
  have hj : j < 7 := (List.getElem?_eq_some_iff.1 hu).1
  rcases (by omega : j = 0 ∨ j = 1 ∨ j = 2 ∨ j = 3 ∨ j = 4 ∨ j = 5 ∨ j = 6) with rfl | rfl | rfl | rfl | rfl | rfl | rfl
  all_goals (injection hu with hu; subst hu; assumption)
/- A row of one's own, read. -/
theorem rdX_own {W : World} {B n : Nat} {a : Option Addr} {k cap : Nat} {l : List Mx} (h : W.ownsRow B 62 7 (.slice a k cap) n (flat Mx.cells l)) : k = l.length ∧ RdX W a l ∧ (a = none → cap = 0) ∧ ∀ q, a = some q → B ≤ q.block ∧ q.block < W.heap.size := by
  have hl := h.1
  rw [flat_length mx_len] at hl
  rcases own_form h with ⟨hv, hn⟩ | ⟨g, cap', hv, hg, hlt, hc⟩
  · injection hv with h1 h2 h3
    subst h1 h2 h3 hn
    have h0 : l = [] := List.length_eq_zero_iff.1 (by omega)
    subst h0
    exact ⟨rfl, .inl rfl, fun _ => rfl, fun q e => by cases e⟩
  · injection hv with h1 h2 h3
    subst h1 h2 h3
    refine ⟨by omega, .inr ⟨g, 0, rfl, hlt, fun i hi => ?_⟩, fun e => (by cases e), fun q e => (by cases e; exact ⟨hg, hlt⟩)⟩
    have key := own_cell mx_len h rfl i hi
    exact ⟨key 0 _ rfl, key 1 _ rfl, key 2 _ rfl, key 3 _ rfl, key 4 _ rfl, key 5 _ rfl, key 6 _ rfl⟩
/- What is read survives that another block grows. -/
theorem rdX_kept {W W' : World} {a : Option Addr} {l : List Mx} {row : Option Nat} (h : RdX W a l) (hg : W.grownBy W' row) (hne : ∀ q, a = some q → row ≠ some q.block) : RdX W' a l := by
  rcases h with h | ⟨p, off, rfl, hp, hc⟩
  · exact .inl h
  · have hn := hne _ rfl
    have key : ∀ o v, W.cell? ⟨p, o, none⟩ = some v → W'.cell? ⟨p, o, none⟩ = some v := fun o v hv => (World.cell?_of_block (w := W) (a := ⟨p, o, none⟩) (hg.block p hp (fun e => hn e.symm))).trans hv
    refine .inr ⟨p, off, rfl, Nat.lt_of_lt_of_le hp hg.size, fun i hi => ?_⟩
    obtain ⟨h0, h1, h2, h3, h4, h5, h6⟩ := hc i hi
    exact ⟨key _ _ h0, key _ _ h1, key _ _ h2, key _ _ h3, key _ _ h4, key _ _ h5, key _ _ h6⟩
theorem rdX_setc {W : World} {a : Option Addr} {l : List Mx} (h : RdX W a l) (p : Addr) (v : Value) (hne : ∀ q, a = some q → p.block ≠ q.block) : RdX (W.setCell p v) a l := by
  refine rdX_kept h (W' := W.setCell p v) (row := some p.block) ?_ (fun q e h => hne q e (by injection h))
  have hb := (Below.refl 0 W).setCell (p := p) (Nat.zero_le _) v
  exact ⟨hb.os, hb.tape, hb.output, hb.size, fun b _ hn => Below.heap_setCell _ _ _ _ (fun e => hn (by rw [e]))⟩
/- 'append(nil, l...)', of matches and of numbers: a list of one's own. -/
theorem wpList_copyX {w : World} {ops : Array Oper} {rest : List Oper} {o : Oper} {a : Act} {Q : Exit → Act → World → Prop} (hgd : o.guard = none) (s x : Operand) (ho : o.op = .call { callee := .builtin .append, args := #[s, x], argTypes := #[27, 27] })
    (hs : a.eval s = .slice none 0 0) (sa : Option Addr) (cap : Nat) (l : List Mx) (hx : a.eval x = .slice sa l.length cap) (hr : RdX w sa l) (hn : sa = none → cap = 0) (hl : l.length ≤ 1000000)
    (h : ∀ a' cap' w', RdX w' a' l → (a' = none → cap' = 0) → (∀ q, a' = some q → w.heap.size ≤ q.block ∧ q.block < w'.heap.size) → Below w.heap.size w w' → wpList Try.prog ops Q rest (a.put o.dst (.slice a' l.length cap')) w') :
    wpList Try.prog ops Q (o :: rest) a w := by
  obtain ⟨i0, hi0, hz0, hz1, hz2⟩ := info_parts Try.infoMt
  have key : ∀ (ad : Addr) (hsrc : ∀ j u, (flat Mx.cells l)[j]? = some u → w.cell? (ad.add j) = some u), a.eval x = .slice (some ad) l.length cap → wpList Try.prog ops Q (o :: rest) a w := fun ad hsrc hx' => by
    refine wpList_append_own_at w hgd s x 27 ho w.heap.size 62 i0 _ 7 56 Try.underlying27 hi0 hz0 hz1 hz2 rfl (by decide) _ 0 [] hs (World.ownsRow_nil _ _ _ _) ad l.length cap (flat Mx.cells l) hx' (flat_length mx_len l) hsrc (flat_one mx_one l) (by unfold maxLen; omega) (by omega) (Nat.le_refl _) ?_
    intro v' w' h1 h2 _ _
    rw [List.nil_append, Nat.zero_add] at h1
    rcases own_form h1 with ⟨rfl, hn0⟩ | ⟨g, cap', rfl, _⟩
    · obtain ⟨e1, e2, e3, e4⟩ := rdX_own h1
      have := h none 0 w' e2 e3 e4 ((Below.refl _ _).grown h2 (Nat.le_refl _) (fun k e => by cases e))
      rw [← e1] at this
      exact this
    · obtain ⟨e1, e2, e3, e4⟩ := rdX_own h1
      exact h _ _ w' e2 e3 e4 ((Below.refl _ _).grown h2 (Nat.le_refl _) (fun k e => by cases e))
  rcases hr with rfl | ⟨p, off, rfl, hp, hc⟩
  · cases sa with
    | none =>
      have hx2 : a.eval x = .slice none 0 0 := by rw [hx, hn rfl]; rfl
      refine wpList_append_own_none hgd s x 27 ho w.heap.size 62 i0 7 Try.underlying27 hi0 _ 0 [] hs (World.ownsRow_nil _ _ _ _) hx2 ?_
      exact h none 0 w (.inl rfl) (fun _ => rfl) (fun q e => by cases e) (Below.refl _ _)
    | some q => exact key q (fun j u hu => by simp [flat] at hu) hx
  · exact key _ (mx_src hc) hx
end Go.Proofs.Ythkhdmdllhbfeaa
