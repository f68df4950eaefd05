/- Pieces of the proof: MdE, MtQb. -/
import Derived.Test.YteflnicgohjiiaaGreatDoorM33
import Derived.Test.YteflnicgohjiiaaGreatDoorM11
import Derived.Maps.AppendAt
/- TwinEntries, with rows of one's own handed on. -/
namespace Go.Proofs.YteflnicgohjiiaaGreatDoor
open Go.RowKit

theorem row_tyE {B e c n : Nat} {W : World} {v : Value} {xs : List Value} (h : W.ownsRow B e c v n xs) {b : Nat} (hb : v.ownBlock = some b) : ∃ cur, W.heap[b]? = some (.cells cur e (0, 0)) := by
  rcases h.2 with ⟨rfl, _⟩ | ⟨g, cap, cur, rfl, _, hh, _⟩
  · cases hb
  · have e : g = b := by simpa [Value.ownBlock] using hb
    subst e
    exact ⟨cur, hh⟩
theorem ty_neE {W : World} {b e e' : Nat} {cur cur' : Array Value} {f f' : Nat × Nat} (h : W.heap[b]? = some (.cells cur e f)) (h' : W.heap[b]? = some (.cells cur' e' f')) : e = e' := by
  rw [h] at h'
  injection h' with h'
  injection h'
/- A twin stays while a row of entries grows. -/
theorem TwQ.kept {W W' : World} {B : Nat} {y z : EnL} {row : Option Nat} (h : TwQ W B y z) (hg : W.grownBy W' row) (hr : ∀ b, row = some b → ∃ cur, W.heap[b]? = some (.cells cur 30 (0, 0))) : TwQ W' B y z := by
  obtain ⟨g, e1, h1, k1⟩ := h.ms
  obtain ⟨g2, e2, h2, k2⟩ := h.args
  have n1 : row ≠ some g := fun e => by
    obtain ⟨c, hc⟩ := hr g e
    obtain ⟨c', hc'⟩ := row_tyE k1 (b := g) rfl
    exact absurd (ty_neE hc hc') (by decide)
  have n2 : row ≠ some g2 := fun e => by
    obtain ⟨c, hc⟩ := hr g2 e
    obtain ⟨c', hc'⟩ := row_tyE k2 (b := g2) rfl
    exact absurd (ty_neE hc hc') (by decide)
  have l1 := (World.ownsRow.lt k1 g rfl).2
  have l2 := (World.ownsRow.lt k2 g2 rfl).2
  exact ⟨h.e, ⟨g, e1, rdX_block h1 (hg.block g l1 (fun e => n1 e.symm)) (Nat.lt_of_lt_of_le l1 hg.size), own_blk k1 (hg.block g l1 (fun e => n1 e.symm))⟩, ⟨g2, e2, rdN_block h2 (hg.block g2 l2 (fun e => n2 e.symm)) (Nat.lt_of_lt_of_le l2 hg.size), own_blk k2 (hg.block g2 l2 (fun e => n2 e.symm))⟩, h.mc, h.ac⟩
/- The blocks of an entry's lists. -/
def EnL.blk (z : EnL) (b : Nat) : Prop := (∃ q, z.ma = some q ∧ q.block = b) ∨ ∃ q, z.aa = some q ∧ q.block = b
theorem TwQ.lo {W : World} {B : Nat} {y z : EnL} (h : TwQ W B y z) : ∀ b, z.blk b → B ≤ b ∧ b < W.heap.size := fun b hb => by
  obtain ⟨g, e1, _, k1⟩ := h.ms
  obtain ⟨g2, e2, _, k2⟩ := h.args
  rcases hb with ⟨q, e, rfl⟩ | ⟨q, e, rfl⟩
  · rw [e1] at e; injection e with e; subst e; exact World.ownsRow.lt k1 g rfl
  · rw [e2] at e; injection e with e; subst e; exact World.ownsRow.lt k2 g2 rfl
theorem TwQ.lower {W : World} {B B' : Nat} {y z : EnL} (h : TwQ W B y z) (hb : B' ≤ B) : TwQ W B' y z := by
  obtain ⟨g, e1, h1, k1⟩ := h.ms
  obtain ⟨g2, e2, h2, k2⟩ := h.args
  exact ⟨h.e, ⟨g, e1, h1, owR_lower k1 hb⟩, ⟨g2, e2, h2, owR_lower k2 hb⟩, h.mc, h.ac⟩
def spE : EnL := ⟨⟨[], 0, ⟨#[115, 112, 97, 114, 101]⟩, []⟩, none, 0, none, 0⟩
/- Twins so far. -/
structure TwS (w W : World) (v : Value) (l zs : List EnL) : Prop where
  bl : Below w.heap.size w W
  own : W.ownsRow w.heap.size 30 4 v zs.length (flat EnL.cells zs)
  len : zs.length ≤ l.length
  tw : ∀ i (h : i < zs.length) (h' : i < l.length), TwQ W w.heap.size l[i] zs[i]
  pw : zs.Pairwise (fun z z' => ∀ b b', z.blk b → z'.blk b' → b < b')
set_option maxRecDepth 100000 in
set_option maxHeartbeats 4000000 in
theorem twinEs_any (a : Option Addr) (cap : Nat) (l : List EnL) (w : World) (hr : RdE w a l) (hl : l.length ≤ 900000) :
    Calls Tryz.prog 6 #[.slice a l.length cap] w fun e w' => ∃ g c zs, e = .returned (.slice (some ⟨g, 0, none⟩) l.length c) ∧ zs.length = l.length ∧ w'.ownsRow w.heap.size 30 4 (.slice (some ⟨g, 0, none⟩) (l.length + 1) c) (l.length + 1) (flat EnL.cells (zs ++ [spE])) ∧ TwS w w' (.slice (some ⟨g, 0, none⟩) l.length c) l zs ∧ l.length + 1 ≤ c ∧ c ≤ maxLen := by
  have HR := hide hr
  have HTW : Hid (∀ k (h : k < l.length) W, Below w.heap.size w W → _) := fun k h W hb => twinEnQ_any l[k] W ((HR.out.below hb).ok _ (List.getElem_mem h))
  obtain ⟨i0, hi0, hz0, hz1, hz2⟩ := info_parts Tryz.infoEn
  clear hr
  go_enter Tryz.func6, Tryz.ntmps6
  go_wp2_with (first
    | (refine wpList_make_own _ rfl _ _ 26 rfl w.heap.size 30 i0 _ 4 Tryz.underlying26 hi0 hz0 hz1 .i64 .i64 _ (l.length + 1) rfl rfl (by simp) (by rw [hz2]; omega) (by unfold maxLen; omega) (Nat.le_refl _) ?_; intro w1 O1 G1; have S1 : Hid (TwS w w1 (.slice (some ⟨w.heap.size, 0, none⟩) 0 (l.length + 1)) l []) := ⟨(Below.refl _ w).grown G1 (Nat.le_refl _) (fun k e => by cases e), O1, Nat.zero_le _, fun i h => by simp at h, List.Pairwise.nil⟩; clear O1 G1))
  go_loopw [3, 4] (fun t i wr => ∃ (k : Nat) (v : Value) (zs : List EnL), k ≤ l.length ∧ i = .int .i64 k ∧ t = v ∧ zs.length = k ∧ TwS w wr v l zs) (fun _ i _ => l.length - (intOf i).toNat)
  case atStart => exact ⟨0, _, [], by omega, rfl, rfl, rfl, S1.out⟩
  case round =>
    obtain ⟨k, v, zs, hk, rfl, hv, hzl, hs⟩ := hrel
    replace hv := hv.symm
    subst hv
    have SS := hide hs
    have HZ := hide hzl
    clear hs hzl S1
    by_cases hlt : k < l.length
    · have hkI : (k : Int) < (l.length : Int) := by omega
      have hR := HR.out.below SS.out.bl
      obtain ⟨b, off, rfl, _, hc⟩ := hR.some (by omega)
      obtain ⟨c0, c1, c2, c3⟩ := hc k hlt
      have HT := hide (HTW.out k hlt _ SS.out.bl)
      clear hc hR HR HTW
      generalize hx : l[k] = x at *
      have HX := hide hx
      clear hx
      obtain ⟨⟨ms, prio, act, args⟩, ma, mc, aa, ac⟩ := x
      simp only [EnL.val] at c0 c1 c2 c3 HT
      go_wp2_with (first
        | (go_at_call 7; refine HT.out.mono ?_; rintro e w1 ⟨z, rfl, htw, hb⟩; have TZ := hide htw; have B1 := hide hb; clear htw hb)
        | (at_builtin; refine wpList_append_own_at _ rfl _ _ 26 rfl w.heap.size 30 i0 _ 4 72 Tryz.underlying26 hi0 hz0 hz1 hz2 rfl (by decide) _ k (flat EnL.cells zs) rfl (by have := SS.out.own; rw [HZ.out] at this; exact owR_below (owR_below this B1.out) (below1 _ _)) ⟨w1.heap.size, 0, none⟩ 1 1 z.cells rfl rfl (cells_newD _ _ _) (en_one z) (by unfold maxLen; omega) (by omega) (by have := SS.out.bl.size; have := B1.out.size; simp; omega) ?_; intro v7 w7 O7 G7 _ K7; have SN : Hid (TwS w w7 v7 l (zs ++ [z])) := (by
            have hb1 := SS.out.bl.trans (B1.out.mono SS.out.bl.size)
            have hb2 := bstep hb1 (below1 w1 (.cells z.cells.toArray 30))
            have ho := owR_below (owR_below SS.out.own B1.out) (below1 w1 (.cells z.cells.toArray 30))
            have hrow : ∀ b, v.ownBlock = some b → ∃ cur, (w1.alloc (.cells z.cells.toArray 30)).heap[b]? = some (.cells cur 30 (0, 0)) := fun b e => row_tyE ho e
            refine ⟨hb2.grown G7 hb2.size (fun k e => (World.ownsRow.lt ho k e).1), ?_, by simp; have := HZ.out; omega, fun i h h' => ?_, ?_⟩
            · rw [List.length_append, HZ.out, flat_append]; exact O7
            · by_cases hi : i < zs.length
              · rw [List.getElem_append_left hi]
                exact (((SS.out.tw i hi h').below B1.out).below (below1 w1 _)).kept G7 hrow
              · have : i = k := by simp at h; have := HZ.out; omega
                subst this
                rw [List.getElem_append_right (by have := HZ.out; omega)]
                simp only [HZ.out, Nat.sub_self, List.getElem_singleton, HX.out]
                exact (((TZ.out.lower SS.out.bl.size).below (below1 w1 _)).kept G7 hrow)
            · refine List.pairwise_append.2 ⟨SS.out.pw, List.pairwise_singleton _ _, fun z1 h1 z2 h2 b b' hb hb' => ?_⟩
              rw [List.mem_singleton.1 h2] at hb'
              obtain ⟨i, hi, rfl⟩ := List.getElem_of_mem h1
              have q1 := ((SS.out.tw i hi (by have := HZ.out; omega)).lo b hb).2
              have q2 := (TZ.out.lo b' hb').1
              omega); clear O7 G7 K7))
      go_roundw
      case rel => exact ⟨k + 1, v7, zs ++ [z], by omega, by go_num, rfl, by simp; exact HZ.out, SN.out⟩
      case measure => simp [intOf]; omega
    · obtain rfl : k = l.length := by omega
      clear HR HTW
      go_wp2_with (at_builtin; (refine wpList_append_own_at _ rfl _ _ 26 rfl w.heap.size 30 i0 _ 4 72 Tryz.underlying26 hi0 hz0 hz1 hz2 rfl (by decide) _ l.length (flat EnL.cells zs) rfl (by have := SS.out.own; rw [HZ.out] at this; exact owR_below this (below1 _ _)) ⟨wr.heap.size, 0, none⟩ 1 1 spE.cells rfl rfl (cells_newD _ _ _) (en_one spE) (by unfold maxLen; omega) (by omega) (by have := SS.out.bl.size; simp; omega) ?_; intro v7 w7 O7 G7 _ K7; have O8 : w7.ownsRow w.heap.size 30 4 v7 (l.length + 1) (flat EnL.cells (zs ++ [spE])) := (by rw [flat_append]; exact O7); obtain ⟨g, c, rfl, hgc, hgB, hgl, hcm⟩ := own_someD O8 (by omega); have OO8 := hide O8; have SN : Hid (TwS w w7 (.slice (some ⟨g, 0, none⟩) l.length c) l zs) := (by
          have hb2 := bstep SS.out.bl (below1 wr (.cells spE.cells.toArray 30))
          have ho := owR_below SS.out.own (below1 wr (.cells spE.cells.toArray 30))
          have hrow : ∀ b, v.ownBlock = some b → ∃ cur, (wr.alloc (.cells spE.cells.toArray 30)).heap[b]? = some (.cells cur 30 (0, 0)) := fun b e => row_tyE ho e
          refine ⟨hb2.grown G7 hb2.size (fun k e => (World.ownsRow.lt ho k e).1), ?_, SS.out.len, fun i h h' => ((SS.out.tw i h h').below (below1 wr _)).kept G7 hrow, SS.out.pw⟩
          rw [HZ.out]
          exact own_cut (m := 1) (by have := O8; rw [flat_append] at this; exact this) (by rw [flat_length en_len, HZ.out])); have HGC := hide (And.intro hgc hcm); clear O7 O8 G7 K7 hgB hgl))
      go_ret
      exact ⟨g, c, zs, rfl, HZ.out, OO8.out, SN.out, HGC.out.1, HGC.out.2⟩
end Go.Proofs.YteflnicgohjiiaaGreatDoor
/- package match: copies whose rows are known, list within list. -/
namespace Go.Proofs.YteflnicgohjiiaaGreatDoor
open Go.RowKit

theorem wpList_copyNq {w : World} {ops : Array Oper} {rest : List Oper} {o : Oper} {a : Act} {Q : Exit → Act → World → Prop} (hgd : o.guard = none) (s x : Operand) (ho : o.op = .call { callee := .builtin .append, args := #[s, x], argTypes := #[28, 28] })
    (hs : a.eval s = .slice none 0 0) (sa : Option Addr) (cap : Nat) (l : List Nb) (hx : a.eval x = .slice sa l.length cap) (hr : RdN w sa l) (hn : sa = none → cap = 0) (hl : l.length ≤ 1000000)
    (h : ∀ a' cap' w', RdN w' a' l → (a' = none → cap' = 0) → (∀ q, a' = some q → w.heap.size ≤ q.block ∧ q.block < w'.heap.size) → Below w.heap.size w w' → w'.ownsRow w.heap.size 86 3 (.slice a' l.length cap') l.length (flat Nb.cells l) → wpList Tryz.prog ops Q rest (a.put o.dst (.slice a' l.length cap')) w') :
    wpList Tryz.prog ops Q (o :: rest) a w := by
  obtain ⟨i0, hi0, hz0, hz1, hz2⟩ := info_parts Tryz.infoNb
  have key : ∀ (ad : Addr) (hsrc : ∀ j u, (flat Nb.cells l)[j]? = some u → w.cell? (ad.add j) = some u), a.eval x = .slice (some ad) l.length cap → wpList Tryz.prog ops Q (o :: rest) a w := fun ad hsrc hx' => by
    refine wpList_append_own_at w hgd s x 28 ho w.heap.size 86 i0 _ 3 24 Tryz.underlying28 hi0 hz0 hz1 hz2 rfl (by decide) _ 0 [] hs (World.ownsRow_nil _ _ _ _) ad l.length cap (flat Nb.cells l) hx' (flat_length nb_len l) hsrc (flat_one nb_one l) (by unfold maxLen; omega) (by omega) (Nat.le_refl _) ?_
    intro v' w' h1 h2 _ _
    rw [List.nil_append, Nat.zero_add] at h1
    obtain ⟨a1, c1, rfl⟩ := owR_shape h1
    obtain ⟨e1, e2, e3, e4⟩ := rdN_own h1
    exact h _ _ w' e2 e3 e4 ((Below.refl _ _).grown h2 (Nat.le_refl _) (fun k e => by cases e)) h1
  rcases hr with rfl | ⟨p, off, rfl, hp, hc⟩
  · cases sa with
    | none =>
      have hx2 : a.eval x = .slice none 0 0 := by rw [hx, hn rfl]; rfl
      refine wpList_append_own_none hgd s x 28 ho w.heap.size 86 i0 3 Tryz.underlying28 hi0 _ 0 [] hs (World.ownsRow_nil _ _ _ _) hx2 ?_
      exact h none 0 w (.inl rfl) (fun _ => rfl) (fun q e => by cases e) (Below.refl _ _) (World.ownsRow_nil _ _ _ _)
    | some q => exact key q (fun j u hu => by simp [flat] at hu) hx
  · exact key _ (nb_src hc) hx
/- A copy of entries: each list of each one is one's own, and blocks rise. -/
structure Cq (w W : World) (v : Value) (acc : List EnL) : Prop where
  cp : Cp w W v acc
  iw : ∀ x ∈ acc, W.ownsRow w.heap.size 105 7 (.slice x.ma x.e.ms.length x.mc) x.e.ms.length (flat Mx.cells x.e.ms) ∧ W.ownsRow w.heap.size 86 3 (.slice x.aa x.e.args.length x.ac) x.e.args.length (flat Nb.cells x.e.args)
  pw : acc.Pairwise (fun z z' => ∀ b b', z.blk b → z'.blk b' → b < b')
theorem Cq.start (w : World) : Cq w w (.slice none 0 0) [] := ⟨Cp.start w, fun x h => absurd h (by simp), List.Pairwise.nil⟩
theorem Cq.below {w W W' : World} {v : Value} {acc : List EnL} (h : Cq w W v acc) (hb : Below W.heap.size W W') : Cq w W' v acc :=
  ⟨h.cp.below hb, fun x hx => ⟨owR_below (h.iw x hx).1 hb, owR_below (h.iw x hx).2 hb⟩, h.pw⟩
theorem own_keptQ {W W' : World} {B e c n : Nat} {v : Value} {xs : List Value} {row : Option Nat} (h : W.ownsRow B e c v n xs) (hg : W.grownBy W' row) (hne : ∀ b, v.ownBlock = some b → row ≠ some b) : W'.ownsRow B e c v n xs :=
  owR_fr h (E := fun b => row = some b) (Fr.grown hg (fun _ e => e)) hne
theorem Cq.push {w W W1 W2 : World} {v v' : Value} {acc : List EnL} {x : EnL} (h : Cq w W v acc) (hb : Below W.heap.size W W1) (hx : EnR W1 x) (x1 : ∀ q, x.ma = some q → W.heap.size ≤ q.block ∧ q.block < W1.heap.size) (x2 : ∀ q, x.aa = some q → W.heap.size ≤ q.block ∧ q.block < W1.heap.size)
    (o1 : W1.ownsRow w.heap.size 105 7 (.slice x.ma x.e.ms.length x.mc) x.e.ms.length (flat Mx.cells x.e.ms)) (o2 : W1.ownsRow w.heap.size 86 3 (.slice x.aa x.e.args.length x.ac) x.e.args.length (flat Nb.cells x.e.args))
    (ho : W2.ownsRow w.heap.size 30 4 v' (acc.length + 1) (flat EnL.cells acc ++ x.cells)) (hg : W1.grownBy W2 v.ownBlock) (hv : v'.ownBlock = v.ownBlock ∨ v'.ownBlock = some W1.heap.size) : Cq w W2 v' (acc ++ [x]) := by
  have nv : ∀ b, W.heap.size ≤ b → v.ownBlock ≠ some b := fun b hb e => by have := (h.cp.own.lt b e).2; omega
  have ob : ∀ {q : Option Addr} {n c b : Nat}, (Value.slice q n c).ownBlock = some b → ∃ ad, q = some ad ∧ ad.block = b := fun {q n c b} e => by
    cases q with
    | none => cases e
    | some ad => exact ⟨ad, rfl, by injection e⟩
  refine ⟨h.cp.push hb hx x1 x2 ho hg hv, fun y hy => ?_, List.pairwise_append.2 ⟨h.pw, List.pairwise_singleton _ _, fun z hz z' hz' b b' hb1 hb2 => ?_⟩⟩
  · rcases List.mem_append.1 hy with hy | hy
    · obtain ⟨_, h2, h3⟩ := h.cp.ok y hy
      obtain ⟨i1, i2⟩ := h.iw y hy
      refine ⟨own_keptQ (owR_below i1 hb) hg (fun b e => ?_), own_keptQ (owR_below i2 hb) hg (fun b e => ?_)⟩
      · obtain ⟨ad, e1, rfl⟩ := ob e; exact (h2 ad e1).2
      · obtain ⟨ad, e1, rfl⟩ := ob e; exact (h3 ad e1).2
    · have hy' : y = x := by simpa using hy
      subst hy'
      refine ⟨own_keptQ o1 hg (fun b e => ?_), own_keptQ o2 hg (fun b e => ?_)⟩
      · obtain ⟨ad, e1, rfl⟩ := ob e; exact nv _ (x1 ad e1).1
      · obtain ⟨ad, e1, rfl⟩ := ob e; exact nv _ (x2 ad e1).1
  · rw [List.mem_singleton.1 hz'] at hb2
    obtain ⟨_, h2, h3⟩ := h.cp.ok z hz
    have q1 : b < W.heap.size := by
      rcases hb1 with ⟨q, e, rfl⟩ | ⟨q, e, rfl⟩
      · exact (h2 q e).1
      · exact (h3 q e).1
    have q2 : W.heap.size ≤ b' := by
      rcases hb2 with ⟨q, e, rfl⟩ | ⟨q, e, rfl⟩
      · exact (x1 q e).1
      · exact (x2 q e).1
    omega
end Go.Proofs.YteflnicgohjiiaaGreatDoor
