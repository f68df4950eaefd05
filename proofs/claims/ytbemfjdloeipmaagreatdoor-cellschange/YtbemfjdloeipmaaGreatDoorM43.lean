/- Pieces of the proof: BnR. -/
import Derived.Test.YtbemfjdloeipmaaGreatDoorM42
import Derived.Test.YtbemfjdloeipmaaGreatDoorM3
/- A Book, and lists that it has not been told yet; Array. -/
namespace Go.Proofs.YtbemfjdloeipmaaGreatDoor
open Go.RowKit

structure BoA (w Wg W : World) (B g n : Nat) (vi : Value) (is : List Hc) (vn : Value) (ns : List Hc) (us ps : List (Value × Nat)) : Prop where
  bl : Below w.heap.size w W
  fg : Below g Wg W
  gi : ∀ b, vi.ownBlock = some b → g ≤ b
  gn : ∀ b, vn.ownBlock = some b → g ≤ b
  wB : w.heap.size ≤ B
  bo : BokN W B g vi is vn ns
  c0 : W.cell? ⟨g, 0, none⟩ = some (.int .i64 (n : Int))
  ow : ∀ u ∈ us, (∃ xs, W.ownsRow B 3 1 u.1 u.2 xs) ∧ u.2 ≤ 100000000 ∧ u.1.ownBlock ≠ some g
  po : ∀ u ∈ ps, (∃ xs, W.ownsRow B 29 3 u.1 u.2 xs) ∧ u.2 ≤ 100000000 ∧ u.1.ownBlock ≠ some g
  s3 : ∀ u ∈ us, ∀ x ∈ is, ∀ b, x.v.ownBlock = some b → u.1.ownBlock ≠ some b
  s4 : us.Pairwise (fun u v => ∀ b, u.1.ownBlock = some b → v.1.ownBlock ≠ some b)
  p3 : ∀ u ∈ ps, ∀ x ∈ ns, ∀ b, x.v.ownBlock = some b → u.1.ownBlock ≠ some b
  p4 : ps.Pairwise (fun u v => ∀ b, u.1.ownBlock = some b → v.1.ownBlock ≠ some b)
theorem BoA.BW {w Wg W : World} {B g n : Nat} {vi vn : Value} {is ns : List Hc} {us ps : List (Value × Nat)} (h : BoA w Wg W B g n vi is vn ns us ps) : B ≤ W.heap.size := by have := h.bo.bi.gB; have := h.bo.bi.lt; omega
theorem BoA.next {w Wg W W' : World} {B g n : Nat} {vi vn : Value} {is ns : List Hc} {us ps : List (Value × Nat)} (h : BoA w Wg W B g n vi is vn ns us ps) (hb : Below W.heap.size W W') : BoA w Wg W' B g n vi is vn ns us ps := by
  have hf : Fr (fun _ => False) W W' := Fr.ofBelow hb
  refine ⟨h.bl.trans (hb.mono h.bl.size), h.fg.trans (hb.mono (Nat.le_of_lt h.bo.bi.lt)), h.gi, h.gn, h.wB, ⟨h.bo.bi.next hb, h.bo.bn.next hb, fun o h1 h2 h3 h4 => hf.cell (h.bo.cz o h1 h2 h3 h4) (fun e => e), h.bo.si, h.bo.sn, fun x hx => (h.bo.oi x hx).imp fun _ hy => owR_below hy hb, fun x hx => (h.bo.on x hx).imp fun _ hy => owR_below hy hb, h.bo.li, h.bo.ln, h.bo.ni, h.bo.nn⟩, hf.cell h.c0 (fun e => e), fun u hu => ⟨(h.ow u hu).1.imp fun _ hy => owR_below hy hb, (h.ow u hu).2⟩, fun u hu => ⟨(h.po u hu).1.imp fun _ hy => owR_below hy hb, (h.po u hu).2⟩, h.s3, h.s4, h.p3, h.p4⟩
theorem BoA.int {w Wg W : World} {B g n : Nat} {vi vn : Value} {is ns : List Hc} {u : Value × Nat} {us ps : List (Value × Nat)} (h : BoA w Wg W B g n vi is vn ns (u :: us) ps) (hl : is.length < 1000) (hn : n < 1000) :
    Calls Tryz.prog 38 #[.pointer (some ⟨g, 0, none⟩), u.1] W fun e W' => e = .returned (.tuple #[]) ∧ ∃ vi' is', BoA w Wg W' B g (n + 1) vi' is' vn ns us ps ∧ is'.length = is.length + 1 ∧ Fr (BEc g vi) W W' := by
  obtain ⟨⟨xs, u1⟩, u2, u3⟩ := h.ow u (List.mem_cons_self ..)
  refine (keepInt_bok h.bo h.c0 hl hn u1 u2 u3 (h.s3 u (List.mem_cons_self ..))).mono ?_
  rintro e W' ⟨rfl, vb', hb, hc, hf, hbl⟩
  have hE : ∀ b, BEc g vi b → B ≤ b := fun b k => by
    rcases k with k | k
    · rw [k]; exact h.bo.bi.gB
    · exact (h.bo.bi.vlt b k).1
  have hG : ∀ b, BEc g vi b → g ≤ b := fun b k => by
    rcases k with k | k
    · omega
    · exact h.gi b k
  have hgk : ∀ b, vb'.ownBlock = some b → g ≤ b := fun b k => by
    rcases hbl b k with k | k
    · exact h.gi b k
    · have := h.bo.bi.lt; omega
  have nE : ∀ {e c n : Nat} {v : Value} {xs : List Value}, W.ownsRow B e c v n xs → e ≠ 113 → v.ownBlock ≠ some g → ∀ b, v.ownBlock = some b → ¬ BEc g vi b := fun ho hne hg b hb hE => by
    rcases hE with e | e
    · exact hg (by rw [hb, e])
    · obtain ⟨c1, e1⟩ := row_ty ho hb
      obtain ⟨c2, e2⟩ := row_ty h.bo.bi.row e
      exact hne (ty_ne e1 e2)
  refine ⟨rfl, vb', _, { bl := h.bl.trans ((hf.below hE h.BW).mono h.wB), fg := h.fg.trans (hf.below hG (Nat.le_of_lt h.bo.bi.lt)), gi := hgk, gn := h.gn, wB := h.wB, bo := hb, c0 := hc, ow := fun x hx => (by
      obtain ⟨⟨ys, x1⟩, x2, x3⟩ := h.ow x (List.mem_cons_of_mem _ hx)
      exact ⟨⟨ys, owR_fr x1 hf (nE x1 (by decide) x3)⟩, x2, x3⟩), po := fun x hx => (by
      obtain ⟨⟨ys, x1⟩, x2, x3⟩ := h.po x hx
      exact ⟨⟨ys, owR_fr x1 hf (nE x1 (by decide) x3)⟩, x2, x3⟩), s3 := fun x hx y hy b hyb => (by
      rcases List.mem_append.1 hy with hy | hy
      · exact h.s3 x (List.mem_cons_of_mem _ hx) y hy b hyb
      · rw [List.mem_singleton.1 hy] at hyb
        exact (List.pairwise_cons.1 h.s4).1 x hx b hyb), s4 := (List.pairwise_cons.1 h.s4).2, p3 := h.p3, p4 := h.p4 }, by simp, hf⟩
theorem BoA.nums {w Wg W : World} {B g n : Nat} {vi vn : Value} {is ns : List Hc} {u : Value × Nat} {us ps : List (Value × Nat)} (h : BoA w Wg W B g n vi is vn ns us (u :: ps)) (hl : ns.length < 1000) (hn : n < 1000) :
    Calls Tryz.prog 37 #[.pointer (some ⟨g, 0, none⟩), u.1] W fun e W' => e = .returned (.tuple #[]) ∧ ∃ vn' ns', BoA w Wg W' B g (n + 1) vi is vn' ns' us ps ∧ ns'.length = ns.length + 1 ∧ Fr (BEc g vn) W W' := by
  obtain ⟨⟨xs, u1⟩, u2, u3⟩ := h.po u (List.mem_cons_self ..)
  refine (keepNumber_bok h.bo h.c0 hl hn u1 u2 u3 (h.p3 u (List.mem_cons_self ..))).mono ?_
  rintro e W' ⟨rfl, vb', hb, hc, hf, hbl⟩
  have hE : ∀ b, BEc g vn b → B ≤ b := fun b k => by
    rcases k with k | k
    · rw [k]; exact h.bo.bn.gB
    · exact (h.bo.bn.vlt b k).1
  have hG : ∀ b, BEc g vn b → g ≤ b := fun b k => by
    rcases k with k | k
    · omega
    · exact h.gn b k
  have hgk : ∀ b, vb'.ownBlock = some b → g ≤ b := fun b k => by
    rcases hbl b k with k | k
    · exact h.gn b k
    · have := h.bo.bi.lt; omega
  have nE : ∀ {e c n : Nat} {v : Value} {xs : List Value}, W.ownsRow B e c v n xs → e ≠ 132 → v.ownBlock ≠ some g → ∀ b, v.ownBlock = some b → ¬ BEc g vn b := fun ho hne hg b hb hE => by
    rcases hE with e | e
    · exact hg (by rw [hb, e])
    · obtain ⟨c1, e1⟩ := row_ty ho hb
      obtain ⟨c2, e2⟩ := row_ty h.bo.bn.row e
      exact hne (ty_ne e1 e2)
  refine ⟨rfl, vb', _, { bl := h.bl.trans ((hf.below hE h.BW).mono h.wB), fg := h.fg.trans (hf.below hG (Nat.le_of_lt h.bo.bi.lt)), gn := hgk, gi := h.gi, wB := h.wB, bo := hb, c0 := hc, po := fun x hx => (by
      obtain ⟨⟨ys, x1⟩, x2, x3⟩ := h.po x (List.mem_cons_of_mem _ hx)
      exact ⟨⟨ys, owR_fr x1 hf (nE x1 (by decide) x3)⟩, x2, x3⟩), ow := fun x hx => (by
      obtain ⟨⟨ys, x1⟩, x2, x3⟩ := h.ow x hx
      exact ⟨⟨ys, owR_fr x1 hf (nE x1 (by decide) x3)⟩, x2, x3⟩), p3 := fun x hx y hy b hyb => (by
      rcases List.mem_append.1 hy with hy | hy
      · exact h.p3 x (List.mem_cons_of_mem _ hx) y hy b hyb
      · rw [List.mem_singleton.1 hy] at hyb
        exact (List.pairwise_cons.1 h.p4).1 x hx b hyb), p4 := (List.pairwise_cons.1 h.p4).2, s3 := h.s3, s4 := h.s4 }, by simp, hf⟩
theorem BoA.apart {w Wg W : World} {B g n : Nat} {vi vn : Value} {is ns : List Hc} (h : BoA w Wg W B g n vi is vn ns [] []) : Calls Tryz.prog 18 #[.pointer (some ⟨g, 0, none⟩)] W fun e W' => e = .returned (.bool true) ∧ Below w.heap.size w W' := by
  refine (apartN_yes h.bo).mono ?_
  rintro e W' ⟨rfl, hf⟩
  refine ⟨rfl, h.bl.trans ((hf.below (B := B) (fun b k => ?_) h.BW).mono h.wB)⟩
  rcases k with (⟨x, hx, k⟩ | k) | (⟨x, hx, k⟩ | k)
  · obtain ⟨xs, ho⟩ := h.bo.oi x hx; exact (World.ownsRow.lt ho b k).1
  · exact (h.bo.bi.vlt b k).1
  · obtain ⟨xs, ho⟩ := h.bo.on x hx; exact (World.ownsRow.lt ho b k).1
  · exact (h.bo.bn.vlt b k).1
def bk0 : Array Value := #[.int .i64 0, .slice none 0 0, .slice none 0 0, .slice none 0 0, .slice none 0 0, .slice none 0 0, .slice none 0 0, .slice none 0 0, .slice none 0 0, .slice none 0 0, .slice none 0 0, .slice none 0 0, .slice none 0 0, .slice none 0 0, .slice none 0 0, .slice none 0 0, .slice none 0 0, .slice none 0 0, .slice none 0 0, .slice none 0 0, .slice none 0 0, .slice none 0 0, .slice none 0 0, .slice none 0 0, .slice none 0 0, .slice none 0 0, .slice none 0 0, .slice none 0 0, .slice none 0 0, .slice none 0 0, .slice none 0 0]
theorem BoA.start {w W : World} {B : Nat} {us ps : List (Value × Nat)} (bl : Below w.heap.size w W) (wB : w.heap.size ≤ B) (BW : B ≤ W.heap.size) (ow : ∀ u ∈ us, (∃ xs, W.ownsRow B 3 1 u.1 u.2 xs) ∧ u.2 ≤ 100000000) (po : ∀ u ∈ ps, (∃ xs, W.ownsRow B 29 3 u.1 u.2 xs) ∧ u.2 ≤ 100000000) (s4 : us.Pairwise (fun u v => ∀ b, u.1.ownBlock = some b → v.1.ownBlock ≠ some b)) (p4 : ps.Pairwise (fun u v => ∀ b, u.1.ownBlock = some b → v.1.ownBlock ≠ some b)) (t : TypeId) : BoA w W (W.alloc (.cells bk0 t)) B W.heap.size 0 (.slice none 0 0) [] (.slice none 0 0) [] us ps := by
  have ba : Below W.heap.size W (W.alloc (.cells bk0 t)) := (Below.refl _ W).alloc (Nat.le_refl _) _
  have hn : (W.alloc (.cells bk0 t)).heap[W.heap.size]? = some (.cells bk0 t (0, 0)) := heap_alloc_new W _
  have hc : ∀ o, 1 ≤ o → o ≤ 30 → (W.alloc (.cells bk0 t)).cell? ⟨W.heap.size, o, none⟩ = some (.slice none 0 0) := fun o h1 h2 => by
    unfold World.cell?; simp only [hn]
    match o, h1, h2 with
    | 1, _, _ => rfl | 2, _, _ => rfl | 3, _, _ => rfl | 4, _, _ => rfl | 5, _, _ => rfl | 6, _, _ => rfl | 7, _, _ => rfl | 8, _, _ => rfl | 9, _, _ => rfl | 10, _, _ => rfl
    | 11, _, _ => rfl | 12, _, _ => rfl | 13, _, _ => rfl | 14, _, _ => rfl | 15, _, _ => rfl | 16, _, _ => rfl | 17, _, _ => rfl | 18, _, _ => rfl | 19, _, _ => rfl | 20, _, _ => rfl
    | 21, _, _ => rfl | 22, _, _ => rfl | 23, _, _ => rfl | 24, _, _ => rfl | 25, _, _ => rfl | 26, _, _ => rfl | 27, _, _ => rfl | 28, _, _ => rfl | 29, _, _ => rfl | 30, _, _ => rfl
    | o + 31, _, h => omega
  have c0 : (W.alloc (.cells bk0 t)).cell? ⟨W.heap.size, 0, none⟩ = some (.int .i64 ((0 : Nat) : Int)) := by unfold World.cell?; simp only [hn]; rfl
  have sf : ∀ o, (W.alloc (.cells bk0 t)).frozen? ⟨W.heap.size, o, none⟩ = false := fun o => by unfold World.frozen?; simp only [hn]; simp
  have sp : SepC W.heap.size (.slice none 0 0) [] := ⟨fun x hx => by simp at hx, fun x hx => by simp at hx, fun i j hi => by simp at hi⟩
  refine ⟨bl.trans (ba.mono bl.size), ba, (fun b e => by cases e), (fun b e => by cases e), wB, ⟨⟨BW, hc 1 (by decide) (by decide), sf, World.ownsRow_nil _ B _ _, by intro h; cases h⟩, ⟨BW, hc 6 (by decide) (by decide), sf, World.ownsRow_nil _ B _ _, by intro h; cases h⟩, fun o h1 h2 _ _ => hc o h1 h2, sp, sp, fun x hx => by simp at hx, fun x hx => by simp at hx, fun x hx => by simp at hx, fun x hx => by simp at hx, by simp, by simp⟩, c0, fun u hu => ⟨(ow u hu).1.imp fun _ hy => owR_below hy ba, (ow u hu).2, fun e => ?_⟩, fun u hu => ⟨(po u hu).1.imp fun _ hy => owR_below hy ba, (po u hu).2, fun e => ?_⟩, fun u hu x hx => by simp at hx, s4, fun u hu x hx => by simp at hx, p4⟩
  · obtain ⟨xs, ho⟩ := (ow u hu).1
    have := (World.ownsRow.lt ho _ e).2
    omega
  · obtain ⟨xs, ho⟩ := (po u hu).1
    have := (World.ownsRow.lt ho _ e).2
    omega
set_option maxRecDepth 100000 in
set_option maxHeartbeats 1000000 in
theorem BoA.array {w Wg W : World} {B g n : Nat} {vi vn : Value} {is ns : List Hc} {us ps : List (Value × Nat)} {ca la : Option Addr} {n1 cc n2 lc : Nat} (h : BoA w Wg W B g n vi is vn ns ((.slice la n2 lc, n2) :: us) ((.slice ca n1 cc, n1) :: ps)) (hi : is.length < 900) (hj : ns.length < 900) (hn : n < 900) (name : ByteArray) (kind aw rate burst : Int) :
    Calls Tryz.prog 17 #[.pointer (some ⟨g, 0, none⟩), .agg #[.string name, .int .u8 kind, .int .i64 aw, .int .i64 rate, .int .i64 burst, .slice ca n1 cc, .slice la n2 lc]] W fun e W' => e = .returned (.tuple #[]) ∧ ∃ vi' is' vn' ns', BoA w Wg W' B g (n + 2) vi' is' vn' ns' us ps ∧ is'.length = is.length + 1 ∧ ns'.length = ns.length + 1 := by
  have H1 := hide (h.next (below1 W (.cells #[.string name, .int .u8 kind, .int .i64 aw, .int .i64 rate, .int .i64 burst, .slice ca n1 cc, .slice la n2 lc] 26)))
  have HG := hide h.bo.bn.lt
  have HV := hide h.bo.bn.vlt
  clear h
  go_enter Tryz.func17, Tryz.ntmps17
  go_wp2_with fail
  refine (H1.out.nums (by omega) (by omega)).mono ?_
  rintro e W1 ⟨rfl, vn', ns', h2, hl, hf⟩
  have H2 := hide h2
  have HL := hide hl
  have k := (hf.block W.heap.size (by simp) (fun e => by
    rcases e with e | e
    · have := HG.out; omega
    · have := (HV.out _ e).2; omega)).trans (heap_alloc_new W _)
  obtain ⟨p0, p1, p2, p3, p4, p5, p6⟩ := at7 k
  clear h2 hl hf k H1
  go_wp2_with fail
  refine (H2.out.int (by omega) (by omega)).mono ?_
  rintro e W2 ⟨rfl, vi', is', h3, hl2, hf⟩
  have H3 := hide h3
  have HL2 := hide hl2
  clear h3 hl2 hf H2
  go_wp2
  go_end0
  exact ⟨rfl, _, _, _, _, H3.out, HL2.out, HL.out⟩
end Go.Proofs.YtbemfjdloeipmaaGreatDoor
