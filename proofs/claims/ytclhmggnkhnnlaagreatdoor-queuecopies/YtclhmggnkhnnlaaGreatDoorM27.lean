/- Pieces of the proof: TwEs. -/
import Derived.Test.YtclhmggnkhnnlaaGreatDoorM24
import Derived.Test.YtclhmggnkhnnlaaGreatDoorM26
import Derived.Deep.LoopGhost
/- TwinEffects, with rows of one's own handed on. -/
namespace Go.Proofs.YtclhmggnkhnnlaaGreatDoor
open Go.RowKit

theorem Tryz.infoEf : (Tryz.prog.info? 95).map (fun i => (i.zero, i.size, i.bytes)) = some (some (.agg #[.int .u8 0, .string ⟨#[]⟩, .int .i64 0, .int .i64 0, .int .u64 0, .int .u64 0, .slice none 0 0, .int .i64 0, .string ⟨#[]⟩, .int .i64 0]), 10, 112) := by kernel_rfl
theorem ef_oneT (g : Ef) : ∀ u ∈ g.cells, u.oneCell' = true := fun u hu => by
  simp only [Ef.cells, List.mem_cons, List.not_mem_nil, or_false] at hu
  rcases hu with rfl | rfl | rfl | rfl | rfl | rfl | rfl | rfl | rfl | rfl <;> rfl
theorem fold_all : ∀ (cs pre rest : List Value) (n : Nat), rest.length = cs.length → n = pre.length → List.foldl (fun (A : Array Value) (x : Value × Nat) => A.setIfInBounds x.snd x.fst) (pre ++ rest).toArray (cs.zipIdx n) = (pre ++ cs).toArray
  | [], pre, rest, n, h, _ => by
    have e : rest = [] := List.length_eq_zero_iff.1 (by simpa using h)
    subst e; rfl
  | c :: cs, pre, rest, n, h, hn => by
    obtain ⟨r, rest', rfl⟩ : ∃ r rest', rest = r :: rest' := by cases rest with | nil => simp at h | cons r l => exact ⟨r, l, rfl⟩
    rw [List.zipIdx_cons, List.foldl_cons]
    have e : ((pre ++ r :: rest').toArray).setIfInBounds n c = ((pre ++ [c]) ++ rest').toArray := by
      subst hn; simp
    rw [e, fold_all cs (pre ++ [c]) rest' (n + 1) (by simpa using h) (by simp [hn])]
    simp
theorem cells_newF (w : World) (cs zs : List Value) (t : TypeId) (h : zs.length = cs.length) : ∀ j u, cs[j]? = some u → (w.alloc (.cells (List.foldl (fun (A : Array Value) (x : Value × Nat) => A.setIfInBounds x.snd x.fst) zs.toArray cs.zipIdx) t)).cell? ((⟨w.heap.size, 0, none⟩ : Addr).add j) = some u := by
  have e := fold_all cs [] zs 0 h rfl
  rw [List.nil_append, List.nil_append] at e
  rw [e]
  exact cells_newD w cs t
def spF : Ef := ⟨0, ⟨#[]⟩, 77, 0, 0, 0, none, 0, 0, 0, ⟨#[]⟩, 0⟩
def Ef.blk (z : Ef) (b : Nat) : Prop := z.da = some ⟨b, 0, none⟩
theorem TwEf.lt {W : World} {B : Nat} {y z : Ef} {d : List Nb} (h : TwEf W B y d z) {b : Nat} (hb : z.blk b) : B ≤ b ∧ b < W.heap.size := by
  obtain ⟨g, c, e1, h1, k1, m⟩ := h.e
  subst e1
  have : g = b := by injection hb with hb; injection hb
  subst this
  exact World.ownsRow.lt k1 g rfl
theorem TwEf.fr {E : Nat → Prop} {W W' : World} {B : Nat} {y z : Ef} {d : List Nb} (h : TwEf W B y d z) (hf : Fr E W W') (hE : ∀ b, E b → ∃ cs, W.heap[b]? = some (.cells cs 95 (0, 0))) : TwEf W' B y d z := by
  obtain ⟨g, c, e1, h1, k1, m⟩ := h.e
  have hn : ¬ E g := fun e => by
    obtain ⟨cs, h2⟩ := hE g e
    obtain ⟨c2, h3⟩ := row_ty k1 rfl
    rw [h2] at h3
    injection h3 with h3
    injection h3 with _ h3 _
    revert h3; decide
  have hlt := (World.ownsRow.lt k1 g rfl).2
  exact ⟨g, c, e1, rdN_block h1 (hf.block g hlt hn) (Nat.lt_of_lt_of_le hlt hf.size), owR_fr k1 hf (fun b hb e => hn (by injection (show some g = some b from hb) with hb; rw [hb]; exact e)), m⟩
theorem TwEf.lower {W : World} {B B' : Nat} {y z : Ef} {d : List Nb} (h : TwEf W B y d z) (hb : B' ≤ B) : TwEf W B' y d z := by
  obtain ⟨g, c, e1, h1, k1, m⟩ := h.e
  exact ⟨g, c, e1, h1, owR_lower k1 hb, m⟩
/- Twins of effects, while they are laid. -/
structure TeS (w W : World) (v : Value) (D : Ef → List Nb) (l zs : List Ef) : Prop where
  bl : Below w.heap.size w W
  own : W.ownsRow w.heap.size 95 10 v zs.length (flat Ef.cells zs)
  len : zs.length ≤ l.length
  tw : ∀ i (h : i < zs.length) (h' : i < l.length), TwEf W w.heap.size l[i] (D l[i]) zs[i]
  pw : zs.Pairwise (fun z z' => ∀ b b', z.blk b → z'.blk b' → b < b')
theorem TeS.below {w W W' : World} {v : Value} {D : Ef → List Nb} {l zs : List Ef} (h : TeS w W v D l zs) (hb : Below W.heap.size W W') : TeS w W' v D l zs :=
  ⟨bstep h.bl hb, owR_below h.own hb, h.len, fun i h1 h2 => (h.tw i h1 h2).below hb, h.pw⟩
theorem TeS.put {w W W7 w8 : World} {v v' : Value} {D : Ef → List Nb} {l zs : List Ef} {z : Ef} (h : TeS w W v D l zs) (hb : Below W.heap.size W W7) (hl : zs.length < l.length) (htw : TwEf W7 W.heap.size l[zs.length] (D l[zs.length]) z) (O : w8.ownsRow w.heap.size 95 10 v' (zs.length + 1) (flat Ef.cells zs ++ z.cells)) (G : W7.grownBy w8 v.ownBlock) : TeS w w8 v' D l (zs ++ [z]) := by
  have h7 := h.below hb
  have hf : Fr (fun b => v.ownBlock = some b) W7 w8 := Fr.grown G (fun r e => e)
  have hE : ∀ b, v.ownBlock = some b → ∃ cs, W7.heap[b]? = some (.cells cs 95 (0, 0)) := fun b e => row_ty h7.own e
  refine ⟨h7.bl.trans (hf.below (fun b e => (World.ownsRow.lt h7.own b e).1) h7.bl.size), ?_, by simp; omega, fun i h1 h2 => ?_, ?_⟩
  · rw [List.length_append, flat_append]
    have : flat Ef.cells [z] = z.cells := by simp [flat]
    rw [this]; exact O
  · by_cases hi : i < zs.length
    · rw [List.getElem_append_left hi]; exact (h7.tw i hi h2).fr hf hE
    · have : i = zs.length := by simp at h1; omega
      subst this
      simp only [List.getElem_concat_length]
      exact (htw.lower h.bl.size).fr hf hE
  · refine List.pairwise_append.2 ⟨h.pw, List.pairwise_singleton _ _, fun z1 h1 z2 h2 b b' hb1 hb2 => ?_⟩
    obtain rfl := List.mem_singleton.1 h2
    obtain ⟨i, hi, rfl⟩ := List.getElem_of_mem h1
    have q1 := ((h.tw i hi (by omega)).lt hb1).2
    have q2 := (htw.lt hb2).1
    omega
set_option maxRecDepth 100000 in
set_option maxHeartbeats 4000000 in
theorem twinEfs_any (a : Option Addr) (cap : Nat) (D : Ef → List Nb) (l : List Ef) (w : World) (hr : RdG Ef.cells 10 w a l) (hz : ∀ y ∈ l, y.dn = (D y).length ∧ (D y).length ≤ 1000000 ∧ RdN w y.da (D y)) (hl : l.length ≤ 900000) :
    Calls Tryz.prog 24 #[.slice a l.length cap] w fun e w' => ∃ g c zs, e = .returned (.slice (some ⟨g, 0, none⟩) l.length c) ∧ zs.length = l.length ∧ w'.ownsRow w.heap.size 95 10 (.slice (some ⟨g, 0, none⟩) (l.length + 1) c) (l.length + 1) (flat Ef.cells (zs ++ [spF])) ∧ TeS w w' (.slice (some ⟨g, 0, none⟩) l.length c) D l zs ∧ l.length + 1 ≤ c ∧ c ≤ maxLen := by
  have HR := hide hr
  have HZ := hide hz
  have HTW : Hid (∀ k (h : k < l.length) W, Below w.heap.size w W → _) := fun k h W hb => twinEf_any l[k] (D l[k]) W (HZ.out _ (List.getElem_mem h)).1 (HZ.out _ (List.getElem_mem h)).2.1 ((HZ.out _ (List.getElem_mem h)).2.2.below hb)
  obtain ⟨i0, hi0, hz0, hz1, hz2⟩ := info_parts Tryz.infoEf
  clear hr hz
  go_enter Tryz.func24, Tryz.ntmps24
  go_wp2_with (first
    | (refine wpList_make_own _ rfl _ _ 25 rfl w.heap.size 95 i0 _ 10 Tryz.underlying25 hi0 hz0 hz1 .i64 .i64 _ (l.length + 1) rfl rfl (by simp) (by rw [hz2]; omega) (by unfold maxLen; omega) (Nat.le_refl _) ?_; intro w1 O1 G1; have S1 : Hid (TeS w w1 (.slice (some ⟨w.heap.size, 0, none⟩) 0 (l.length + 1)) D l []) := ⟨(Below.refl _ w).grown G1 (Nat.le_refl _) (fun k e => by cases e), O1, Nat.zero_le _, fun i h => by simp at h, List.Pairwise.nil⟩; clear O1 G1))
  go_loopg [3, 4] l.length (fun gk t i wr => ∃ (k : Nat) (zs : List Ef), k + gk = l.length ∧ i = .int .i64 k ∧ zs.length = k ∧ TeS w wr t D l zs)
  case atStart => exact ⟨0, [], by omega, rfl, rfl, S1.out⟩
  case round =>
    obtain ⟨k, zs, hk, rfl, hzl, hs⟩ := hrel
    have SS := hide hs
    have HK := hide hk
    have HZL := hide hzl
    clear hs hzl S1 hk
    by_cases hlt : k < l.length
    · have hkI : (k : Int) < (l.length : Int) := by omega
      have dk : decide (k < l.length) = true := by simp; omega
      obtain ⟨b, off, rfl, _, hc⟩ := (HR.out.below SS.out.bl).get (by omega)
      have hc := hc k hlt
      have HT := hide (HTW.out k hlt _ SS.out.bl)
      have HPUT := hide (fun (W7 w8 : World) (v' : Value) (z : Ef) => TeS.put (W7 := W7) (w8 := w8) (v' := v') (z := z) SS.out)
      clear HR HTW
      generalize hdx : D l[k] = dx at *
      have HDX := hide hdx
      clear hdx
      generalize hx : l[k] = x at *
      have HX := hide hx
      clear hx
      have HLN : Hid (x.cells.length = 10) := rfl
      have HC := hide hc
      clear hc
      generalize hcs : x.cells = cs at *
      have HCS := hide hcs
      clear hcs
      go_wp2_with (first
        | (refine wpList_loadW rfl 95 _ rfl b (off + k * 10) cs rfl aggEf (by rw [HLN.out]; exact szEf) HC.out ?_)
        | (go_at_call 131; refine HT.out.mono ?_; rintro e w1 ⟨z, rfl, htw, hb⟩; have TZ := hide htw; have B1 := hide hb; clear htw hb; obtain ⟨zc, hzc⟩ : ∃ zc, zc = z.cells := ⟨_, rfl⟩; have ZO := hide (ef_oneT z); have ZL : Hid (z.cells.length = 10) := rfl; rw [← hzc] at ZO ZL ⊢; have ZC := hide hzc; have zl : zc.length = 10 := ZL.out; clear hzc)
        | (at_builtin; refine wpList_append_own_at _ rfl _ _ 25 rfl w.heap.size 95 i0 _ 10 112 Tryz.underlying25 hi0 hz0 hz1 hz2 rfl (by decide) _ k (flat Ef.cells zs) rfl (by have := SS.out.own; rw [HZL.out] at this; exact owR_below (owR_below this B1.out) (below1 _ _)) ⟨w1.heap.size, 0, none⟩ 1 1 zc rfl (by first | rfl | (rw [ZL.out])) (cells_newF _ _ _ _ ZL.out.symm) ZO.out (by unfold maxLen; omega) (by omega) (by have := SS.out.bl.size; have := B1.out.size; simp; omega) ?_; intro v7 w7 O7 G7 _ K7; have SN : Hid (TeS w w7 v7 D l (zs ++ [z])) := HPUT.out _ _ _ z (bstep B1.out (below1 w1 _)) (by rw [HZL.out]; exact hlt) (by simp only [HZL.out]; rw [HX.out, HDX.out]; exact TZ.out.below (below1 w1 _)) (by rw [HZL.out, ← ZC.out]; exact O7) G7; clear O7 G7 K7))
      go_roundg (gk - 1)
      case measure => have := HK.out; omega
      case rel => exact ⟨k + 1, zs ++ [z], by have := HK.out; omega, by go_num, by simp; exact HZL.out, SN.out⟩
    · obtain rfl : k = l.length := by have := HK.out; omega
      have dk : decide (l.length < l.length) = false := by simp
      clear HR HTW
      have HBX := hide (below1 wr (.cells #[.int .u8 0, .string ⟨#[]⟩, .int .i64 77, .int .i64 0, .int .u64 0, .int .u64 0, .slice none 0 0, .int .i64 0, .string ⟨#[]⟩, .int .i64 0] 95))
      have HX2 := hide (heap_alloc_new wr (.cells #[.int .u8 0, .string ⟨#[]⟩, .int .i64 77, .int .i64 0, .int .u64 0, .int .u64 0, .slice none 0 0, .int .i64 0, .string ⟨#[]⟩, .int .i64 0] 95))
      go_wp2_with (at_builtin; go_loud (refine wpList_append_own_at _ rfl _ _ 25 rfl w.heap.size 95 i0 _ 10 112 Tryz.underlying25 hi0 hz0 hz1 hz2 rfl (by decide) _ l.length (flat Ef.cells zs) rfl (by have := owR_below SS.out.own HBX.out; rw [HZL.out] at this; exact this) ⟨wr.heap.size, 0, none⟩ 1 1 spF.cells rfl rfl (fun j u hu => by rw [Addr.add_mid, Nat.zero_add]; exact (cellA HX2.out j).trans (by rw [← hu]; simp [spF, Ef.cells])) (ef_oneT spF) (by unfold maxLen; omega) (by omega) (by have := SS.out.bl.size; have := HBX.out.size; omega) ?_; intro v7 w7 O7 G7 _ K7; obtain ⟨g, c, hv7, hgc, hgB, hgl, hcm⟩ := own_someD O7 (by omega); have hS := SS.out.below HBX.out; have hf : Fr (fun b => u3.ownBlock = some b) _ w7 := Fr.grown G7 (fun r e => e); have hE : ∀ b, u3.ownBlock = some b → ∃ cs : Array Value, (wr.alloc (.cells #[.int .u8 0, .string ⟨#[]⟩, .int .i64 77, .int .i64 0, .int .u64 0, .int .u64 0, .slice none 0 0, .int .i64 0, .string ⟨#[]⟩, .int .i64 0] 95)).heap[b]? = some (.cells cs 95 (0, 0)) := (fun b e => row_ty hS.own e); subst hv7; have O9 : Hid (w7.ownsRow w.heap.size 95 10 (.slice (some ⟨g, 0, none⟩) (l.length + 1) c) (l.length + 1) (flat Ef.cells (zs ++ [spF]))) := (by show World.ownsRow _ _ _ _ _ _ _; rw [flat_append]; rw [show flat Ef.cells [spF] = spF.cells from by simp [flat]]; exact O7); have T9 : Hid (TeS w w7 (.slice (some ⟨g, 0, none⟩) l.length c) D l zs) := ⟨hS.bl.trans (hf.below (fun b e => (World.ownsRow.lt hS.own b e).1) hS.bl.size), by rw [HZL.out]; exact own_cut (m := 1) O7 (by rw [flat_length ef_len, HZL.out]), SS.out.len, fun i h h' => (hS.tw i h h').fr hf hE, SS.out.pw⟩; have HGC := hide (And.intro hgc hcm); have hcI : (l.length : Int) ≤ (c : Int) := (by omega); clear O7 G7 K7 hgB hgl hS hf hE hgc hcm))
      go_ret
      exact ⟨g, c, zs, rfl, HZL.out, O9.out, T9.out, HGC.out.1, HGC.out.2⟩
end Go.Proofs.YtclhmggnkhnnlaaGreatDoor
