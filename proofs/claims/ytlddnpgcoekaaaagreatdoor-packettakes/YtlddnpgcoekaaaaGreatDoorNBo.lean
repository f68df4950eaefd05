/- A Book that is told one list behind the other. -/
import Derived.Test.YtlddnpgcoekaaaaGreatDoorBkP
import Derived.Test.YtlddnpgcoekaaaaGreatDoorDkT
import Derived.Test.YtlddnpgcoekaaaaGreatDoorDkS
import Derived.Test.YtlddnpgcoekaaaaGreatDoorStoreZ
namespace Go.Proofs.YtlddnpgcoekaaaaGreatDoor
open Go.RowKit

def bk0 : Array Value := #[.int .i64 0, .slice none 0 0, .slice none 0 0, .slice none 0 0, .slice none 0 0, .slice none 0 0, .slice none 0 0, .slice none 0 0, .slice none 0 0, .slice none 0 0, .slice none 0 0, .slice none 0 0, .slice none 0 0, .slice none 0 0, .slice none 0 0, .slice none 0 0, .slice none 0 0, .slice none 0 0, .slice none 0 0, .slice none 0 0, .slice none 0 0, .slice none 0 0, .slice none 0 0, .slice none 0 0, .slice none 0 0, .slice none 0 0, .slice none 0 0, .slice none 0 0, .slice none 0 0, .slice none 0 0, .slice none 0 0]
theorem bk0_one : ∀ v ∈ bk0.toList, v.oneCell' = true := by
  intro v hv
  simp [bk0] at hv
  rcases hv with rfl | rfl <;> rfl
set_option maxRecDepth 100000 in
theorem bk_size : ∀ w : World, (sizeOf 68).run Tryz.prog w = .ok bk0.size w := fun w => by rfl
/- A Book, and lists that it has not been told yet. -/
structure Bo3 (w W : World) (B g : Nat) (vb : Value) (n : Nat) (hs : List Hb) (us : List (Value × List Nat)) : Prop where
  bl : Below w.heap.size w W
  wB : w.heap.size ≤ B
  bo : Bok W B g vb n hs
  ow : ∀ u ∈ us, Own8 W B u.1 u.2 ∧ u.2.length ≤ 100000000
  s1 : ∀ u ∈ us, u.1.ownBlock ≠ some g
  s2 : ∀ u ∈ us, ∀ b, u.1.ownBlock = some b → vb.ownBlock ≠ some b
  s3 : ∀ u ∈ us, ∀ x ∈ hs, ∀ b, x.v.ownBlock = some b → u.1.ownBlock ≠ some b
  s4 : us.Pairwise (fun u v => ∀ b, u.1.ownBlock = some b → v.1.ownBlock ≠ some b)
theorem Bo3.step {w W : World} {B g n : Nat} {vb : Value} {hs : List Hb} {u : Value × List Nat} {us : List (Value × List Nat)} (h : Bo3 w W B g vb n hs (u :: us)) (hl : hs.length < 1000) (hn : n < 1000) :
    Calls Tryz.prog 17 #[.pointer (some ⟨g, 0, none⟩), u.1] W fun e W' => e = .returned (.tuple #[]) ∧ ∃ vb' hs', Bo3 w W' B g vb' (n + 1) hs' us ∧ hs'.length = hs.length + 1 := by
  have hu := h.ow u (List.mem_cons_self ..)
  have hm : ∀ x ∈ us, x ∈ u :: us := fun x hx => List.mem_cons_of_mem _ hx
  refine (bytes_bok h.bo hl hn hu.1 hu.2 (h.s1 u (List.mem_cons_self ..)) (h.s2 u (List.mem_cons_self ..)) (h.s3 u (List.mem_cons_self ..))).mono ?_
  rintro e W' ⟨rfl, vb', hb, hf, hv⟩
  have hE : ∀ b, BE g vb b → B ≤ b := fun b k => by
    rcases k with k | k
    · rw [k]; exact h.bo.bk.gB
    · exact (h.bo.bk.vlt b k).1
  have hBW : B ≤ W.heap.size := by have := h.bo.bk.gB; have := h.bo.bk.lt; omega
  refine ⟨rfl, vb', _, ⟨h.bl.trans ((hf.below hE hBW).mono h.wB), h.wB, hb, fun x hx => ⟨?_, (h.ow x (hm x hx)).2⟩, fun x hx => h.s1 x (hm x hx), fun x hx b hxb e => ?_, fun x hx y hy b hyb => ?_, (List.pairwise_cons.1 h.s4).2⟩, by simp⟩
  · have hx1 := (h.ow x (hm x hx)).1
    refine ⟨hx1.1, ?_⟩
    rcases hx1.2 with h0 | ⟨gr, cap, cur, e, hg, hcur, rest⟩
    · exact .inl h0
    · refine .inr ⟨gr, cap, cur, e, hg, (hf.block gr (Array.getElem?_eq_some_iff.1 hcur).1 (fun k => ?_)).trans hcur, rest⟩
      have hob : x.1.ownBlock = some gr := by rw [e]; rfl
      rcases k with k | k
      · exact h.s1 x (hm x hx) (by rw [hob, k])
      · exact h.s2 x (hm x hx) gr hob k
  · rcases hv b e with e | e
    · exact h.s2 x (hm x hx) b hxb e
    · have := (World.ownsRow.lt (h.ow x (hm x hx)).1 b hxb).2; omega
  · rcases List.mem_append.1 hy with hy | hy
    · exact h.s3 x (hm x hx) y hy b hyb
    · rw [List.mem_singleton.1 hy] at hyb
      exact (List.pairwise_cons.1 h.s4).1 x hx b hyb
theorem Bo3.apart {w W : World} {B g n : Nat} {vb : Value} {hs : List Hb} (h : Bo3 w W B g vb n hs []) : Calls Tryz.prog 18 #[.pointer (some ⟨g, 0, none⟩)] W fun e W' => e = .returned (.bool true) ∧ Below w.heap.size w W' := by
  refine (apart_yes h.bo).mono ?_
  rintro e W' ⟨rfl, hf⟩
  have hBW : B ≤ W.heap.size := by have := h.bo.bk.gB; have := h.bo.bk.lt; omega
  refine ⟨rfl, h.bl.trans ((hf.below (B := B) (fun b k => ?_) hBW).mono h.wB)⟩
  rcases k with ⟨x, hx, k⟩ | k
  · exact (World.ownsRow.lt (h.bo.ow x hx) b k).1
  · exact (h.bo.bk.vlt b k).1
theorem Bo3.start {w W : World} {B : Nat} {us : List (Value × List Nat)} (bl : Below w.heap.size w W) (wB : w.heap.size ≤ B) (BW : B ≤ W.heap.size) (ow : ∀ u ∈ us, Own8 W B u.1 u.2 ∧ u.2.length ≤ 100000000) (s4 : us.Pairwise (fun u v => ∀ b, u.1.ownBlock = some b → v.1.ownBlock ≠ some b)) (t : TypeId) : Bo3 w (W.alloc (.cells bk0 t)) B W.heap.size (.slice none 0 0) 0 [] us := by
  have ba : Below W.heap.size W (W.alloc (.cells bk0 t)) := (Below.refl _ W).alloc (Nat.le_refl _) _
  refine ⟨bl.trans (ba.mono bl.size), wB, Bok.new BW ⟨t, heap_alloc_new W _⟩, fun u hu => ⟨(ow u hu).1.below ba, (ow u hu).2⟩, fun u hu e => ?_, (fun u hu b _ e => by cases e), (fun u hu x hx => by simp at hx), s4⟩
  have := (World.ownsRow.lt (ow u hu).1 _ e).2
  omega
theorem own8_lower {W : World} {B B' : Nat} {v : Value} {xs : List Nat} (h : Own8 W B v xs) (hb : B' ≤ B) : Own8 W B' v xs := by
  refine ⟨h.1, ?_⟩
  rcases h.2 with h0 | ⟨gr, cap, cur, e, hg, rest⟩
  · exact .inl h0
  · exact .inr ⟨gr, cap, cur, e, Nat.le_trans hb hg, rest⟩
theorem one_alloc (W : World) (cs : Array Value) (t : TypeId) : (W.alloc (.cells cs t)).heap[W.heap.size]? = some (.cells cs t (0, 0)) := heap_alloc_new W _
end Go.Proofs.YtlddnpgcoekaaaaGreatDoor
