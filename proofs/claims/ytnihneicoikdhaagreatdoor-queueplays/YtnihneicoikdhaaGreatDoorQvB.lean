/- pointsmanref17's queue: Put. -/
import Derived.Test.YtnihneicoikdhaaGreatDoorQvA
namespace Go.Proofs.YtnihneicoikdhaaGreatDoor
open Go.RowKit

theorem rput_full {W : World} {B g r : Nat} {v : Value} {L : List Cy} (h : Rs W B g r v L) (hn : r ≤ L.length) (port : Int) (a : Option Addr) (n cap : Nat) : Calls Tryz.prog 12 #[.pointer (some ⟨g, 0, none⟩), .agg #[.int .i64 port, .slice a n cap]] W fun e W' => e = .returned (.int .i64 10) ∧ Below W.heap.size W W' := by
  have hb := below1 W (.cells #[.int .i64 port, .slice a n cap] 75)
  obtain ⟨c0, c1, -⟩ := (h.below hb).at
  obtain ⟨av, cv, rfl⟩ := owR_shape h.row
  have d1 : decide ((L.length : Int) ≥ (r : Int)) = true := by simp; omega
  have d2 : (r ≤ L.length) = True := by simpa using hn
  generalize L.length = ll at *
  clear h hn
  go_enter Tryz.func12, Tryz.ntmps12
  go_wp2
  go_region
  all_goals
    go_wp2
    go_ret
    exact ⟨rfl, by repeat (first | exact hb | apply Below.drew)⟩
set_option maxRecDepth 100000 in
theorem rput_yes {W : World} {B g r : Nat} {v : Value} {L : List Cy} (h : Rs W B g r v L) (hn : L.length < r) (hl : r ≤ 64) (c : Cy) : Calls Tryz.prog 12 #[.pointer (some ⟨g, 0, none⟩), .agg #[.int .i64 c.port, .slice c.a c.xs.length c.cap]] W fun e W' => e = .returned (.int .i64 0) ∧ ∃ v', Rs W' B g r v' (L ++ [c]) ∧ Fr (RE g v) W W' ∧ ∀ b, v'.ownBlock = some b → v.ownBlock = some b ∨ W.heap.size ≤ b := by
  have hne := h.ne
  obtain ⟨av, cv, rfl⟩ := owR_shape h.row
  have hgl := lt_heap h.blk
  have HB : Hid (B ≤ W.heap.size) := by have := h.gB; show _ ≤ _; omega
  generalize hW0 : W.alloc (.cells #[.int .i64 c.port, .slice c.a c.xs.length c.cap] 75) = W0
  have hb : Below W.heap.size W W0 := by rw [← hW0]; exact below1 _ _
  have hcx : W0.heap[W.heap.size]? = some (.cells #[.int .i64 c.port, .slice c.a c.xs.length c.cap] 75 (0, 0)) := by rw [← hW0]; exact heap_alloc_new W _
  have H0 := hide (h.below hb)
  have HB0 := hide hb
  have HX := hide hcx
  have HWW := hide hW0
  obtain ⟨c0, c1, s1⟩ := H0.out.at
  have x0 : W0.cell? ⟨W.heap.size, 0, none⟩ = some (.int .i64 c.port) := (cellA hcx 0).trans rfl
  have x1 : W0.cell? ⟨W.heap.size, 1, none⟩ = some (.slice c.a c.xs.length c.cap) := (cellA hcx 1).trans rfl
  have s1' := s1 1
  have d1 : decide ((L.length : Int) ≥ (r : Int)) = false := by simp; omega
  have d2 : (r ≤ L.length) = False := by simp; omega
  have HN : Hid (L.length + 1 ≤ 1000000) := by show _ ≤ _; omega
  generalize hll : L.length = ll at *
  have HLL := hide hll
  clear h hb hcx s1 hn hl hll hW0
  go_enter Tryz.func12, Tryz.ntmps12
  go_wp2
  rw [HWW.out]
  clear HWW
  go_region
  all_goals skip
  go_wp2
  have HS : Hid (SrcR (W0.alloc (.cells #[.int .i64 c.port, .slice c.a c.xs.length c.cap] 75)).drew.drew (.slice (some ⟨W0.heap.size, 0, none⟩) 1 1) 1 (flat Cy.cells [c])) := .inr ⟨_, _, rfl, fun j u hu => by
    have hh : (W0.alloc (.cells #[.int .i64 c.port, .slice c.a c.xs.length c.cap] 75)).drew.drew.heap[W0.heap.size]? = some (.cells #[.int .i64 c.port, .slice c.a c.xs.length c.cap] 75 (0, 0)) := heap_alloc_new W0 _
    rw [Addr.add_mid, Nat.zero_add, cellA hh]
    have e : flat Cy.cells [c] = [.int .i64 c.port, .slice c.a c.xs.length c.cap] := rfl
    rw [e] at hu
    rw [← hu]; simp⟩
  have H1 := hide (H0.out.below (W' := (W0.alloc (.cells #[.int .i64 c.port, .slice c.a c.xs.length c.cap] 75)).drew.drew) (below1 W0 _).drew.drew)
  have HF1 : Hid (Fr (RE g (.slice av ll cv)) W (W0.alloc (.cells #[.int .i64 c.port, .slice c.a c.xs.length c.cap] 75)).drew.drew) := Fr.ofBelow (bstep HB0.out (below1 W0 _).drew.drew)
  have hb2 := below1 W0 (.cells #[.int .i64 c.port, .slice c.a c.xs.length c.cap] 75)
  have hh2 : (W0.alloc (.cells #[.int .i64 c.port, .slice c.a c.xs.length c.cap] 75)).heap[W.heap.size]? = some (.cells #[.int .i64 c.port, .slice c.a c.xs.length c.cap] 75 (0, 0)) := heap_below hb2 HX.out
  have c1a : (W0.alloc (.cells #[.int .i64 c.port, .slice c.a c.xs.length c.cap] 75)).cell? ⟨g, 1, none⟩ = some (.slice av ll cv) := (H0.out.below hb2).at.2.1
  have s1a : (W0.alloc (.cells #[.int .i64 c.port, .slice c.a c.xs.length c.cap] 75)).frozen? ⟨g, 1, none⟩ = false := (H0.out.below hb2).at.2.2 1
  have x0a : (W0.alloc (.cells #[.int .i64 c.port, .slice c.a c.xs.length c.cap] 75)).cell? ⟨W.heap.size, 0, none⟩ = some (.int .i64 c.port) := (cellA hh2 0).trans rfl
  have x1a : (W0.alloc (.cells #[.int .i64 c.port, .slice c.a c.xs.length c.cap] 75)).cell? ⟨W.heap.size, 1, none⟩ = some (.slice c.a c.xs.length c.cap) := (cellA hh2 1).trans rfl
  clear hb2 hh2
  clear c0
  go_region_law (refine step_appR rfl _ _ rfl B _ L rfl (by have := H1.out.row; rw [HLL.out] at this ⊢; exact this) _ [c] rfl HS.out (by rw [HLL.out]; exact HN.out) (by have := HB.out; have := HB0.out.size; simp; omega) ?_; intro v7 w7 O7 G7 K7; have N7 : v7.ownBlock ≠ some g := (by intro e; rcases K7 with k | k <;> rw [e] at k; exact hne k.symm; injection k with k; have := lt_heap H0.out.blk; simp at k; omega); obtain ⟨a7, p7, hv7⟩ := owR_shape O7; rw [show (L ++ [c]).length = L.length + 1 from by simp] at hv7; subst hv7; obtain ⟨c7, s7⟩ : w7.cell? ⟨g, 1, none⟩ = some (.slice av ll cv) ∧ w7.frozen? ⟨g, 1, none⟩ = false := (by have hb7 := (G7.block g (lt_heap H1.out.blk) (fun e => hne e.symm)).trans H1.out.blk; exact ⟨(cellA hb7 1).trans rfl, softA hb7 1⟩); have O9 := hide O7; have G9 : Hid (Fr (fun b => (Value.slice av ll cv).ownBlock = some b) _ w7) := Fr.grown G7 (fun r e => e); have K9 : Hid ((Value.slice a7 (L.length + 1) p7).ownBlock = (Value.slice av ll cv).ownBlock ∨ _) := K7; clear O7 G7 K7)
  all_goals
    go_wp2
    go_ret
    refine ⟨rfl, _, H1.out.put (E := fun b => (Value.slice av ll cv).ownBlock = some b) G9.out (fun e => hne e) O9.out N7, ?_, fun b hb => ?_⟩
    · exact ((HF1.out.trans G9.out (fun b _ e => .inr e)).set _ _ (.inl rfl))
    · rcases K9.out with k | k
      · exact .inl (k ▸ hb)
      · right
        rw [hb] at k
        injection k with k
        have := HB0.out.size
        simp at k
        omega
end Go.Proofs.YtnihneicoikdhaaGreatDoor
