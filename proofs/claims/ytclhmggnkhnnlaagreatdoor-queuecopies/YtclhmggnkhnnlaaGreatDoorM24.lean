/- Pieces of the proof: TwEf, TwEl. -/
import Derived.Test.YtclhmggnkhnnlaaGreatDoorM22
import Derived.Test.YtclhmggnkhnnlaaGreatDoorM23
import Derived.Test.YtclhmggnkhnnlaaGreatDoorM14
/- TwinEffect, with a row of one's own handed on. -/
namespace Go.Proofs.YtclhmggnkhnnlaaGreatDoor
open Go.RowKit

/- A twin of an effect, as it lies. -/
structure TwEf (W : World) (B : Nat) (y : Ef) (d : List Nb) (z : Ef) : Prop where
  e : ∃ g c, z = { y with da := some ⟨g, 0, none⟩, dc := c } ∧ RdN W (some ⟨g, 0, none⟩) (d ++ [(⟨77, 0, 0⟩ : Nb)]) ∧ W.ownsRow B 92 3 (.slice (some ⟨g, 0, none⟩) d.length c) d.length (flat Nb.cells d) ∧ d.length + 1 ≤ c ∧ c ≤ maxLen
theorem TwEf.below {W W' : World} {B : Nat} {y z : Ef} {d : List Nb} (h : TwEf W B y d z) (hb : Below W.heap.size W W') : TwEf W' B y d z := by
  obtain ⟨g, c, e1, h1, k1, m⟩ := h.e
  exact ⟨g, c, e1, h1.below hb, owR_below k1 hb, m⟩
set_option maxRecDepth 100000 in
theorem sz_ef : ∀ w : World, (sizeOf 95).run Tryz.prog w = .ok 10 w := fun w => by rfl
set_option maxRecDepth 100000 in
theorem ag_ef : ∀ w : World, (isAgg 95).run Tryz.prog w = .ok true w := fun w => by rfl
set_option maxRecDepth 100000 in
set_option maxHeartbeats 8000000 in
theorem twinEf_any (y : Ef) (d : List Nb) (W : World) (hd : y.dn = d.length) (hl : d.length ≤ 1000000) (hr : RdN W y.da d) : Calls Tryz.prog 131 #[.agg y.cells.toArray] W fun e w' => ∃ z : Ef, e = .returned (.agg z.cells.toArray) ∧ TwEf w' W.heap.size y d z ∧ Below W.heap.size W w' := by
  have HC0 : Hid (∀ W', Below W.heap.size W W' → _) := fun W' hb => twinN_any y.da y.dc d W' hl (hr.below hb)
  clear hr
  obtain ⟨kind, array, cell, vw, vh, vl, da, dn, dc, group, table, entry⟩ := y
  simp only [Ef.cells] at *
  subst hd
  go_enter Tryz.func131, Tryz.ntmps131
  go_wp2
  have hS0 : TwX W 95 10 #[.int .u8 kind, .string array, .int .i64 cell, .int .i64 vw, .int .u64 vh, .int .u64 vl, .slice da d.length dc, .int .i64 group, .string table, .int .i64 entry] ((W.alloc (.cells #[.int .u8 kind, .string array, .int .i64 cell, .int .i64 vw, .int .u64 vh, .int .u64 vl, .slice da d.length dc, .int .i64 group, .string table, .int .i64 entry] 95)).alloc (.cells #[.int .u8 0, .string ⟨#[]⟩, .int .i64 0, .int .i64 0, .int .u64 0, .int .u64 0, .slice none 0 0, .int .i64 0, .string ⟨#[]⟩, .int .i64 0] 95)).drew := TwX.start rfl
  generalize (W.alloc (.cells #[.int .u8 kind, .string array, .int .i64 cell, .int .i64 vw, .int .u64 vh, .int .u64 vl, .slice da d.length dc, .int .i64 group, .string table, .int .i64 entry] 95)).alloc (.cells #[.int .u8 0, .string ⟨#[]⟩, .int .i64 0, .int .i64 0, .int .u64 0, .int .u64 0, .slice none 0 0, .int .i64 0, .string ⟨#[]⟩, .int .i64 0] 95) = w1 at *
  refine wp_region_noPanic ?_
  refine wp_region_held_drew (S := TwX W 95 10 #[.int .u8 kind, .string array, .int .i64 cell, .int .i64 vw, .int .u64 vh, .int .u64 vl, .slice da d.length dc, .int .i64 group, .string table, .int .i64 entry]) (by kernel_rfl) hS0 (fun hHeld => ?_)
  clear hS0
  generalize w1.drew = w2 at *
  refine wpAnyH_take (i := 0) (v := ?_) rfl (by kernel_rfl) (by kernel_rfl) (by kernel_rfl) (fun _ _ _ h => h) (Or.inl ⟨by rfl, ?_⟩) hHeld ?_
  rotate_left
  · (intro w hSw; clear hSw; go_simp; try (with_reducible rfl))
  refine wpAnyH_take (i := 1) (v := ?_) rfl (by kernel_rfl) (by kernel_rfl) (by kernel_rfl) (fun _ _ _ h => h) (Or.inl ⟨by rfl, ?_⟩) hHeld ?_
  rotate_left
  · (intro w hSw; have hc0 := cel_of hSw.2.1 0 rfl; clear hSw; go_simp; try (with_reducible rfl))
  refine wpAnyH_take (i := 2) (v := ?_) rfl (by kernel_rfl) (by kernel_rfl) (by kernel_rfl) (fun _ _ _ h => h) (Or.inl ⟨by rfl, ?_⟩) hHeld ?_
  rotate_left
  · (intro w hSw; clear hSw; go_simp; try (with_reducible rfl))
  refine wpAnyH_take (i := 3) (v := ?_) rfl (by kernel_rfl) (by kernel_rfl) (by kernel_rfl) (fun _ _ _ h => h) (Or.inl ⟨by rfl, ?_⟩) hHeld ?_
  rotate_left
  · (intro w hSw; have hc1 := cel_of hSw.2.1 1 rfl; clear hSw; go_simp; try (with_reducible rfl))
  refine wpAnyH_take (i := 4) (v := ?_) rfl (by kernel_rfl) (by kernel_rfl) (by kernel_rfl) (fun _ _ _ h => h) (Or.inl ⟨by rfl, ?_⟩) hHeld ?_
  rotate_left
  · (intro w hSw; clear hSw; go_simp; try (with_reducible rfl))
  refine wpAnyH_take (i := 5) (v := ?_) rfl (by kernel_rfl) (by kernel_rfl) (by kernel_rfl) (fun _ _ _ h => h) (Or.inl ⟨by rfl, ?_⟩) hHeld ?_
  rotate_left
  · (intro w hSw; have hc2 := cel_of hSw.2.1 2 rfl; clear hSw; go_simp; try (with_reducible rfl))
  refine wpAnyH_take (i := 6) (v := ?_) rfl (by kernel_rfl) (by kernel_rfl) (by kernel_rfl) (fun _ _ _ h => h) (Or.inl ⟨by rfl, ?_⟩) hHeld ?_
  rotate_left
  · (intro w hSw; clear hSw; go_simp; try (with_reducible rfl))
  refine wpAnyH_take (i := 7) (v := ?_) rfl (by kernel_rfl) (by kernel_rfl) (by kernel_rfl) (fun _ _ _ h => h) (Or.inl ⟨by rfl, ?_⟩) hHeld ?_
  rotate_left
  · (intro w hSw; have hc3 := cel_of hSw.2.1 3 rfl; have hc4 := cel_of hSw.2.1 4 rfl; have hc5 := cel_of hSw.2.1 5 rfl; clear hSw; go_simp; try (with_reducible rfl))
  refine wpAnyH_take (i := 8) (v := ?_) rfl (by kernel_rfl) (by kernel_rfl) (by kernel_rfl) (fun _ _ _ h => h) (Or.inl ⟨by rfl, ?_⟩) hHeld ?_
  rotate_left
  · (intro w hSw; clear hSw; go_simp; try (with_reducible rfl))
  refine wpAnyH_take (i := 9) (v := ?_) rfl (by kernel_rfl) (by kernel_rfl) (by kernel_rfl) (fun _ _ _ h => h) (Or.inl ⟨by rfl, ?_⟩) hHeld ?_
  rotate_left
  · (intro w hSw; have hc6 := cel_of hSw.2.1 6 rfl; clear hSw; go_simp; try (with_reducible rfl))
  refine wpAnyH_take (i := 11) (v := ?_) rfl (by kernel_rfl) (by kernel_rfl) (by kernel_rfl) (fun _ _ _ h => h) (Or.inl ⟨by rfl, ?_⟩) hHeld ?_
  rotate_left
  · (intro w hSw; clear hSw; go_simp; try (with_reducible rfl))
  refine wpAnyH_take (i := 12) (v := ?_) rfl (by kernel_rfl) (by kernel_rfl) (by kernel_rfl) (fun _ _ _ h => h) (Or.inl ⟨by rfl, ?_⟩) hHeld ?_
  rotate_left
  · (intro w hSw; have hc7 := cel_of hSw.2.1 7 rfl; clear hSw; go_simp; try (with_reducible rfl))
  refine wpAnyH_take (i := 13) (v := ?_) rfl (by kernel_rfl) (by kernel_rfl) (by kernel_rfl) (fun _ _ _ h => h) (Or.inl ⟨by rfl, ?_⟩) hHeld ?_
  rotate_left
  · (intro w hSw; clear hSw; go_simp; try (with_reducible rfl))
  refine wpAnyH_take (i := 14) (v := ?_) rfl (by kernel_rfl) (by kernel_rfl) (by kernel_rfl) (fun _ _ _ h => h) (Or.inl ⟨by rfl, ?_⟩) hHeld ?_
  rotate_left
  · (intro w hSw; have hc8 := cel_of hSw.2.1 8 rfl; clear hSw; go_simp; try (with_reducible rfl))
  refine wpAnyH_take (i := 15) (v := ?_) rfl (by kernel_rfl) (by kernel_rfl) (by kernel_rfl) (fun _ _ _ h => h) (Or.inl ⟨by rfl, ?_⟩) hHeld ?_
  rotate_left
  · (intro w hSw; clear hSw; go_simp; try (with_reducible rfl))
  refine wpAnyH_take (i := 16) (v := ?_) rfl (by kernel_rfl) (by kernel_rfl) (by kernel_rfl) (fun _ _ _ h => h) (Or.inl ⟨by rfl, ?_⟩) hHeld ?_
  rotate_left
  · (intro w hSw; have hc9 := cel_of hSw.2.1 9 rfl; clear hSw; go_simp; try (with_reducible rfl))
  refine wpAnyH_ready (rs := [10]) (by kernel_rfl) (by simp) ?_
  refine AllReadyH.cons rfl (fun K hK => ?_) AllReadyH.nil
  go_simp
  refine (HC0.out _ hHeld.1).mono ?_
  rintro e y0 ⟨g0, d0, rfl, r0, m0, x0, f0, b0, k0⟩
  have r0' := hide r0; have b0' := hide b0; have z0 := hide hHeld.2.2.2; have f0' := hide f0; have m0' := hide (And.intro m0 x0); have k0' := hide k0
  replace hHeld := hHeld.next b0
  clear r0 b0 f0 m0 x0 k0
  go_wp2_with fail
  refine hK.out _ _ hHeld (fun _ => ?_)
  clear hK K
  refine wpAnyH_take (i := 17) (v := ?_) rfl (by kernel_rfl) (by kernel_rfl) (by kernel_rfl) (fun _ _ _ h => h) (Or.inl ⟨by rfl, ?_⟩) hHeld ?_
  rotate_left
  · (intro w hSw; clear hSw; go_simp; try (with_reducible rfl))
  obtain ⟨cur, hcur, hcs⟩ := hHeld.2.2.1
  refine wpAnyH_ready (rs := [18]) (by kernel_rfl) (by simp) ?_
  refine AllReadyH.cons rfl (fun K hK => ?_) AllReadyH.nil
  refine step_storeA rfl 95 _ _ rfl (W.heap.size + 1) [.int .u8 kind, .string array, .int .i64 cell, .int .i64 vw, .int .u64 vh, .int .u64 vl, .slice (some ⟨g0, 0, none⟩) d.length d0, .int .i64 group, .string table, .int .i64 entry] cur 95 rfl rfl (fun w => by rfl) hcur hcs (by simp [Value.oneCell']) ?_
  intro w9 hw9
  have h9 := hHeld.store (cs := [.int .u8 kind, .string array, .int .i64 cell, .int .i64 vw, .int .u64 vh, .int .u64 vl, .slice (some ⟨g0, 0, none⟩) d.length d0, .int .i64 group, .string table, .int .i64 entry]) rfl hw9
  refine hK.out _ _ h9.1 (fun _ => ?_)
  clear hK K
  refine wpAnyH_done (by kernel_rfl) ?_ _
  refine NoPanic.normal ?_
  have H1 := hide h9.1.1; have H2 := hide h9.2.1; have H3 := hide h9.2.2.1; have H4 := hide h9.2.2.2
  have n0 := H4.out g0 f0'.out.2 (by have := f0'.out.1; have := z0.out; omega)
  have T1 : Hid (RdN w9 (some ⟨g0, 0, none⟩) (d ++ [(⟨77, 0, 0⟩ : Nb)])) := rdN_block r0'.out n0 (by rw [H3.out]; exact f0'.out.2)
  have U1 := hide (owR_lower (B' := W.heap.size) (own_blk k0'.out n0) (by have := z0.out; omega))
  clear hw9 h9 hHeld hcur hcs n0
  go_wp2
  exact bodyPost_ret (res_cell (cs := [.int .u8 kind, .string array, .int .i64 cell, .int .i64 vw, .int .u64 vh, .int .u64 vl, .slice (some ⟨g0, 0, none⟩) d.length d0, .int .i64 group, .string table, .int .i64 entry]) (e := 95) Tryz.results131 rfl ag_ef sz_ef H2.out) rfl ⟨⟨kind, array, cell, vw, vh, vl, some ⟨g0, 0, none⟩, d.length, d0, group, table, entry⟩, rfl, ⟨g0, d0, rfl, T1.out, U1.out, m0'.out.1, m0'.out.2⟩, H1.out⟩
end Go.Proofs.YtclhmggnkhnnlaaGreatDoor
/- LeftEffect. -/
namespace Go.Proofs.YtclhmggnkhnnlaaGreatDoor
open Go.RowKit

set_option maxRecDepth 100000 in
set_option maxHeartbeats 8000000 in
theorem leftEf_yes (y z : Ef) (d : List Nb) (w : World) (hd : y.dn = d.length) (hl : d.length ≤ 1000000) (hr : RdN w y.da d) {B : Nat} (h : TwEf w B y d z) : Calls Tryz.prog 138 #[.agg z.cells.toArray, .agg y.cells.toArray] w fun e w' => e = .returned (.bool true) ∧ Below w.heap.size w w' := by
  obtain ⟨kind, array, cell, vw, vh, vl, da, dn, dc, group, table, entry⟩ := y
  obtain ⟨g, c, e, h1, _, m1, m2⟩ := h.e
  subst e
  simp only [Ef.cells] at *
  subst hd
  have HN : Hid (∀ W, Below w.heap.size w W → _) := fun W hb => leftN_yes g c da dc d W hl (hr.below hb) m1 (by unfold maxLen at m2; omega) (h1.below hb)
  clear hr h1 m1 m2 h hl
  generalize d.length = n1 at *
  go_enter Tryz.func138, Tryz.ntmps138
  go_wp2_with fail
  refine (HN.out _ (below2 _ _ _)).mono ?_
  rintro e w1 ⟨rfl, hb⟩
  have hp := heap_below hb (heap_past _ (heap_alloc_new w _))
  have hq := heap_below hb (heap_snd w _ _ _)
  have p0 := cellA hp 0
  have q0 := cellA hq 0
  have p1 := cellA hp 1
  have q1 := cellA hq 1
  have p2 := cellA hp 2
  have q2 := cellA hq 2
  have p3 := cellA hp 3
  have q3 := cellA hq 3
  have p4 := cellA hp 4
  have q4 := cellA hq 4
  have p5 := cellA hp 5
  have q5 := cellA hq 5
  have p6 := cellA hp 6
  have q6 := cellA hq 6
  have p7 := cellA hp 7
  have q7 := cellA hq 7
  have p8 := cellA hp 8
  have q8 := cellA hq 8
  have p9 := cellA hp 9
  have q9 := cellA hq 9
  simp at p0 q0 p1 q1 p2 q2 p3 q3 p4 q4 p5 q5 p6 q6 p7 q7 p8 q8 p9 q9
  have BB := hide (bstep (below2 _ _ _) hb)
  clear hb hp hq
  go_wp2
  go_ret
  exact ⟨rfl, BB.out⟩
end Go.Proofs.YtclhmggnkhnnlaaGreatDoor
