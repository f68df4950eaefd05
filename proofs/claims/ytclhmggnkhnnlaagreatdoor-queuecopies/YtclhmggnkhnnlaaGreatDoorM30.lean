/- Pieces of the proof: TwPa, TwPl. -/
import Derived.Test.YtclhmggnkhnnlaaGreatDoorM27
import Derived.Test.YtclhmggnkhnnlaaGreatDoorM29
import Derived.Test.YtclhmggnkhnnlaaGreatDoorM19
import Derived.Test.YtclhmggnkhnnlaaGreatDoorM28
/- TwinPass, with what is one's own handed on. -/
namespace Go.Proofs.YtclhmggnkhnnlaaGreatDoor
open Go.RowKit

theorem TwEf.frB {E : Nat → Prop} {W W' : World} {B : Nat} {y z : Ef} {d : List Nb} (h : TwEf W B y d z) (hf : Fr E W W') (hE : ∀ b, E b → b < B) : TwEf W' B y d z := by
  obtain ⟨g, c, e1, h1, k1, m⟩ := h.e
  have hlt := World.ownsRow.lt k1 g rfl
  have hn : ¬ E g := fun e => by have := hE g e; omega
  exact ⟨g, c, e1, rdN_block h1 (hf.block g hlt.2 hn) (Nat.lt_of_lt_of_le hlt.2 hf.size), owR_fr k1 hf (fun b hb e => by have := hE b e; have := (World.ownsRow.lt k1 b hb).1; omega), m⟩
/- A twin of a pass, as it lies. -/
structure TwPs (W : World) (B : Nat) (y : Ps) (D : Ef → List Nb) (z : Ps) (g1 g2 : Nat) : Prop where
  e : z = { y with pa := some ⟨g1, 0, none⟩, pc := z.pc, ea := some ⟨g2, 0, none⟩, ec := z.ec, es := z.es }
  b : Own8 W B (.slice (some ⟨g1, 0, none⟩) (y.xs.length + 1) z.pc) (y.xs ++ [77])
  bc : y.xs.length + 1 ≤ z.pc
  l : z.es.length = y.es.length
  o : W.ownsRow B 95 10 (.slice (some ⟨g2, 0, none⟩) (y.es.length + 1) z.ec) (y.es.length + 1) (flat Ef.cells (z.es ++ [spF]))
  oc : y.es.length + 1 ≤ z.ec ∧ z.ec ≤ maxLen
  tw : ∀ i (h : i < z.es.length) (h' : i < y.es.length), TwEf W B y.es[i] (D y.es[i]) z.es[i]
  pw : z.es.Pairwise (fun z z' => ∀ b b', z.blk b → z'.blk b' → b < b')
theorem TwPs.below {W W' : World} {B : Nat} {y z : Ps} {D : Ef → List Nb} {g1 g2 : Nat} (h : TwPs W B y D z g1 g2) (hb : Below W.heap.size W W') : TwPs W' B y D z g1 g2 :=
  ⟨h.e, h.b.below hb, h.bc, h.l, owR_below h.o hb, h.oc, fun i h1 h2 => (h.tw i h1 h2).below hb, h.pw⟩
theorem TwPs.lower {W : World} {B B' : Nat} {y z : Ps} {D : Ef → List Nb} {g1 g2 : Nat} (h : TwPs W B y D z g1 g2) (hb : B' ≤ B) : TwPs W B' y D z g1 g2 :=
  ⟨h.e, h.b.lower hb, h.bc, h.l, owR_lower h.o hb, h.oc, fun i h1 h2 => (h.tw i h1 h2).lower hb, h.pw⟩
theorem TwPs.frB {E : Nat → Prop} {W W' : World} {B : Nat} {y z : Ps} {D : Ef → List Nb} {g1 g2 : Nat} (h : TwPs W B y D z g1 g2) (hf : Fr E W W') (hE : ∀ b, E b → b < B) : TwPs W' B y D z g1 g2 :=
  ⟨h.e, h.b.fr hf (fun b hb e => by have := hE b e; have := (World.ownsRow.lt h.b b hb).1; omega), h.bc, h.l, owR_fr h.o hf (fun b hb e => by have := hE b e; have := (World.ownsRow.lt h.o b hb).1; omega), h.oc, fun i h1 h2 => (h.tw i h1 h2).frB hf hE, h.pw⟩
set_option maxRecDepth 100000 in
theorem sz_ps : ∀ w : World, (sizeOf 27).run Tryz.prog w = .ok 6 w := fun w => by rfl
set_option maxRecDepth 100000 in
theorem ag_ps : ∀ w : World, (isAgg 27).run Tryz.prog w = .ok true w := fun w => by rfl
set_option maxRecDepth 100000 in
set_option maxHeartbeats 8000000 in
theorem twinPs_any (y : Ps) (D : Ef → List Nb) (W : World) (hx : y.xs.length ≤ 140737488351232) (hrx : RdA W y.pa y.xs) (hr : RdG Ef.cells 10 W y.ea y.es) (hz : ∀ e ∈ y.es, e.dn = (D e).length ∧ (D e).length ≤ 1000000 ∧ RdN W e.da (D e)) (hl : y.es.length ≤ 900000) : Calls Tryz.prog 7 #[.agg y.cells.toArray] W fun e w' => ∃ z g1 g2, e = .returned (.agg z.cells.toArray) ∧ TwPs w' W.heap.size y D z g1 g2 ∧ Below W.heap.size W w' := by
  have HC0 : Hid (∀ W', Below W.heap.size W W' → _) := fun W' hb => twin_any y.pa y.pc y.xs W' hx (hrx.below hb)
  have HC1 : Hid (∀ W', Below W.heap.size W W' → _) := fun W' hb => twinEfs_any y.ea y.ec D y.es W' (hr.below hb) (fun e he => ⟨(hz e he).1, (hz e he).2.1, (hz e he).2.2.below hb⟩) hl
  clear hr hrx hz hx hl
  obtain ⟨fin, pa, pc, xs, port, again, round, ea, ec, es⟩ := y
  simp only [Ps.cells] at *
  go_enter Tryz.func7, Tryz.ntmps7
  go_wp2
  have hS0 : TwX W 27 6 #[.int .u8 fin, .slice pa xs.length pc, .int .i64 port, .bool again, .bool round, .slice ea es.length ec] ((W.alloc (.cells #[.int .u8 fin, .slice pa xs.length pc, .int .i64 port, .bool again, .bool round, .slice ea es.length ec] 27)).alloc (.cells #[.int .u8 0, .slice none 0 0, .int .i64 0, .bool false, .bool false, .slice none 0 0] 27)).drew := TwX.start rfl
  generalize (W.alloc (.cells #[.int .u8 fin, .slice pa xs.length pc, .int .i64 port, .bool again, .bool round, .slice ea es.length ec] 27)).alloc (.cells #[.int .u8 0, .slice none 0 0, .int .i64 0, .bool false, .bool false, .slice none 0 0] 27) = w1 at *
  refine wp_region_noPanic ?_
  refine wp_region_held_drew (S := TwX W 27 6 #[.int .u8 fin, .slice pa xs.length pc, .int .i64 port, .bool again, .bool round, .slice ea es.length ec]) (by kernel_rfl) hS0 (fun hHeld => ?_)
  clear hS0
  generalize w1.drew = w2 at *
  refine wpAnyH_take (i := 0) (v := ?_) rfl (by kernel_rfl) (by kernel_rfl) (by kernel_rfl) (fun _ _ _ h => h) (Or.inl ⟨by rfl, ?_⟩) hHeld ?_
  rotate_left
  · (intro w hSw; clear hSw; go_simp; try (with_reducible rfl))
  refine wpAnyH_take (i := 1) (v := ?_) rfl (by kernel_rfl) (by kernel_rfl) (by kernel_rfl) (fun _ _ _ h => h) (Or.inl ⟨by rfl, ?_⟩) hHeld ?_
  rotate_left
  · (intro w hSw; have hc0 := cel_of hSw.2.1 0 rfl; clear hSw; go_simp; try (with_reducible rfl))
  refine wpAnyH_take (i := 2) (v := ?_) rfl (by kernel_rfl) (by kernel_rfl) (by kernel_rfl) (fun _ _ _ h => h) (Or.inl ⟨by rfl, ?_⟩) hHeld ?_
  rotate_left
  · (intro w hSw; clear hSw; go_simp; try (with_reducible rfl))
  refine wpAnyH_take (i := 3) (v := ?_) rfl (by kernel_rfl) (by kernel_rfl) (by kernel_rfl) (fun _ _ _ h => h) (Or.inl ⟨by rfl, ?_⟩) hHeld ?_
  rotate_left
  · (intro w hSw; have hc1 := cel_of hSw.2.1 1 rfl; clear hSw; go_simp; try (with_reducible rfl))
  refine wpAnyH_take (i := 5) (v := ?_) rfl (by kernel_rfl) (by kernel_rfl) (by kernel_rfl) (fun _ _ _ h => h) (Or.inl ⟨by rfl, ?_⟩) hHeld ?_
  rotate_left
  · (intro w hSw; clear hSw; go_simp; try (with_reducible rfl))
  refine wpAnyH_take (i := 6) (v := ?_) rfl (by kernel_rfl) (by kernel_rfl) (by kernel_rfl) (fun _ _ _ h => h) (Or.inl ⟨by rfl, ?_⟩) hHeld ?_
  rotate_left
  · (intro w hSw; have hc2 := cel_of hSw.2.1 2 rfl; clear hSw; go_simp; try (with_reducible rfl))
  refine wpAnyH_take (i := 7) (v := ?_) rfl (by kernel_rfl) (by kernel_rfl) (by kernel_rfl) (fun _ _ _ h => h) (Or.inl ⟨by rfl, ?_⟩) hHeld ?_
  rotate_left
  · (intro w hSw; clear hSw; go_simp; try (with_reducible rfl))
  refine wpAnyH_take (i := 8) (v := ?_) rfl (by kernel_rfl) (by kernel_rfl) (by kernel_rfl) (fun _ _ _ h => h) (Or.inl ⟨by rfl, ?_⟩) hHeld ?_
  rotate_left
  · (intro w hSw; have hc3 := cel_of hSw.2.1 3 rfl; clear hSw; go_simp; try (with_reducible rfl))
  refine wpAnyH_take (i := 9) (v := ?_) rfl (by kernel_rfl) (by kernel_rfl) (by kernel_rfl) (fun _ _ _ h => h) (Or.inl ⟨by rfl, ?_⟩) hHeld ?_
  rotate_left
  · (intro w hSw; clear hSw; go_simp; try (with_reducible rfl))
  refine wpAnyH_take (i := 10) (v := ?_) rfl (by kernel_rfl) (by kernel_rfl) (by kernel_rfl) (fun _ _ _ h => h) (Or.inl ⟨by rfl, ?_⟩) hHeld ?_
  rotate_left
  · (intro w hSw; have hc4 := cel_of hSw.2.1 4 rfl; clear hSw; go_simp; try (with_reducible rfl))
  refine wpAnyH_take (i := 11) (v := ?_) rfl (by kernel_rfl) (by kernel_rfl) (by kernel_rfl) (fun _ _ _ h => h) (Or.inl ⟨by rfl, ?_⟩) hHeld ?_
  rotate_left
  · (intro w hSw; clear hSw; go_simp; try (with_reducible rfl))
  refine wpAnyH_take (i := 12) (v := ?_) rfl (by kernel_rfl) (by kernel_rfl) (by kernel_rfl) (fun _ _ _ h => h) (Or.inl ⟨by rfl, ?_⟩) hHeld ?_
  rotate_left
  · (intro w hSw; have hc5 := cel_of hSw.2.1 5 rfl; clear hSw; go_simp; try (with_reducible rfl))
  refine wpAnyH_ready (rs := [4]) (by kernel_rfl) (by simp) ?_
  refine AllReadyH.cons rfl (fun K hK => ?_) AllReadyH.nil
  go_simp
  refine (HC0.out _ hHeld.1).mono ?_
  rintro e y0 ⟨g0, d0, rfl, r0, m0, x0, b0⟩
  have r0' := hide r0; have m0' := hide m0; have z0 := hide hHeld.2.2.2
  replace hHeld := hHeld.next b0
  clear r0 b0 m0 x0
  go_wp2_with fail
  refine hK.out _ _ hHeld (fun _ => ?_)
  clear hK K
  refine wpAnyH_ready (rs := [13]) (by kernel_rfl) (by simp) ?_
  refine AllReadyH.cons rfl (fun K hK => ?_) AllReadyH.nil
  go_simp
  refine (HC1.out _ hHeld.1).mono ?_
  rintro e y1 ⟨g1, c1, zs, rfl, l1, o1, t1, c11⟩
  have r1' := hide (r0'.out.below t1.bl); have l1' := hide l1; have o1' := hide o1; have t1' := hide t1; have c1' := hide c11; have hs1 := hide hHeld.1.size
  have q1' : Hid (W.heap.size + 2 ≤ y0.heap.size) := hHeld.2.2.2
  replace hHeld := hHeld.next t1.bl
  clear l1 o1 t1 c11 r0'
  go_wp2_with fail
  refine hK.out _ _ hHeld (fun _ => ?_)
  clear hK K
  refine wpAnyH_take (i := 14) (v := ?_) rfl (by kernel_rfl) (by kernel_rfl) (by kernel_rfl) (fun _ _ _ h => h) (Or.inl ⟨by rfl, ?_⟩) hHeld ?_
  rotate_left
  · (intro w hSw; clear hSw; go_simp; try (with_reducible rfl))
  obtain ⟨cur, hcur, hcs⟩ := hHeld.2.2.1
  refine wpAnyH_ready (rs := [15]) (by kernel_rfl) (by simp) ?_
  refine AllReadyH.cons rfl (fun K hK => ?_) AllReadyH.nil
  refine step_storeA rfl 27 _ _ rfl (W.heap.size + 1) [.int .u8 fin, .slice (some ⟨g0, 0, none⟩) xs.length d0, .int .i64 port, .bool again, .bool round, .slice (some ⟨g1, 0, none⟩) es.length c1] cur 27 rfl rfl (fun w => by rfl) hcur hcs (by simp [Value.oneCell']) ?_
  intro w9 hw9
  have hfr : Fr (· = W.heap.size + 1) y1 w9 := by rw [hw9]; exact fr_all _ _ _ _
  have h9 := hHeld.store (cs := [.int .u8 fin, .slice (some ⟨g0, 0, none⟩) xs.length d0, .int .i64 port, .bool again, .bool round, .slice (some ⟨g1, 0, none⟩) es.length c1]) rfl hw9
  refine hK.out _ _ h9.1 (fun _ => ?_)
  clear hK K
  refine wpAnyH_done (by kernel_rfl) ?_ _
  refine NoPanic.normal ?_
  have H1 := hide h9.1.1; have H2 := hide h9.2.1
  have P9 : Hid (TwPs w9 W.heap.size ⟨fin, pa, pc, xs, port, again, round, ea, ec, es⟩ D ⟨fin, some ⟨g0, 0, none⟩, d0, xs, port, again, round, some ⟨g1, 0, none⟩, c1, zs⟩ g0 g1) := by
    have hB : ∀ b, b = W.heap.size + 1 → b < W.heap.size + 2 := fun b hb => by omega
    have k : TwPs y1 (W.heap.size + 2) ⟨fin, pa, pc, xs, port, again, round, ea, ec, es⟩ D ⟨fin, some ⟨g0, 0, none⟩, d0, xs, port, again, round, some ⟨g1, 0, none⟩, c1, zs⟩ g0 g1 := by
      refine ⟨rfl, r1'.out.lower z0.out, m0'.out, l1'.out, owR_lower o1'.out q1'.out, c1'.out, fun i h1 h2 => (t1'.out.tw i h1 h2).lower q1'.out, t1'.out.pw⟩
    exact (k.frB hfr hB).lower (by omega)
  clear hw9 h9 hHeld hcur hcs hfr
  have hzl := l1'.out
  go_wp2
  exact bodyPost_ret (res_cell (cs := [.int .u8 fin, .slice (some ⟨g0, 0, none⟩) xs.length d0, .int .i64 port, .bool again, .bool round, .slice (some ⟨g1, 0, none⟩) es.length c1]) (e := 27) Tryz.results7 rfl ag_ps sz_ps H2.out) rfl ⟨⟨fin, some ⟨g0, 0, none⟩, d0, xs, port, again, round, some ⟨g1, 0, none⟩, c1, zs⟩, g0, g1, by simp only [hzl], P9.out, H1.out⟩
end Go.Proofs.YtclhmggnkhnnlaaGreatDoor
/- LeftPass of a twin. -/
namespace Go.Proofs.YtclhmggnkhnnlaaGreatDoor
open Go.RowKit

set_option maxRecDepth 100000 in
set_option maxHeartbeats 8000000 in
theorem leftPs_yes (B g1 g2 : Nat) (y z : Ps) (D : Ef → List Nb) (w : World) (hx : y.xs.length ≤ 140737488351232) (hrx : RdA w y.pa y.xs) (hr : RdG Ef.cells 10 w y.ea y.es) (hz : ∀ e ∈ y.es, e.dn = (D e).length ∧ (D e).length ≤ 1000000 ∧ RdN w e.da (D e)) (hl : y.es.length ≤ 900000) (h : TwPs w B y D z g1 g2) : Calls Tryz.prog 12 #[.agg z.cells.toArray, .agg y.cells.toArray] w fun e w' => e = .returned (.bool true) ∧ Below w.heap.size w w' := by
  have hbc : z.pc ≤ 9223372036854775807 := by
    obtain ⟨gg, cc, e1, _, _, _, e2⟩ := own_someD h.b (by simp)
    injection e1 with _ _ e1
    unfold maxLen at e2; omega
  have HC0 : Hid (∀ W', Below w.heap.size w W' → _) := fun W' hb => left_yes g1 z.pc y.pa y.pc y.xs W' B hx (hrx.below hb) h.bc hbc (h.b.below hb)
  have HC1 : Hid (∀ W', Below w.heap.size w W' → _) := fun W' hb => leftEfs_yes B g2 z.ec y.ea y.ec D y.es z.es W' hl (hr.below hb) (fun e he => ⟨(hz e he).1, (hz e he).2.1, (hz e he).2.2.below hb⟩) h.l (owR_below h.o hb) (fun i h1 h2 => (h.tw i h1 h2).below hb) h.oc.1 h.oc.2
  have e := h.e
  have hle := h.l
  clear hr hrx hz hx hl hbc h
  obtain ⟨fin, pa, pc, xs, port, again, round, ea, ec, es⟩ := y
  obtain ⟨zfin, zpa, zpc, zxs, zport, zagain, zround, zea, zec, zes⟩ := z
  simp only [Ps.mk.injEq] at e hle HC0 HC1
  obtain ⟨rfl, rfl, -, rfl, rfl, rfl, rfl, rfl, -, -⟩ := e
  simp only [Ps.cells, hle] at *
  generalize es.length = n2 at *
  generalize zxs.length = n1 at *
  go_enter Tryz.func12, Tryz.ntmps12
  have HP := hide (heap_past (.cells #[.int .u8 zfin, .slice pa n1 pc, .int .i64 zport, .bool zagain, .bool zround, .slice ea n2 ec] 27) (heap_alloc_new w (.cells #[.int .u8 zfin, .slice (some ⟨g1, 0, none⟩) n1 zpc, .int .i64 zport, .bool zagain, .bool zround, .slice (some ⟨g2, 0, none⟩) n2 zec] 27)))
  have HQ := hide (heap_snd w (.cells #[.int .u8 zfin, .slice (some ⟨g1, 0, none⟩) n1 zpc, .int .i64 zport, .bool zagain, .bool zround, .slice (some ⟨g2, 0, none⟩) n2 zec] 27) #[.int .u8 zfin, .slice pa n1 pc, .int .i64 zport, .bool zagain, .bool zround, .slice ea n2 ec] 27)
  have B0 := hide (below2 w (.cells #[.int .u8 zfin, .slice (some ⟨g1, 0, none⟩) n1 zpc, .int .i64 zport, .bool zagain, .bool zround, .slice (some ⟨g2, 0, none⟩) n2 zec] 27) (.cells #[.int .u8 zfin, .slice pa n1 pc, .int .i64 zport, .bool zagain, .bool zround, .slice ea n2 ec] 27))
  go_wp2_with fail
  refine (HC0.out _ B0.out).mono ?_
  rintro e w1 ⟨rfl, hb⟩
  have hp := heap_below hb HP.out
  have hq := heap_below hb HQ.out
  have p2 := cellA hp 2
  have q2 := cellA hq 2
  have p3 := cellA hp 3
  have q3 := cellA hq 3
  have p4 := cellA hp 4
  have q4 := cellA hq 4
  have p5 := cellA hp 5
  have q5 := cellA hq 5
  simp at p2 q2 p3 q3 p4 q4 p5 q5
  have B1 := hide (bstep B0.out hb)
  clear hb hp hq HP HQ
  go_wp2_with fail
  refine (HC1.out _ B1.out).mono ?_
  rintro e w2 ⟨rfl, hb⟩
  have B2 := hide (bstep B1.out hb)
  clear hb
  go_wp2
  go_ret
  exact ⟨rfl, B2.out⟩
end Go.Proofs.YtclhmggnkhnnlaaGreatDoor
