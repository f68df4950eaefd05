/- Pieces of the proof: TwA. -/
import Derived.Test.YtbemfjdloeipmaaGreatDoorM32
import Derived.Test.YtbemfjdloeipmaaGreatDoorM16
import Derived.Deep.RegionHeld3
/- TwinArray, LeftArray. -/
namespace Go.Proofs.YtbemfjdloeipmaaGreatDoor
open Go.RowKit

theorem cel_of {w : World} {b : Nat} {A : Array Value} {e : TypeId} (h : w.heap[b]? = some (.cells A e (0, 0))) (j : Nat) {u : Value} (hu : A[j]? = some u) : w.cell? ⟨b, j, none⟩ = some u := by unfold World.cell?; simp only [h]; exact hu
theorem setAll_size (b : Nat) : ∀ (cs : List Value) (W : World) (o : Nat), (setAll b W o cs).heap.size = W.heap.size
  | [], _, _ => rfl
  | x :: xs, W, o => (setAll_size b xs (W.setCell ⟨b, o, none⟩ x) (o + 1)).trans (by simp [World.setCell])
/- While one is laid anew: what was handed in, and where the answer will lie. -/
def TwX (W : World) (T K : Nat) (A : Array Value) (w' : World) : Prop := Below W.heap.size W w' ∧ w'.heap[W.heap.size]? = some (.cells A T (0, 0)) ∧ (∃ cur : Array Value, w'.heap[W.heap.size + 1]? = some (.cells cur T (0, 0)) ∧ cur.size = K) ∧ W.heap.size + 2 ≤ w'.heap.size
theorem TwX.start {W : World} {T K : Nat} {A Z : Array Value} (hz : Z.size = K) : TwX W T K A ((W.alloc (.cells A T)).alloc (.cells Z T)).drew := by
  refine ⟨(below2 W _ _).drew, ?_, ⟨Z, ?_, hz⟩, by show _ ≤ ((W.alloc _).alloc _).heap.size; simp⟩
  · exact (Below.heap_alloc (W.alloc (.cells A T)) _ _ (by simp)).trans (heap_alloc_new W _)
  · have h := heap_alloc_new (W.alloc (.cells A T)) (.cells Z T)
    rw [World.size_alloc] at h
    exact h
theorem TwX.next {W : World} {T K : Nat} {A : Array Value} {w w' : World} (h : TwX W T K A w) (hb : Below w.heap.size w w') : TwX W T K A w' := by
  obtain ⟨h1, h2, ⟨cur, h3, h4⟩, h5⟩ := h
  exact ⟨h1.trans (hb.mono h1.size), (hb.block _ (by omega)).trans h2, ⟨cur, (hb.block _ (by omega)).trans h3, h4⟩, Nat.le_trans h5 hb.size⟩
theorem TwX.store {W : World} {T K : Nat} {A : Array Value} {w w' : World} {cs : List Value} (h : TwX W T K A w) (hl : cs.length = K) (e : w' = setAll (W.heap.size + 1) w 0 cs) : TwX W T K A w' ∧ w'.heap[W.heap.size + 1]? = some (.cells cs.toArray T (0, 0)) ∧ w'.heap.size = w.heap.size ∧ ∀ b, b < w.heap.size → b ≠ W.heap.size + 1 → w'.heap[b]? = w.heap[b]? := by
  obtain ⟨h1, h2, ⟨cur, h3, h4⟩, h5⟩ := h
  have F := fr_all (W.heap.size + 1) cs w 0
  rw [← e] at F
  have g := got0 h3 (h4.trans hl.symm)
  rw [← e] at g
  have hs : w'.heap.size = w.heap.size := by rw [e]; exact setAll_size _ _ _ _
  have hne : ∀ b, b < w.heap.size → b ≠ W.heap.size + 1 → w'.heap[b]? = w.heap[b]? := fun b hb hn => F.block b hb hn
  have hw := h1.size
  refine ⟨⟨⟨F.os.trans h1.os, F.tape.trans h1.tape, F.output.trans h1.output, by omega, fun b hb => (hne b (by omega) (by omega)).trans (h1.block b hb)⟩, (hne _ (by omega) (by omega)).trans h2, ⟨_, g, by simpa using hl⟩, by omega⟩, g, hs, hne⟩
theorem own_blk {W W' : World} {B e c g n cap : Nat} {xs : List Value} (h : W.ownsRow B e c (.slice (some ⟨g, 0, none⟩) n cap) n xs) (hb : W'.heap[g]? = W.heap[g]?) : W'.ownsRow B e c (.slice (some ⟨g, 0, none⟩) n cap) n xs := by
  obtain ⟨h1, cur, h2, h3, h4, h5, h6⟩ := own_open h
  exact own_shut h1 (hb.trans h2) h3 h4 h5 h6 h.1
/- A twin, as it lies: memory of its own, a spare element behind each list. -/
structure TwR (W : World) (B : Nat) (x z : ArL) : Prop where
  e : z.a = x.a
  cs : ∃ g, z.ca = some ⟨g, 0, none⟩ ∧ RdN W (some ⟨g, 0, none⟩) (x.a.cs ++ [(⟨77, 0, 0⟩ : Nb)]) ∧ W.ownsRow B 29 3 (.slice (some ⟨g, 0, none⟩) x.a.cs.length z.cc) x.a.cs.length (flat Nb.cells x.a.cs)
  ls : ∃ g, z.la = some ⟨g, 0, none⟩ ∧ RdZ W (some ⟨g, 0, none⟩) (x.a.ls ++ [(77 : Int)]) ∧ W.ownsRow B 3 1 (.slice (some ⟨g, 0, none⟩) x.a.ls.length z.lc) x.a.ls.length (flat intC x.a.ls)
  mc : x.a.cs.length + 1 ≤ z.cc ∧ z.cc ≤ maxLen
  ml : x.a.ls.length + 1 ≤ z.lc ∧ z.lc ≤ maxLen
theorem TwR.below {W W' : World} {B : Nat} {x z : ArL} (h : TwR W B x z) (hb : Below W.heap.size W W') : TwR W' B x z := by
  obtain ⟨g, e1, h1, k1⟩ := h.cs
  obtain ⟨g2, e2, h2, k2⟩ := h.ls
  exact ⟨h.e, ⟨g, e1, h1.below hb, owR_below k1 hb⟩, ⟨g2, e2, h2.below hb, owR_below k2 hb⟩, h.mc, h.ml⟩
theorem TwR.r {W : World} {B : Nat} {x z : ArL} (h : TwR W B x z) (hx : ArR W x) : ArR W z := by
  obtain ⟨za, ca, cc, la, lc⟩ := z
  obtain ⟨e, ⟨g, e1, h1, _⟩, ⟨g2, e2, h2, _⟩, _, _⟩ := h
  simp only at *
  subst e e1 e2
  exact ⟨rdN_take h1, rdZ_take h2, hx.cn, hx.ln, hx.cr, hx.lr, hx.wr, hx.rr, hx.br, hx.kr⟩
set_option maxRecDepth 100000 in
set_option maxHeartbeats 8000000 in
theorem twinAr_any (x : ArL) (W : World) (hx : ArR W x) (hn : x.a.cs.length ≤ 1000000) (hl : x.a.ls.length ≤ 1000000) : Calls Tryz.prog 6 #[x.val] W fun e w' => ∃ z : ArL, e = .returned z.val ∧ TwR w' W.heap.size x z ∧ Below W.heap.size W w' := by
  have HC0 : Hid (∀ W', Below W.heap.size W W' → _) := fun W' hb => twinN_any x.ca x.cc x.a.cs W' hn (hx.cs.below hb)
  have HC3 : Hid (∀ W', Below W.heap.size W W' → _) := fun W' hb => twinZ_any x.la x.lc x.a.ls W' hl (hx.ls.below hb)
  clear hx hn hl
  obtain ⟨⟨name, kind, aw, rate, burst, cs, ls⟩, ca, cc, la, lc⟩ := x
  simp only [ArL.val] at *
  go_enter Tryz.func6, Tryz.ntmps6
  go_wp2
  have hS0 : TwX W 26 7 #[.string name, .int .u8 kind, .int .i64 aw, .int .i64 rate, .int .i64 burst, .slice ca cs.length cc, .slice la ls.length lc] ((W.alloc (.cells #[.string name, .int .u8 kind, .int .i64 aw, .int .i64 rate, .int .i64 burst, .slice ca cs.length cc, .slice la ls.length lc] 26)).alloc (.cells #[.string ⟨#[]⟩, .int .u8 0, .int .i64 0, .int .i64 0, .int .i64 0, .slice none 0 0, .slice none 0 0] 26)).drew := TwX.start rfl
  generalize (W.alloc (.cells #[.string name, .int .u8 kind, .int .i64 aw, .int .i64 rate, .int .i64 burst, .slice ca cs.length cc, .slice la ls.length lc] 26)).alloc (.cells #[.string ⟨#[]⟩, .int .u8 0, .int .i64 0, .int .i64 0, .int .i64 0, .slice none 0 0, .slice none 0 0] 26) = w1 at *
  refine wp_region_noPanic ?_
  refine wp_region_held_drew (S := TwX W 26 7 #[.string name, .int .u8 kind, .int .i64 aw, .int .i64 rate, .int .i64 burst, .slice ca cs.length cc, .slice la ls.length lc]) (by kernel_rfl) hS0 (fun hHeld => ?_)
  clear hS0
  generalize w1.drew = w2 at *
  refine wpAnyH_take (i := 0) (v := ?_) rfl (by kernel_rfl) (by kernel_rfl) (by kernel_rfl) (fun _ _ _ h => h) (Or.inl ⟨by rfl, ?_⟩) hHeld ?_
  rotate_left
  · (intro w hSw; clear hSw; go_simp; try (with_reducible rfl))
  refine wpAnyH_take (i := 1) (v := ?_) rfl (by kernel_rfl) (by kernel_rfl) (by kernel_rfl) (fun _ _ _ h => h) (Or.inl ⟨by rfl, ?_⟩) hHeld ?_
  rotate_left
  · (intro w hSw; have hc0 := cel_of hSw.2.1 0 rfl; clear hSw; go_simp; try (with_reducible rfl))
  refine wpAnyH_take (i := 2) (v := ?_) rfl (by kernel_rfl) (by kernel_rfl) (by kernel_rfl) (fun _ _ _ h => h) (Or.inl ⟨by rfl, ?_⟩) hHeld ?_
  rotate_left
  · (intro w hSw; clear hSw; go_simp; try (with_reducible rfl))
  refine wpAnyH_take (i := 3) (v := ?_) rfl (by kernel_rfl) (by kernel_rfl) (by kernel_rfl) (fun _ _ _ h => h) (Or.inl ⟨by rfl, ?_⟩) hHeld ?_
  rotate_left
  · (intro w hSw; have hc1 := cel_of hSw.2.1 1 rfl; clear hSw; go_simp; try (with_reducible rfl))
  refine wpAnyH_take (i := 4) (v := ?_) rfl (by kernel_rfl) (by kernel_rfl) (by kernel_rfl) (fun _ _ _ h => h) (Or.inl ⟨by rfl, ?_⟩) hHeld ?_
  rotate_left
  · (intro w hSw; clear hSw; go_simp; try (with_reducible rfl))
  refine wpAnyH_take (i := 5) (v := ?_) rfl (by kernel_rfl) (by kernel_rfl) (by kernel_rfl) (fun _ _ _ h => h) (Or.inl ⟨by rfl, ?_⟩) hHeld ?_
  rotate_left
  · (intro w hSw; have hc2 := cel_of hSw.2.1 2 rfl; clear hSw; go_simp; try (with_reducible rfl))
  refine wpAnyH_take (i := 6) (v := ?_) rfl (by kernel_rfl) (by kernel_rfl) (by kernel_rfl) (fun _ _ _ h => h) (Or.inl ⟨by rfl, ?_⟩) hHeld ?_
  rotate_left
  · (intro w hSw; clear hSw; go_simp; try (with_reducible rfl))
  refine wpAnyH_take (i := 7) (v := ?_) rfl (by kernel_rfl) (by kernel_rfl) (by kernel_rfl) (fun _ _ _ h => h) (Or.inl ⟨by rfl, ?_⟩) hHeld ?_
  rotate_left
  · (intro w hSw; have hc3 := cel_of hSw.2.1 3 rfl; clear hSw; go_simp; try (with_reducible rfl))
  refine wpAnyH_take (i := 8) (v := ?_) rfl (by kernel_rfl) (by kernel_rfl) (by kernel_rfl) (fun _ _ _ h => h) (Or.inl ⟨by rfl, ?_⟩) hHeld ?_
  rotate_left
  · (intro w hSw; clear hSw; go_simp; try (with_reducible rfl))
  refine wpAnyH_take (i := 9) (v := ?_) rfl (by kernel_rfl) (by kernel_rfl) (by kernel_rfl) (fun _ _ _ h => h) (Or.inl ⟨by rfl, ?_⟩) hHeld ?_
  rotate_left
  · (intro w hSw; have hc4 := cel_of hSw.2.1 4 rfl; clear hSw; go_simp; try (with_reducible rfl))
  refine wpAnyH_take (i := 10) (v := ?_) rfl (by kernel_rfl) (by kernel_rfl) (by kernel_rfl) (fun _ _ _ h => h) (Or.inl ⟨by rfl, ?_⟩) hHeld ?_
  rotate_left
  · (intro w hSw; clear hSw; go_simp; try (with_reducible rfl))
  refine wpAnyH_take (i := 11) (v := ?_) rfl (by kernel_rfl) (by kernel_rfl) (by kernel_rfl) (fun _ _ _ h => h) (Or.inl ⟨by rfl, ?_⟩) hHeld ?_
  rotate_left
  · (intro w hSw; have hc5 := cel_of hSw.2.1 5 rfl; clear hSw; go_simp; try (with_reducible rfl))
  refine wpAnyH_take (i := 13) (v := ?_) rfl (by kernel_rfl) (by kernel_rfl) (by kernel_rfl) (fun _ _ _ h => h) (Or.inl ⟨by rfl, ?_⟩) hHeld ?_
  rotate_left
  · (intro w hSw; clear hSw; go_simp; try (with_reducible rfl))
  refine wpAnyH_take (i := 14) (v := ?_) rfl (by kernel_rfl) (by kernel_rfl) (by kernel_rfl) (fun _ _ _ h => h) (Or.inl ⟨by rfl, ?_⟩) hHeld ?_
  rotate_left
  · (intro w hSw; have hc6 := cel_of hSw.2.1 6 rfl; clear hSw; go_simp; try (with_reducible rfl))
  refine wpAnyH_ready (rs := [12]) (by kernel_rfl) (by simp) ?_
  refine AllReadyH.cons rfl (fun K hK => ?_) AllReadyH.nil
  go_simp
  refine (HC0.out _ hHeld.1).mono ?_
  rintro e y0 ⟨g0, d0, rfl, r0, m0, x0, f0, b0, k0⟩
  have r0' := hide r0; have b0' := hide b0; have z0 := hide hHeld.2.2.2; have f0' := hide f0; have m0' := hide (And.intro m0 x0); have k0' := hide k0
  replace hHeld := hHeld.next b0
  clear r0 b0 f0 m0 x0 k0
  go_wp2_with fail
  refine hK.out _ _ hHeld (fun _ => ?_)
  clear hK K
  refine wpAnyH_ready (rs := [15]) (by kernel_rfl) (by simp) ?_
  refine AllReadyH.cons rfl (fun K hK => ?_) AllReadyH.nil
  go_simp
  refine (HC3.out _ hHeld.1).mono ?_
  rintro e y3 ⟨g3, d3, rfl, r3, m3, x3, f3, b3, k3⟩
  have r3' := hide r3; have b3' := hide b3; have z3 := hide hHeld.2.2.2; have f3' := hide f3; have m3' := hide (And.intro m3 x3); have k3' := hide k3
  replace hHeld := hHeld.next b3
  clear r3 b3 f3 m3 x3 k3
  go_wp2_with fail
  refine hK.out _ _ hHeld (fun _ => ?_)
  clear hK K
  refine wpAnyH_take (i := 16) (v := ?_) rfl (by kernel_rfl) (by kernel_rfl) (by kernel_rfl) (fun _ _ _ h => h) (Or.inl ⟨by rfl, ?_⟩) hHeld ?_
  rotate_left
  · (intro w hSw; clear hSw; go_simp; try (with_reducible rfl))
  obtain ⟨cur, hcur, hcs⟩ := hHeld.2.2.1
  refine wpAnyH_ready (rs := [17]) (by kernel_rfl) (by simp) ?_
  refine AllReadyH.cons rfl (fun K hK => ?_) AllReadyH.nil
  refine step_storeA rfl 26 _ _ rfl (W.heap.size + 1) [.string name, .int .u8 kind, .int .i64 aw, .int .i64 rate, .int .i64 burst, .slice (some ⟨g0, 0, none⟩) cs.length d0, .slice (some ⟨g3, 0, none⟩) ls.length d3] cur 26 rfl rfl sz26 hcur hcs (ar_one name kind aw rate burst (some ⟨g0, 0, none⟩, cs.length, d0) (some ⟨g3, 0, none⟩, ls.length, d3)) ?_
  intro w9 hw9
  have h9 := hHeld.store (cs := [.string name, .int .u8 kind, .int .i64 aw, .int .i64 rate, .int .i64 burst, .slice (some ⟨g0, 0, none⟩) cs.length d0, .slice (some ⟨g3, 0, none⟩) ls.length d3]) rfl hw9
  refine hK.out _ _ h9.1 (fun _ => ?_)
  clear hK K
  refine wpAnyH_done (by kernel_rfl) ?_ _
  refine NoPanic.normal ?_
  have H1 := hide h9.1.1; have H2 := hide h9.2.1; have H3 := hide h9.2.2.1; have H4 := hide h9.2.2.2
  have s3 := b3'.out.size
  have n0 := H4.out g0 (by have := f0'.out.2; omega) (by have := f0'.out.1; have := z0.out; omega)
  have n3 := H4.out g3 f3'.out.2 (by have := f3'.out.1; have := z3.out; omega)
  have T1 : Hid (RdN w9 (some ⟨g0, 0, none⟩) (cs ++ [(⟨77, 0, 0⟩ : Nb)])) := rdN_block (r0'.out.below b3'.out) n0 (by rw [H3.out]; have := f0'.out.2; omega)
  have T2 : Hid (RdZ w9 (some ⟨g3, 0, none⟩) (ls ++ [(77 : Int)])) := rdZ_block r3'.out n3 (by rw [H3.out]; exact f3'.out.2)
  have U1 := hide (owR_lower (B' := W.heap.size) (own_blk (owR_below k0'.out b3'.out) n0) (by have := z0.out; omega))
  have U2 := hide (owR_lower (B' := W.heap.size) (own_blk k3'.out n3) (by have := z3.out; omega))
  clear hw9 h9 hHeld hcur hcs s3 n0 n3
  go_wp2
  exact bodyPost_ret (res_cell (cs := [.string name, .int .u8 kind, .int .i64 aw, .int .i64 rate, .int .i64 burst, .slice (some ⟨g0, 0, none⟩) cs.length d0, .slice (some ⟨g3, 0, none⟩) ls.length d3]) (e := 26) Tryz.results6 rfl agg26 sz26 H2.out) rfl ⟨⟨⟨name, kind, aw, rate, burst, cs, ls⟩, some ⟨g0, 0, none⟩, d0, some ⟨g3, 0, none⟩, d3⟩, rfl, ⟨rfl, ⟨g0, rfl, T1.out, U1.out⟩, ⟨g3, rfl, T2.out, U2.out⟩, m0'.out, m3'.out⟩, H1.out⟩
set_option maxRecDepth 100000 in
set_option maxHeartbeats 8000000 in
theorem leftAr_yes (x z : ArL) (B : Nat) (w : World) (hx : ArR w x) (hn : x.a.cs.length ≤ 1000000) (hl : x.a.ls.length ≤ 1000000) (h : TwR w B x z) : Calls Tryz.prog 16 #[z.val, x.val] w fun e w' => e = .returned (.bool true) ∧ Below w.heap.size w w' := by
  obtain ⟨za, ca, cc, la, lc⟩ := z
  obtain ⟨⟨name, kind, aw, rate, burst, cs, ls⟩, ca2, cc2, la2, lc2⟩ := x
  obtain ⟨e, ⟨g, e1, h1, _⟩, ⟨g2, e2, h2, _⟩, ⟨m1, m2⟩, ⟨a1, a2⟩⟩ := h
  simp only at *
  subst e e1 e2
  have HX : Hid (∀ W, Below w.heap.size w W → _) := fun W hb => leftN_yes g cc ca2 cc2 cs W hn (hx.cs.below hb) m1 (by unfold maxLen at m2; omega) (h1.below hb)
  have HN : Hid (∀ W, Below w.heap.size w W → _) := fun W hb => leftZ_yes g2 lc la2 lc2 ls W hl (hx.ls.below hb) a1 (by unfold maxLen at a2; omega) (h2.below hb)
  clear hx h1 h2 m1 m2 a1 a2 hn hl
  simp only [ArL.val] at *
  generalize cs.length = n1 at *
  generalize ls.length = n2 at *
  have hnm : (name.toList == name.toList) = true := by simp
  go_enter Tryz.func16, Tryz.ntmps16
  go_wp2_with fail
  refine (HX.out _ (below2 _ _ _)).mono ?_
  rintro e w1 ⟨rfl, hb⟩
  obtain ⟨p0, p1, p2, p3, p4, p5, p6⟩ := at7 (heap_below hb (heap_past _ (heap_alloc_new w _)))
  obtain ⟨q0, q1, q2, q3, q4, q5, q6⟩ := at7 (heap_below hb (heap_snd w _ _ _))
  have BB := hide (bstep (below2 _ _ _) hb)
  clear hb
  go_wp2_with fail
  refine (HN.out _ BB.out).mono ?_
  rintro e w2 ⟨rfl, hb⟩
  go_wp2
  go_ret
  exact ⟨rfl, bstep BB.out hb⟩
end Go.Proofs.YtbemfjdloeipmaaGreatDoor
