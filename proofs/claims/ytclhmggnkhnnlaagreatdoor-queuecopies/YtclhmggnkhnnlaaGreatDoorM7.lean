/- Pieces of the proof: QuC. -/
import Derived.Test.YtclhmggnkhnnlaaGreatDoorM6
import Derived.BigRegion
/- package queue: take. -/
namespace Go.Proofs.YtclhmggnkhnnlaaGreatDoor
open Go.RowKit

theorem aggCy : ∀ w, (isAgg 80).run Tryz.prog w = .ok true w := fun w => by kernel_rfl
theorem szCy : ∀ w, (sizeOf 80).run Tryz.prog w = .ok 2 w := fun w => by kernel_rfl
def Cy.cells (c : Cy) : List Value := [.int .i64 c.port, .slice c.a c.xs.length c.cap]
theorem cy_one (c : Cy) : ∀ u ∈ c.cells, u.oneCell' = true := fun u hu => by
  simp only [Cy.cells, List.mem_cons, List.not_mem_nil, or_false] at hu
  rcases hu with rfl | rfl <;> rfl
theorem QC.take {cs : Array Value} {r f : Nat} {c : Cy} {L : List Cy} (h : QC cs r f (c :: L)) (u : Value) : QC (((cs.setIfInBounds (4 + f) u).setIfInBounds 3 (.int .i64 ((f + 1) % 64 : Nat))).setIfInBounds 2 (.int .i64 (L.length : Nat))) r ((f + 1) % 64) L := by
  obtain ⟨sz, c0, c1, c2, c3, cd, rl, fl, ll⟩ := h
  rw [List.length_cons] at ll
  refine ⟨by simp [sz], ?_, ?_, ?_, ?_, fun i hi => ?_, rl, Nat.mod_lt _ (by decide), by omega⟩
  · rw [Array.getElem?_setIfInBounds_ne (by omega), Array.getElem?_setIfInBounds_ne (by omega), Array.getElem?_setIfInBounds_ne (by omega)]; exact c0
  · rw [Array.getElem?_setIfInBounds_ne (by omega), Array.getElem?_setIfInBounds_ne (by omega), Array.getElem?_setIfInBounds_ne (by omega)]; exact c1
  · rw [Array.getElem?_setIfInBounds_self_of_lt (by simp; omega)]
  · rw [Array.getElem?_setIfInBounds_ne (by omega), Array.getElem?_setIfInBounds_self_of_lt (by simp; omega)]
  · have e : ((f + 1) % 64 + i) % 64 = (f + (i + 1)) % 64 := by omega
    have hmi : (f + (i + 1)) % 64 < 64 := Nat.mod_lt _ (by decide)
    have hne : (f + (i + 1)) % 64 ≠ f := by omega
    have := cd (i + 1) (by rw [List.length_cons]; omega)
    rw [e]
    rw [Array.getElem?_setIfInBounds_ne (by omega), Array.getElem?_setIfInBounds_ne (by omega), Array.getElem?_setIfInBounds_ne (by omega), Array.getElem?_setIfInBounds_ne (by omega), Array.getElem?_setIfInBounds_ne (by omega), Array.getElem?_setIfInBounds_ne (by omega)]
    exact this
theorem Qs.take {W : World} {g r f : Nat} {c : Cy} {L : List Cy} (h : Qs W g r f (c :: L)) (u : Value) : Qs (((W.setCell ⟨g, 4 + f, none⟩ u).setCell ⟨g, 3, none⟩ (.int .i64 ((f + 1) % 64 : Nat))).setCell ⟨g, 2, none⟩ (.int .i64 (L.length : Nat))) g r ((f + 1) % 64) L := by
  obtain ⟨cs, h, k⟩ := h
  exact ⟨_, heap_setCell_same (heap_setCell_same (heap_setCell_same h _) _) _, k.take u⟩
theorem Qs.hd {W : World} {g r f : Nat} {c : Cy} {L : List Cy} (h : Qs W g r f (c :: L)) : W.cell? ⟨g, 4 + f, none⟩ = some (.slice c.a c.xs.length c.cap) ∧ W.cell? ⟨g, 68 + f, none⟩ = some (.int .i64 c.port) := by
  obtain ⟨cs, h, k⟩ := h
  have e : (f + 0) % 64 = f := Nat.mod_eq_of_lt k.fl
  have := k.cd 0 (by simp)
  rw [e] at this
  exact ⟨(cellA h _).trans this.1, (cellA h _).trans this.2⟩
theorem set1_at {W : World} {g r f : Nat} {L : List Cy} (h : Qs W g r f L) (k : Nat) (v : Value) : (k ≠ 3 → (W.setCell ⟨g, k, none⟩ v).cell? ⟨g, 3, none⟩ = some (.int .i64 f)) ∧ (k ≠ 2 → (W.setCell ⟨g, k, none⟩ v).cell? ⟨g, 2, none⟩ = some (.int .i64 L.length)) := by
  obtain ⟨cs, h, q⟩ := h
  exact ⟨fun hk => by rw [cellA (heap_setCell_same h v), Array.getElem?_setIfInBounds_ne hk]; exact q.c3, fun hk => by rw [cellA (heap_setCell_same h v), Array.getElem?_setIfInBounds_ne hk]; exact q.c2⟩
/- What take holds while it reads. -/
structure TkS (W : World) (g r f : Nat) (c : Cy) (L : List Cy) (w' : World) : Prop where
  q : Qs w' g r f (c :: L)
  z : ∃ cur : Array Value, w'.heap[W.heap.size]? = some (.cells cur 80 (0, 0)) ∧ cur.size = 2
  bl : Below W.heap.size W w'
theorem set3_soft {W : World} {b : Nat} {cs : Array Value} {t : TypeId} (h : W.heap[b]? = some (.cells cs t (0, 0))) (k : Nat) (v : Value) (o : Nat) : (W.setCell ⟨b, k, none⟩ v).frozen? ⟨b, o, none⟩ = false := softA (heap_setCell_same h v) o
set_option maxRecDepth 100000 in
set_option maxHeartbeats 2000000 in
theorem take_any {W : World} {g r f : Nat} {c : Cy} {L : List Cy} (h : Qs W g r f (c :: L)) : Calls Tryz.prog 129 #[.pointer (some ⟨g, 0, none⟩)] W fun e W' => e = .returned (.agg #[.int .i64 c.port, .slice c.a c.xs.length c.cap]) ∧ Qs W' g r ((f + 1) % 64) L ∧ Fr (· = g) W W' := by
  have hgl := h.lt
  have HT : Hid (∀ W1, Qs W1 g r f (c :: L) → Qs (((W1.setCell ⟨g, 4 + f, none⟩ (.slice none 0 0)).setCell ⟨g, 3, none⟩ (.int .i64 ((f + 1) % 64 : Nat))).setCell ⟨g, 2, none⟩ (.int .i64 (L.length : Nat))) g r ((f + 1) % 64) L) := fun W1 hq => hq.take _
  obtain ⟨-, -, -, -, -, -, hf, -⟩ := h.at
  have hfI : (f : Int) < 64 := by omega
  have hS0 : TkS W g r f c L (W.alloc (.cells #[.int .i64 0, .slice none 0 0] 80)).drew := ⟨h.below (below1 _ _).drew, ⟨_, heap_alloc_new W _, rfl⟩, (below1 _ _).drew⟩
  have hll : (c :: L).length = L.length + 1 := rfl
  have hl64 : L.length < 64 := by have := h.at; omega
  have e4 : IntKind.i64.wrap (((L.length + 1 : Nat) : Int) - 1) = ((L.length : Nat) : Int) := by rw [IntKind.wrap_i64]; omega
  clear h
  have HN : Hid (∀ w', TkS W g r f c L w' → TkS W g r f c L w') := fun _ h => h
  obtain ⟨port, ca, ccap, xs⟩ := c
  simp only at *
  generalize hN : xs.length = N at *
  generalize hL : L.length = n at *
  have HL := hide hL
  go_enter Tryz.func129, Tryz.ntmps129
  go_wp2
  generalize W.alloc (.cells #[.int .i64 0, .slice none 0 0] 80) = W1 at *
  refine wp_region_noPanic ?_
  refine wp_region_held_drew (S := TkS W g r f ⟨port, ca, ccap, xs⟩ L) (by kernel_rfl) hS0 (fun hHeld => ?_)
  clear hS0
  generalize W1.drew = w2 at *
  refine wpAnyH_take (i := 0) (v := ?_) rfl (by kernel_rfl) (by kernel_rfl) (by kernel_rfl) (fun _ _ _ h => h) (Or.inl ⟨by rfl, ?_⟩) hHeld ?_
  rotate_left
  · (intro w' hSw; clear hSw; go_simp; try (with_reducible rfl))
  refine wpAnyH_take (i := 1) (v := ?_) rfl (by kernel_rfl) (by kernel_rfl) (by kernel_rfl) (fun _ _ _ h => h) (Or.inl ⟨by rfl, ?_⟩) hHeld ?_
  rotate_left
  · (intro w' hSw; clear hSw; go_simp; try (with_reducible rfl))
  refine wpAnyH_take (i := 2) (v := ?_) rfl (by kernel_rfl) (by kernel_rfl) (by kernel_rfl) (fun _ _ _ h => h) (Or.inl ⟨by rfl, ?_⟩) hHeld ?_
  rotate_left
  · (intro w' hSw; clear hSw; go_simp; try (with_reducible rfl))
  refine wpAnyH_take (i := 3) (v := ?_) rfl (by kernel_rfl) (by kernel_rfl) (by kernel_rfl) (fun _ _ _ h => h) (Or.inl ⟨by rfl, ?_⟩) hHeld ?_
  rotate_left
  · (intro w' hSw; clear hSw; go_simp; try (with_reducible rfl))
  refine wpAnyH_take (i := 4) (v := ?_) rfl (by kernel_rfl) (by kernel_rfl) (by kernel_rfl) (fun _ _ _ h => h) (Or.inl ⟨by rfl, ?_⟩) hHeld ?_
  rotate_left
  · (intro w' hSw; obtain ⟨-, -, -, c3, -⟩ := hSw.q.at; clear hSw; go_simp; try (with_reducible rfl))
  refine wpAnyH_take (i := 5) (v := ?_) rfl (by kernel_rfl) (by kernel_rfl) (by kernel_rfl) (fun _ _ _ h => h) (Or.inl ⟨by rfl, ?_⟩) hHeld ?_
  rotate_left
  · (intro w' hSw; clear hSw; go_simp; try (with_reducible rfl))
  refine wpAnyH_take (i := 6) (v := ?_) rfl (by kernel_rfl) (by kernel_rfl) (by kernel_rfl) (fun _ _ _ h => h) (Or.inl ⟨by rfl, ?_⟩) hHeld ?_
  rotate_left
  · (intro w' hSw; clear hSw; go_simp; try (with_reducible rfl))
  refine wpAnyH_take (i := 7) (v := ?_) rfl (by kernel_rfl) (by kernel_rfl) (by kernel_rfl) (fun _ _ _ h => h) (Or.inl ⟨by rfl, ?_⟩) hHeld ?_
  rotate_left
  · (intro w' hSw; clear hSw; go_simp; try (with_reducible rfl))
  refine wpAnyH_take (i := 8) (v := ?_) rfl (by kernel_rfl) (by kernel_rfl) (by kernel_rfl) (fun _ _ _ h => h) (Or.inl ⟨by rfl, ?_⟩) hHeld ?_
  rotate_left
  · (intro w' hSw; obtain ⟨cd0, cd1⟩ := hSw.q.hd; simp only [hN] at cd0; clear hSw; go_simp; try (with_reducible rfl))
  refine wpAnyH_take (i := 9) (v := ?_) rfl (by kernel_rfl) (by kernel_rfl) (by kernel_rfl) (fun _ _ _ h => h) (Or.inl ⟨by rfl, ?_⟩) hHeld ?_
  rotate_left
  · (intro w' hSw; clear hSw; go_simp; try (with_reducible rfl))
  refine wpAnyH_take (i := 10) (v := ?_) rfl (by kernel_rfl) (by kernel_rfl) (by kernel_rfl) (fun _ _ _ h => h) (Or.inl ⟨by rfl, ?_⟩) hHeld ?_
  rotate_left
  · (intro w' hSw; clear hSw; go_simp; try (with_reducible rfl))
  refine wpAnyH_take (i := 11) (v := ?_) rfl (by kernel_rfl) (by kernel_rfl) (by kernel_rfl) (fun _ _ _ h => h) (Or.inl ⟨by rfl, ?_⟩) hHeld ?_
  rotate_left
  · (intro w' hSw; clear hSw; go_simp; try (with_reducible rfl))
  refine wpAnyH_take (i := 12) (v := ?_) rfl (by kernel_rfl) (by kernel_rfl) (by kernel_rfl) (fun _ _ _ h => h) (Or.inl ⟨by rfl, ?_⟩) hHeld ?_
  rotate_left
  · (intro w' hSw; clear hSw; go_simp; try (with_reducible rfl))
  refine wpAnyH_take (i := 13) (v := ?_) rfl (by kernel_rfl) (by kernel_rfl) (by kernel_rfl) (fun _ _ _ h => h) (Or.inl ⟨by rfl, ?_⟩) hHeld ?_
  rotate_left
  · (intro w' hSw; obtain ⟨-, -, -, c3, -⟩ := hSw.q.at; clear hSw; go_simp; try (with_reducible rfl))
  refine wpAnyH_take (i := 14) (v := ?_) rfl (by kernel_rfl) (by kernel_rfl) (by kernel_rfl) (fun _ _ _ h => h) (Or.inl ⟨by rfl, ?_⟩) hHeld ?_
  rotate_left
  · (intro w' hSw; clear hSw; go_simp; try (with_reducible rfl))
  refine wpAnyH_take (i := 15) (v := ?_) rfl (by kernel_rfl) (by kernel_rfl) (by kernel_rfl) (fun _ _ _ h => h) (Or.inl ⟨by rfl, ?_⟩) hHeld ?_
  rotate_left
  · (intro w' hSw; clear hSw; go_simp; try (with_reducible rfl))
  refine wpAnyH_take (i := 16) (v := ?_) rfl (by kernel_rfl) (by kernel_rfl) (by kernel_rfl) (fun _ _ _ h => h) (Or.inl ⟨by rfl, ?_⟩) hHeld ?_
  rotate_left
  · (intro w' hSw; clear hSw; go_simp; try (with_reducible rfl))
  refine wpAnyH_take (i := 17) (v := ?_) rfl (by kernel_rfl) (by kernel_rfl) (by kernel_rfl) (fun _ _ _ h => h) (Or.inl ⟨by rfl, ?_⟩) hHeld ?_
  rotate_left
  · (intro w' hSw; obtain ⟨cd0, cd1⟩ := hSw.q.hd; simp only [hN] at cd0; clear hSw; go_simp; try (with_reducible rfl))
  refine wpAnyH_take (i := 18) (v := ?_) rfl (by kernel_rfl) (by kernel_rfl) (by kernel_rfl) (fun _ _ _ h => h) (Or.inl ⟨by rfl, ?_⟩) hHeld ?_
  rotate_left
  · (intro w' hSw; clear hSw; go_simp; try (with_reducible rfl))
  refine wpAnyH_ready (rs := [19]) (by kernel_rfl) (by simp) ?_
  refine AllReadyH.cons rfl (fun K hK => ?_) AllReadyH.nil
  go_simp
  have hg2 := hHeld.q.lt
  have hz2 : W.heap.size < w2.heap.size := by obtain ⟨_, hc, _⟩ := hHeld.z; exact lt_heap hc
  replace hHeld : TkS W g r f ⟨port, ca, ccap, xs⟩ L (w2.alloc (.cells #[.int .i64 0, .slice none 0 0] 80)) := ⟨hHeld.q.below (below1 _ _), by obtain ⟨cur, hc, hs⟩ := hHeld.z; exact ⟨cur, heap_past _ hc, hs⟩, bstep hHeld.bl (below1 _ _)⟩
  refine hK.out _ _ hHeld (fun _ => ?_)
  clear hK K
  refine wpAnyH_ready (rs := [20]) (by kernel_rfl) (by simp) ?_
  refine AllReadyH.cons rfl (fun K hK => ?_) AllReadyH.nil
  have hz := heap_alloc_new w2 (.cells #[.int .i64 0, .slice none 0 0] 80)
  refine step_storeA rfl 80 _ _ rfl w2.heap.size [.int .i64 port, .slice ca N ccap] _ 80 rfl rfl szCy hz rfl (by simp [Value.oneCell']) ?_
  intro w3 hw3
  have hR : w3.heap[w2.heap.size]? = some (.cells #[.int .i64 port, .slice ca N ccap] 80 (0, 0)) := by rw [hw3]; exact got0 hz rfl
  have hF : Fr (· = w2.heap.size) (w2.alloc (.cells #[.int .i64 0, .slice none 0 0] 80)) w3 := by rw [hw3]; exact fr_all _ _ _ _
  clear hw3 hz
  replace hHeld : TkS W g r f ⟨port, ca, ccap, xs⟩ L w3 := ⟨hHeld.q.fr hF (by omega), by obtain ⟨cur, hc, hs⟩ := hHeld.z; exact ⟨cur, (hF.block _ (lt_heap hc) (by omega)).trans hc, hs⟩, hHeld.bl.trans (hF.below (fun b e => by omega) hHeld.bl.size)⟩
  clear hF
  refine hK.out _ _ hHeld (fun _ => ?_)
  clear hK K
  refine wpAnyH_done (by kernel_rfl) ?_ _
  refine NoPanic.normal ?_
  clear HN
  obtain ⟨cur, hz, hzs⟩ := hHeld.z
  obtain ⟨-, -, k2, k3, kf, -⟩ := hHeld.q.at
  rw [hll] at k2
  obtain ⟨kd, -⟩ := hHeld.q.hd
  simp only [hN] at kd
  have HBL := hide hHeld.bl
  have HP : Hid (∀ W' : World, W'.cell? ⟨g, 3, none⟩ = some (.int .i64 f) → Calls Tryz.prog 127 #[.pointer (some ⟨g, 0, none⟩), .int .i64 1] W' fun e w' => e = .returned (.int .i64 ((f + 1) % 64 : Nat)) ∧ w' = W') := fun W' hc => place_at (W := W') hc hf 1 (by decide)
  have p3 : (w3.setCell ⟨g, 4 + f, none⟩ (.slice none 0 0)).drew.cell? ⟨g, 3, none⟩ = some (.int .i64 f) := (set1_at hHeld.q (4 + f) (.slice none 0 0)).1 (by omega)
  have s1 : ∀ o, (w3.setCell ⟨g, 4 + f, none⟩ (.slice none 0 0)).drew.frozen? ⟨g, o, none⟩ = false := fun o => set_soft hHeld.q (4 + f) (.slice none 0 0) o
  have s2 : ∀ o, ((w3.setCell ⟨g, 4 + f, none⟩ (.slice none 0 0)).drew.setCell ⟨g, 3, none⟩ (.int .i64 ((f + 1) % 64 : Nat))).frozen? ⟨g, o, none⟩ = false := fun o => set2_soft hHeld.q (4 + f) 3 (.slice none 0 0) (.int .i64 ((f + 1) % 64 : Nat)) o
  have QF : Hid (Qs (((w3.setCell ⟨g, 4 + f, none⟩ (.slice none 0 0)).drew.setCell ⟨g, 3, none⟩ (.int .i64 ((f + 1) % 64 : Nat))).setCell ⟨g, 2, none⟩ (.int .i64 (n : Nat))) g r ((f + 1) % 64) L) := (HT.out _ hHeld.q).block rfl
  have HFR : Hid (Fr (· = g) W (((w3.setCell ⟨g, 4 + f, none⟩ (.slice none 0 0)).drew.setCell ⟨g, 3, none⟩ (.int .i64 ((f + 1) % 64 : Nat))).setCell ⟨g, 2, none⟩ (.int .i64 (n : Nat)))) := ((((Fr.ofBelow (E := (· = g)) hHeld.bl).set ⟨g, 4 + f, none⟩ (.slice none 0 0) rfl).drew).set ⟨g, 3, none⟩ (.int .i64 ((f + 1) % 64 : Nat)) rfl).set ⟨g, 2, none⟩ (.int .i64 (n : Nat)) rfl
  have hh : ∀ b, b ≠ g → (((w3.setCell ⟨g, 4 + f, none⟩ (.slice none 0 0)).drew.setCell ⟨g, 3, none⟩ (.int .i64 ((f + 1) % 64 : Nat))).setCell ⟨g, 2, none⟩ (.int .i64 (n : Nat))).heap[b]? = w3.heap[b]? := fun b hb => (Below.heap_setCell _ _ _ _ hb).trans ((Below.heap_setCell _ _ _ _ hb).trans (Below.heap_setCell w3 ⟨g, 4 + f, none⟩ (.slice none 0 0) b hb))
  have hR3 : (((w3.setCell ⟨g, 4 + f, none⟩ (.slice none 0 0)).drew.setCell ⟨g, 3, none⟩ (.int .i64 ((f + 1) % 64 : Nat))).setCell ⟨g, 2, none⟩ (.int .i64 (n : Nat))).heap[w2.heap.size]? = some (.cells #[.int .i64 port, .slice ca N ccap] 80 (0, 0)) := (hh _ (by omega)).trans hR
  have hZ3 : (((w3.setCell ⟨g, 4 + f, none⟩ (.slice none 0 0)).drew.setCell ⟨g, 3, none⟩ (.int .i64 ((f + 1) % 64 : Nat))).setCell ⟨g, 2, none⟩ (.int .i64 (n : Nat))).heap[W.heap.size]? = some (.cells cur 80 (0, 0)) := (hh _ (by omega)).trans hz
  have HR3 := hide hR3
  have HZ3 := hide hZ3
  have HZS := hide hzs
  have HNN := hide hN
  clear hHeld hz hzs hR hR3 hZ3 HT hll hN hh
  generalize hm' : (f + 1) % 64 = m at *
  go_wp2
  go_region
  all_goals skip
  go_wp2_with fail
  refine (HP.out _ p3).mono ?_
  rintro e w4 ⟨rfl, rfl⟩
  go_wp2_with (first
    | (refine wpList_loadA rfl 80 _ rfl w2.heap.size [.int .i64 port, .slice ca N ccap] 80 rfl aggCy szCy HR3.out ?_)
    | (refine wpList_storeA rfl 80 _ _ rfl W.heap.size [.int .i64 port, .slice ca N ccap] _ 80 rfl rfl szCy HZ3.out HZS.out (by simp [Value.oneCell']) ?_; intro w5 hw5; have HW5 := hide hw5; clear hw5))
  have R5 : w5.heap[W.heap.size]? = some (.cells #[.int .i64 port, .slice ca N ccap] 80 (0, 0)) := by rw [HW5.out]; exact got0 HZ3.out HZS.out
  have F5 : Fr (· = W.heap.size) (((w3.setCell ⟨g, 4 + f, none⟩ (.slice none 0 0)).setCell ⟨g, 3, none⟩ (.int .i64 m)).setCell ⟨g, 2, none⟩ (.int .i64 n)).drew w5 := by rw [HW5.out]; exact fr_all _ _ _ _
  refine bodyPost_ret (res_cell (cs := [.int .i64 port, .slice ca N ccap]) Tryz.results129 rfl aggCy szCy R5) rfl ⟨rfl, ?_, ?_⟩
  · rw [hm']
    exact (Qs.block (W' := (((w3.setCell ⟨g, 4 + f, none⟩ (.slice none 0 0)).setCell ⟨g, 3, none⟩ (.int .i64 m)).setCell ⟨g, 2, none⟩ (.int .i64 n)).drew) QF.out rfl).fr F5 (by omega)
  · have FR : Fr (· = g) W (((w3.setCell ⟨g, 4 + f, none⟩ (.slice none 0 0)).setCell ⟨g, 3, none⟩ (.int .i64 m)).setCell ⟨g, 2, none⟩ (.int .i64 n)).drew := ⟨HFR.out.os, HFR.out.tape, HFR.out.output, HFR.out.size, HFR.out.block⟩
    exact FR.trans F5 (fun b hb e => by omega)
end Go.Proofs.YtclhmggnkhnnlaaGreatDoor
