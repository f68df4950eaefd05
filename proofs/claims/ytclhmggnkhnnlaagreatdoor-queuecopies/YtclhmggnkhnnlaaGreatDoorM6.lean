/- Pieces of the proof: QuB. -/
import Derived.Test.YtclhmggnkhnnlaaGreatDoorM5
/- package queue: Put. -/
namespace Go.Proofs.YtclhmggnkhnnlaaGreatDoor
open Go.RowKit

theorem clone_any (a : Option Addr) (cap : Nat) (xs : List Nat) (w : World) (hl : xs.length ≤ 140737488355328) (hr : RdA w a xs) (hn : a = none → cap = 0) :
    Calls Tryz.prog 128 #[.slice a xs.length cap] w fun e w' => ∃ a' c', e = .returned (.slice a' xs.length c') ∧ Own8 w' w.heap.size (.slice a' xs.length c') xs ∧ Below w.heap.size w w' := by
  cases a with
  | none =>
    obtain rfl : xs = [] := by
      rcases hr with h | ⟨p, off, e, _⟩
      · exact h
      · cases e
    obtain rfl := hn rfl
    have hnil : ∀ W, (binOp .eql 24 (.slice none 0 0) (.slice none 0 0)).run Tryz.prog W = .ok (.bool true) W := fun W => Lib.run_eql_slice_nil W 24 5 _ _ _ _ _ Tryz.underlying24
    rw [List.length_nil]
    go_enter Tryz.func128, Tryz.ntmps128
    go_wp2
    go_ret
    exact ⟨none, 0, rfl, Own8.nil _ _, Below.refl _ _⟩
  | some q =>
    have HR := hide (RdA.below hr ((Below.refl _ w).alloc (Nat.le_refl _) (.cells #[] 5)))
    have hnil : ∀ W, (binOp .eql 24 (.slice (some q) xs.length cap) (.slice none 0 0)).run Tryz.prog W = .ok (.bool false) W := fun W => Lib.run_eql_slice_nil W 24 5 _ _ _ _ _ Tryz.underlying24
    have HO : Hid (Own8 (w.alloc (.cells #[] 5)) w.heap.size (.slice (some ⟨w.heap.size, 0, none⟩) 0 0) []) := World.ownsRow_made w #[] 0 (Nat.le_refl _) (by decide) rfl
    clear hr hn
    go_enter Tryz.func128, Tryz.ntmps128
    go_wp2_with (first
      | (at_builtin; refine wpList_app8 rfl _ _ rfl w.heap.size _ [] rfl HO.out (some q) xs.length cap xs rfl rfl HR.out (by simp) (by simp; omega) (by simp) ?_; intro v7 w7 O7 G7 K7; have OO7 := hide O7; have B7 := hide (below_own ((Below.refl _ w).alloc (Nat.le_refl _) _) HO.out G7 (by simp)); clear O7 G7 K7))
    go_ret
    obtain ⟨a', c', rfl, _⟩ := OO7.out.shape
    exact ⟨a', c', rfl, OO7.out, B7.out⟩
/- Storing at the place behind all that wait. -/
theorem QC.put {cs : Array Value} {r f : Nat} {L : List Cy} (h : QC cs r f L) (c : Cy) (hn : L.length < r) : QC (((cs.setIfInBounds (4 + (f + L.length) % 64) c.v).setIfInBounds (68 + (f + L.length) % 64) (.int .i64 c.port)).setIfInBounds 2 (.int .i64 ((L ++ [c]).length : Nat))) r f (L ++ [c]) := by
  obtain ⟨sz, c0, c1, c2, c3, cd, rl, fl, ll⟩ := h
  have hm : (f + L.length) % 64 < 64 := Nat.mod_lt _ (by decide)
  have hs2 : (2 : Nat) < cs.size := by omega
  have hll : (L ++ [c]).length = L.length + 1 := by simp
  refine ⟨by simp [sz], ?_, ?_, by simp [hs2], ?_, fun i hi => ?_, rl, fl, by omega⟩
  · rw [Array.getElem?_setIfInBounds_ne (by omega), Array.getElem?_setIfInBounds_ne (by omega), Array.getElem?_setIfInBounds_ne (by omega)]; exact c0
  · rw [Array.getElem?_setIfInBounds_ne (by omega), Array.getElem?_setIfInBounds_ne (by omega), Array.getElem?_setIfInBounds_ne (by omega)]; exact c1
  · rw [Array.getElem?_setIfInBounds_ne (by omega), Array.getElem?_setIfInBounds_ne (by omega), Array.getElem?_setIfInBounds_ne (by omega)]; exact c3
  · have hi2 : i ≤ L.length := by simp at hi; omega
    have hmi : (f + i) % 64 < 64 := Nat.mod_lt _ (by decide)
    by_cases e : i = L.length
    · subst e
      have el : (L ++ [c])[L.length] = c := by simp
      rw [el]
      refine ⟨?_, ?_⟩
      · rw [Array.getElem?_setIfInBounds_ne (by omega), Array.getElem?_setIfInBounds_ne (by omega), Array.getElem?_setIfInBounds_self_of_lt (by omega)]
      · rw [Array.getElem?_setIfInBounds_ne (by omega), Array.getElem?_setIfInBounds_self_of_lt (by simp; omega)]
    · have hlt : i < L.length := by omega
      have hd : (f + i) % 64 ≠ (f + L.length) % 64 := by omega
      rw [Array.getElem?_setIfInBounds_ne (by omega), Array.getElem?_setIfInBounds_ne (by omega), Array.getElem?_setIfInBounds_ne (by omega), Array.getElem?_setIfInBounds_ne (by omega), Array.getElem?_setIfInBounds_ne (by omega), Array.getElem?_setIfInBounds_ne (by omega)]
      rw [List.getElem_append_left hlt]
      exact cd i hlt
theorem Qs.put {W : World} {g r f : Nat} {L : List Cy} (h : Qs W g r f L) (c : Cy) (hn : L.length < r) : Qs (((W.setCell ⟨g, 4 + (f + L.length) % 64, none⟩ c.v).setCell ⟨g, 68 + (f + L.length) % 64, none⟩ (.int .i64 c.port)).setCell ⟨g, 2, none⟩ (.int .i64 ((L ++ [c]).length : Nat))) g r f (L ++ [c]) := by
  obtain ⟨cs, h, k⟩ := h
  exact ⟨_, heap_setCell_same (heap_setCell_same (heap_setCell_same h _) _) _, k.put c hn⟩
theorem set_some {W : World} {g r f : Nat} {L : List Cy} (h : Qs W g r f L) (k : Nat) (v : Value) {o : Nat} (ho : o < 132) : ((W.setCell ⟨g, k, none⟩ v).cell? ⟨g, o, none⟩).isSome = true := by
  obtain ⟨cs, h, q⟩ := h
  rw [cellA (heap_setCell_same h v)]
  simp [q.sz, ho]
theorem set_soft {W : World} {g r f : Nat} {L : List Cy} (h : Qs W g r f L) (k : Nat) (v : Value) (o : Nat) : (W.setCell ⟨g, k, none⟩ v).frozen? ⟨g, o, none⟩ = false := by
  obtain ⟨cs, h, q⟩ := h
  exact softA (heap_setCell_same h v) o
theorem set2_at {W : World} {g r f : Nat} {L : List Cy} (h : Qs W g r f L) (k j : Nat) (v u : Value) (hk : k ≠ 2) (hj : j ≠ 2) : ((W.setCell ⟨g, k, none⟩ v).setCell ⟨g, j, none⟩ u).cell? ⟨g, 2, none⟩ = some (.int .i64 L.length) := by
  obtain ⟨cs, h, q⟩ := h
  rw [cellA (heap_setCell_same (heap_setCell_same h v) u), Array.getElem?_setIfInBounds_ne hj, Array.getElem?_setIfInBounds_ne hk]
  exact q.c2
theorem set2_soft {W : World} {g r f : Nat} {L : List Cy} (h : Qs W g r f L) (k j : Nat) (v u : Value) (o : Nat) : ((W.setCell ⟨g, k, none⟩ v).setCell ⟨g, j, none⟩ u).frozen? ⟨g, o, none⟩ = false := by
  obtain ⟨cs, h, q⟩ := h
  exact softA (heap_setCell_same (heap_setCell_same h v) u) o
theorem Own8.fr {E : Nat → Prop} {W W' : World} {B : Nat} {v : Value} {xs : List Nat} (h : Own8 W B v xs) (hf : Fr E W W') (hn : ∀ b, v.ownBlock = some b → ¬ E b) : Own8 W' B v xs := by
  refine ⟨h.1, ?_⟩
  rcases h.2 with h0 | ⟨gr, cap, cur, rfl, hg, hcur, rest⟩
  · exact .inl h0
  · exact .inr ⟨gr, cap, cur, rfl, hg, (hf.block _ (Array.getElem?_eq_some_iff.1 hcur).1 (hn gr rfl)).trans hcur, rest⟩
theorem Own8.lower {W : World} {B B' : Nat} {v : Value} {xs : List Nat} (h : Own8 W B v xs) (hb : B' ≤ B) : Own8 W B' v xs := by
  refine ⟨h.1, ?_⟩
  rcases h.2 with h0 | ⟨gr, cap, cur, rfl, hg, rest⟩
  · exact .inl h0
  · exact .inr ⟨gr, cap, cur, rfl, Nat.le_trans hb hg, rest⟩
theorem own8_set3 {W : World} {B g : Nat} {v : Value} {xs : List Nat} (h : Own8 W B v xs) (hn : v.ownBlock ≠ some g) (i j k : Nat) (x y z : Value) : Own8 (((W.setCell ⟨g, i, none⟩ x).setCell ⟨g, j, none⟩ y).setCell ⟨g, k, none⟩ z) B v xs :=
  h.fr (E := (· = g)) ((((Fr.refl (· = g) W).set ⟨g, i, none⟩ x rfl).set ⟨g, j, none⟩ y rfl).set ⟨g, k, none⟩ z rfl) (fun b hb e => hn (by rw [hb, e]))
theorem put_full {W : World} {g r f : Nat} {L : List Cy} (h : Qs W g r f L) (hn : L.length = r) (port : Int) (a : Option Addr) (n cap : Nat) : Calls Tryz.prog 19 #[.pointer (some ⟨g, 0, none⟩), .agg #[.int .i64 port, .slice a n cap]] W fun e W' => e = .returned (.int .i64 10) ∧ Below W.heap.size W W' := by
  have HI : Hid (∀ W', Below W.heap.size W W' → _) := fun W' hb => isThere_yes (h.below hb)
  obtain ⟨-, c1, c2, -⟩ := (h.below (below1 W (.cells #[.int .i64 port, .slice a n cap] 80))).at
  rw [hn] at c2
  clear h hn
  go_enter Tryz.func19, Tryz.ntmps19
  go_wp2_with fail
  refine (HI.out _ (below1 _ _)).mono ?_
  rintro e w1 ⟨rfl, rfl⟩
  go_wp2
  go_region
  all_goals
    go_wp2
    go_ret
    exact ⟨rfl, (below1 _ _).drew⟩
theorem put_no (W : World) (port : Int) (a : Option Addr) (n cap : Nat) : Calls Tryz.prog 19 #[.pointer none, .agg #[.int .i64 port, .slice a n cap]] W fun e W' => e = .returned (.int .i64 2) ∧ Below W.heap.size W W' := by
  have HI : Hid (∀ W', _) := fun W' => isThere_no W'
  go_enter Tryz.func19, Tryz.ntmps19
  go_wp2_with fail
  refine (HI.out _).mono ?_
  rintro e w1 ⟨rfl, rfl⟩
  go_wp2
  go_ret
  exact ⟨rfl, below1 _ _⟩
set_option maxRecDepth 100000 in
set_option maxHeartbeats 2000000 in
theorem put_yes {W : World} {g r f : Nat} {L : List Cy} (h : Qs W g r f L) (hn : L.length < r) (port : Int) (a : Option Addr) (cap : Nat) (xs : List Nat) (hl : xs.length ≤ 140737488355328) (hr : RdA W a xs) (hnn : a = none → cap = 0) : Calls Tryz.prog 19 #[.pointer (some ⟨g, 0, none⟩), .agg #[.int .i64 port, .slice a xs.length cap]] W fun e W' => e = .returned (.int .i64 0) ∧ ∃ a' c', Qs W' g r f (L ++ [⟨port, a', c', xs⟩]) ∧ Own8 W' W.heap.size (.slice a' xs.length c') xs ∧ Fr (· = g) W W' := by
  have HI : Hid (∀ W', Below W.heap.size W W' → _) := fun W' hb => isThere_yes (h.below hb)
  have HP : Hid (∀ W', Below W.heap.size W W' → _) := fun W' hb => place_any (h.below hb) L.length (by have := h.at; omega)
  have HC : Hid (∀ W', Below W.heap.size W W' → _) := fun W' hb => clone_any a cap xs W' hl (hr.below hb) hnn
  have HQ := hide h
  obtain ⟨-, c1, c2, -⟩ := (h.below (below1 W (.cells #[.int .i64 port, .slice a xs.length cap] 80))).at
  have hgl := h.lt
  obtain ⟨-, -, -, -, -, hr64, hf64, -⟩ := h.at
  clear h hr hnn
  have HPUT : Hid (∀ W' : World, ∀ a' c', Qs W' g r f L → Qs (((W'.setCell ⟨g, 4 + (f + L.length) % 64, none⟩ (.slice a' xs.length c')).setCell ⟨g, 68 + (f + L.length) % 64, none⟩ (.int .i64 port)).setCell ⟨g, 2, none⟩ (.int .i64 ((L.length : Nat) + 1))) g r f (L ++ [⟨port, a', c', xs⟩])) := fun W' a' c' hq => by
    have := hq.put ⟨port, a', c', xs⟩ hn
    simpa [Cy.v] using this
  have e1 : decide (((L.length : Nat) : Int) = ((r : Nat) : Int)) = false := by simp; omega
  have e1' : (((L.length : Nat) : Int) == ((r : Nat) : Int)) = false := by simp; omega
  have e1'' : (((L.length : Nat) : Int) = ((r : Nat) : Int)) = False := by simp; omega
  have e2 : IntKind.i64.wrap (((L.length : Nat) : Int) + 1) = ((L.length : Nat) : Int) + 1 := by rw [IntKind.wrap_i64]; omega
  have hm : (f + L.length) % 64 < 64 := Nat.mod_lt _ (by decide)
  generalize (f + L.length) % 64 = at' at *
  generalize hnl : L.length = n at *
  have HNL := hide hnl
  clear hnl
  generalize hN : xs.length = N at *
  go_enter Tryz.func19, Tryz.ntmps19
  go_wp2_with fail
  refine (HI.out _ (below1 _ _)).mono ?_
  rintro e w1 ⟨rfl, rfl⟩
  go_wp2
  go_region
  all_goals skip
  go_wp2_with fail
  refine (HP.out _ (below1 _ _).drew).mono ?_
  rintro e w2 ⟨rfl, rfl⟩
  go_wp2
  generalize hW1 : W.alloc (.cells #[.int .i64 port, .slice a N cap] 80) = W1 at *
  have hk : W1.heap[W.heap.size]? = some (.cells #[.int .i64 port, .slice a N cap] 80 (0, 0)) := by rw [← hW1]; exact heap_alloc_new W _
  have hB1 : Below W.heap.size W W1 := by rw [← hW1]; exact below1 _ _
  have HB1 := hide hB1
  have hS0 : W1.drew.drew.heap[W.heap.size]? = some (.cells #[.int .i64 port, .slice a N cap] 80 (0, 0)) := hk
  have HBd := hide hB1.drew.drew
  have hmI : (at' : Int) < 64 := by omega
  clear hW1 hk hB1 HI HP c1 c2
  refine wp_region_noPanic ?_
  refine wp_region_held_drew (S := fun w' => w'.heap[W.heap.size]? = some (.cells #[.int .i64 port, .slice a N cap] 80 (0, 0))) (by kernel_rfl) hS0 (fun hHeld => ?_)
  clear hS0
  generalize W1.drew.drew = w2 at *
  refine wpAnyH_take (i := 0) (v := ?_) rfl (by kernel_rfl) (by kernel_rfl) (by kernel_rfl) (fun _ _ _ h => h) (Or.inl ⟨by rfl, ?_⟩) hHeld ?_
  rotate_left
  · (intro w' hSw; clear hSw; go_simp; try (with_reducible rfl))
  refine wpAnyH_take (i := 1) (v := ?_) rfl (by kernel_rfl) (by kernel_rfl) (by kernel_rfl) (fun _ _ _ h => h) (Or.inl ⟨by rfl, ?_⟩) hHeld ?_
  rotate_left
  · (intro w' hSw; clear hSw; go_simp; try (with_reducible rfl))
  refine wpAnyH_take (i := 2) (v := ?_) rfl (by kernel_rfl) (by kernel_rfl) (by kernel_rfl) (fun _ _ _ h => h) (Or.inl ⟨by rfl, ?_⟩) hHeld ?_
  rotate_left
  · (intro w' hSw; clear hSw; go_simp; try (with_reducible rfl))
  refine wpAnyH_take (i := 3) (v := ?_) rfl (by kernel_rfl) (by kernel_rfl) (by kernel_rfl) (fun _ _ _ h => h) (Or.inl ⟨by rfl, ?_⟩) hHeld ?_
  rotate_left
  · (intro w' hSw; clear hSw; go_simp; try (with_reducible rfl))
  refine wpAnyH_take (i := 4) (v := ?_) rfl (by kernel_rfl) (by kernel_rfl) (by kernel_rfl) (fun _ _ _ h => h) (Or.inl ⟨by rfl, ?_⟩) hHeld ?_
  rotate_left
  · (intro w' hSw; clear hSw; go_simp; try (with_reducible rfl))
  refine wpAnyH_take (i := 5) (v := ?_) rfl (by kernel_rfl) (by kernel_rfl) (by kernel_rfl) (fun _ _ _ h => h) (Or.inl ⟨by rfl, ?_⟩) hHeld ?_
  rotate_left
  · (intro w' hSw; have hc0 := (cellA hSw 0); have hc1 := (cellA hSw 1); simp at hc0 hc1; clear hSw; go_simp; try (with_reducible rfl))
  refine wpAnyH_take (i := 7) (v := ?_) rfl (by kernel_rfl) (by kernel_rfl) (by kernel_rfl) (fun _ _ _ h => h) (Or.inl ⟨by rfl, ?_⟩) hHeld ?_
  rotate_left
  · (intro w' hSw; clear hSw; go_simp; try (with_reducible rfl))
  refine wpAnyH_take (i := 8) (v := ?_) rfl (by kernel_rfl) (by kernel_rfl) (by kernel_rfl) (fun _ _ _ h => h) (Or.inl ⟨by rfl, ?_⟩) hHeld ?_
  rotate_left
  · (intro w' hSw; have hc0 := (cellA hSw 0); have hc1 := (cellA hSw 1); simp at hc0 hc1; clear hSw; go_simp; try (with_reducible rfl))
  refine wpAnyH_take (i := 9) (v := ?_) rfl (by kernel_rfl) (by kernel_rfl) (by kernel_rfl) (fun _ _ _ h => h) (Or.inl ⟨by rfl, ?_⟩) hHeld ?_
  rotate_left
  · (intro w' hSw; clear hSw; go_simp; try (with_reducible rfl))
  refine wpAnyH_take (i := 10) (v := ?_) rfl (by kernel_rfl) (by kernel_rfl) (by kernel_rfl) (fun _ _ _ h => h) (Or.inl ⟨by rfl, ?_⟩) hHeld ?_
  rotate_left
  · (intro w' hSw; clear hSw; go_simp; try (with_reducible rfl))
  refine wpAnyH_take (i := 13) (v := ?_) rfl (by kernel_rfl) (by kernel_rfl) (by kernel_rfl) (fun _ _ _ h => h) (Or.inl ⟨by rfl, ?_⟩) hHeld ?_
  rotate_left
  · (intro w' hSw; clear hSw; go_simp; try (with_reducible rfl))
  refine wpAnyH_take (i := 14) (v := ?_) rfl (by kernel_rfl) (by kernel_rfl) (by kernel_rfl) (fun _ _ _ h => h) (Or.inl ⟨by rfl, ?_⟩) hHeld ?_
  rotate_left
  · (intro w' hSw; clear hSw; go_simp; try (with_reducible rfl))
  refine wpAnyH_ready (rs := [6]) (by kernel_rfl) (by simp) ?_
  refine AllReadyH.cons rfl (fun K hK => ?_) AllReadyH.nil
  go_simp
  refine (HC.out _ HBd.out).mono ?_
  rintro e w3 ⟨a', c', rfl, ho, hb⟩
  have OO := hide ho
  have B3 := hide hb
  replace hHeld := heap_below hb hHeld
  clear ho hb
  refine hK.out _ _ hHeld (fun _ => ?_)
  clear hK K
  refine wpAnyH_take (i := 11) (v := ?_) rfl (by kernel_rfl) (by kernel_rfl) (by kernel_rfl) (fun _ _ _ h => h) (Or.inl ⟨by rfl, ?_⟩) hHeld ?_
  rotate_left
  · (intro w' hSw; clear hSw; go_simp; try (with_reducible rfl))
  refine wpAnyH_ready (rs := [12]) (by kernel_rfl) (by simp) ?_
  refine AllReadyH.cons rfl (fun K hK => ?_) AllReadyH.nil
  have Q3 := hide ((HQ.out.below HBd.out).below B3.out)
  refine step_store1 rfl 24 _ _ rfl g (4 + at') (.slice a' N c') rfl rfl rfl (fun w => by first | rfl | kernel_rfl) (Q3.out.isS _ (by omega)) (Q3.out.at.2.2.2.2.1 _) rfl ?_
  replace hHeld := (Below.heap_setCell w3 ⟨g, 4 + at', none⟩ (.slice a' N c') W.heap.size (by show W.heap.size ≠ g; omega)).trans hHeld
  refine hK.out _ _ hHeld (fun _ => ?_)
  clear hK K
  refine wpAnyH_take (i := 15) (v := ?_) rfl (by kernel_rfl) (by kernel_rfl) (by kernel_rfl) (fun _ _ _ h => h) (Or.inl ⟨by rfl, ?_⟩) hHeld ?_
  rotate_left
  · (intro w' hSw; clear hSw; go_simp; try (with_reducible rfl))
  refine wpAnyH_ready (rs := [16]) (by kernel_rfl) (by simp) ?_
  refine AllReadyH.cons rfl (fun K hK => ?_) AllReadyH.nil
  have S1 := (Q3.out.isS (68 + at') (by omega))
  refine step_store1 rfl 3 _ _ rfl g (68 + at') (.int .i64 port) rfl rfl rfl (fun w => by first | rfl | kernel_rfl) ?_ ?_ rfl ?_
  · exact set_some Q3.out _ _ (by omega)
  · exact set_soft Q3.out _ _ _
  replace hHeld := (Below.heap_setCell (w3.setCell ⟨g, 4 + at', none⟩ (.slice a' N c')) ⟨g, 68 + at', none⟩ (.int .i64 port) W.heap.size (by show W.heap.size ≠ g; omega)).trans hHeld
  refine hK.out _ _ hHeld (fun _ => ?_)
  clear hK K S1
  refine wpAnyH_done (by kernel_rfl) ?_ _
  refine NoPanic.normal ?_
  clear hHeld
  have QP := HPUT.out w3 a' c' Q3.out
  have F3 : Fr (· = g) W w3 := (Fr.ofBelow (HBd.out.trans (B3.out.mono HBd.out.size)))
  have FP := ((F3.set ⟨g, 4 + at', none⟩ (.slice a' N c') rfl).set ⟨g, 68 + at', none⟩ (.int .i64 port) rfl).set ⟨g, 2, none⟩ (.int .i64 ((n : Nat) + 1)) rfl
  have QQ := hide QP
  have FF := hide FP
  have p2 := set2_at Q3.out (4 + at') (68 + at') (.slice a' N c') (.int .i64 port) (by omega) (by omega)
  rw [HNL.out] at p2
  have fr2 := fun o => set2_soft Q3.out (4 + at') (68 + at') (.slice a' N c') (.int .i64 port) o
  clear QP FP F3
  go_wp2
  go_ret
  refine ⟨rfl, a', c', by rw [hN] at *; exact QQ.out, ?_, FF.out⟩
  have hw2 := HBd.out.size
  refine own8_set3 (OO.out.lower (by omega)) ?_ _ _ _ _ _ _
  intro e
  have := World.ownsRow.lt OO.out g e
  omega
end Go.Proofs.YtclhmggnkhnnlaaGreatDoor
