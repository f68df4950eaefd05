/- Take. -/
import Derived.Test.YtlddnpgcoekaaaaGreatDoorKRo
namespace Go.Proofs.YtlddnpgcoekaaaaGreatDoor
open Go.RowKit Go.Shelf

attribute [local go_sem] Oper.semAt_some

theorem next_any (g k : Nat) (w : World) : Calls Tryz.prog 21 #[.pointer (some ⟨g, 0, none⟩), .int .i64 k] w fun e w' =>
    e = .returned (.func (.func 117) #[] #[.pointer (some ⟨w.heap.size, 0, none⟩), .pointer (some ⟨w.heap.size + 1, 0, none⟩)]) ∧ w' = (w.alloc (.cells #[.pointer (some ⟨g, 0, none⟩)] 25)).alloc (.cells #[.int .i64 k] 3) := by
  go_enter Tryz.func21, Tryz.ntmps21
  go_wp2
  go_ret
  exact ⟨rfl, rfl⟩

set_option maxRecDepth 100000 in
set_option maxHeartbeats 4000000 in
theorem take_yes {w : World} {g : Nat} {a : Option Addr} {cap : Nat} {xs : List Nat} {t n : Nat} (h : Cur w g a cap xs t) (hx : ∀ y ∈ xs, y < 256) (hxl : xs.length ≤ 100000) (n1 : 1 ≤ n) (n2 : n ≤ 128) (htn : t + n ≤ 8 * xs.length) :
    Calls Tryz.prog 8 #[.pointer (some ⟨g, 0, none⟩), .int .i64 n] w fun e w' =>
      e = .returned (.tuple #[.agg #[.int .i64 n, .int .u64 (wHi (bval xs t n)), .int .u64 (wLo (bval xs t n))], .int .i64 0]) ∧ Moved g w w' ∧ Cur w' g a cap xs (t + n) := by
  obtain ⟨p, off, rfl, hp, hr⟩ : ∃ p off, a = some ⟨p, off, none⟩ ∧ p < w.heap.size ∧ ∀ i (h : i < xs.length), w.cell? ⟨p, off + i, none⟩ = some (.int .u8 (xs[i] : Nat)) := by
    rcases h.rd with ⟨_, rfl⟩ | h
    · simp at htn; omega
    · exact h
  have HC := hide h
  have HR := hide hr
  have hpg : p ≠ g := h.ne _ rfl
  have hgl : g < w.heap.size := h.lt
  clear h hr
  refine (callsIn_wide (n := 6)).1 ?_
  refine callsIn_of_wp_marks Tryz.func8 rfl trivial ?_ rfl
  simp only [Tryz.ntmps8, List.size_toArray, List.length_cons, List.length_nil, Nat.reduceAdd, Nat.reduceSub, Array.replicate_succ, Array.replicate_zero, List.push_toArray, List.append_toArray, List.nil_append, List.cons_append]
  gi_wp2_with fail
  refine ⟨trivial, ?_⟩
  have K0 := hide (HC.out.keep (((Below.refl _ w).alloc (Nat.le_refl _) (.cells #[.int .i64 0, .int .u64 0, .int .u64 0] 71))))
  refine (callsIn_wide.2 (isThere_any K0.out)).mono ?_
  rintro e w1 ⟨rfl, hb1⟩
  have K1 := hide (K0.out.keep hb1)
  have B1 := hide hb1
  clear hb1
  gi_wp2_with fail
  refine ⟨trivial, ?_⟩
  refine (callsIn_wide.2 (left_any K1.out hxl (by omega))).mono ?_
  rintro e w2 ⟨rfl, hb2⟩
  have K2 := hide (K1.out.keep hb2)
  have B2 := hide (((Below.refl _ w).alloc (Nat.le_refl _) (.cells #[.int .i64 0, .int .u64 0, .int .u64 0] 71)).trans ((B1.out.trans (hb2.mono B1.out.size)).mono (by simp)))
  have hz2 : w.heap.size < w2.heap.size := by have h1 := B1.out.size; have h2 := hb2.size; simp at h1; omega
  have B2s : Hid (Below (w.heap.size + 1) (w.alloc (.cells #[.int .i64 0, .int .u64 0, .int .u64 0] 71)) w2) := (B1.out.trans (hb2.mono B1.out.size)).mono (by simp)
  clear hb2
  have hlf : (n : Int) ≤ ((8 * xs.length - t : Nat) : Int) := by omega
  gi_wp2_with fail
  refine ⟨trivial, ?_⟩
  refine (callsIn_wide.2 (next_any g n _)).mono ?_
  rintro e w3 ⟨rfl, hw3⟩
  simp only [World.size_alloc] at hw3 ⊢
  have B23 : Below w2.heap.size w2 w3 := by rw [hw3]; exact ((((Below.refl _ w2).alloc (Nat.le_refl _) _).alloc (by simp) _).alloc (by simp; omega) _).alloc (by simp; omega) _
  have hz3 : w3.heap.size = w2.heap.size + 1 + 1 + 1 + 1 := by rw [hw3]; simp
  have cH : LC w3 w2.heap.size (.int .u64 0) := by rw [hw3]; exact (((LC.new w2 _ _).alloc _).alloc _).alloc _
  have cL : LC w3 (w2.heap.size + 1) (.int .u64 0) := by rw [hw3]; have h1 := LC.new (w2.alloc (.cells #[.int .u64 0] 69)) (.int .u64 0) 69; rw [World.size_alloc] at h1; exact (h1.alloc _).alloc _
  have cC : LC w3 (w2.heap.size + 1 + 1) (.pointer (some ⟨g, 0, none⟩)) := by
    have h1 := LC.new ((w2.alloc (.cells #[.int .u64 0] 69)).alloc (.cells #[.int .u64 0] 69)) (.pointer (some ⟨g, 0, none⟩)) 25
    simp only [World.size_alloc] at h1
    rw [hw3]; exact h1.alloc _
  have cW : LC w3 (w2.heap.size + 1 + 1 + 1) (.int .i64 n) := by
    have h1 := LC.new (((w2.alloc (.cells #[.int .u64 0] 69)).alloc (.cells #[.int .u64 0] 69)).alloc (.cells #[.pointer (some ⟨g, 0, none⟩)] 25)) (.int .i64 n) 3
    simp only [World.size_alloc] at h1
    rw [hw3]; exact h1
  have K3 := hide (K2.out.keep B23)
  have hgl2 : g < w2.heap.size := by omega
  have hpl2 : p < w2.heap.size := by omega
  have HR3 : Hid (∀ i (h : i < xs.length), w3.cell? ⟨p, off + i, none⟩ = some (.int .u8 (xs[i] : Nat))) := fun i hi => by
    rw [B23.cell (p := ⟨p, off + i, none⟩) hpl2, B2.out.cell (p := ⟨p, off + i, none⟩) hp]; exact HR.out i hi
  have BW3 := hide (B2.out.trans (B23.mono (by omega)))
  clear hw3
  gi_wp2
  refine' wpIn_rangeFunc_ownF rfl (by omega) (gf := 117) (lb := #[.pointer (some ⟨w2.heap.size + 1 + 1, 0, none⟩), .pointer (some ⟨w2.heap.size + 1 + 1 + 1, 0, none⟩)]) rfl trivial (enters_of Tryz.func117 (by kernel_rfl) rfl)
    (next_stops _ (by omega) (w2.heap.size + 1 + 1) (w2.heap.size + 1 + 1 + 1) w3.heap.size g cap t n p off xs (fun b => b = w2.heap.size ∨ b = w2.heap.size + 1) w3 hx hxl htn cC.1 cW.1 K3.out.c0 K3.out.c1 HR3.out (Nat.le_refl _) (by omega) (by omega) (by omega) (by omega) (by omega) (by omega) (by omega) (by omega))
    KeepBut.t (KeepBut.b (Nat.le_refl _)) (Below.refl _ _) (fun _ => rfl)
    (fun pre W => (LC W w2.heap.size (.int .u64 (wHi (valB pre))) ∧ LC W (w2.heap.size + 1) (.int .u64 (wLo (valB pre)))) ∧ Below w2.heap.size w2 W)
    (fun _ _ _ => False)
    (OwnFrom.and (Own.from (fun s A B row hs hg hr => ⟨hs.1.kept hg hr, hs.2.kept hg hr⟩) _) (ownFrom_below (Nat.le_refl _) (by omega)))
    (fun _ _ _ _ _ hs _ _ => hs)
    ⟨⟨cH, cL⟩, B23⟩ _ ?assign ?body ?done ?stop
  case assign =>
    intro l x W K hK
    dsimp only [enc1]
    gi_wp2
    exact hK
  case stop =>
    rintro D c pre W _ _ h _
    exact h.elim
  case body =>
    rintro l pre ⟨x, hx01⟩ W ⟨⟨lH, lL⟩, hB⟩ hlen
    have hvb : 2 * valB pre + 1 < top := by
      have h1 := valB_lt pre
      have h2 : 2 ^ pre.length * 2 ≤ 2 ^ 128 := by rw [← Nat.pow_succ]; exact Nat.pow_le_pow_right (by decide) (by omega)
      rw [top_eq]; omega
    have EH := hide (step_hi hx01 hvb)
    have EL := hide (step_lo hx01 hvb)
    have EV := hide (valB_snoc pre ⟨x, hx01⟩)
    have hxw : IntKind.u64.wrap x = x := by rw [IntKind.wrap_u64]; omega
    have hx8 : x % 18446744073709551616 = x := by omega
    have LH := hide lH; have LL := hide lL; have HB := hide hB
    obtain ⟨h1, h2⟩ := lH
    obtain ⟨h3, h4⟩ := lL
    have hmx : Tryz.prog.follows .mixedOrders = true := by kernel_rfl
    clear hB hvb
    generalize wHi (valB pre) = H at *
    generalize wLo (valB pre) = L at *
    gi_wp2
    refine wpIn_region_round hmx (by kernel_rfl) ?_
    refine wpAnyIn_take (i := 7) (v := ?_) rfl rfl (by kernel_rfl) (by kernel_rfl) (by kernel_rfl) (fun _ _ _ h => h) ⟨Or.inl ⟨by rfl, ?_⟩, fun _ => rfl⟩ ?_
    rotate_left
    · (intro w; go_simp; try (with_reducible rfl))
    refine wpAnyIn_take (i := 8) (v := ?_) rfl rfl (by kernel_rfl) (by kernel_rfl) (by kernel_rfl) (fun _ _ _ h => h) ⟨Or.inl ⟨by rfl, ?_⟩, fun _ => rfl⟩ ?_
    rotate_left
    · (intro w; go_simp; try (with_reducible rfl))
    refine wpAnyIn_ready (rs := [0, 2, 5]) (by kernel_rfl) (by simp) ?_
    refine AllReadyIn.cons rfl (fun K hK => ?_) ?_
    · go_simp
      refine hK _ _ ?_; clear hK K
      refine wpAnyIn_take (i := 1) (v := ?_) rfl rfl (by kernel_rfl) (by kernel_rfl) (by kernel_rfl) (fun _ _ _ h => h) ⟨Or.inl ⟨by rfl, ?_⟩, fun _ => rfl⟩ ?_
      rotate_left
      · (intro w; go_simp; try (with_reducible rfl))
      refine wpAnyIn_ready (rs := [2, 5]) (by kernel_rfl) (by simp) ?_
      refine AllReadyIn.cons rfl (fun K hK => ?_) ?_
      · go_simp
        refine hK _ _ ?_; clear hK K
        refine wpAnyIn_take (i := 3) (v := ?_) rfl rfl (by kernel_rfl) (by kernel_rfl) (by kernel_rfl) (fun _ _ _ h => h) ⟨Or.inl ⟨by rfl, ?_⟩, fun _ => rfl⟩ ?_
        rotate_left
        · (intro w; go_simp; try (with_reducible rfl))
        refine wpAnyIn_take (i := 4) (v := ?_) rfl rfl (by kernel_rfl) (by kernel_rfl) (by kernel_rfl) (fun _ _ _ h => h) ⟨Or.inl ⟨by rfl, ?_⟩, fun _ => rfl⟩ ?_
        rotate_left
        · (intro w; go_simp; try (with_reducible rfl))
        refine wpAnyIn_ready (rs := [5, 10]) (by kernel_rfl) (by simp) ?_
        refine AllReadyIn.cons rfl (fun K hK => ?_) ?_
        · go_simp
          refine hK _ _ ?_; clear hK K
          refine wpAnyIn_take (i := 6) (v := ?_) rfl rfl (by kernel_rfl) (by kernel_rfl) (by kernel_rfl) (fun _ _ _ h => h) ⟨Or.inl ⟨by rfl, ?_⟩, fun _ => rfl⟩ ?_
          rotate_left
          · (intro w; go_simp; try (with_reducible rfl))
          refine wpAnyIn_take (i := 9) (v := ?_) rfl rfl (by kernel_rfl) (by kernel_rfl) (by kernel_rfl) (fun _ _ _ h => h) ⟨Or.inl ⟨by rfl, ?_⟩, fun _ => rfl⟩ ?_
          rotate_left
          · (intro w; go_simp; try (with_reducible rfl))
          refine wpAnyIn_ready (rs := [10]) (by kernel_rfl) (by simp) ?_
          refine AllReadyIn.cons rfl (fun K hK => ?_) ?_
          · go_simp
            refine hK _ _ ?_; clear hK K
            refine wpAnyIn_ready (rs := [11]) (by kernel_rfl) (by simp) ?_
            refine AllReadyIn.cons rfl (fun K hK => ?_) ?_
            · go_simp
              refine hK _ _ ?_; clear hK K
              refine wpAnyIn_done (by kernel_rfl) ?_ _
              exact ⟨((KeepsOthers.drew W).trans (KeepsOthers.setCell _ _ _)).trans (KeepsOthers.setCell _ _ _), ((KeepBut.refl.drew).setCell _ _ (.inl rfl)).setCell _ _ (.inr rfl), ⟨((LH.out.drew.set _).far _ _ (by simp)).cast (by rw [EV.out]; exact congrArg _ EH.out), ((LL.out.drew.far _ _ (by simp)).set _).cast (by rw [EV.out]; exact congrArg _ EL.out)⟩, (HB.out.drew.setCell (by simp) _).setCell (by simp) _⟩
            exact AllReadyIn.nil
          exact AllReadyIn.nil
        refine AllReadyIn.cons rfl (fun K hK => ?_) ?_
        · go_simp
          refine hK _ _ ?_; clear hK K
          refine wpAnyIn_ready (rs := [5]) (by kernel_rfl) (by simp) ?_
          refine AllReadyIn.cons rfl (fun K hK => ?_) ?_
          · go_simp
            refine hK _ _ ?_; clear hK K
            refine wpAnyIn_take (i := 6) (v := ?_) rfl rfl (by kernel_rfl) (by kernel_rfl) (by kernel_rfl) (fun _ _ _ h => h) ⟨Or.inl ⟨by rfl, ?_⟩, fun _ => rfl⟩ ?_
            rotate_left
            · (intro w; go_simp; try (with_reducible rfl))
            refine wpAnyIn_take (i := 9) (v := ?_) rfl rfl (by kernel_rfl) (by kernel_rfl) (by kernel_rfl) (fun _ _ _ h => h) ⟨Or.inl ⟨by rfl, ?_⟩, fun _ => rfl⟩ ?_
            rotate_left
            · (intro w; go_simp; try (with_reducible rfl))
            refine wpAnyIn_ready (rs := [11]) (by kernel_rfl) (by simp) ?_
            refine AllReadyIn.cons rfl (fun K hK => ?_) ?_
            · go_simp
              refine hK _ _ ?_; clear hK K
              refine wpAnyIn_done (by kernel_rfl) ?_ _
              exact ⟨((KeepsOthers.drew W).trans (KeepsOthers.setCell _ _ _)).trans (KeepsOthers.setCell _ _ _), ((KeepBut.refl.drew).setCell _ _ (.inl rfl)).setCell _ _ (.inr rfl), ⟨((LH.out.drew.set _).far _ _ (by simp)).cast (by rw [EV.out]; exact congrArg _ EH.out), ((LL.out.drew.far _ _ (by simp)).set _).cast (by rw [EV.out]; exact congrArg _ EL.out)⟩, (HB.out.drew.setCell (by simp) _).setCell (by simp) _⟩
            exact AllReadyIn.nil
          exact AllReadyIn.nil
        exact AllReadyIn.nil
      refine AllReadyIn.cons rfl (fun K hK => ?_) ?_
      · go_simp
        refine hK _ _ ?_; clear hK K
        refine wpAnyIn_take (i := 6) (v := ?_) rfl rfl (by kernel_rfl) (by kernel_rfl) (by kernel_rfl) (fun _ _ _ h => h) ⟨Or.inl ⟨by rfl, ?_⟩, fun _ => rfl⟩ ?_
        rotate_left
        · (intro w; go_simp; try (with_reducible rfl))
        refine wpAnyIn_take (i := 9) (v := ?_) rfl rfl (by kernel_rfl) (by kernel_rfl) (by kernel_rfl) (fun _ _ _ h => h) ⟨Or.inl ⟨by rfl, ?_⟩, fun _ => rfl⟩ ?_
        rotate_left
        · (intro w; go_simp; try (with_reducible rfl))
        refine wpAnyIn_ready (rs := [2]) (by kernel_rfl) (by simp) ?_
        refine AllReadyIn.cons rfl (fun K hK => ?_) ?_
        · go_simp
          refine hK _ _ ?_; clear hK K
          refine wpAnyIn_take (i := 3) (v := ?_) rfl rfl (by kernel_rfl) (by kernel_rfl) (by kernel_rfl) (fun _ _ _ h => h) ⟨Or.inl ⟨by rfl, ?_⟩, fun _ => rfl⟩ ?_
          rotate_left
          · (intro w; go_simp; try (with_reducible rfl))
          refine wpAnyIn_take (i := 4) (v := ?_) rfl rfl (by kernel_rfl) (by kernel_rfl) (by kernel_rfl) (fun _ _ _ h => h) ⟨Or.inl ⟨by rfl, ?_⟩, fun _ => rfl⟩ ?_
          rotate_left
          · (intro w; go_simp; try (with_reducible rfl))
          refine wpAnyIn_ready (rs := [10]) (by kernel_rfl) (by simp) ?_
          refine AllReadyIn.cons rfl (fun K hK => ?_) ?_
          · go_simp
            refine hK _ _ ?_; clear hK K
            refine wpAnyIn_ready (rs := [11]) (by kernel_rfl) (by simp) ?_
            refine AllReadyIn.cons rfl (fun K hK => ?_) ?_
            · go_simp
              refine hK _ _ ?_; clear hK K
              refine wpAnyIn_done (by kernel_rfl) ?_ _
              exact ⟨((KeepsOthers.drew W).trans (KeepsOthers.setCell _ _ _)).trans (KeepsOthers.setCell _ _ _), ((KeepBut.refl.drew).setCell _ _ (.inl rfl)).setCell _ _ (.inr rfl), ⟨((LH.out.drew.set _).far _ _ (by simp)).cast (by rw [EV.out]; exact congrArg _ EH.out), ((LL.out.drew.far _ _ (by simp)).set _).cast (by rw [EV.out]; exact congrArg _ EL.out)⟩, (HB.out.drew.setCell (by simp) _).setCell (by simp) _⟩
            exact AllReadyIn.nil
          exact AllReadyIn.nil
        exact AllReadyIn.nil
      exact AllReadyIn.nil
    refine AllReadyIn.cons rfl (fun K hK => ?_) ?_
    · go_simp
      refine hK _ _ ?_; clear hK K
      refine wpAnyIn_take (i := 3) (v := ?_) rfl rfl (by kernel_rfl) (by kernel_rfl) (by kernel_rfl) (fun _ _ _ h => h) ⟨Or.inl ⟨by rfl, ?_⟩, fun _ => rfl⟩ ?_
      rotate_left
      · (intro w; go_simp; try (with_reducible rfl))
      refine wpAnyIn_ready (rs := [0, 5]) (by kernel_rfl) (by simp) ?_
      refine AllReadyIn.cons rfl (fun K hK => ?_) ?_
      · go_simp
        refine hK _ _ ?_; clear hK K
        refine wpAnyIn_take (i := 1) (v := ?_) rfl rfl (by kernel_rfl) (by kernel_rfl) (by kernel_rfl) (fun _ _ _ h => h) ⟨Or.inl ⟨by rfl, ?_⟩, fun _ => rfl⟩ ?_
        rotate_left
        · (intro w; go_simp; try (with_reducible rfl))
        refine wpAnyIn_take (i := 4) (v := ?_) rfl rfl (by kernel_rfl) (by kernel_rfl) (by kernel_rfl) (fun _ _ _ h => h) ⟨Or.inl ⟨by rfl, ?_⟩, fun _ => rfl⟩ ?_
        rotate_left
        · (intro w; go_simp; try (with_reducible rfl))
        refine wpAnyIn_ready (rs := [5, 10]) (by kernel_rfl) (by simp) ?_
        refine AllReadyIn.cons rfl (fun K hK => ?_) ?_
        · go_simp
          refine hK _ _ ?_; clear hK K
          refine wpAnyIn_take (i := 6) (v := ?_) rfl rfl (by kernel_rfl) (by kernel_rfl) (by kernel_rfl) (fun _ _ _ h => h) ⟨Or.inl ⟨by rfl, ?_⟩, fun _ => rfl⟩ ?_
          rotate_left
          · (intro w; go_simp; try (with_reducible rfl))
          refine wpAnyIn_take (i := 9) (v := ?_) rfl rfl (by kernel_rfl) (by kernel_rfl) (by kernel_rfl) (fun _ _ _ h => h) ⟨Or.inl ⟨by rfl, ?_⟩, fun _ => rfl⟩ ?_
          rotate_left
          · (intro w; go_simp; try (with_reducible rfl))
          refine wpAnyIn_ready (rs := [10]) (by kernel_rfl) (by simp) ?_
          refine AllReadyIn.cons rfl (fun K hK => ?_) ?_
          · go_simp
            refine hK _ _ ?_; clear hK K
            refine wpAnyIn_ready (rs := [11]) (by kernel_rfl) (by simp) ?_
            refine AllReadyIn.cons rfl (fun K hK => ?_) ?_
            · go_simp
              refine hK _ _ ?_; clear hK K
              refine wpAnyIn_done (by kernel_rfl) ?_ _
              exact ⟨((KeepsOthers.drew W).trans (KeepsOthers.setCell _ _ _)).trans (KeepsOthers.setCell _ _ _), ((KeepBut.refl.drew).setCell _ _ (.inl rfl)).setCell _ _ (.inr rfl), ⟨((LH.out.drew.set _).far _ _ (by simp)).cast (by rw [EV.out]; exact congrArg _ EH.out), ((LL.out.drew.far _ _ (by simp)).set _).cast (by rw [EV.out]; exact congrArg _ EL.out)⟩, (HB.out.drew.setCell (by simp) _).setCell (by simp) _⟩
            exact AllReadyIn.nil
          exact AllReadyIn.nil
        refine AllReadyIn.cons rfl (fun K hK => ?_) ?_
        · go_simp
          refine hK _ _ ?_; clear hK K
          refine wpAnyIn_ready (rs := [5]) (by kernel_rfl) (by simp) ?_
          refine AllReadyIn.cons rfl (fun K hK => ?_) ?_
          · go_simp
            refine hK _ _ ?_; clear hK K
            refine wpAnyIn_take (i := 6) (v := ?_) rfl rfl (by kernel_rfl) (by kernel_rfl) (by kernel_rfl) (fun _ _ _ h => h) ⟨Or.inl ⟨by rfl, ?_⟩, fun _ => rfl⟩ ?_
            rotate_left
            · (intro w; go_simp; try (with_reducible rfl))
            refine wpAnyIn_take (i := 9) (v := ?_) rfl rfl (by kernel_rfl) (by kernel_rfl) (by kernel_rfl) (fun _ _ _ h => h) ⟨Or.inl ⟨by rfl, ?_⟩, fun _ => rfl⟩ ?_
            rotate_left
            · (intro w; go_simp; try (with_reducible rfl))
            refine wpAnyIn_ready (rs := [11]) (by kernel_rfl) (by simp) ?_
            refine AllReadyIn.cons rfl (fun K hK => ?_) ?_
            · go_simp
              refine hK _ _ ?_; clear hK K
              refine wpAnyIn_done (by kernel_rfl) ?_ _
              exact ⟨((KeepsOthers.drew W).trans (KeepsOthers.setCell _ _ _)).trans (KeepsOthers.setCell _ _ _), ((KeepBut.refl.drew).setCell _ _ (.inl rfl)).setCell _ _ (.inr rfl), ⟨((LH.out.drew.set _).far _ _ (by simp)).cast (by rw [EV.out]; exact congrArg _ EH.out), ((LL.out.drew.far _ _ (by simp)).set _).cast (by rw [EV.out]; exact congrArg _ EL.out)⟩, (HB.out.drew.setCell (by simp) _).setCell (by simp) _⟩
            exact AllReadyIn.nil
          exact AllReadyIn.nil
        exact AllReadyIn.nil
      refine AllReadyIn.cons rfl (fun K hK => ?_) ?_
      · go_simp
        refine hK _ _ ?_; clear hK K
        refine wpAnyIn_take (i := 6) (v := ?_) rfl rfl (by kernel_rfl) (by kernel_rfl) (by kernel_rfl) (fun _ _ _ h => h) ⟨Or.inl ⟨by rfl, ?_⟩, fun _ => rfl⟩ ?_
        rotate_left
        · (intro w; go_simp; try (with_reducible rfl))
        refine wpAnyIn_take (i := 9) (v := ?_) rfl rfl (by kernel_rfl) (by kernel_rfl) (by kernel_rfl) (fun _ _ _ h => h) ⟨Or.inl ⟨by rfl, ?_⟩, fun _ => rfl⟩ ?_
        rotate_left
        · (intro w; go_simp; try (with_reducible rfl))
        refine wpAnyIn_ready (rs := [0]) (by kernel_rfl) (by simp) ?_
        refine AllReadyIn.cons rfl (fun K hK => ?_) ?_
        · go_simp
          refine hK _ _ ?_; clear hK K
          refine wpAnyIn_take (i := 1) (v := ?_) rfl rfl (by kernel_rfl) (by kernel_rfl) (by kernel_rfl) (fun _ _ _ h => h) ⟨Or.inl ⟨by rfl, ?_⟩, fun _ => rfl⟩ ?_
          rotate_left
          · (intro w; go_simp; try (with_reducible rfl))
          refine wpAnyIn_take (i := 4) (v := ?_) rfl rfl (by kernel_rfl) (by kernel_rfl) (by kernel_rfl) (fun _ _ _ h => h) ⟨Or.inl ⟨by rfl, ?_⟩, fun _ => rfl⟩ ?_
          rotate_left
          · (intro w; go_simp; try (with_reducible rfl))
          refine wpAnyIn_ready (rs := [10]) (by kernel_rfl) (by simp) ?_
          refine AllReadyIn.cons rfl (fun K hK => ?_) ?_
          · go_simp
            refine hK _ _ ?_; clear hK K
            refine wpAnyIn_ready (rs := [11]) (by kernel_rfl) (by simp) ?_
            refine AllReadyIn.cons rfl (fun K hK => ?_) ?_
            · go_simp
              refine hK _ _ ?_; clear hK K
              refine wpAnyIn_done (by kernel_rfl) ?_ _
              exact ⟨((KeepsOthers.drew W).trans (KeepsOthers.setCell _ _ _)).trans (KeepsOthers.setCell _ _ _), ((KeepBut.refl.drew).setCell _ _ (.inl rfl)).setCell _ _ (.inr rfl), ⟨((LH.out.drew.set _).far _ _ (by simp)).cast (by rw [EV.out]; exact congrArg _ EH.out), ((LL.out.drew.far _ _ (by simp)).set _).cast (by rw [EV.out]; exact congrArg _ EL.out)⟩, (HB.out.drew.setCell (by simp) _).setCell (by simp) _⟩
            exact AllReadyIn.nil
          exact AllReadyIn.nil
        exact AllReadyIn.nil
      exact AllReadyIn.nil
    refine AllReadyIn.cons rfl (fun K hK => ?_) ?_
    · go_simp
      refine hK _ _ ?_; clear hK K
      refine wpAnyIn_take (i := 6) (v := ?_) rfl rfl (by kernel_rfl) (by kernel_rfl) (by kernel_rfl) (fun _ _ _ h => h) ⟨Or.inl ⟨by rfl, ?_⟩, fun _ => rfl⟩ ?_
      rotate_left
      · (intro w; go_simp; try (with_reducible rfl))
      refine wpAnyIn_take (i := 9) (v := ?_) rfl rfl (by kernel_rfl) (by kernel_rfl) (by kernel_rfl) (fun _ _ _ h => h) ⟨Or.inl ⟨by rfl, ?_⟩, fun _ => rfl⟩ ?_
      rotate_left
      · (intro w; go_simp; try (with_reducible rfl))
      refine wpAnyIn_ready (rs := [0, 2]) (by kernel_rfl) (by simp) ?_
      refine AllReadyIn.cons rfl (fun K hK => ?_) ?_
      · go_simp
        refine hK _ _ ?_; clear hK K
        refine wpAnyIn_take (i := 1) (v := ?_) rfl rfl (by kernel_rfl) (by kernel_rfl) (by kernel_rfl) (fun _ _ _ h => h) ⟨Or.inl ⟨by rfl, ?_⟩, fun _ => rfl⟩ ?_
        rotate_left
        · (intro w; go_simp; try (with_reducible rfl))
        refine wpAnyIn_ready (rs := [2]) (by kernel_rfl) (by simp) ?_
        refine AllReadyIn.cons rfl (fun K hK => ?_) ?_
        · go_simp
          refine hK _ _ ?_; clear hK K
          refine wpAnyIn_take (i := 3) (v := ?_) rfl rfl (by kernel_rfl) (by kernel_rfl) (by kernel_rfl) (fun _ _ _ h => h) ⟨Or.inl ⟨by rfl, ?_⟩, fun _ => rfl⟩ ?_
          rotate_left
          · (intro w; go_simp; try (with_reducible rfl))
          refine wpAnyIn_take (i := 4) (v := ?_) rfl rfl (by kernel_rfl) (by kernel_rfl) (by kernel_rfl) (fun _ _ _ h => h) ⟨Or.inl ⟨by rfl, ?_⟩, fun _ => rfl⟩ ?_
          rotate_left
          · (intro w; go_simp; try (with_reducible rfl))
          refine wpAnyIn_ready (rs := [10]) (by kernel_rfl) (by simp) ?_
          refine AllReadyIn.cons rfl (fun K hK => ?_) ?_
          · go_simp
            refine hK _ _ ?_; clear hK K
            refine wpAnyIn_ready (rs := [11]) (by kernel_rfl) (by simp) ?_
            refine AllReadyIn.cons rfl (fun K hK => ?_) ?_
            · go_simp
              refine hK _ _ ?_; clear hK K
              refine wpAnyIn_done (by kernel_rfl) ?_ _
              exact ⟨((KeepsOthers.drew W).trans (KeepsOthers.setCell _ _ _)).trans (KeepsOthers.setCell _ _ _), ((KeepBut.refl.drew).setCell _ _ (.inl rfl)).setCell _ _ (.inr rfl), ⟨((LH.out.drew.set _).far _ _ (by simp)).cast (by rw [EV.out]; exact congrArg _ EH.out), ((LL.out.drew.far _ _ (by simp)).set _).cast (by rw [EV.out]; exact congrArg _ EL.out)⟩, (HB.out.drew.setCell (by simp) _).setCell (by simp) _⟩
            exact AllReadyIn.nil
          exact AllReadyIn.nil
        exact AllReadyIn.nil
      refine AllReadyIn.cons rfl (fun K hK => ?_) ?_
      · go_simp
        refine hK _ _ ?_; clear hK K
        refine wpAnyIn_take (i := 3) (v := ?_) rfl rfl (by kernel_rfl) (by kernel_rfl) (by kernel_rfl) (fun _ _ _ h => h) ⟨Or.inl ⟨by rfl, ?_⟩, fun _ => rfl⟩ ?_
        rotate_left
        · (intro w; go_simp; try (with_reducible rfl))
        refine wpAnyIn_ready (rs := [0]) (by kernel_rfl) (by simp) ?_
        refine AllReadyIn.cons rfl (fun K hK => ?_) ?_
        · go_simp
          refine hK _ _ ?_; clear hK K
          refine wpAnyIn_take (i := 1) (v := ?_) rfl rfl (by kernel_rfl) (by kernel_rfl) (by kernel_rfl) (fun _ _ _ h => h) ⟨Or.inl ⟨by rfl, ?_⟩, fun _ => rfl⟩ ?_
          rotate_left
          · (intro w; go_simp; try (with_reducible rfl))
          refine wpAnyIn_take (i := 4) (v := ?_) rfl rfl (by kernel_rfl) (by kernel_rfl) (by kernel_rfl) (fun _ _ _ h => h) ⟨Or.inl ⟨by rfl, ?_⟩, fun _ => rfl⟩ ?_
          rotate_left
          · (intro w; go_simp; try (with_reducible rfl))
          refine wpAnyIn_ready (rs := [10]) (by kernel_rfl) (by simp) ?_
          refine AllReadyIn.cons rfl (fun K hK => ?_) ?_
          · go_simp
            refine hK _ _ ?_; clear hK K
            refine wpAnyIn_ready (rs := [11]) (by kernel_rfl) (by simp) ?_
            refine AllReadyIn.cons rfl (fun K hK => ?_) ?_
            · go_simp
              refine hK _ _ ?_; clear hK K
              refine wpAnyIn_done (by kernel_rfl) ?_ _
              exact ⟨((KeepsOthers.drew W).trans (KeepsOthers.setCell _ _ _)).trans (KeepsOthers.setCell _ _ _), ((KeepBut.refl.drew).setCell _ _ (.inl rfl)).setCell _ _ (.inr rfl), ⟨((LH.out.drew.set _).far _ _ (by simp)).cast (by rw [EV.out]; exact congrArg _ EH.out), ((LL.out.drew.far _ _ (by simp)).set _).cast (by rw [EV.out]; exact congrArg _ EL.out)⟩, (HB.out.drew.setCell (by simp) _).setCell (by simp) _⟩
            exact AllReadyIn.nil
          exact AllReadyIn.nil
        exact AllReadyIn.nil
      exact AllReadyIn.nil
    exact AllReadyIn.nil
  case done =>
    rintro D ys W hD rfl ⟨⟨lH, lL⟩, hB⟩ hK
    rw [valB_bits] at lH lL
    have hV := bval_lt_top xs t n2
    have HM : Hid (bval xs t n % 2 ^ (n : Int).toNat = bval xs t n) := Nat.mod_eq_of_lt (by rw [Int.toNat_natCast]; exact bval_lt xs t n)
    have HO := hide (fun W' => ofV n _ _ (bval xs t n) W' (by omega) (by omega) hV rfl rfl)
    rw [HM.out] at HO
    have c0 : W.cell? ⟨g, 0, none⟩ = some (.int .i64 t) := (hB.cell (p := ⟨g, 0, none⟩) hgl2).trans K2.out.c0
    have f0 : W.frozen? ⟨g, 0, none⟩ = false := (hB.frozen (p := ⟨g, 0, none⟩) hgl2).trans K2.out.f0
    have LH := hide lH; have LL := hide lL; have HB := hide hB; have HK := hide hK
    obtain ⟨h1, h2⟩ := lH
    obtain ⟨h3, h4⟩ := lL
    clear hV HM hB hK
    generalize hHH : wHi (bval xs t n) = H at *
    generalize hLL : wLo (bval xs t n) = L at *
    have HHH := hide hHH; have HLL := hide hLL
    clear hHH hLL
    have hgn : g ≠ w2.heap.size := by omega
    have hgn2 : g ≠ w2.heap.size + 1 := by omega
    have hDW : D < W.heap.size := (Array.getElem?_eq_some_iff.1 HK.out).1
    gi_wp2_with fail
    refine ⟨trivial, ?_⟩
    refine (callsIn_wide.2 (HO.out _)).mono ?_
    rintro e w4 ⟨rfl, hb4⟩
    simp only [World.size_setCell] at hb4
    have hWz := HB.out.size
    have hcr : ∀ o, w4.cell? ⟨w.heap.size, o, none⟩ = (w.alloc (.cells #[.int .i64 0, .int .u64 0, .int .u64 0] 71)).cell? ⟨w.heap.size, o, none⟩ := fun o => by
      rw [hb4.cell (p := ⟨w.heap.size, o, none⟩) (by show w.heap.size < _; omega), World.cell?_setCell_far _ _ _ _ (by show g ≠ w.heap.size; omega), HB.out.cell (p := ⟨w.heap.size, o, none⟩) hz2, B2s.out.cell (p := ⟨w.heap.size, o, none⟩) (by simp)]
    have hfr : ∀ o, w4.frozen? ⟨w.heap.size, o, none⟩ = (w.alloc (.cells #[.int .i64 0, .int .u64 0, .int .u64 0] 71)).frozen? ⟨w.heap.size, o, none⟩ := fun o => by
      rw [hb4.frozen (p := ⟨w.heap.size, o, none⟩) (by show w.heap.size < _; omega), World.frozen?_setCell, HB.out.frozen (p := ⟨w.heap.size, o, none⟩) hz2, B2s.out.frozen (p := ⟨w.heap.size, o, none⟩) (by simp)]
    have HK4 : Hid (w4.heap[D]? = some (.deferred (some []))) := (hb4.block D hDW).trans ((KeepsOthers.setCell W ⟨g, 0, none⟩ _).same D _ HK.out rfl)
    have hb4' := hide hb4
    gi_wp2
    clear h1 h2 h3 h4 c0 f0
    obtain ⟨Wf, hWf⟩ : ∃ Wf, Wf = (((w4.setCell ⟨w.heap.size, 0, none⟩ (.int .i64 n)).setCell ⟨w.heap.size, 1, none⟩ (.int .u64 H)).setCell ⟨w.heap.size, 2, none⟩ (.int .u64 L)) := ⟨_, rfl⟩
    rw [← hWf]
    have r0 : Wf.cell? ⟨w.heap.size, 0, none⟩ = some (.int .i64 n) := by rw [hWf]; simp [go_sem, hcr]
    have r1 : Wf.cell? ⟨w.heap.size, 1, none⟩ = some (.int .u64 H) := by rw [hWf]; simp [go_sem, hcr]
    have r2 : Wf.cell? ⟨w.heap.size, 2, none⟩ = some (.int .u64 L) := by rw [hWf]; simp [go_sem, hcr]
    have KO : KeepsOthers w4 Wf := by rw [hWf]; exact ((KeepsOthers.setCell _ _ _).trans (KeepsOthers.setCell _ _ _)).trans (KeepsOthers.setCell _ _ _)
    have HKf := KO.same D _ HK4.out rfl
    have far : ∀ o, Wf.cell? ⟨g, o, none⟩ = w4.cell? ⟨g, o, none⟩ := fun o => by
      rw [hWf, World.cell?_setCell_far _ _ _ _ (by show w.heap.size ≠ g; omega), World.cell?_setCell_far _ _ _ _ (by show w.heap.size ≠ g; omega), World.cell?_setCell_far _ _ _ _ (by show w.heap.size ≠ g; omega)]
    have farf : Wf.frozen? ⟨g, 0, none⟩ = w4.frozen? ⟨g, 0, none⟩ := by rw [hWf, World.frozen?_setCell, World.frozen?_setCell, World.frozen?_setCell]
    have BD : Below w.heap.size Wf (Wf.putObj D (.deferred none)) := belowK_b (w := w) (Nat.le_refl _) Wf D _ _ (by omega) HKf rfl rfl
    have hgW : g < W.heap.size := by omega
    have M : Moved g w (Wf.putObj D (.deferred none)) := by
      have m1 : Moved g w w4 := ((Moved.ofBelow (B2.out.trans (HB.out.mono (by omega)))).setG 0 _).step hb4'.out (by omega)
      have m2 : Moved g w Wf := by rw [hWf]; exact ((m1.setCell (Nat.le_refl _) _).setCell (Nat.le_refl _) _).setCell (Nat.le_refl _) _
      exact m2.step BD (Nat.le_refl _)
    have ptr : ∀ o, (Wf.putObj D (.deferred none)).cell? ⟨g, o, none⟩ = (W.setCell ⟨g, 0, none⟩ (.int .i64 ((t : Int) + (n : Int)))).cell? ⟨g, o, none⟩ := fun o => by
      rw [BD.cell (p := ⟨g, o, none⟩) hgl, far, hb4'.out.cell (p := ⟨g, o, none⟩) hgW]
    have ptf : (Wf.putObj D (.deferred none)).frozen? ⟨g, 0, none⟩ = false := by
      rw [BD.frozen (p := ⟨g, 0, none⟩) hgl, farf, hb4'.out.frozen (p := ⟨g, 0, none⟩) hgW, World.frozen?_setCell, HB.out.frozen (p := ⟨g, 0, none⟩) hgl2]; exact K2.out.f0
    have w0 : ∀ o, W.cell? ⟨g, o, none⟩ = w.cell? ⟨g, o, none⟩ := fun o => by rw [HB.out.cell (p := ⟨g, o, none⟩) hgl2, B2.out.cell (p := ⟨g, o, none⟩) hgl]
    have C : Cur (Wf.putObj D (.deferred none)) g (some ⟨p, off, none⟩) cap xs (t + n) := HC.out.moved M
      (by rw [ptr, World.cell?_setCell_same' _ _ _ (by rw [w0, HC.out.c0]; rfl)]; simp) ptf
      ((ptr 1).trans (Eq.trans (World.cell?_setCell_other _ _ _ _ (by simp)) (w0 1))) ((ptr 2).trans (Eq.trans (World.cell?_setCell_other _ _ _ _ (by simp)) (w0 2)))
    have kk : ∀ r, some D = some r → ∃ o : Obj, Wf.heap[r]? = some o ∧ o.isCells = false := fun r e => by cases e; exact ⟨_, HKf, rfl⟩
    have p0 := cell_kept r0 (grownBy_putObj' _ D (.deferred none)) kk
    have p1 := cell_kept r1 (grownBy_putObj' _ D (.deferred none)) kk
    have p2 := cell_kept r2 (grownBy_putObj' _ D (.deferred none)) kk
    refine ⟨by simp, .inl ⟨_, _, rfl, run_takeDeferred HKf, ?_⟩⟩
    refine ⟨.tuple #[.agg #[.int .i64 n, .int .u64 H, .int .u64 L], .int .i64 0], ?_, by rw [HHH.out, HLL.out], M, C⟩
    simp [results, Tryz.results8, go_sem, p0, p1, p2]
end Go.Proofs.YtlddnpgcoekaaaaGreatDoor
