/- pointsmanref17's queue: Send. -/
import Derived.Test.YtnihneicoikdhaaGreatDoorQvB
namespace Go.Proofs.YtnihneicoikdhaaGreatDoor
open Go.RowKit

theorem rsend_neg {W : World} {B g r : Nat} {v : Value} {L : List Cy} (_ : Rs W B g r v L) (n : Int) (hn : n < 0) : Calls Tryz.prog 15 #[.pointer (some ⟨g, 0, none⟩), .int .i64 n] W fun e W' => e = .returned (.tuple #[.slice none 0 0, .int .i64 1]) ∧ W' = W := by
  have e1 : decide (n < 0) = true := by simpa using hn
  go_enter Tryz.func15, Tryz.ntmps15
  go_wp2
  go_ret2
  exact ⟨rfl, rfl⟩
set_option maxRecDepth 100000 in
theorem rsend_yes {W : World} {B g r : Nat} {v : Value} {L : List Cy} (h : Rs W B g r v L) (hr : L.length ≤ 64) (n k : Nat) (hk : k = min n L.length) : Calls Tryz.prog 15 #[.pointer (some ⟨g, 0, none⟩), .int .i64 n] W fun e W' => ∃ u v', e = .returned (.tuple #[u, .int .i64 0]) ∧ W'.ownsRow W.heap.size 75 2 u k (flat Cy.cells (L.take k)) ∧ Rs W' B g r v' (L.drop k) ∧ Fr (· = g) W W' ∧ ∀ b, v'.ownBlock = some b → W.heap.size ≤ b := by
  have hne := h.ne
  obtain ⟨av, cv, rfl⟩ := owR_shape h.row
  have hcv : L.length ≤ cv := by
    rcases h.row.2 with ⟨e, h2⟩ | ⟨g', c, cur, e, _, _, h1, _⟩
    · injection e with _ e2 e3; omega
    · injection e with _ e2 e3; omega
  have hgl := lt_heap h.blk
  have hkl : k ≤ L.length := by omega
  have hS1 : Hid (∀ W' : World, Below W.heap.size W W' → SrcR W' (.slice av k cv) (L.take k).length (flat Cy.cells (L.take k))) := fun W' hb => srcR_take (h.below hb).row hkl
  have hS2 : Hid (∀ W' : World, Below W.heap.size W W' → SrcR W' (.slice (if cv = k then av else av.map (·.add (k * 2))) (L.length - k) (cv - k)) (L.drop k).length (flat Cy.cells (L.drop k))) := fun W' hb => srcR_drop (h.below hb).row hkl
  have hlt : Hid ((L.take k).length = k) := by show _ = _; rw [List.length_take, Nat.min_eq_left hkl]
  have H0 := hide h
  obtain ⟨c0, c1, s1⟩ := h.at
  have s1' := s1 1
  have b1 : (k : Int) ≤ (cv : Int) := by omega
  have b2 : (k : Int) ≤ (L.length : Int) := by omega
  have HM : Hid (([] : List Cy).length + (L.take k).length ≤ 1000000 ∧ ([] : List Cy).length + (L.drop k).length ≤ 1000000) := by show _ ∧ _; simp; omega
  have e1 : decide ((n : Int) < 0) = false := by simp
  have hA7 : Hid (∀ (w7 : World), W.grownBy w7 none → Below W.heap.size W w7) := fun w7 h2 => (Below.refl _ _).grown h2 (Nat.le_refl _) (fun k e => by cases e)
  clear h s1 c0
  generalize hll : L.length = ll at *
  have HLL := hide hll
  clear hll
  by_cases hck : cv = k
  · subst hck
    obtain rfl : cv = ll := by omega
    have hS3 : Hid (∀ W' : World, Below W.heap.size W W' → SrcR W' (.slice av 0 0) (L.drop cv).length (flat Cy.cells (L.drop cv))) := fun W' hb => by
      have := hS2.out W' hb
      rw [if_pos rfl, Nat.sub_self] at this
      exact this
    clear hS2
    by_cases hkn : cv < n
    · skip
      have e2 : decide ((n : Int) > (cv : Int)) = true := by simp; omega
      have e3 : (cv < n) = True := by simpa using hkn
      clear hk hkn
      go_enter Tryz.func15, Tryz.ntmps15
      go_wp2_with (first | (at_builtin; refine wpList_appR rfl _ _ rfl W.heap.size (.slice none 0 0) [] rfl (World.ownsRow_nil _ _ _ _) _ (L.take cv) rfl (by have := hS1.out W (Below.refl _ _); first | exact this | simpa using this) HM.out.1 (Nat.le_refl _) ?_; intro v7 w7 O7 G7 K7; have B7 := hide (hA7.out w7 G7); obtain ⟨-, c7, s7⟩ := (H0.out.below B7.out).at; replace s7 := s7 1; have O9 := hide O7; clear O7 G7 K7) | (at_builtin; refine wpList_appR rfl _ _ rfl W.heap.size (.slice none 0 0) [] rfl (World.ownsRow_nil _ _ _ _) _ (L.drop cv) rfl (by have hq := hS3.out w7 B7.out; exact hq) HM.out.2 B7.out.size ?_; intro v8 w8 O8 G8 K8; have N8 : v8.ownBlock ≠ some g := (by intro e; rcases K8 with q | q <;> rw [e] at q; cases q; injection q with q; have := B7.out.size; omega); have F8 : Hid (Fr (fun _ => False) w7 w8) := Fr.grown G8 (fun r e => by cases e); have c8 := F8.out.cell c7 (fun e => e); have s8 : w8.frozen? ⟨g, 1, none⟩ = false := (((H0.out.below B7.out).fr F8.out (fun e => e) (fun _ _ e => e)).at).2.2 1; have O8h := hide O8; have K8h := hide K8; obtain ⟨a8, p8, hv8⟩ := owR_shape O8; rw [List.nil_append, List.length_drop] at hv8; subst hv8; clear O8 G8 K8 c7 s7))
      all_goals
        go_ret2
        refine ⟨_, _, rfl, ?_, (H0.out.below B7.out).put (E := fun _ => False) F8.out (fun e => e) ?_ N8, ?_, fun b hb => ?_⟩
        · have := O9.out; rw [List.nil_append, hlt.out] at this
          exact owR_fr (owR_fr this F8.out (fun _ _ e => e)) (E := (· = g)) ((Fr.refl _ w8).set _ _ rfl) (fun b hb e => by have := (World.ownsRow.lt this b hb).1; omega)
        · have := O8h.out; rw [List.nil_append] at this; exact owR_lower this (by have := (H0.out).gB; omega)
        · exact ((Fr.ofBelow B7.out).trans F8.out (fun _ _ e => e.elim)).set _ _ rfl
        · rcases K8h.out with q | q
          · rw [hb] at q; cases q
          · rw [hb] at q; injection q with q; have := B7.out.size; omega
    · obtain rfl : cv = n := by omega
      have e2 : decide ((cv : Int) > (cv : Int)) = false := by simp
      have e3 : (cv < cv) = False := by simp
      clear hk hkn
      go_enter Tryz.func15, Tryz.ntmps15
      go_wp2_with (first | (at_builtin; refine wpList_appR rfl _ _ rfl W.heap.size (.slice none 0 0) [] rfl (World.ownsRow_nil _ _ _ _) _ (L.take cv) rfl (by have := hS1.out W (Below.refl _ _); first | exact this | simpa using this) HM.out.1 (Nat.le_refl _) ?_; intro v7 w7 O7 G7 K7; have B7 := hide (hA7.out w7 G7); obtain ⟨-, c7, s7⟩ := (H0.out.below B7.out).at; replace s7 := s7 1; have O9 := hide O7; clear O7 G7 K7) | (at_builtin; refine wpList_appR rfl _ _ rfl W.heap.size (.slice none 0 0) [] rfl (World.ownsRow_nil _ _ _ _) _ (L.drop cv) rfl (by have hq := hS3.out w7 B7.out; exact hq) HM.out.2 B7.out.size ?_; intro v8 w8 O8 G8 K8; have N8 : v8.ownBlock ≠ some g := (by intro e; rcases K8 with q | q <;> rw [e] at q; cases q; injection q with q; have := B7.out.size; omega); have F8 : Hid (Fr (fun _ => False) w7 w8) := Fr.grown G8 (fun r e => by cases e); have c8 := F8.out.cell c7 (fun e => e); have s8 : w8.frozen? ⟨g, 1, none⟩ = false := (((H0.out.below B7.out).fr F8.out (fun e => e) (fun _ _ e => e)).at).2.2 1; have O8h := hide O8; have K8h := hide K8; obtain ⟨a8, p8, hv8⟩ := owR_shape O8; rw [List.nil_append, List.length_drop] at hv8; subst hv8; clear O8 G8 K8 c7 s7))
      all_goals
        go_ret2
        refine ⟨_, _, rfl, ?_, (H0.out.below B7.out).put (E := fun _ => False) F8.out (fun e => e) ?_ N8, ?_, fun b hb => ?_⟩
        · have := O9.out; rw [List.nil_append, hlt.out] at this
          exact owR_fr (owR_fr this F8.out (fun _ _ e => e)) (E := (· = g)) ((Fr.refl _ w8).set _ _ rfl) (fun b hb e => by have := (World.ownsRow.lt this b hb).1; omega)
        · have := O8h.out; rw [List.nil_append] at this; exact owR_lower this (by have := (H0.out).gB; omega)
        · exact ((Fr.ofBelow B7.out).trans F8.out (fun _ _ e => e.elim)).set _ _ rfl
        · rcases K8h.out with q | q
          · rw [hb] at q; cases q
          · rw [hb] at q; injection q with q; have := B7.out.size; omega
  · have hS3 : Hid (∀ W' : World, Below W.heap.size W W' → SrcR W' (.slice (av.map (·.add (k * 2))) (ll - k) (cv - k)) (L.drop k).length (flat Cy.cells (L.drop k))) := fun W' hb => by
      have := hS2.out W' hb
      rw [if_neg hck] at this
      exact this
    clear hS2
    by_cases hkn : ll < n
    · obtain rfl : k = ll := by omega
      have e2 : decide ((n : Int) > (k : Int)) = true := by simp; omega
      have e3 : (k < n) = True := by simpa using hkn
      clear hk hkn
      go_enter Tryz.func15, Tryz.ntmps15
      go_wp2_with (first | (at_builtin; refine wpList_appR rfl _ _ rfl W.heap.size (.slice none 0 0) [] rfl (World.ownsRow_nil _ _ _ _) _ (L.take k) rfl (by have := hS1.out W (Below.refl _ _); first | exact this | simpa using this) HM.out.1 (Nat.le_refl _) ?_; intro v7 w7 O7 G7 K7; have B7 := hide (hA7.out w7 G7); obtain ⟨-, c7, s7⟩ := (H0.out.below B7.out).at; replace s7 := s7 1; have O9 := hide O7; clear O7 G7 K7) | (at_builtin; refine wpList_appR rfl _ _ rfl W.heap.size (.slice none 0 0) [] rfl (World.ownsRow_nil _ _ _ _) _ (L.drop k) rfl (by have hq := hS3.out w7 B7.out; first | exact hq | (rw [Nat.sub_self] at hq; exact hq)) HM.out.2 B7.out.size ?_; intro v8 w8 O8 G8 K8; have N8 : v8.ownBlock ≠ some g := (by intro e; rcases K8 with q | q <;> rw [e] at q; cases q; injection q with q; have := B7.out.size; omega); have F8 : Hid (Fr (fun _ => False) w7 w8) := Fr.grown G8 (fun r e => by cases e); have c8 := F8.out.cell c7 (fun e => e); have s8 : w8.frozen? ⟨g, 1, none⟩ = false := (((H0.out.below B7.out).fr F8.out (fun e => e) (fun _ _ e => e)).at).2.2 1; have O8h := hide O8; have K8h := hide K8; obtain ⟨a8, p8, hv8⟩ := owR_shape O8; rw [List.nil_append, List.length_drop] at hv8; subst hv8; clear O8 G8 K8 c7 s7))
      all_goals
        go_ret2
        refine ⟨_, _, rfl, ?_, (H0.out.below B7.out).put (E := fun _ => False) F8.out (fun e => e) ?_ N8, ?_, fun b hb => ?_⟩
        · have := O9.out; rw [List.nil_append, hlt.out] at this
          exact owR_fr (owR_fr this F8.out (fun _ _ e => e)) (E := (· = g)) ((Fr.refl _ w8).set _ _ rfl) (fun b hb e => by have := (World.ownsRow.lt this b hb).1; omega)
        · have := O8h.out; rw [List.nil_append] at this; exact owR_lower this (by have := (H0.out).gB; omega)
        · exact ((Fr.ofBelow B7.out).trans F8.out (fun _ _ e => e.elim)).set _ _ rfl
        · rcases K8h.out with q | q
          · rw [hb] at q; cases q
          · rw [hb] at q; injection q with q; have := B7.out.size; omega
    · obtain rfl : k = n := by omega
      have e2 : decide ((k : Int) > (ll : Int)) = false := by simp; omega
      have e3 : (ll < k) = False := by simpa using hkn
      clear hk hkn
      go_enter Tryz.func15, Tryz.ntmps15
      go_wp2_with (first | (at_builtin; refine wpList_appR rfl _ _ rfl W.heap.size (.slice none 0 0) [] rfl (World.ownsRow_nil _ _ _ _) _ (L.take k) rfl (by have := hS1.out W (Below.refl _ _); first | exact this | simpa using this) HM.out.1 (Nat.le_refl _) ?_; intro v7 w7 O7 G7 K7; have B7 := hide (hA7.out w7 G7); obtain ⟨-, c7, s7⟩ := (H0.out.below B7.out).at; replace s7 := s7 1; have O9 := hide O7; clear O7 G7 K7) | (at_builtin; refine wpList_appR rfl _ _ rfl W.heap.size (.slice none 0 0) [] rfl (World.ownsRow_nil _ _ _ _) _ (L.drop k) rfl (by have hq := hS3.out w7 B7.out; first | exact hq | (rw [Nat.sub_self] at hq; exact hq)) HM.out.2 B7.out.size ?_; intro v8 w8 O8 G8 K8; have N8 : v8.ownBlock ≠ some g := (by intro e; rcases K8 with q | q <;> rw [e] at q; cases q; injection q with q; have := B7.out.size; omega); have F8 : Hid (Fr (fun _ => False) w7 w8) := Fr.grown G8 (fun r e => by cases e); have c8 := F8.out.cell c7 (fun e => e); have s8 : w8.frozen? ⟨g, 1, none⟩ = false := (((H0.out.below B7.out).fr F8.out (fun e => e) (fun _ _ e => e)).at).2.2 1; have O8h := hide O8; have K8h := hide K8; obtain ⟨a8, p8, hv8⟩ := owR_shape O8; rw [List.nil_append, List.length_drop] at hv8; subst hv8; clear O8 G8 K8 c7 s7))
      all_goals
        go_ret2
        refine ⟨_, _, rfl, ?_, (H0.out.below B7.out).put (E := fun _ => False) F8.out (fun e => e) ?_ N8, ?_, fun b hb => ?_⟩
        · have := O9.out; rw [List.nil_append, hlt.out] at this
          exact owR_fr (owR_fr this F8.out (fun _ _ e => e)) (E := (· = g)) ((Fr.refl _ w8).set _ _ rfl) (fun b hb e => by have := (World.ownsRow.lt this b hb).1; omega)
        · have := O8h.out; rw [List.nil_append] at this; exact owR_lower this (by have := (H0.out).gB; omega)
        · exact ((Fr.ofBelow B7.out).trans F8.out (fun _ _ e => e.elim)).set _ _ rfl
        · rcases K8h.out with q | q
          · rw [hb] at q; cases q
          · rw [hb] at q; injection q with q; have := B7.out.size; omega
end Go.Proofs.YtnihneicoikdhaaGreatDoor
