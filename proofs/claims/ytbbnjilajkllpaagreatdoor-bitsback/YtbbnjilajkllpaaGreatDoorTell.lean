/- The walks of the closures that tell, of the questions, and of cat, not, slice and cast. -/
import Derived.Test.YtbbnjilajkllpaaGreatDoorClos
namespace Go.Proofs.YtbbnjilajkllpaaGreatDoor
open Go.RowKit

theorem told_val (f : Nat) (a b : Value) (r : Bool) (c : Nat) (n1 h1 l1 n2 h2 l2 : Int) (w : World) (ha : a = .agg #[.int .i64 n1, .int .u64 h1, .int .u64 l1]) (hb : b = .agg #[.int .i64 n2, .int .u64 h2, .int .u64 l2]) (hcap : w.cell? ⟨c, 0, none⟩ = some (.func (Fn.func f) #[] #[]))
    (he : ∀ args w, (callFunc f args).run Tryz.prog w = .ok (.enter f args) w)
    (HQ : ∀ W, Calls Tryz.prog f #[.agg #[.int .i64 n1, .int .u64 h1, .int .u64 l1], .agg #[.int .i64 n2, .int .u64 h2, .int .u64 l2]] W fun e W' => e = .returned (.bool r) ∧ Below W.heap.size W W') :
    Calls Tryz.prog 75 #[a, b, .pointer (some ⟨c, 0, none⟩)] w fun e w' => e = .returned (.agg #[.int .i64 1, .int .u64 0, .int .u64 (r.toNat : Nat)]) ∧ Below w.heap.size w w' := by
  subst ha hb
  have hc3 := past3 hcap
  have HQ' := hide HQ
  clear HQ
  go_enter Tryz.func75, Tryz.ntmps75
  go_wp2_with fail
  refine (HQ'.out _).mono ?_
  rintro e w1 ⟨rfl, hb⟩
  obtain ⟨hc, hf⟩ := bcell hb
  have hz : w.heap.size + 2 < w1.heap.size := by have := hb.size; simp at this; omega
  cases r
  · go_wp2
    refine bodyPost_ret (v := .agg #[.int .i64 1, .int .u64 0, .int .u64 0]) (by simp [results, Tryz.results75, go_sem, hc]) rfl ⟨rfl, ?_⟩
    exact (((((((Below.refl _ _).alloc (Nat.le_refl _) _).alloc (by simp) _).alloc (by simp; omega) _).trans (hb.mono (by simp; omega))).setCell (by simp; omega) _).setCell (by simp; omega) _).setCell (by simp; omega) _
  · go_wp2
    refine bodyPost_ret (v := .agg #[.int .i64 1, .int .u64 0, .int .u64 1]) (by simp [results, Tryz.results75, go_sem, hc]) rfl ⟨rfl, ?_⟩
    exact (((((((Below.refl _ _).alloc (Nat.le_refl _) _).alloc (by simp) _).alloc (by simp; omega) _).trans (hb.mono (by simp; omega))).setCell (by simp; omega) _).setCell (by simp; omega) _).setCell (by simp; omega) _

theorem eqQ (n : Int) (u v : Nat) (w : World) :
    Calls Tryz.prog 54 #[.agg #[.int .i64 n, .int .u64 (wHi u), .int .u64 (wLo u)], .agg #[.int .i64 n, .int .u64 (wHi v), .int .u64 (wLo v)]] w fun e w' => e = .returned (.bool (decide (u = v))) ∧ Below w.heap.size w w' := by
  rw [← w_eq u v]
  cases e1 : (wHi u == wHi v) <;> cases e2 : (wLo u == wLo v)
  all_goals
    generalize wHi u = h1 at *
    generalize wLo u = l1 at *
    generalize wHi v = h2 at *
    generalize wLo v = l2 at *
    go_enter Tryz.func54, Tryz.ntmps54
    go_wp2
    go_ret
    exact ⟨rfl, ((Below.refl _ _).alloc (Nat.le_refl _) _).alloc (by simp) _⟩
theorem neQ (n : Int) (u v : Nat) (w : World) :
    Calls Tryz.prog 55 #[.agg #[.int .i64 n, .int .u64 (wHi u), .int .u64 (wLo u)], .agg #[.int .i64 n, .int .u64 (wHi v), .int .u64 (wLo v)]] w fun e w' => e = .returned (.bool (!decide (u = v))) ∧ Below w.heap.size w w' := by
  rw [← w_eq u v]
  cases e1 : (wHi u == wHi v) <;> cases e2 : (wLo u == wLo v)
  all_goals
    generalize wHi u = h1 at *
    generalize wLo u = l1 at *
    generalize wHi v = h2 at *
    generalize wLo v = l2 at *
    go_enter Tryz.func55, Tryz.ntmps55
    go_wp2
    go_ret
    exact ⟨rfl, ((Below.refl _ _).alloc (Nat.le_refl _) _).alloc (by simp) _⟩
theorem ltQ (n1 n2 : Int) (u v : Nat) (w : World) :
    Calls Tryz.prog 56 #[.agg #[.int .i64 n1, .int .u64 (wHi u), .int .u64 (wLo u)], .agg #[.int .i64 n2, .int .u64 (wHi v), .int .u64 (wLo v)]] w fun e w' => e = .returned (.bool (decide (u < v))) ∧ Below w.heap.size w w' := by
  have hlt := w_lt u v
  by_cases g1 : wHi u < wHi v
  · have e : decide (u < v) = true := by simp only [decide_eq_true_eq]; exact hlt.2 (.inl g1)
    rw [e]
    clear hlt e
    generalize wHi u = h1 at *
    generalize wLo u = l1 at *
    generalize wHi v = h2 at *
    generalize wLo v = l2 at *
    go_enter Tryz.func56, Tryz.ntmps56
    go_wp2
    go_ret
    exact ⟨rfl, ((Below.refl _ _).alloc (Nat.le_refl _) _).alloc (by simp) _⟩
  by_cases g2 : wHi u = wHi v
  · by_cases g3 : wLo u < wLo v
    · have e : decide (u < v) = true := by simp only [decide_eq_true_eq]; exact hlt.2 (.inr ⟨g2, g3⟩)
      rw [e, g2]
      clear hlt e g1 g2
      generalize wHi u = h1 at *
      generalize wLo u = l1 at *
      generalize wHi v = h2 at *
      generalize wLo v = l2 at *
      go_enter Tryz.func56, Tryz.ntmps56
      go_wp2
      go_ret
      exact ⟨rfl, ((Below.refl _ _).alloc (Nat.le_refl _) _).alloc (by simp) _⟩
    · have e : decide (u < v) = false := by simp only [decide_eq_false_iff_not]; intro h; have := hlt.1 h; omega
      rw [e, g2]
      clear hlt e g1 g2
      generalize wHi u = h1 at *
      generalize wLo u = l1 at *
      generalize wHi v = h2 at *
      generalize wLo v = l2 at *
      have g3' : decide (l1 < l2) = false := by simpa using g3
      clear g3
      go_enter Tryz.func56, Tryz.ntmps56
      go_wp2
      go_ret
      exact ⟨rfl, ((Below.refl _ _).alloc (Nat.le_refl _) _).alloc (by simp) _⟩
  · have e : decide (u < v) = false := by simp only [decide_eq_false_iff_not]; intro h; have := hlt.1 h; omega
    rw [e]
    have g1' : decide (wHi u < wHi v) = false := by simpa using g1
    have g2' : (wHi u == wHi v) = false := by simpa using g2
    clear hlt e g1 g2
    generalize wHi u = h1 at *
    generalize wLo u = l1 at *
    generalize wHi v = h2 at *
    generalize wLo v = l2 at *
    go_enter Tryz.func56, Tryz.ntmps56
    go_wp2
    go_ret
    exact ⟨rfl, ((Below.refl _ _).alloc (Nat.le_refl _) _).alloc (by simp) _⟩
theorem leQ (n1 n2 : Int) (u v : Nat) (w : World) :
    Calls Tryz.prog 57 #[.agg #[.int .i64 n1, .int .u64 (wHi u), .int .u64 (wLo u)], .agg #[.int .i64 n2, .int .u64 (wHi v), .int .u64 (wLo v)]] w fun e w' => e = .returned (.bool (decide (u ≤ v))) ∧ Below w.heap.size w w' := by
  have e : decide (u ≤ v) = !decide (v < u) := by by_cases h : v < u <;> simp [h] <;> omega
  rw [e]
  have H := hide (ltQ n2 n1 v u)
  generalize decide (v < u) = r at *
  generalize wHi u = h1 at *
  generalize wLo u = l1 at *
  generalize wHi v = h2 at *
  generalize wLo v = l2 at *
  go_enter Tryz.func57, Tryz.ntmps57
  go_wp2_with fail
  refine (H.out _).mono ?_
  rintro e w1 ⟨rfl, hb⟩
  go_wp2
  go_ret
  exact ⟨rfl, (((Below.refl _ _).alloc (Nat.le_refl _) _).alloc (by simp) _).trans (hb.mono (by simp; omega))⟩

theorem alike_any (a b : Int) (w : World) : Calls Tryz.prog 39 #[.int .i64 a, .int .i64 b] w fun e w' => e = .returned (.bool (a == b)) ∧ w' = w := by
  go_enter Tryz.func39, Tryz.ntmps39
  go_wp2
  go_ret
  exact ⟨rfl, rfl⟩
theorem anyWidths_any (a b : Int) (w : World) : Calls Tryz.prog 47 #[.int .i64 a, .int .i64 b] w fun e w' => e = .returned (.bool true) ∧ w' = w := by
  go_enter Tryz.func47, Tryz.ntmps47
  go_wp2
  go_ret
  exact ⟨rfl, rfl⟩
theorem together_any (a b : Int) (w : World) (a0 : 0 ≤ a) (a1 : a ≤ 128) (b0 : 0 ≤ b) (b1 : b ≤ 128) : Calls Tryz.prog 49 #[.int .i64 a, .int .i64 b] w fun e w' => e = .returned (.bool (decide (a + b ≤ 128))) ∧ w' = w := by
  go_enter Tryz.func49, Tryz.ntmps49
  go_wp2
  go_ret
  exact ⟨rfl, rfl⟩
theorem single_any (a b : Int) (w : World) : Calls Tryz.prog 58 #[.int .i64 a, .int .i64 b] w fun e w' => e = .returned (.bool (a == 1 && b == 1)) ∧ w' = w := by
  cases e1 : (a == 1) <;> cases e2 : (b == 1)
  all_goals
    go_enter Tryz.func58, Tryz.ntmps58
    go_wp2
    go_ret
    exact ⟨rfl, rfl⟩
end Go.Proofs.YtbbnjilajkllpaaGreatDoor
