/- The closure that asks about b and the widths, for whatever function it holds. -/
import Derived.Test.YtbbnjilajkllpaaGreatDoorUns
namespace Go.Proofs.YtbbnjilajkllpaaGreatDoor
open Go.RowKit

theorem past3' {w : World} {b : Nat} {F : Value} (h : w.cell? ⟨b, 0, none⟩ = some F) : ∀ o1 o2 o3 : Obj, (((w.alloc o1).alloc o2).alloc o3).cell? ⟨b, 0, none⟩ = some F := past3 h

theorem pair_bad (n1 n2 n m : Int) (u v b1 b2 : Nat) (w : World) (hv : v < top) (hok : okN n2 v = false) :
    Calls Tryz.prog 70 #[.agg #[.int .i64 n1, .int .u64 (wHi u), .int .u64 (wLo u)], .agg #[.int .i64 n2, .int .u64 (wHi v), .int .u64 (wLo v)], .int .i64 n, .int .i64 m, .pointer (some ⟨b1, 0, none⟩), .pointer (some ⟨b2, 0, none⟩)] w fun e w' => e = .returned (.tuple #[.agg #[.int .i64 0, .int .u64 0, .int .u64 0], .int .i64 1]) ∧ Below w.heap.size w w' := by
  have HC : Hid (∀ W, Calls Tryz.prog 7 #[.agg #[.int .i64 n2, .int .u64 (wHi v), .int .u64 (wLo v)]] W fun e W' => e = .returned (.bool false) ∧ Below W.heap.size W W') := fun W => by
    have := checkV n2 v W hv; rw [show (mayBe n2 && decide (v < 2 ^ n2.toNat)) = false from hok] at this; exact this
  clear hok
  generalize wHi u = h1 at *
  generalize wLo u = l1 at *
  generalize wHi v = h2 at *
  generalize wLo v = l2 at *
  go_enter Tryz.func70, Tryz.ntmps70
  go_wp2_with fail
  refine (HC.out _).mono ?_
  rintro e w1 ⟨rfl, hb⟩
  obtain ⟨hc, hf⟩ := bcell hb
  have hz : w.heap.size + 2 < w1.heap.size := by have := hb.size; simp at this; omega
  go_wp2
  refine bodyPost_ret (v := .tuple #[.agg #[.int .i64 0, .int .u64 0, .int .u64 0], .int .i64 1]) (by simp [results, Tryz.results70, go_sem, hc]) rfl ⟨rfl, ?_⟩
  exact (((((((Below.refl _ _).alloc (Nat.le_refl _) _).alloc (by simp) _).alloc (by simp; omega) _).trans (hb.mono (by simp; omega))).setCell (by simp; omega) _).setCell (by simp; omega) _).setCell (by simp; omega) _

theorem pair_wide (f : Nat) (n1 n2 n m : Int) (u v b1 b2 : Nat) (w : World) (hv : v < top) (hok : okN n2 v = true) (hcap : w.cell? ⟨b1, 0, none⟩ = some (.func (Fn.func f) #[] #[]))
    (he : ∀ args w, (callFunc f args).run Tryz.prog w = .ok (.enter f args) w) (HF : ∀ W, Calls Tryz.prog f #[.int .i64 n1, .int .i64 n2] W fun e W' => e = .returned (.bool false) ∧ W' = W) :
    Calls Tryz.prog 70 #[.agg #[.int .i64 n1, .int .u64 (wHi u), .int .u64 (wLo u)], .agg #[.int .i64 n2, .int .u64 (wHi v), .int .u64 (wLo v)], .int .i64 n, .int .i64 m, .pointer (some ⟨b1, 0, none⟩), .pointer (some ⟨b2, 0, none⟩)] w fun e w' => e = .returned (.tuple #[.agg #[.int .i64 0, .int .u64 0, .int .u64 0], .int .i64 7]) ∧ Below w.heap.size w w' := by
  have HC : Hid (∀ W, Calls Tryz.prog 7 #[.agg #[.int .i64 n2, .int .u64 (wHi v), .int .u64 (wLo v)]] W fun e W' => e = .returned (.bool true) ∧ Below W.heap.size W W') := fun W => by
    have := checkV n2 v W hv; rw [show (mayBe n2 && decide (v < 2 ^ n2.toNat)) = true from hok] at this; exact this
  have HF' := hide HF
  have hc3 := past3' hcap
  have hlt : b1 < w.heap.size := World.block_lt_of_cell? w _ hcap
  clear hok HF hcap
  generalize wHi u = h1 at *
  generalize wLo u = l1 at *
  generalize wHi v = h2 at *
  generalize wLo v = l2 at *
  go_enter Tryz.func70, Tryz.ntmps70
  go_wp2_with fail
  refine (HC.out _).mono ?_
  rintro e w1 ⟨rfl, hb⟩
  obtain ⟨hc, hf⟩ := bcell hb
  have hz : w.heap.size + 2 < w1.heap.size := by have := hb.size; simp at this; omega
  have hcw : w1.cell? ⟨b1, 0, none⟩ = some (.func (Fn.func f) #[] #[]) := (hb.cell (by simp; omega)).trans (hc3 _ _ _)
  go_wp2_with fail
  refine (HF'.out _).mono ?_
  rintro e w2 ⟨rfl, hw⟩
  subst hw
  go_wp2
  refine bodyPost_ret (v := .tuple #[.agg #[.int .i64 0, .int .u64 0, .int .u64 0], .int .i64 7]) (by simp [results, Tryz.results70, go_sem, hc]) rfl ⟨rfl, ?_⟩
  exact (((((((Below.refl _ _).alloc (Nat.le_refl _) _).alloc (by simp) _).alloc (by simp; omega) _).trans (hb.mono (by simp; omega))).setCell (by simp; omega) _).setCell (by simp; omega) _).setCell (by simp; omega) _

theorem pair_yes (f g : Nat) (n1 n2 n m rn rh rl : Int) (u v b1 b2 : Nat) (w : World) (hv : v < top) (hok : okN n2 v = true) (hcap : w.cell? ⟨b1, 0, none⟩ = some (.func (Fn.func f) #[] #[])) (hcap2 : w.cell? ⟨b2, 0, none⟩ = some (.func (Fn.func g) #[] #[]))
    (he : ∀ args w, (callFunc f args).run Tryz.prog w = .ok (.enter f args) w) (he2 : ∀ args w, (callFunc g args).run Tryz.prog w = .ok (.enter g args) w) (HF : ∀ W, Calls Tryz.prog f #[.int .i64 n1, .int .i64 n2] W fun e W' => e = .returned (.bool true) ∧ W' = W)
    (HG : ∀ W, Below w.heap.size w W → Calls Tryz.prog g #[.agg #[.int .i64 n1, .int .u64 (wHi u), .int .u64 (wLo u)], .agg #[.int .i64 n2, .int .u64 (wHi v), .int .u64 (wLo v)]] W fun e W' => e = .returned (.agg #[.int .i64 rn, .int .u64 rh, .int .u64 rl]) ∧ Below W.heap.size W W') :
    Calls Tryz.prog 70 #[.agg #[.int .i64 n1, .int .u64 (wHi u), .int .u64 (wLo u)], .agg #[.int .i64 n2, .int .u64 (wHi v), .int .u64 (wLo v)], .int .i64 n, .int .i64 m, .pointer (some ⟨b1, 0, none⟩), .pointer (some ⟨b2, 0, none⟩)] w fun e w' => e = .returned (.tuple #[.agg #[.int .i64 rn, .int .u64 rh, .int .u64 rl], .int .i64 0]) ∧ Below w.heap.size w w' := by
  have HC : Hid (∀ W, Calls Tryz.prog 7 #[.agg #[.int .i64 n2, .int .u64 (wHi v), .int .u64 (wLo v)]] W fun e W' => e = .returned (.bool true) ∧ Below W.heap.size W W') := fun W => by
    have := checkV n2 v W hv; rw [show (mayBe n2 && decide (v < 2 ^ n2.toNat)) = true from hok] at this; exact this
  have HF' := hide HF; have HG' := hide HG
  have hc3 := past3' hcap
  have hc4 := past3' hcap2
  have hlt : b1 < w.heap.size := World.block_lt_of_cell? w _ hcap
  have hlt2 : b2 < w.heap.size := World.block_lt_of_cell? w _ hcap2
  clear hok HF HG hcap hcap2
  generalize wHi u = h1 at *
  generalize wLo u = l1 at *
  generalize wHi v = h2 at *
  generalize wLo v = l2 at *
  go_enter Tryz.func70, Tryz.ntmps70
  go_wp2_with fail
  refine (HC.out _).mono ?_
  rintro e w1 ⟨rfl, hb⟩
  obtain ⟨hc, hf⟩ := bcell hb
  have hz : w.heap.size + 2 < w1.heap.size := by have := hb.size; simp at this; omega
  have hcw : w1.cell? ⟨b1, 0, none⟩ = some (.func (Fn.func f) #[] #[]) := (hb.cell (by simp; omega)).trans (hc3 _ _ _)
  have hcw2 : w1.cell? ⟨b2, 0, none⟩ = some (.func (Fn.func g) #[] #[]) := (hb.cell (by simp; omega)).trans (hc4 _ _ _)
  go_wp2_with fail
  refine (HF'.out _).mono ?_
  rintro e w2 ⟨rfl, hw⟩
  subst hw
  go_wp2_with fail
  have HB : Hid (Below w.heap.size w w2) := ((((Below.refl _ _).alloc (Nat.le_refl _) _).alloc (by simp) _).alloc (by simp; omega) _).trans (hb.mono (by simp; omega))
  refine (HG'.out _ HB.out).mono ?_
  rintro e w3 ⟨rfl, hb3⟩
  have hb' := hb.trans (hb3.mono hb.size)
  obtain ⟨hc', hf'⟩ := bcell hb'
  have hz' : w.heap.size + 2 < w3.heap.size := by have := hb3.size; omega
  clear hc hf hcw hcw2 hc3 hc4 hz
  go_wp2
  refine bodyPost_ret (v := .tuple #[.agg #[.int .i64 rn, .int .u64 rh, .int .u64 rl], .int .i64 0]) (by simp [results, Tryz.results70, go_sem, hc']) rfl ⟨rfl, ?_⟩
  exact (((((((Below.refl _ _).alloc (Nat.le_refl _) _).alloc (by simp) _).alloc (by simp; omega) _).trans (hb'.mono (by simp; omega))).setCell (by simp; omega) _).setCell (by simp; omega) _).setCell (by simp; omega) _

theorem pair_yes1 (f g : Nat) (p : Value) (n1 n2 n m rn rh rl : Int) (u v b1 b2 : Nat) (w : World) (hv : v < top) (hok : okN n2 v = true) (hcap : w.cell? ⟨b1, 0, none⟩ = some (.func (Fn.func f) #[] #[])) (hcap2 : w.cell? ⟨b2, 0, none⟩ = some (.func (Fn.func g) #[] #[p]))
    (he : ∀ args w, (callFunc f args).run Tryz.prog w = .ok (.enter f args) w) (he2 : ∀ args w, (callFunc g args).run Tryz.prog w = .ok (.enter g args) w) (HF : ∀ W, Calls Tryz.prog f #[.int .i64 n1, .int .i64 n2] W fun e W' => e = .returned (.bool true) ∧ W' = W)
    (HG : ∀ W, Below w.heap.size w W → Calls Tryz.prog g #[.agg #[.int .i64 n1, .int .u64 (wHi u), .int .u64 (wLo u)], .agg #[.int .i64 n2, .int .u64 (wHi v), .int .u64 (wLo v)], p] W fun e W' => e = .returned (.agg #[.int .i64 rn, .int .u64 rh, .int .u64 rl]) ∧ Below W.heap.size W W') :
    Calls Tryz.prog 70 #[.agg #[.int .i64 n1, .int .u64 (wHi u), .int .u64 (wLo u)], .agg #[.int .i64 n2, .int .u64 (wHi v), .int .u64 (wLo v)], .int .i64 n, .int .i64 m, .pointer (some ⟨b1, 0, none⟩), .pointer (some ⟨b2, 0, none⟩)] w fun e w' => e = .returned (.tuple #[.agg #[.int .i64 rn, .int .u64 rh, .int .u64 rl], .int .i64 0]) ∧ Below w.heap.size w w' := by
  have HC : Hid (∀ W, Calls Tryz.prog 7 #[.agg #[.int .i64 n2, .int .u64 (wHi v), .int .u64 (wLo v)]] W fun e W' => e = .returned (.bool true) ∧ Below W.heap.size W W') := fun W => by
    have := checkV n2 v W hv; rw [show (mayBe n2 && decide (v < 2 ^ n2.toNat)) = true from hok] at this; exact this
  have HF' := hide HF; have HG' := hide HG
  have hc3 := past3' hcap
  have hc4 := past3' hcap2
  have hlt : b1 < w.heap.size := World.block_lt_of_cell? w _ hcap
  have hlt2 : b2 < w.heap.size := World.block_lt_of_cell? w _ hcap2
  clear hok HF HG hcap hcap2
  generalize wHi u = h1 at *
  generalize wLo u = l1 at *
  generalize wHi v = h2 at *
  generalize wLo v = l2 at *
  go_enter Tryz.func70, Tryz.ntmps70
  go_wp2_with fail
  refine (HC.out _).mono ?_
  rintro e w1 ⟨rfl, hb⟩
  obtain ⟨hc, hf⟩ := bcell hb
  have hz : w.heap.size + 2 < w1.heap.size := by have := hb.size; simp at this; omega
  have hcw : w1.cell? ⟨b1, 0, none⟩ = some (.func (Fn.func f) #[] #[]) := (hb.cell (by simp; omega)).trans (hc3 _ _ _)
  have hcw2 : w1.cell? ⟨b2, 0, none⟩ = some (.func (Fn.func g) #[] #[p]) := (hb.cell (by simp; omega)).trans (hc4 _ _ _)
  go_wp2_with fail
  refine (HF'.out _).mono ?_
  rintro e w2 ⟨rfl, hw⟩
  subst hw
  go_wp2_with fail
  have HB : Hid (Below w.heap.size w w2) := ((((Below.refl _ _).alloc (Nat.le_refl _) _).alloc (by simp) _).alloc (by simp; omega) _).trans (hb.mono (by simp; omega))
  refine (HG'.out _ HB.out).mono ?_
  rintro e w3 ⟨rfl, hb3⟩
  have hb' := hb.trans (hb3.mono hb.size)
  obtain ⟨hc', hf'⟩ := bcell hb'
  have hz' : w.heap.size + 2 < w3.heap.size := by have := hb3.size; omega
  clear hc hf hcw hcw2 hc3 hc4 hz
  go_wp2
  refine bodyPost_ret (v := .tuple #[.agg #[.int .i64 rn, .int .u64 rh, .int .u64 rl], .int .i64 0]) (by simp [results, Tryz.results70, go_sem, hc']) rfl ⟨rfl, ?_⟩
  exact (((((((Below.refl _ _).alloc (Nat.le_refl _) _).alloc (by simp) _).alloc (by simp; omega) _).trans (hb'.mono (by simp; omega))).setCell (by simp; omega) _).setCell (by simp; omega) _).setCell (by simp; omega) _
end Go.Proofs.YtbbnjilajkllpaaGreatDoor
