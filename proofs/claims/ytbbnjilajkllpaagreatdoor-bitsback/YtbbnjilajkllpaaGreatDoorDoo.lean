/- bits.Do, for whatever stands in the table. -/
import Derived.Test.YtbbnjilajkllpaaGreatDoorPair
namespace Go.Proofs.YtbbnjilajkllpaaGreatDoor
open Go.RowKit

set_option maxRecDepth 100000 in
theorem zeroFn (w : World) : (zeroValue 54).run Tryz.prog w = .ok .nilFunc w := by first | exact Tryz.zeroValue54 w | rfl
theorem Tab.at_key {W : World} {B : Nat} {l : List (Int × Spec)} (h : Tab W B l) (k : Int) (s : Spec) (hin : ∃ x ∈ l, x.1 = k) (hs : ∀ x ∈ l, x.1 = k → x.2 = s) :
    ∃ v, (Instr.lookup 56 (.map (some B)) (.int .u8 k) true).run Tryz.prog W = .ok (.tuple #[v, .bool true]) W ∧ s W v := by
  rcases h.look Tryz.underlying56 Tryz.underlying43 (zeroFn W) k with ⟨x, hx, e, v, hrun, hv⟩ | ⟨hno, _⟩
  · exact ⟨v, hrun, by rw [← hs x hx e]; exact hv⟩
  · obtain ⟨x, hx, e⟩ := hin
    exact absurd e (hno x hx)
theorem Tab.no_key {W : World} {B : Nat} {l : List (Int × Spec)} (h : Tab W B l) (k : Int) (hno : ∀ x ∈ l, x.1 ≠ k) :
    (Instr.lookup 56 (.map (some B)) (.int .u8 k) true).run Tryz.prog W = .ok (.tuple #[.nilFunc, .bool false]) W := by
  rcases h.look Tryz.underlying56 Tryz.underlying43 (zeroFn W) k with ⟨x, hx, e, _⟩ | ⟨_, hrun⟩
  · exact absurd e (hno x hx)
  · exact hrun

theorem do_none (op n1 n2 n m : Int) (u v : Nat) (w : World) (hno : ∀ x ∈ tableL, x.1 ≠ op) :
    Calls Tryz.prog 14 #[.int .u8 op, .agg #[.int .i64 n1, .int .u64 (wHi u), .int .u64 (wLo u)], .agg #[.int .i64 n2, .int .u64 (wHi v), .int .u64 (wLo v)], .int .i64 n, .int .i64 m] w fun e w' => e = .returned (.tuple #[.agg #[.int .i64 0, .int .u64 0, .int .u64 0], .int .i64 1]) ∧ Below w.heap.size w w' := by
  generalize wHi u = h1 at *
  generalize wLo u = l1 at *
  generalize wHi v = h2 at *
  generalize wLo v = l2 at *
  go_enter Tryz.func14, Tryz.ntmps14
  go_wp2_with fail
  refine (operations_any _).mono ?_
  rintro e w1 ⟨rfl, hT, hb⟩
  have hrun := hT.no_key op hno
  obtain ⟨hc, hf⟩ := bcell hb
  have hz : w.heap.size + 2 < w1.heap.size := by have := hb.size; simp at this; omega
  have hb' := hb
  simp only [World.size_alloc] at hrun
  clear hno hT
  go_wp2
  refine bodyPost_ret (v := .tuple #[.agg #[.int .i64 0, .int .u64 0, .int .u64 0], .int .i64 1]) (by simp [results, Tryz.results14, go_sem, hc]) rfl ⟨rfl, ?_⟩
  exact (((((((Below.refl _ _).alloc (Nat.le_refl _) _).alloc (by simp) _).alloc (by simp; omega) _).trans (hb'.mono (by simp; omega))).setCell (by simp; omega) _).setCell (by simp; omega) _).setCell (by simp; omega) _

theorem do_bad (op n1 n2 n m : Int) (u v : Nat) (w : World) (s : Spec) (hu : u < top) (hok : okN n1 u = false) (hin : ∃ x ∈ tableL, x.1 = op) (hs : ∀ x ∈ tableL, x.1 = op → x.2 = s) (hshape : ∀ W fv, s W fv → ∃ k caps, fv = .func (Fn.func k) #[] caps) :
    Calls Tryz.prog 14 #[.int .u8 op, .agg #[.int .i64 n1, .int .u64 (wHi u), .int .u64 (wLo u)], .agg #[.int .i64 n2, .int .u64 (wHi v), .int .u64 (wLo v)], .int .i64 n, .int .i64 m] w fun e w' => e = .returned (.tuple #[.agg #[.int .i64 0, .int .u64 0, .int .u64 0], .int .i64 1]) ∧ Below w.heap.size w w' := by
  have HC : Hid (∀ W, Calls Tryz.prog 7 #[.agg #[.int .i64 n1, .int .u64 (wHi u), .int .u64 (wLo u)]] W fun e W' => e = .returned (.bool false) ∧ Below W.heap.size W W') := fun W => by
    have := checkV n1 u W hu; rw [show (mayBe n1 && decide (u < 2 ^ n1.toNat)) = false from hok] at this; exact this
  clear hok
  generalize wHi u = h1 at *
  generalize wLo u = l1 at *
  generalize wHi v = h2 at *
  generalize wLo v = l2 at *
  go_enter Tryz.func14, Tryz.ntmps14
  go_wp2_with fail
  refine (operations_any _).mono ?_
  rintro e w1 ⟨rfl, hT, hb⟩
  obtain ⟨fv, hrun, hsv⟩ := hT.at_key op s hin hs
  obtain ⟨k, caps, rfl⟩ := hshape _ _ hsv
  have hz1 : w.heap.size + 2 < w1.heap.size := by have := hb.size; simp at this; omega
  obtain ⟨hc, hf⟩ := bcell hb
  simp only [World.size_alloc] at hrun
  clear hin hs hT hsv hshape
  go_wp2_with fail
  refine (HC.out _).mono ?_
  rintro e w2 ⟨rfl, hb2⟩
  have hb' := hb.trans (hb2.mono hb.size)
  obtain ⟨hc', hf'⟩ := bcell hb'
  have hz : w.heap.size + 2 < w2.heap.size := by have := hb2.size; omega
  clear hc hf hrun
  go_wp2
  refine bodyPost_ret (v := .tuple #[.agg #[.int .i64 0, .int .u64 0, .int .u64 0], .int .i64 1]) (by simp [results, Tryz.results14, go_sem, hc']) rfl ⟨rfl, ?_⟩
  exact (((((((Below.refl _ _).alloc (Nat.le_refl _) _).alloc (by simp) _).alloc (by simp; omega) _).trans (hb'.mono (by simp; omega))).setCell (by simp; omega) _).setCell (by simp; omega) _).setCell (by simp; omega) _

theorem do_plain (op n1 n2 n m rn rh rl er : Int) (k u v : Nat) (w : World) (s : Spec) (hu : u < top) (hok : okN n1 u = true) (hin : ∃ x ∈ tableL, x.1 = op) (hs : ∀ x ∈ tableL, x.1 = op → x.2 = s) (hsk : s = plainT k)
    (he : ∀ args w, (callFunc k args).run Tryz.prog w = .ok (.enter k args) w)
    (HP : ∀ W, Calls Tryz.prog k #[.agg #[.int .i64 n1, .int .u64 (wHi u), .int .u64 (wLo u)], .agg #[.int .i64 n2, .int .u64 (wHi v), .int .u64 (wLo v)], .int .i64 n, .int .i64 m] W fun e W' => e = .returned (.tuple #[.agg #[.int .i64 rn, .int .u64 rh, .int .u64 rl], .int .i64 er]) ∧ Below W.heap.size W W') :
    Calls Tryz.prog 14 #[.int .u8 op, .agg #[.int .i64 n1, .int .u64 (wHi u), .int .u64 (wLo u)], .agg #[.int .i64 n2, .int .u64 (wHi v), .int .u64 (wLo v)], .int .i64 n, .int .i64 m] w fun e w' => e = .returned (.tuple #[.agg #[.int .i64 rn, .int .u64 rh, .int .u64 rl], .int .i64 er]) ∧ Below w.heap.size w w' := by
  have HC : Hid (∀ W, Calls Tryz.prog 7 #[.agg #[.int .i64 n1, .int .u64 (wHi u), .int .u64 (wLo u)]] W fun e W' => e = .returned (.bool true) ∧ Below W.heap.size W W') := fun W => by
    have := checkV n1 u W hu; rw [show (mayBe n1 && decide (u < 2 ^ n1.toNat)) = true from hok] at this; exact this
  clear hok
  have HP' := hide HP
  clear HP
  generalize wHi u = h1 at *
  generalize wLo u = l1 at *
  generalize wHi v = h2 at *
  generalize wLo v = l2 at *
  go_enter Tryz.func14, Tryz.ntmps14
  go_wp2_with fail
  refine (operations_any _).mono ?_
  rintro e w1 ⟨rfl, hT, hb⟩
  obtain ⟨fv, hrun, hsv⟩ := hT.at_key op s hin hs
  rw [hsk] at hsv
  have hfv : fv = .func (Fn.func k) #[] #[] := hsv
  subst hfv
  have hz1 : w.heap.size + 2 < w1.heap.size := by have := hb.size; simp at this; omega
  obtain ⟨hc, hf⟩ := bcell hb
  simp only [World.size_alloc] at hrun
  clear hin hs hT hsv hsk
  go_wp2_with fail
  refine (HC.out _).mono ?_
  rintro e w2 ⟨rfl, hb2⟩
  have hb1 := hb.trans (hb2.mono hb.size)
  obtain ⟨hc1, hf1⟩ := bcell hb1
  have hz2 : w.heap.size + 2 < w2.heap.size := by have := hb2.size; omega
  clear hc hf hrun
  go_wp2_with fail
  refine (HP'.out _).mono ?_
  rintro e w3 ⟨rfl, hb3⟩
  have hb' := hb1.trans (hb3.mono hb1.size)
  obtain ⟨hc', hf'⟩ := bcell hb'
  have hz : w.heap.size + 2 < w3.heap.size := by have := hb3.size; omega
  clear hc1 hf1
  go_wp2
  refine bodyPost_ret (v := .tuple #[.agg #[.int .i64 rn, .int .u64 rh, .int .u64 rl], .int .i64 er]) (by simp [results, Tryz.results14, go_sem, hc']) rfl ⟨rfl, ?_⟩
  exact (((((((Below.refl _ _).alloc (Nat.le_refl _) _).alloc (by simp) _).alloc (by simp; omega) _).trans (hb'.mono (by simp; omega))).setCell (by simp; omega) _).setCell (by simp; omega) _).setCell (by simp; omega) _

theorem do_pair (op n1 n2 n m rn rh rl er : Int) (f u v : Nat) (G : Spec) (w : World) (s : Spec) (hu : u < top) (hok : okN n1 u = true) (hin : ∃ x ∈ tableL, x.1 = op) (hs : ∀ x ∈ tableL, x.1 = op → x.2 = s) (hsk : s = pairT f G)
    (HP : ∀ W b1 b2 gv W0, W.cell? ⟨b1, 0, none⟩ = some (.func (Fn.func f) #[] #[]) → W.cell? ⟨b2, 0, none⟩ = some gv → G W0 gv → Below W0.heap.size W0 W →
      Calls Tryz.prog 70 #[.agg #[.int .i64 n1, .int .u64 (wHi u), .int .u64 (wLo u)], .agg #[.int .i64 n2, .int .u64 (wHi v), .int .u64 (wLo v)], .int .i64 n, .int .i64 m, .pointer (some ⟨b1, 0, none⟩), .pointer (some ⟨b2, 0, none⟩)] W fun e W' => e = .returned (.tuple #[.agg #[.int .i64 rn, .int .u64 rh, .int .u64 rl], .int .i64 er]) ∧ Below W.heap.size W W') :
    Calls Tryz.prog 14 #[.int .u8 op, .agg #[.int .i64 n1, .int .u64 (wHi u), .int .u64 (wLo u)], .agg #[.int .i64 n2, .int .u64 (wHi v), .int .u64 (wLo v)], .int .i64 n, .int .i64 m] w fun e w' => e = .returned (.tuple #[.agg #[.int .i64 rn, .int .u64 rh, .int .u64 rl], .int .i64 er]) ∧ Below w.heap.size w w' := by
  have HC : Hid (∀ W, Calls Tryz.prog 7 #[.agg #[.int .i64 n1, .int .u64 (wHi u), .int .u64 (wLo u)]] W fun e W' => e = .returned (.bool true) ∧ Below W.heap.size W W') := fun W => by
    have := checkV n1 u W hu; rw [show (mayBe n1 && decide (u < 2 ^ n1.toNat)) = true from hok] at this; exact this
  clear hok
  have HP' := hide HP
  clear HP
  generalize wHi u = h1 at *
  generalize wLo u = l1 at *
  generalize wHi v = h2 at *
  generalize wLo v = l2 at *
  go_enter Tryz.func14, Tryz.ntmps14
  go_wp2_with fail
  refine (operations_any _).mono ?_
  rintro e w1 ⟨rfl, hT, hb⟩
  obtain ⟨fv, hrun, hsv⟩ := hT.at_key op s hin hs
  rw [hsk] at hsv
  obtain ⟨gv, ⟨b1, b2, hfv, hx1, hx2⟩, hg⟩ := hsv
  subst hfv
  have hz1 : w.heap.size + 2 < w1.heap.size := by have := hb.size; simp at this; omega
  obtain ⟨hc, hf⟩ := bcell hb
  simp only [World.size_alloc] at hrun
  have HX1 := hide hx1; have HX2 := hide hx2; have HG := hide hg
  clear hin hs hT hsk hx1 hx2 hg
  go_wp2_with fail
  refine (HC.out _).mono ?_
  rintro e w2 ⟨rfl, hb2⟩
  have hb1 := hb.trans (hb2.mono hb.size)
  obtain ⟨hc1, hf1⟩ := bcell hb1
  have hz2 : w.heap.size + 2 < w2.heap.size := by have := hb2.size; omega
  clear hc hf hrun
  go_wp2_with fail
  refine (HP'.out _ b1 b2 gv w1 (cell_of_one ((hb2.block _ (lt_of_block HX1.out)).trans HX1.out)) (cell_of_one ((hb2.block _ (lt_of_block HX2.out)).trans HX2.out)) HG.out hb2).mono ?_
  rintro e w3 ⟨rfl, hb3⟩
  have hb' := hb1.trans (hb3.mono hb1.size)
  obtain ⟨hc', hf'⟩ := bcell hb'
  have hz : w.heap.size + 2 < w3.heap.size := by have := hb3.size; omega
  clear hc1 hf1
  go_wp2
  refine bodyPost_ret (v := .tuple #[.agg #[.int .i64 rn, .int .u64 rh, .int .u64 rl], .int .i64 er]) (by simp [results, Tryz.results14, go_sem, hc']) rfl ⟨rfl, ?_⟩
  exact (((((((Below.refl _ _).alloc (Nat.le_refl _) _).alloc (by simp) _).alloc (by simp; omega) _).trans (hb'.mono (by simp; omega))).setCell (by simp; omega) _).setCell (by simp; omega) _).setCell (by simp; omega) _

end Go.Proofs.YtbbnjilajkllpaaGreatDoor
