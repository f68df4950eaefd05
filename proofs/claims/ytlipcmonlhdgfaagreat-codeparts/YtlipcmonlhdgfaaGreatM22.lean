/- Pieces of the proof: Doo, Mul. -/
import Derived.Test.YtlipcmonlhdgfaaGreatM21
import Derived.Test.YtlipcmonlhdgfaaGreatM20
/- bits.Do, for whatever stands in the table. -/
namespace Go.Proofs.YtlipcmonlhdgfaaGreat
open Go.RowKit

set_option maxRecDepth 100000 in
theorem zeroFn (w : World) : (zeroValue 175).run Tryz.prog w = .ok .nilFunc w := by first | exact Tryz.zeroValue175 w | rfl
theorem Tab.at_key {W : World} {B : Nat} {l : List (Int × Spec)} (h : Tab W B l) (k : Int) (s : Spec) (hin : ∃ x ∈ l, x.1 = k) (hs : ∀ x ∈ l, x.1 = k → x.2 = s) :
    ∃ v, (Instr.lookup 177 (.map (some B)) (.int .u8 k) true).run Tryz.prog W = .ok (.tuple #[v, .bool true]) W ∧ s W v := by
  rcases h.look Tryz.underlying177 Tryz.underlying57 (zeroFn W) k with ⟨x, hx, e, v, hrun, hv⟩ | ⟨hno, _⟩
  · exact ⟨v, hrun, by rw [← hs x hx e]; exact hv⟩
  · obtain ⟨x, hx, e⟩ := hin
    exact absurd e (hno x hx)
theorem Tab.no_key {W : World} {B : Nat} {l : List (Int × Spec)} (h : Tab W B l) (k : Int) (hno : ∀ x ∈ l, x.1 ≠ k) :
    (Instr.lookup 177 (.map (some B)) (.int .u8 k) true).run Tryz.prog W = .ok (.tuple #[.nilFunc, .bool false]) W := by
  rcases h.look Tryz.underlying177 Tryz.underlying57 (zeroFn W) k with ⟨x, hx, e, _⟩ | ⟨_, hrun⟩
  · exact absurd e (hno x hx)
  · exact hrun

theorem do_none (op n1 n2 n m : Int) (u v : Nat) (w : World) (hno : ∀ x ∈ tableL, x.1 ≠ op) :
    Calls Tryz.prog 111 #[.int .u8 op, .agg #[.int .i64 n1, .int .u64 (wHi u), .int .u64 (wLo u)], .agg #[.int .i64 n2, .int .u64 (wHi v), .int .u64 (wLo v)], .int .i64 n, .int .i64 m] w fun e w' => e = .returned (.tuple #[.agg #[.int .i64 0, .int .u64 0, .int .u64 0], .int .i64 1]) ∧ Below w.heap.size w w' := by
  generalize wHi u = h1 at *
  generalize wLo u = l1 at *
  generalize wHi v = h2 at *
  generalize wLo v = l2 at *
  go_enter Tryz.func111, Tryz.ntmps111
  go_wp2_with fail
  refine (operations_any _).mono ?_
  rintro e w1 ⟨rfl, hT, hb⟩
  have hrun := hT.no_key op hno
  obtain ⟨hc, hf⟩ := bcell hb
  have hz : w.heap.size + 2 < w1.heap.size := by have := hb.size; simp at this; omega
  have hb' := hb
  simp only [World.size_alloc] at hrun
  clear hno hT
  go_wp2
  refine bodyPost_ret (v := .tuple #[.agg #[.int .i64 0, .int .u64 0, .int .u64 0], .int .i64 1]) (by simp [results, Tryz.results111, go_sem, hc]) rfl ⟨rfl, ?_⟩
  exact (((((((Below.refl _ _).alloc (Nat.le_refl _) _).alloc (by simp) _).alloc (by simp; omega) _).trans (hb'.mono (by simp; omega))).setCell (by simp; omega) _).setCell (by simp; omega) _).setCell (by simp; omega) _

theorem do_bad (op n1 n2 n m : Int) (u v : Nat) (w : World) (s : Spec) (hu : u < top) (hok : okN n1 u = false) (hin : ∃ x ∈ tableL, x.1 = op) (hs : ∀ x ∈ tableL, x.1 = op → x.2 = s) (hshape : ∀ W fv, s W fv → ∃ k caps, fv = .func (Fn.func k) #[] caps) :
    Calls Tryz.prog 111 #[.int .u8 op, .agg #[.int .i64 n1, .int .u64 (wHi u), .int .u64 (wLo u)], .agg #[.int .i64 n2, .int .u64 (wHi v), .int .u64 (wLo v)], .int .i64 n, .int .i64 m] w fun e w' => e = .returned (.tuple #[.agg #[.int .i64 0, .int .u64 0, .int .u64 0], .int .i64 1]) ∧ Below w.heap.size w w' := by
  have HC : Hid (∀ W, Calls Tryz.prog 108 #[.agg #[.int .i64 n1, .int .u64 (wHi u), .int .u64 (wLo u)]] W fun e W' => e = .returned (.bool false) ∧ Below W.heap.size W W') := fun W => by
    have := checkV n1 u W hu; rw [show (mayBe n1 && decide (u < 2 ^ n1.toNat)) = false from hok] at this; exact this
  clear hok
  generalize wHi u = h1 at *
  generalize wLo u = l1 at *
  generalize wHi v = h2 at *
  generalize wLo v = l2 at *
  go_enter Tryz.func111, Tryz.ntmps111
  go_wp2_with fail
  refine (operations_any _).mono ?_
  rintro e w1 ⟨rfl, hT, hb⟩
  obtain ⟨fv, hrun, hsv⟩ := hT.at_key op s hin hs
  obtain ⟨k, caps, rfl⟩ := hshape _ _ hsv
  have hz1 : w.heap.size + 2 < w1.heap.size := by have := hb.size; simp at this; omega
  obtain ⟨hc, hf⟩ := bcell hb
  simp only [World.size_alloc] at hrun
  clear hin hs hT hsv hshape
  go_wp2_with fail
  refine (HC.out _).mono ?_
  rintro e w2 ⟨rfl, hb2⟩
  have hb' := hb.trans (hb2.mono hb.size)
  obtain ⟨hc', hf'⟩ := bcell hb'
  have hz : w.heap.size + 2 < w2.heap.size := by have := hb2.size; omega
  clear hc hf hrun
  go_wp2
  refine bodyPost_ret (v := .tuple #[.agg #[.int .i64 0, .int .u64 0, .int .u64 0], .int .i64 1]) (by simp [results, Tryz.results111, go_sem, hc']) rfl ⟨rfl, ?_⟩
  exact (((((((Below.refl _ _).alloc (Nat.le_refl _) _).alloc (by simp) _).alloc (by simp; omega) _).trans (hb'.mono (by simp; omega))).setCell (by simp; omega) _).setCell (by simp; omega) _).setCell (by simp; omega) _

theorem do_plain (op n1 n2 n m rn rh rl er : Int) (k u v : Nat) (w : World) (s : Spec) (hu : u < top) (hok : okN n1 u = true) (hin : ∃ x ∈ tableL, x.1 = op) (hs : ∀ x ∈ tableL, x.1 = op → x.2 = s) (hsk : s = plainT k)
    (he : ∀ args w, (callFunc k args).run Tryz.prog w = .ok (.enter k args) w)
    (HP : ∀ W, Calls Tryz.prog k #[.agg #[.int .i64 n1, .int .u64 (wHi u), .int .u64 (wLo u)], .agg #[.int .i64 n2, .int .u64 (wHi v), .int .u64 (wLo v)], .int .i64 n, .int .i64 m] W fun e W' => e = .returned (.tuple #[.agg #[.int .i64 rn, .int .u64 rh, .int .u64 rl], .int .i64 er]) ∧ Below W.heap.size W W') :
    Calls Tryz.prog 111 #[.int .u8 op, .agg #[.int .i64 n1, .int .u64 (wHi u), .int .u64 (wLo u)], .agg #[.int .i64 n2, .int .u64 (wHi v), .int .u64 (wLo v)], .int .i64 n, .int .i64 m] w fun e w' => e = .returned (.tuple #[.agg #[.int .i64 rn, .int .u64 rh, .int .u64 rl], .int .i64 er]) ∧ Below w.heap.size w w' := by
  have HC : Hid (∀ W, Calls Tryz.prog 108 #[.agg #[.int .i64 n1, .int .u64 (wHi u), .int .u64 (wLo u)]] W fun e W' => e = .returned (.bool true) ∧ Below W.heap.size W W') := fun W => by
    have := checkV n1 u W hu; rw [show (mayBe n1 && decide (u < 2 ^ n1.toNat)) = true from hok] at this; exact this
  clear hok
  have HP' := hide HP
  clear HP
  generalize wHi u = h1 at *
  generalize wLo u = l1 at *
  generalize wHi v = h2 at *
  generalize wLo v = l2 at *
  go_enter Tryz.func111, Tryz.ntmps111
  go_wp2_with fail
  refine (operations_any _).mono ?_
  rintro e w1 ⟨rfl, hT, hb⟩
  obtain ⟨fv, hrun, hsv⟩ := hT.at_key op s hin hs
  rw [hsk] at hsv
  have hfv : fv = .func (Fn.func k) #[] #[] := hsv
  subst hfv
  have hz1 : w.heap.size + 2 < w1.heap.size := by have := hb.size; simp at this; omega
  obtain ⟨hc, hf⟩ := bcell hb
  simp only [World.size_alloc] at hrun
  clear hin hs hT hsv hsk
  go_wp2_with fail
  refine (HC.out _).mono ?_
  rintro e w2 ⟨rfl, hb2⟩
  have hb1 := hb.trans (hb2.mono hb.size)
  obtain ⟨hc1, hf1⟩ := bcell hb1
  have hz2 : w.heap.size + 2 < w2.heap.size := by have := hb2.size; omega
  clear hc hf hrun
  go_wp2_with fail
  refine (HP'.out _).mono ?_
  rintro e w3 ⟨rfl, hb3⟩
  have hb' := hb1.trans (hb3.mono hb1.size)
  obtain ⟨hc', hf'⟩ := bcell hb'
  have hz : w.heap.size + 2 < w3.heap.size := by have := hb3.size; omega
  clear hc1 hf1
  go_wp2
  refine bodyPost_ret (v := .tuple #[.agg #[.int .i64 rn, .int .u64 rh, .int .u64 rl], .int .i64 er]) (by simp [results, Tryz.results111, go_sem, hc']) rfl ⟨rfl, ?_⟩
  exact (((((((Below.refl _ _).alloc (Nat.le_refl _) _).alloc (by simp) _).alloc (by simp; omega) _).trans (hb'.mono (by simp; omega))).setCell (by simp; omega) _).setCell (by simp; omega) _).setCell (by simp; omega) _

theorem do_pair (op n1 n2 n m rn rh rl er : Int) (f u v : Nat) (G : Spec) (w : World) (s : Spec) (hu : u < top) (hok : okN n1 u = true) (hin : ∃ x ∈ tableL, x.1 = op) (hs : ∀ x ∈ tableL, x.1 = op → x.2 = s) (hsk : s = pairT f G)
    (HP : ∀ W b1 b2 gv W0, W.cell? ⟨b1, 0, none⟩ = some (.func (Fn.func f) #[] #[]) → W.cell? ⟨b2, 0, none⟩ = some gv → G W0 gv → Below W0.heap.size W0 W →
      Calls Tryz.prog 187 #[.agg #[.int .i64 n1, .int .u64 (wHi u), .int .u64 (wLo u)], .agg #[.int .i64 n2, .int .u64 (wHi v), .int .u64 (wLo v)], .int .i64 n, .int .i64 m, .pointer (some ⟨b1, 0, none⟩), .pointer (some ⟨b2, 0, none⟩)] W fun e W' => e = .returned (.tuple #[.agg #[.int .i64 rn, .int .u64 rh, .int .u64 rl], .int .i64 er]) ∧ Below W.heap.size W W') :
    Calls Tryz.prog 111 #[.int .u8 op, .agg #[.int .i64 n1, .int .u64 (wHi u), .int .u64 (wLo u)], .agg #[.int .i64 n2, .int .u64 (wHi v), .int .u64 (wLo v)], .int .i64 n, .int .i64 m] w fun e w' => e = .returned (.tuple #[.agg #[.int .i64 rn, .int .u64 rh, .int .u64 rl], .int .i64 er]) ∧ Below w.heap.size w w' := by
  have HC : Hid (∀ W, Calls Tryz.prog 108 #[.agg #[.int .i64 n1, .int .u64 (wHi u), .int .u64 (wLo u)]] W fun e W' => e = .returned (.bool true) ∧ Below W.heap.size W W') := fun W => by
    have := checkV n1 u W hu; rw [show (mayBe n1 && decide (u < 2 ^ n1.toNat)) = true from hok] at this; exact this
  clear hok
  have HP' := hide HP
  clear HP
  generalize wHi u = h1 at *
  generalize wLo u = l1 at *
  generalize wHi v = h2 at *
  generalize wLo v = l2 at *
  go_enter Tryz.func111, Tryz.ntmps111
  go_wp2_with fail
  refine (operations_any _).mono ?_
  rintro e w1 ⟨rfl, hT, hb⟩
  obtain ⟨fv, hrun, hsv⟩ := hT.at_key op s hin hs
  rw [hsk] at hsv
  obtain ⟨gv, ⟨b1, b2, hfv, hx1, hx2⟩, hg⟩ := hsv
  subst hfv
  have hz1 : w.heap.size + 2 < w1.heap.size := by have := hb.size; simp at this; omega
  obtain ⟨hc, hf⟩ := bcell hb
  simp only [World.size_alloc] at hrun
  have HX1 := hide hx1; have HX2 := hide hx2; have HG := hide hg
  clear hin hs hT hsk hx1 hx2 hg
  go_wp2_with fail
  refine (HC.out _).mono ?_
  rintro e w2 ⟨rfl, hb2⟩
  have hb1 := hb.trans (hb2.mono hb.size)
  obtain ⟨hc1, hf1⟩ := bcell hb1
  have hz2 : w.heap.size + 2 < w2.heap.size := by have := hb2.size; omega
  clear hc hf hrun
  go_wp2_with fail
  refine (HP'.out _ b1 b2 gv w1 (cell_of_one ((hb2.block _ (lt_of_block HX1.out)).trans HX1.out)) (cell_of_one ((hb2.block _ (lt_of_block HX2.out)).trans HX2.out)) HG.out hb2).mono ?_
  rintro e w3 ⟨rfl, hb3⟩
  have hb' := hb1.trans (hb3.mono hb1.size)
  obtain ⟨hc', hf'⟩ := bcell hb'
  have hz : w.heap.size + 2 < w3.heap.size := by have := hb3.size; omega
  clear hc1 hf1
  go_wp2
  refine bodyPost_ret (v := .tuple #[.agg #[.int .i64 rn, .int .u64 rh, .int .u64 rl], .int .i64 er]) (by simp [results, Tryz.results111, go_sem, hc']) rfl ⟨rfl, ?_⟩
  exact (((((((Below.refl _ _).alloc (Nat.le_refl _) _).alloc (by simp) _).alloc (by simp; omega) _).trans (hb'.mono (by simp; omega))).setCell (by simp; omega) _).setCell (by simp; omega) _).setCell (by simp; omega) _

end Go.Proofs.YtlipcmonlhdgfaaGreat
/- The walks of math/bits.Mul64 and bits.mul. -/
namespace Go.Proofs.YtlipcmonlhdgfaaGreat
open Go.RowKit

theorem halfN (a : Nat) (ha : a < 18446744073709551616) : bits .and .u64 (a : Int) 4294967295 = ((a % 4294967296 : Nat) : Int) := by
  rw [show (4294967295 : Int) = ((4294967295 : Nat) : Int) from rfl, u64_and_nat a 4294967295 ha (by omega)]
  exact congrArg _ (Nat.and_two_pow_sub_one_eq_mod a 32)
theorem divN (a : Nat) : (a : Int) / 4294967296 = ((a / 4294967296 : Nat) : Int) := by omega
theorem wrapN (a : Nat) (ha : a < 18446744073709551616) : IntKind.u64.wrap (a : Int) = (a : Int) := by rw [IntKind.wrap_u64]; omega
theorem wrapM (a : Nat) : IntKind.u64.wrap (a : Int) = ((a % 18446744073709551616 : Nat) : Int) := by rw [IntKind.wrap_u64]; omega

set_option maxHeartbeats 1000000 in
theorem mul64_any (x y : Nat) (hx : x < 18446744073709551616) (hy : y < 18446744073709551616) (w : World) :
    Calls Tryz.prog 190 #[.int .u64 x, .int .u64 y] w fun e w' => e = .returned (.tuple #[.int .u64 ((x * y / 18446744073709551616 : Nat) : Int), .int .u64 ((x * y % 18446744073709551616 : Nat) : Int)]) ∧ w' = w := by
  obtain ⟨k1, k2, k3, k4⟩ := Lib.mul64_hi x y hx hy
  have j1 := Lib.half_mul_le (a := x / 4294967296) (b := y / 4294967296) (by omega) (by omega)
  have j2 := Lib.half_mul_le (a := x / 4294967296) (b := y % 4294967296) (by omega) (by omega)
  have j3 := Lib.half_mul_le (a := x % 4294967296) (b := y / 4294967296) (by omega) (by omega)
  go_enter Tryz.func190, Tryz.ntmps190
  go_wp2
  have q1 : x / 4294967296 * (y / 4294967296) < 18446744073709551616 := by omega
  have q2 : x / 4294967296 * (y % 4294967296) < 18446744073709551616 := by omega
  have q3 : x % 4294967296 * (y / 4294967296) < 18446744073709551616 := by omega
  have q4 : x / 4294967296 * (y / 4294967296) + (x / 4294967296 * (y % 4294967296) + x % 4294967296 * (y % 4294967296) / 4294967296) / 4294967296 < 18446744073709551616 := by omega
  have q5 : x / 4294967296 * (y / 4294967296) + (x / 4294967296 * (y % 4294967296) + x % 4294967296 * (y % 4294967296) / 4294967296) / 4294967296 + ((x / 4294967296 * (y % 4294967296) + x % 4294967296 * (y % 4294967296) / 4294967296) % 4294967296 + x % 4294967296 * (y / 4294967296)) / 4294967296 < 18446744073709551616 := by omega
  simp only [halfN x hx, halfN y hy, divN, ← Int.natCast_mul, ← Int.natCast_add, wrapN _ q1, wrapN _ q2, wrapN _ q3, wrapN _ k1, wrapN _ k2, halfN _ k2, wrapN _ k3, wrapN _ q4, wrapN _ q5, wrapM (x * y)]
  rw [k4]
  go_ret2
  exact ⟨rfl, rfl⟩
theorem mul64W (u v : Nat) (X Y : Int) (w : World) (hX : X = ((u % 18446744073709551616) * (v % 18446744073709551616) / 18446744073709551616 : Nat)) (hY : Y = ((u % 18446744073709551616) * (v % 18446744073709551616) % 18446744073709551616 : Nat)) :
    Calls Tryz.prog 190 #[.int .u64 (wLo u), .int .u64 (wLo v)] w fun e w' => e = .returned (.tuple #[.int .u64 X, .int .u64 Y]) ∧ w' = w := by
  subst hX hY
  exact mul64_any (u % 18446744073709551616) (v % 18446744073709551616) (Nat.mod_lt _ (by decide)) (Nat.mod_lt _ (by decide)) w

theorem mulV (n1 n2 : Int) (u v : Nat) (w : World) (m0 : 1 ≤ n1) (m1 : n1 ≤ 128) :
    Calls Tryz.prog 159 #[.agg #[.int .i64 n1, .int .u64 (wHi u), .int .u64 (wLo u)], .agg #[.int .i64 n2, .int .u64 (wHi v), .int .u64 (wLo v)]] w fun e w' => e = .returned (.agg #[.int .i64 n1, .int .u64 (wHi (u * v % 2 ^ n1.toNat)), .int .u64 (wLo (u * v % 2 ^ n1.toNat))]) ∧ Below w.heap.size w w' := by
  have hs := mod_top_lt (u * v)
  have HX := hide (mul_hi u v)
  have HY := hide (mul_lo u v)
  rw [← mod_top (u * v) (by omega : n1.toNat ≤ 128)]
  generalize (u * v) % top = s at HX HY hs ⊢
  generalize hrh : wHi (s % 2 ^ n1.toNat) = rh
  generalize hrl : wLo (s % 2 ^ n1.toNat) = rl
  have HRH := hide hrh; have HRL := hide hrl; have HS := hide hs
  clear hrh hrl hs
  have HM := hide (fun w => mul64W u v _ _ w rfl rfl)
  generalize (((u % 18446744073709551616) * (v % 18446744073709551616) / 18446744073709551616 : Nat) : Int) = X at HX HM
  generalize (((u % 18446744073709551616) * (v % 18446744073709551616) % 18446744073709551616 : Nat) : Int) = Y at HY HM
  generalize wHi u = h1 at *
  generalize wLo u = l1 at *
  generalize wHi v = h2 at *
  generalize wLo v = l2 at *
  go_enter Tryz.func159, Tryz.ntmps159
  go_wp2_with fail
  refine (HM.out _).mono ?_
  rintro e w1 ⟨rfl, hw⟩
  subst hw
  go_wp2_with fail
  refine (cutR n1 _ _ rh rl s _ m0 m1 HS.out HX.out HY.out HRH.out HRL.out).mono ?_
  rintro e w1 ⟨rfl, hb⟩
  obtain ⟨hc, hf⟩ := bcell hb
  have hz : w.heap.size + 2 < w1.heap.size := by have := hb.size; simp at this; omega
  go_wp2
  refine bodyPost_ret (v := .agg #[.int .i64 n1, .int .u64 rh, .int .u64 rl]) (by simp [results, Tryz.results159, go_sem, hc]) rfl ⟨rfl, ?_⟩
  exact (((((((Below.refl _ _).alloc (Nat.le_refl _) _).alloc (by simp) _).alloc (by simp; omega) _).trans (hb.mono (by simp; omega))).setCell (by simp; omega) _).setCell (by simp; omega) _).setCell (by simp; omega) _
end Go.Proofs.YtlipcmonlhdgfaaGreat
