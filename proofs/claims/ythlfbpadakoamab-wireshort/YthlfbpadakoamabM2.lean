/- Pieces of the proof: Vals, Words, WOf, WCk, WBs, WB, ShfMath, WSh. -/
import Derived.Test.YthlfbpadakoamabM1
import Derived.Lib.Mul64
import Derived.Test.YthlfbpadakoamabProg
import Derived.WalkKit
import Derived.WalkSpells
import Derived.WalkLawsBesides
import Derived.Laws.Pointers
import Derived.Laws.ResultCell
import Derived.Deep.QuietTactic
import Derived.BigQuiet
import Derived.Deep.RegionHeld3
import Derived.Laws.CopyOwn
import Derived.Laws.BytesArg
/- Numbers by their value: plain facts. -/
namespace Go.Proofs.Ythlfbpadakoamab

def wHi (v : Nat) : Int := ((v / 18446744073709551616 : Nat) : Int)
def wLo (v : Nat) : Int := ((v % 18446744073709551616 : Nat) : Int)
def top : Nat := 340282366920938463463374607431768211456
theorem top_eq : top = 2 ^ 128 := by decide
theorem wHi_bd {v : Nat} (h : v < top) : 0 ≤ wHi v ∧ wHi v < 18446744073709551616 := by
  unfold wHi top at *; omega
theorem wLo_bd (v : Nat) : 0 ≤ wLo v ∧ wLo v < 18446744073709551616 := by
  unfold wLo; omega
theorem w_join (v : Nat) : wHi v * 18446744073709551616 + wLo v = v := by
  unfold wHi wLo; omega
theorem words_of {hi lo : Int} (a0 : 0 ≤ hi) (a1 : hi < 18446744073709551616) (b0 : 0 ≤ lo) (b1 : lo < 18446744073709551616) : ∃ v, v < top ∧ hi = wHi v ∧ lo = wLo v := by
  refine ⟨(hi * 18446744073709551616 + lo).toNat, ?_, ?_, ?_⟩
  · unfold top; omega
  · unfold wHi; omega
  · unfold wLo; omega
theorem w_inj {u v : Nat} (h : wHi u = wHi v) (k : wLo u = wLo v) : u = v := by
  have h1 := w_join u; have h2 := w_join v; rw [h, k] at h1; omega
theorem w_eq (u v : Nat) : (wHi u == wHi v && wLo u == wLo v) = decide (u = v) := by
  by_cases h : u = v
  · subst h; simp
  · simp only [h, decide_false]
    cases e1 : (wHi u == wHi v)
    · rfl
    · cases e2 : (wLo u == wLo v)
      · rfl
      · exact absurd (w_inj (by simpa using e1) (by simpa using e2)) h
theorem w_lt (u v : Nat) : u < v ↔ wHi u < wHi v ∨ wHi u = wHi v ∧ wLo u < wLo v := by
  have h1 := w_join u; have h2 := w_join v; have h3 := wLo_bd u; have h4 := wLo_bd v
  constructor
  · intro h
    by_cases e : wHi u < wHi v
    · exact .inl e
    · refine .inr ⟨?_, ?_⟩ <;> omega
  · intro h; omega
theorem w_zero : wHi 0 = 0 ∧ wLo 0 = 0 := ⟨rfl, rfl⟩
theorem w_of_lo {v : Nat} (h : v < 18446744073709551616) : wHi v = 0 ∧ wLo v = v := by
  unfold wHi wLo; omega

theorem pow_split {n : Nat} (h : 64 ≤ n) : (2 : Nat) ^ n = 18446744073709551616 * 2 ^ (n - 64) := by
  have : (2 : Nat) ^ n = 2 ^ 64 * 2 ^ (n - 64) := by rw [← Nat.pow_add]; congr 1; omega
  rw [this]
theorem pow_le_top {n : Nat} (h : n ≤ 128) : (2 : Nat) ^ n ≤ top := by rw [top_eq]; exact Nat.pow_le_pow_right (by decide) h
theorem mod_lt_top {v n : Nat} (h : n ≤ 128) : v % 2 ^ n < top := Nat.lt_of_lt_of_le (Nat.mod_lt _ (Nat.pow_pos (by decide))) (pow_le_top h)

theorem cut_lo (n : Int) (v : Nat) (h0 : 1 ≤ n) : cLo n (wLo v) = wLo (v % 2 ^ n.toNat) := by
  obtain ⟨n, rfl⟩ := Int.eq_ofNat_of_zero_le (by omega : 0 ≤ n)
  rw [Int.toNat_natCast]
  unfold cLo wLo
  by_cases h : (n : Int) ≤ 64
  · rw [if_pos h, Int.toNat_natCast]
    have hd : (2 : Nat) ^ n ∣ 18446744073709551616 := by
      have : (18446744073709551616 : Nat) = 2 ^ 64 := by decide
      rw [this]; exact Nat.pow_dvd_pow 2 (by omega)
    have hlt : v % 2 ^ n < 18446744073709551616 := by
      have h1 := Nat.mod_lt v (Nat.pow_pos (n := n) (by decide : 0 < 2))
      have h2 := Nat.le_of_dvd (by decide) hd
      omega
    rw [Nat.mod_eq_of_lt hlt]
    have e : ((2 : Int) ^ n) = ((2 ^ n : Nat) : Int) := by simp
    rw [e, ← Int.natCast_emod, Nat.mod_mod_of_dvd _ hd]
  · rw [if_neg h]
    have hd : (18446744073709551616 : Nat) ∣ 2 ^ n := ⟨_, pow_split (by omega)⟩
    rw [Nat.mod_mod_of_dvd _ hd]
theorem cut_hi (n : Int) (v : Nat) (h0 : 1 ≤ n) : cHi n (wHi v) = wHi (v % 2 ^ n.toNat) := by
  obtain ⟨n, rfl⟩ := Int.eq_ofNat_of_zero_le (by omega : 0 ≤ n)
  rw [Int.toNat_natCast]
  unfold cHi wHi
  by_cases h : (n : Int) ≤ 64
  · rw [if_pos h]
    have h1 := Nat.mod_lt v (Nat.pow_pos (n := n) (by decide : 0 < 2))
    have h2 : (2 : Nat) ^ n ≤ 2 ^ 64 := Nat.pow_le_pow_right (by decide) (by omega)
    rw [Nat.div_eq_of_lt (by omega)]; rfl
  · rw [if_neg h, show ((n : Int) - 64).toNat = n - 64 by omega]
    have e : ((2 : Int) ^ (n - 64)) = ((2 ^ (n - 64) : Nat) : Int) := by simp
    rw [e, ← Int.natCast_emod, pow_split (n := n) (by omega), Nat.mod_mul_right_div_self]
theorem ok_iff (n : Int) (v : Nat) (h0 : 1 ≤ n) : (cHi n (wHi v) == wHi v && cLo n (wLo v) == wLo v) = decide (v < 2 ^ n.toNat) := by
  rw [cut_hi n v h0, cut_lo n v h0, w_eq]
  by_cases h : v < 2 ^ n.toNat
  · simp [h, Nat.mod_eq_of_lt h]
  · have := Nat.mod_lt v (Nat.pow_pos (n := n.toNat) (by decide : 0 < 2))
    simp only [h, decide_false, decide_eq_false_iff_not]
    omega

theorem mod_top (v : Nat) {n : Nat} (h : n ≤ 128) : v % top % 2 ^ n = v % 2 ^ n := by
  rw [top_eq]; exact Nat.mod_mod_of_dvd _ (Nat.pow_dvd_pow 2 h)
theorem mod_top_lt (v : Nat) : v % top < top := Nat.mod_lt _ (by decide)
theorem wHi_nat (v : Nat) : wHi v = ((v / 2 ^ 64 : Nat) : Int) := rfl
theorem wLo_nat (v : Nat) : wLo v = ((v % 2 ^ 64 : Nat) : Int) := rfl
theorem part_lt {v : Nat} (h : v < top) : v / 2 ^ 64 < 18446744073709551616 ∧ v % 2 ^ 64 < 18446744073709551616 := by unfold top at h; omega

/- and, or, xor -/
theorem and_hi {u v : Nat} (hu : u < top) (hv : v < top) : bits .and .u64 (wHi u) (wHi v) = wHi (u &&& v) := by
  rw [wHi_nat, wHi_nat, wHi_nat, u64_and_nat _ _ (part_lt hu).1 (part_lt hv).1]
  congr 1
  refine Nat.eq_of_testBit_eq fun j => ?_
  simp only [Nat.testBit_and, Nat.testBit_div_two_pow]
theorem and_lo {u v : Nat} (hu : u < top) (hv : v < top) : bits .and .u64 (wLo u) (wLo v) = wLo (u &&& v) := by
  rw [wLo_nat, wLo_nat, wLo_nat, u64_and_nat _ _ (part_lt hu).2 (part_lt hv).2]
  congr 1
  refine Nat.eq_of_testBit_eq fun j => ?_
  simp only [Nat.testBit_and, Nat.testBit_mod_two_pow]
  by_cases h : j < 64 <;> simp [h]
theorem or_hi {u v : Nat} (hu : u < top) (hv : v < top) : bits .or .u64 (wHi u) (wHi v) = wHi (u ||| v) := by
  rw [wHi_nat, wHi_nat, wHi_nat, u64_or_nat _ _ (part_lt hu).1 (part_lt hv).1]
  congr 1
  refine Nat.eq_of_testBit_eq fun j => ?_
  simp only [Nat.testBit_or, Nat.testBit_div_two_pow]
theorem or_lo {u v : Nat} (hu : u < top) (hv : v < top) : bits .or .u64 (wLo u) (wLo v) = wLo (u ||| v) := by
  rw [wLo_nat, wLo_nat, wLo_nat, u64_or_nat _ _ (part_lt hu).2 (part_lt hv).2]
  congr 1
  refine Nat.eq_of_testBit_eq fun j => ?_
  simp only [Nat.testBit_or, Nat.testBit_mod_two_pow]
  by_cases h : j < 64 <;> simp [h]
theorem xor_hi {u v : Nat} (hu : u < top) (hv : v < top) : bits .xor .u64 (wHi u) (wHi v) = wHi (u ^^^ v) := by
  rw [wHi_nat, wHi_nat, wHi_nat, u64_xor_nat _ _ (part_lt hu).1 (part_lt hv).1]
  congr 1
  refine Nat.eq_of_testBit_eq fun j => ?_
  simp only [Nat.testBit_xor, Nat.testBit_div_two_pow]
theorem xor_lo {u v : Nat} (hu : u < top) (hv : v < top) : bits .xor .u64 (wLo u) (wLo v) = wLo (u ^^^ v) := by
  rw [wLo_nat, wLo_nat, wLo_nat, u64_xor_nat _ _ (part_lt hu).2 (part_lt hv).2]
  congr 1
  refine Nat.eq_of_testBit_eq fun j => ?_
  simp only [Nat.testBit_xor, Nat.testBit_mod_two_pow]
  by_cases h : j < 64 <;> simp [h]

/- add, sub, mul -/
theorem add_hi (u v : Nat) : IntKind.u64.wrap (IntKind.u64.wrap (wHi u + wHi v) + (wLo u + wLo v) / 18446744073709551616) = wHi ((u + v) % top) := by
  rw [IntKind.wrap_u64, IntKind.wrap_u64]; unfold wHi wLo top; omega
theorem add_lo (u v : Nat) : (wLo u + wLo v) % 18446744073709551616 = wLo ((u + v) % top) := by
  unfold wLo top; omega
def bor (x y : Int) : Int := if x < y then 1 else 0
theorem sub_hi {u v : Nat} (hv : v < top) : IntKind.u64.wrap (IntKind.u64.wrap (wHi u - wHi v) - bor (wLo u) (wLo v)) = wHi ((u + top - v) % top) := by
  rw [IntKind.wrap_u64, IntKind.wrap_u64]; unfold bor wHi wLo top at *; split <;> omega
theorem sub_lo {u v : Nat} (hv : v < top) : (wLo u - wLo v) % 18446744073709551616 = wLo ((u + top - v) % top) := by
  unfold wLo top at *; omega
theorem mul_split (u v : Nat) : (u * v) % top = ((u % 2 ^ 64) * (v % 2 ^ 64) + ((u / 2 ^ 64) * (v % 2 ^ 64) + (u % 2 ^ 64) * (v / 2 ^ 64)) * 2 ^ 64) % top := by
  have e : u * v = (u % 2 ^ 64) * (v % 2 ^ 64) + ((u / 2 ^ 64) * (v % 2 ^ 64) + (u % 2 ^ 64) * (v / 2 ^ 64)) * 2 ^ 64 + top * ((u / 2 ^ 64) * (v / 2 ^ 64)) := by
    have h := Lib.split_mul (u / 2 ^ 64) (u % 2 ^ 64) (v / 2 ^ 64) (v % 2 ^ 64) (2 ^ 64)
    rw [Nat.div_add_mod' u (2 ^ 64), Nat.div_add_mod' v (2 ^ 64)] at h
    rw [h]
    have t : (2 : Nat) ^ 64 * 2 ^ 64 = top := by decide
    rw [t, Nat.mul_comm (u / 2 ^ 64 * (v / 2 ^ 64)) top]
    omega
  rw [e, Nat.add_mul_mod_self_left]
theorem mul_hi (u v : Nat) : IntKind.u64.wrap (IntKind.u64.wrap (((u % 18446744073709551616) * (v % 18446744073709551616) / 18446744073709551616 : Nat) + IntKind.u64.wrap (wHi u * wLo v)) + IntKind.u64.wrap (wLo u * wHi v)) = wHi ((u * v) % top) := by
  rw [mul_split, IntKind.wrap_u64, IntKind.wrap_u64, IntKind.wrap_u64, IntKind.wrap_u64]
  have e1 : wHi u * wLo v = (((u / 2 ^ 64) * (v % 2 ^ 64) : Nat) : Int) := by rw [wHi_nat, wLo_nat, Int.natCast_mul]
  have e2 : wLo u * wHi v = (((u % 2 ^ 64) * (v / 2 ^ 64) : Nat) : Int) := by rw [wHi_nat, wLo_nat, Int.natCast_mul]
  rw [e1, e2, wHi_nat]
  have e3 : (u % 18446744073709551616) * (v % 18446744073709551616) = (u % 2 ^ 64) * (v % 2 ^ 64) := rfl
  rw [e3]
  generalize (u % 2 ^ 64) * (v % 2 ^ 64) = p
  generalize (u / 2 ^ 64) * (v % 2 ^ 64) = q
  generalize (u % 2 ^ 64) * (v / 2 ^ 64) = r
  unfold top; omega
theorem mul_lo (u v : Nat) : (((u % 18446744073709551616) * (v % 18446744073709551616) % 18446744073709551616 : Nat) : Int) = wLo ((u * v) % top) := by
  rw [mul_split, wLo_nat]
  have e3 : (u % 18446744073709551616) * (v % 18446744073709551616) = (u % 2 ^ 64) * (v % 2 ^ 64) := rfl
  rw [e3]
  generalize (u % 2 ^ 64) * (v % 2 ^ 64) = p
  generalize ((u / 2 ^ 64) * (v % 2 ^ 64) + (u % 2 ^ 64) * (v / 2 ^ 64)) = q
  unfold top; omega
end Go.Proofs.Ythlfbpadakoamab
/- The walks of package bits' small functions: widthMayBe, lowest, cut, Of. -/
namespace Go.Proofs.Ythlfbpadakoamab
open Go.RowKit

theorem ret_int {k : IntKind} {a b : Int} (h : a = b) : Ending.returned (.int k a) = .returned (.int k b) := by rw [h]

def mayBe (n : Int) : Bool := decide (1 ≤ n) && decide (n ≤ 128)
theorem mayBe_yes {n : Int} (h1 : 1 ≤ n) (h2 : n ≤ 128) : mayBe n = true := by simp [mayBe, h1, h2]
theorem mayBe_no {n : Int} (h : ¬ (1 ≤ n ∧ n ≤ 128)) : mayBe n = false := by simp [mayBe]; omega

theorem widthMayBe_any (n : Int) (w : World) :
    Calls Try.prog 83 #[.int .i64 n] w fun e w' => e = .returned (.bool (mayBe n)) ∧ w' = w := by
  by_cases h1 : 1 ≤ n
  · by_cases h2 : n ≤ 128
    · go_enter Try.func83, Try.ntmps83
      go_wp2
      go_ret
      exact ⟨by rw [mayBe_yes h1 h2]; simp, rfl⟩
    · go_enter Try.func83, Try.ntmps83
      go_wp2
      go_ret
      exact ⟨by rw [mayBe_no (by omega)]; simp, rfl⟩
  · go_enter Try.func83, Try.ntmps83
    go_wp2
    go_ret
    exact ⟨by rw [mayBe_no (by omega)]; simp, rfl⟩

theorem lowest_any (n : Int) (w : World) (h0 : 0 ≤ n) (h1 : n ≤ 64) :
    Calls Try.prog 99 #[.int .i64 n] w fun e w' => e = .returned (.int .u64 (low n)) ∧ w' = w := by
  have H : Hid (IntKind.u64.wrap (IntKind.u64.wrap (2 ^ n.toNat) - 1) = low n) := wrap_low n h0 h1
  go_enter Try.func99, Try.ntmps99
  go_wp2
  go_ret
  exact ⟨ret_int H.out, rfl⟩

def bitsV (n hi lo : Int) : Value := .agg #[.int .i64 n, .int .u64 hi, .int .u64 lo]
theorem ret_bits {n a b c d : Int} (h : a = c) (h2 : b = d) : Ending.returned (.agg #[.int .i64 n, .int .u64 a, .int .u64 b]) = .returned (.agg #[.int .i64 n, .int .u64 c, .int .u64 d]) := by rw [h, h2]

theorem cut_any (n hi lo : Int) (w : World) (h0 : 1 ≤ n) (h1 : n ≤ 128) (a0 : 0 ≤ hi) (a1 : hi < 18446744073709551616) (b0 : 0 ≤ lo) (b1 : lo < 18446744073709551616) :
    Calls Try.prog 94 #[.int .i64 n, .int .u64 hi, .int .u64 lo] w fun e w' =>
      e = .returned (.agg #[.int .i64 n, .int .u64 (cHi n hi), .int .u64 (cLo n lo)]) ∧ Below w.heap.size w w' := by
  by_cases h : n ≤ 64
  · go_enter Try.func94, Try.ntmps94
    go_wp2_with (go_at_call 99; refine (lowest_any _ _ (by omega) (by omega)).mono ?_; rintro e w' ⟨rfl, rfl⟩)
    refine bodyPost_ret (v := .agg #[.int .i64 n, .int .u64 0, .int .u64 (bits .and .u64 lo (low n))]) (by simp [results, Try.results94, go_sem]) rfl ⟨ret_bits (cHi_le h).symm (by rw [and_low n lo (by omega) h b0 b1, cLo_le h]), ?_⟩
    exact (Below.refl _ _).alloc (Nat.le_refl _) _
  · go_enter Try.func94, Try.ntmps94
    go_wp2_with (go_at_call 99; refine (lowest_any _ _ (by omega) (by omega)).mono ?_; rintro e w' ⟨rfl, rfl⟩)
    refine bodyPost_ret (v := .agg #[.int .i64 n, .int .u64 (bits .and .u64 hi (low (n - 64))), .int .u64 lo]) (by simp [results, Try.results94, go_sem]) rfl ⟨ret_bits (by rw [and_low (n - 64) hi (by omega) (by omega) a0 a1, cHi_gt (by omega)]) (cLo_gt (by omega)).symm, ?_⟩
    exact (Below.refl _ _).alloc (Nat.le_refl _) _
end Go.Proofs.Ythlfbpadakoamab
/- The walk of bits.Check. -/
namespace Go.Proofs.Ythlfbpadakoamab
open Go.RowKit

theorem hold3 {B : Nat} {w0 W w1 : World} {b : Nat} {x y z : Value} {o1 o2 o3 : Nat} (hb : Below W.heap.size W w1) (hS : W.cell? ⟨b, o1, none⟩ = some x ∧ W.cell? ⟨b, o2, none⟩ = some y ∧ W.cell? ⟨b, o3, none⟩ = some z ∧ Below B w0 W) (hB : B ≤ w0.heap.size) :
    w1.cell? ⟨b, o1, none⟩ = some x ∧ w1.cell? ⟨b, o2, none⟩ = some y ∧ w1.cell? ⟨b, o3, none⟩ = some z ∧ Below B w0 w1 := by
  obtain ⟨h1, h2, h3, h⟩ := hS
  have hlt : b < W.heap.size := by have := World.block_lt_of_cell? W _ h1; exact this
  have hz := h.size
  exact ⟨(hb.cell hlt).trans h1, (hb.cell hlt).trans h2, (hb.cell hlt).trans h3, h.trans (hb.mono (by omega))⟩

def okB (n hi lo : Int) : Bool := mayBe n && (cHi n hi == hi && cLo n lo == lo)

set_option maxHeartbeats 1000000 in
theorem check_may (n hi lo : Int) (w : World) (h0 : 1 ≤ n) (h1 : n ≤ 128) (a0 : 0 ≤ hi) (a1 : hi < 18446744073709551616) (b0 : 0 ≤ lo) (b1 : lo < 18446744073709551616) :
    Calls Try.prog 86 #[.agg #[.int .i64 n, .int .u64 hi, .int .u64 lo]] w fun e w' =>
      e = .returned (.bool (cHi n hi == hi && cLo n lo == lo)) ∧ Below w.heap.size w w' := by
  have hm := mayBe_yes h0 h1
  cases e1 : (cHi n hi == hi) <;> cases e2 : (cLo n lo == lo)
  all_goals
    go_enter Try.func86, Try.ntmps86
    go_wp2
    go_region_held3 (fun w' => w'.cell? ⟨w.heap.size, 0, none⟩ = some (.int .i64 n) ∧ w'.cell? ⟨w.heap.size, 1, none⟩ = some (.int .u64 hi) ∧ w'.cell? ⟨w.heap.size, 2, none⟩ = some (.int .u64 lo) ∧ Below (w.heap.size + 1) (w.alloc (.cells #[.int .i64 n, .int .u64 hi, .int .u64 lo] 35)) w') (first | exact hold3 (by assumption) (by assumption) (by simp) | (refine ⟨?_, ?_, ?_, ?_⟩ <;> first | exact (Below.refl _ _).drew | simp [go_sem]))
      (first
        | (go_at_call 83; refine (widthMayBe_any _ _).mono ?_; rintro e w' ⟨rfl, rfl⟩)
        | (go_at_call 94; refine (cut_any n hi lo _ h0 h1 a0 a1 b0 b1).mono ?_; rintro e w1 ⟨rfl, hb⟩))
  all_goals (go_wp2; go_ret; exact ⟨rfl, (((Below.refl _ _).alloc (Nat.le_refl _) _).drew).trans (hb.mono (by simp))⟩)

end Go.Proofs.Ythlfbpadakoamab
namespace Go.Proofs.Ythlfbpadakoamab
open Go.RowKit
theorem widthMayBe_no (n : Int) (w : World) (h : mayBe n = false) :
    Calls Try.prog 83 #[.int .i64 n] w fun e w' => e = .returned (.bool false) ∧ w' = w := by
  have := widthMayBe_any n w
  rw [h] at this
  exact this

theorem check_not (n hi lo : Int) (w : World) (h : ¬ (1 ≤ n ∧ n ≤ 128)) :
    Calls Try.prog 86 #[.agg #[.int .i64 n, .int .u64 hi, .int .u64 lo]] w fun e w' =>
      e = .returned (.bool false) ∧ Below w.heap.size w w' := by
  have hm := mayBe_no h
  clear h
  go_enter Try.func86, Try.ntmps86
  go_wp2
  go_quiet ((go_at_call 83; exact Calls.quiet_of_same (widthMayBe_no _ _ hm)))
  go_wp2
  go_ret
  exact ⟨rfl, below_drewN ((Below.refl _ _).alloc (Nat.le_refl _) _) _⟩

theorem check_any (n hi lo : Int) (w : World) (a0 : 0 ≤ hi) (a1 : hi < 18446744073709551616) (b0 : 0 ≤ lo) (b1 : lo < 18446744073709551616) :
    Calls Try.prog 86 #[.agg #[.int .i64 n, .int .u64 hi, .int .u64 lo]] w fun e w' =>
      e = .returned (.bool (okB n hi lo)) ∧ Below w.heap.size w w' := by
  by_cases h : 1 ≤ n ∧ n ≤ 128
  · have e : okB n hi lo = (cHi n hi == hi && cLo n lo == lo) := by unfold okB; rw [mayBe_yes h.1 h.2]; rfl
    rw [e]
    exact check_may n hi lo w h.1 h.2 a0 a1 b0 b1
  · have e : okB n hi lo = false := by unfold okB; rw [mayBe_no h]; rfl
    rw [e]
    exact check_not n hi lo w h
end Go.Proofs.Ythlfbpadakoamab
/- cut and Check, told by value. -/
namespace Go.Proofs.Ythlfbpadakoamab
open Go.RowKit

def okN (n : Int) (v : Nat) : Bool := mayBe n && decide (v < 2 ^ n.toNat)
theorem cutV (n X Y : Int) (v : Nat) (w : World) (m0 : 1 ≤ n) (m1 : n ≤ 128) (hv : v < top) (hX : X = wHi v) (hY : Y = wLo v) :
    Calls Try.prog 94 #[.int .i64 n, .int .u64 X, .int .u64 Y] w fun e w' => e = .returned (.agg #[.int .i64 n, .int .u64 (wHi (v % 2 ^ n.toNat)), .int .u64 (wLo (v % 2 ^ n.toNat))]) ∧ Below w.heap.size w w' := by
  subst hX hY
  have h := cut_any n (wHi v) (wLo v) w m0 m1 (wHi_bd hv).1 (wHi_bd hv).2 (wLo_bd v).1 (wLo_bd v).2
  rw [cut_hi n v m0, cut_lo n v m0] at h
  exact h
theorem cutR (n X Y rh rl : Int) (v : Nat) (w : World) (m0 : 1 ≤ n) (m1 : n ≤ 128) (hv : v < top) (hX : X = wHi v) (hY : Y = wLo v) (hh : wHi (v % 2 ^ n.toNat) = rh) (hl : wLo (v % 2 ^ n.toNat) = rl) :
    Calls Try.prog 94 #[.int .i64 n, .int .u64 X, .int .u64 Y] w fun e w' => e = .returned (.agg #[.int .i64 n, .int .u64 rh, .int .u64 rl]) ∧ Below w.heap.size w w' := by
  subst hh hl
  exact cutV n X Y v w m0 m1 hv hX hY
theorem checkV (n : Int) (v : Nat) (w : World) (hv : v < top) :
    Calls Try.prog 86 #[.agg #[.int .i64 n, .int .u64 (wHi v), .int .u64 (wLo v)]] w fun e w' => e = .returned (.bool (mayBe n && decide (v < 2 ^ n.toNat))) ∧ Below w.heap.size w w' := by
  have h := check_any n (wHi v) (wLo v) w (wHi_bd hv).1 (wHi_bd hv).2 (wLo_bd v).1 (wLo_bd v).2
  have e : okB n (wHi v) (wLo v) = (mayBe n && decide (v < 2 ^ n.toNat)) := by
    unfold okB
    cases hm : mayBe n
    · rfl
    · have h0 : 1 ≤ n ∧ n ≤ 128 := by simpa [mayBe] using hm
      rw [ok_iff n v h0.1]
  rw [e] at h
  exact h
end Go.Proofs.Ythlfbpadakoamab
/- package wire: a whole, a name. -/
namespace Go.Proofs.Ythlfbpadakoamab
open Go.RowKit

def arr4 (c0 c1 c2 c3 : Nat) : Value := .agg #[.int .u8 (c0 : Int), .int .u8 (c1 : Int), .int .u8 (c2 : Int), .int .u8 (c3 : Int)]
def val4 (c0 c1 c2 c3 : Nat) : Nat := ((c0 * 256 + c1) * 256 + c2) * 256 + c3
set_option maxRecDepth 100000 in
theorem run_ix4 (v0 v1 v2 v3 : Value) (W : World) : (Instr.index 83 (.agg #[v0, v1, v2, v3]) (.int .i64 0)).run Try.prog W = .ok v0 W ∧ (Instr.index 83 (.agg #[v0, v1, v2, v3]) (.int .i64 1)).run Try.prog W = .ok v1 W ∧ (Instr.index 83 (.agg #[v0, v1, v2, v3]) (.int .i64 2)).run Try.prog W = .ok v2 W ∧ (Instr.index 83 (.agg #[v0, v1, v2, v3]) (.int .i64 3)).run Try.prog W = .ok v3 W := by
  refine ⟨?_, ?_, ?_, ?_⟩ <;> rfl
theorem or_byte (t c : Nat) (ht : t < 16777216) (hc : c < 256) : bits .or .u32 (IntKind.u32.wrap ((t : Int) * 256)) (c : Int) = ((t * 256 + c : Nat) : Int) := by
  have e : IntKind.u32.wrap ((t : Int) * 256) = ((2 ^ 8 * t : Nat) : Int) := by rw [IntKind.wrap_u32]; omega
  rw [e, u32_or_nat _ _ (by omega) (by omega)]
  have h := Nat.two_pow_add_eq_or_of_lt (i := 8) (b := c) hc t
  rw [← h]
  congr 1
  omega
set_option maxRecDepth 100000 in
set_option maxHeartbeats 1000000 in
theorem value_any (c0 c1 c2 c3 : Nat) (w : World) (h0 : c0 < 256) (h1 : c1 < 256) (h2 : c2 < 256) (h3 : c3 < 256) :
    Calls Try.prog 52 #[arr4 c0 c1 c2 c3] w fun e w' => e = .returned (.int .u32 (val4 c0 c1 c2 c3)) ∧ Below w.heap.size w w' := by
  have E0 := hide (or_byte 0 c0 (by omega) h0)
  have E1 := hide (or_byte c0 c1 (by omega) h1)
  have E2 := hide (or_byte (c0 * 256 + c1) c2 (by omega) h2)
  have E3 := hide (or_byte ((c0 * 256 + c1) * 256 + c2) c3 (by omega) h3)
  obtain ⟨V, hV⟩ : ∃ V, V = val4 c0 c1 c2 c3 := ⟨_, rfl⟩
  rw [← hV]
  have HV := hide hV
  clear hV
  unfold arr4
  go_enter Try.func52, Try.ntmps52
  go_wp2
  go_loopw [3, 7] (fun x i wr => ∃ k t : Nat, k ≤ 4 ∧ i = .int .i64 k ∧ Below w.heap.size w wr ∧ x = .int .u32 (t : Int) ∧ Hid ((k = 0 → t = 0) ∧ (k = 1 → t = c0) ∧ (k = 2 → t = c0 * 256 + c1) ∧ (k = 3 → t = (c0 * 256 + c1) * 256 + c2) ∧ (k = 4 → t = val4 c0 c1 c2 c3))) (fun _ i _ => 4 - (intOf i).toNat)
  case atStart => exact ⟨0, 0, by omega, rfl, (Below.refl _ _).alloc (Nat.le_refl _) _, rfl, ⟨by simp, by simp, by simp, by simp, by simp⟩⟩
  case round =>
    obtain ⟨k, t, hk, rfl, hB, rfl, HT⟩ := hrel
    obtain ⟨i0, i1, i2, i3⟩ := run_ix4 (.int .u8 (c0 : Int)) (.int .u8 (c1 : Int)) (.int .u8 (c2 : Int)) (.int .u8 (c3 : Int)) wr
    have HB := hide hB
    clear hB
    rcases (by omega : k = 0 ∨ k = 1 ∨ k = 2 ∨ k = 3 ∨ k = 4) with rfl | rfl | rfl | rfl | rfl
    · obtain rfl := HT.out.1 rfl
      have e := E0.out
      rw [show ((0 * 256 + c0 : Nat) : Int) = c0 by omega] at e
      have HE := hide e
      clear e
      go_wp2
      go_roundw
      case rel => exact ⟨1, c0, by omega, by go_num, HB.out, congrArg (Value.int .u32) (by simpa [IntKind.wrap_u32] using HE.out), ⟨by simp, by simp, by simp, by simp, by simp⟩⟩
      case measure => simp [intOf]
    · have ht := HT.out.2.1 rfl
      have HE := hide (ht ▸ E1.out)
      have HF := hide ht
      clear ht
      go_wp2
      go_roundw
      case rel => exact ⟨2, _, by omega, by go_num, HB.out, congrArg (Value.int .u32) HE.out, ⟨by simp, by simp, fun _ => by rw [HF.out], by simp, by simp⟩⟩
      case measure => simp [intOf]
    · have ht := HT.out.2.2.1 rfl
      have HE := hide (ht ▸ E2.out)
      have HF := hide ht
      clear ht
      go_wp2
      go_roundw
      case rel => exact ⟨3, _, by omega, by go_num, HB.out, congrArg (Value.int .u32) HE.out, ⟨by simp, by simp, by simp, fun _ => by rw [HF.out], by simp⟩⟩
      case measure => simp [intOf]
    · have ht := HT.out.2.2.2.1 rfl
      have HE := hide (ht ▸ E3.out)
      have HF := hide ht
      clear ht
      go_wp2
      go_roundw
      case rel => exact ⟨4, _, by omega, by go_num, HB.out, congrArg (Value.int .u32) HE.out, ⟨by simp, by simp, by simp, by simp, fun _ => by rw [HF.out]; rfl⟩⟩
      case measure => simp [intOf]
    · have HE := hide (HT.out.2.2.2.2 rfl)
      go_wp2
      go_ret
      have e : V = t := by rw [HV.out, HE.out]
      exact ⟨by rw [e]; rfl, HB.out⟩
/- Two arrays of four bytes that a call has made. -/
structure FiM (w W : World) (s : Nat) (u v : List Value) : Prop where
  bl : Below w.heap.size w W
  le : w.heap.size ≤ s
  c1 : W.heap[s]? = some (.cells u.toArray 83 (0, 0))
  c2 : W.heap[s + 1]? = some (.cells v.toArray 83 (0, 0))
theorem FiM.start (w : World) : FiM w ((w.alloc (.cells #[.int .u8 0, .int .u8 0, .int .u8 0, .int .u8 0] 83)).alloc (.cells #[.int .u8 0, .int .u8 0, .int .u8 0, .int .u8 0] 83)) w.heap.size (u8s [0, 0, 0, 0]) (u8s [0, 0, 0, 0]) := by
  have h2 := heap_alloc_new (w.alloc (.cells #[.int .u8 0, .int .u8 0, .int .u8 0, .int .u8 0] 83)) (.cells #[.int .u8 0, .int .u8 0, .int .u8 0, .int .u8 0] 83)
  rw [World.size_alloc] at h2
  exact ⟨((Below.refl _ w).alloc (Nat.le_refl _) _).alloc (by simp) _, Nat.le_refl _, (Below.heap_alloc _ _ _ (by simp)).trans (heap_alloc_new w _), h2⟩
theorem FiM.lay2 {w W W1 : World} {s : Nat} {u v v' : List Value} (h : FiM w W s u v) (hb : Below (s + 1) W W1) (hr : W1.heap[s + 1]? = some (.cells v'.toArray 83 (0, 0))) : FiM w W1 s u v' :=
  ⟨h.bl.trans (hb.mono (by have := h.le; omega)), h.le, (hb.block _ (by omega)).trans h.c1, hr⟩
theorem four_cells {W : World} {s a b c d : Nat} {t : TypeId} (h : W.heap[s]? = some (.cells (u8s [a, b, c, d]).toArray t (0, 0))) : W.cell? ⟨s, 0, none⟩ = some (.int .u8 (a : Int)) ∧ W.cell? ⟨s, 1, none⟩ = some (.int .u8 (b : Int)) ∧ W.cell? ⟨s, 2, none⟩ = some (.int .u8 (c : Int)) ∧ W.cell? ⟨s, 3, none⟩ = some (.int .u8 (d : Int)) := by
  refine ⟨?_, ?_, ?_, ?_⟩ <;> (unfold World.cell?; simp only [h]; rfl)
theorem soft_row {W : World} {s : Nat} {u : List Value} {t : TypeId} (h : W.heap[s]? = some (.cells u.toArray t (0, 0))) (o : Nat) : W.frozen? ⟨s, o, none⟩ = false := by
  unfold World.frozen?; simp only [h]; simp
theorem splice_all {α : Type} (a b c d x y z u : α) : splice [a, b, c, d] 0 [x, y, z, u] = [x, y, z, u] := rfl
set_option maxHeartbeats 1000000 in
theorem wholeIn_any (q off N cap x0 x1 x2 x3 : Nat) (w : World) (h : Bs w q off [x0, x1, x2, x3]) (hN : 4 ≤ N) :
    Calls Try.prog 51 #[.slice (some ⟨q, off, none⟩) N cap] w fun e w' => e = .returned (arr4 x0 x1 x2 x3) ∧ Below w.heap.size w w' := by
  obtain ⟨i0, hi0, hz0, hz1, hz2⟩ := info_parts Try.info8
  have hsz : (Try.prog.info? 5).map (·.size) = some 1 := by rw [hi0]; simp [hz1]
  have hq : q < w.heap.size := World.block_lt_of_cell? w _ (h 0 (by simp))
  have F0 := hide (FiM.start w)
  have hs := rdA_src (h.fr (E := fun _ => False) (Fr.ofBelow F0.out.bl) (by simp))
  have HS := hide hs
  clear h hs
  go_enter Try.func51, Try.ntmps51
  go_wp2_with (refine wpList_copy_splice rfl _ _ 22 22 rfl 5 Try.underlying22 hsz (some ⟨w.heap.size + 1, 0, none⟩) (some ⟨q, off, none⟩) 4 4 N cap rfl rfl (w.heap.size + 1) 0 _ 83 F0.out.c2 (u8s [x0, x1, x2, x3]) (by show 4 = min N 4; omega) (fun _ => ⟨rfl, _, rfl, HS.out⟩) (by simp [u8s]) (u8s_one _) (w.heap.size + 1) _ (Below.refl _ _) (Nat.le_refl _) ?_; intro W1 HG1 hB1; have F1 := hide (F0.out.lay2 hB1 HG1.out); clear HG1 hB1; obtain ⟨c0, c1, c2, c3⟩ := four_cells F1.out.c2; obtain ⟨d0, d1, d2, d3⟩ := four_cells (a := 0) (b := 0) (c := 0) (d := 0) F1.out.c1; have sf := soft_row F1.out.c1)
  refine bodyPost_ret (v := arr4 x0 x1 x2 x3) (by simp [results, Try.results51, go_sem, d0, d1, d2, d3, arr4]) rfl ⟨rfl, ?_⟩
  exact (((F1.out.bl.setCell (Nat.le_refl _) _).setCell (Nat.le_refl _) _).setCell (Nat.le_refl _) _).setCell (Nat.le_refl _) _
theorem Rr.next {w W W' : World} {p q : Nat} {xs : List Nat} (h : Rr w W p q xs) (hb : Below W.heap.size W W') : Rr w W' p q xs := by
  obtain ⟨off, cap, hc, h1, h2⟩ := h.cell
  have hf : Fr (fun _ => False) W W' := Fr.ofBelow hb
  have hp : p < W.heap.size := Nat.lt_of_lt_of_le h.pl h.fr.size
  exact ⟨h.fr.trans hf (fun _ _ e => e.elim), h.pq, h.pl, h.ql, ⟨off, cap, hf.cell hc (by simp), h1, Bs.fr h2 hf (by simp)⟩, (hb.frozen (p := ⟨p, 0, none⟩) hp).trans h.soft, h.small, h.byte⟩
theorem four_of (xs : List Nat) (h : 4 ≤ xs.length) : ∃ x0 x1 x2 x3 ys, xs = x0 :: x1 :: x2 :: x3 :: ys := by
  match xs, h with
  | x0 :: x1 :: x2 :: x3 :: ys, _ => exact ⟨x0, x1, x2, x3, ys, rfl⟩
theorem whole_yes {w W : World} {p q x0 x1 x2 x3 : Nat} {xs : List Nat} (h : Rr w W p q (x0 :: x1 :: x2 :: x3 :: xs)) (hv : val4 x0 x1 x2 x3 ≤ 2147483647) :
    Calls Try.prog 30 #[.pointer (some ⟨p, 0, none⟩)] W fun e W' => e = .returned (.int .i64 (val4 x0 x1 x2 x3)) ∧ Rr w W' p q xs := by
  have HT := hide (take_yes 4 h (by simp))
  have HB := hide h.byte
  have hw : IntKind.i64.wrap (val4 x0 x1 x2 x3 : Int) = val4 x0 x1 x2 x3 := by rw [IntKind.wrap_i64]; omega
  have d1 : ((val4 x0 x1 x2 x3 : Int) ≤ 2147483647) = True := by simp; omega
  have HM := hide must_yes
  have HV := hide (fun W a0 a1 a2 a3 => value_any x0 x1 x2 x3 W a0 a1 a2 a3)
  clear h hv
  generalize val4 x0 x1 x2 x3 = V at *
  go_enter Try.func30, Try.ntmps30
  go_wp2_with fail
  refine HT.out.mono ?_
  rintro e w1 ⟨off, cap, rfl, hk⟩
  have HK := hide hk
  clear hk
  go_wp2_with fail
  refine (wholeIn_any q off 4 cap x0 x1 x2 x3 w1 HK.out.bs (by omega)).mono ?_
  rintro e w2 ⟨rfl, hb⟩
  have R2 := hide (HK.out.rr.next hb)
  clear hb HK
  go_wp2_with fail
  refine (HV.out w2 (HB.out _ (by simp)) (HB.out _ (by simp)) (HB.out _ (by simp)) (HB.out _ (by simp))).mono ?_
  rintro e w3 ⟨rfl, hb⟩
  have R3 := hide (R2.out.next hb)
  clear hb R2
  go_wp2_with fail
  refine (HM.out w3).mono ?_
  rintro e w4 ⟨rfl, rfl⟩
  go_wp2
  go_ret
  exact ⟨rfl, R3.out⟩
theorem whole_no {w W : World} {p q : Nat} {xs : List Nat} (h : Rr w W p q xs) (hv : ∀ x0 x1 x2 x3 ys, xs = x0 :: x1 :: x2 :: x3 :: ys → 2147483647 < val4 x0 x1 x2 x3) :
    Calls Try.prog 30 #[.pointer (some ⟨p, 0, none⟩)] W fun e W' => e = .panicked panW ∧ Fr (· = p) w W' := by
  by_cases h4 : 4 ≤ xs.length
  · obtain ⟨x0, x1, x2, x3, ys, rfl⟩ := four_of xs h4
    have h5 := hv x0 x1 x2 x3 ys rfl
    have HT := hide (take_yes 4 h (by simp))
    have HB := hide h.byte
    have d1 : ((val4 x0 x1 x2 x3 : Int) ≤ 2147483647) = False := by simp; omega
    have HM := hide must_no
    have HV := hide (fun W a0 a1 a2 a3 => value_any x0 x1 x2 x3 W a0 a1 a2 a3)
    clear h hv h5
    generalize val4 x0 x1 x2 x3 = V at *
    go_enter Try.func30, Try.ntmps30
    go_wp2_with fail
    refine HT.out.mono ?_
    rintro e w1 ⟨off, cap, rfl, hk⟩
    have HK := hide hk
    clear hk
    go_wp2_with fail
    refine (wholeIn_any q off 4 cap x0 x1 x2 x3 w1 HK.out.bs (by omega)).mono ?_
    rintro e w2 ⟨rfl, hb⟩
    have R2 := hide (HK.out.rr.next hb)
    clear hb HK
    go_wp2_with fail
    refine (HV.out w2 (HB.out _ (by simp)) (HB.out _ (by simp)) (HB.out _ (by simp)) (HB.out _ (by simp))).mono ?_
    rintro e w3 ⟨rfl, hb⟩
    have R3 := hide (R2.out.next hb)
    clear hb R2
    go_wp2_with fail
    refine (HM.out w3).mono ?_
    rintro e w4 ⟨rfl, rfl⟩
    go_wp2
    exact ⟨rfl, rfl, R3.out.fr⟩
  · have HT := hide (take_no 4 h (by omega))
    have HF := hide h.fr
    clear h hv h4
    go_enter Try.func30, Try.ntmps30
    go_wp2_with fail
    refine HT.out.mono ?_
    rintro e w1 ⟨rfl, rfl⟩
    go_wp2
    exact ⟨rfl, rfl, HF.out⟩
/- A text out of bytes. -/
def strOf (xs : List Nat) : ByteArray := strOfNums (xs.map (fun (x : Nat) => (x : Int)))
theorem run_str (q off cap : Nat) (xs : List Nat) (W : World) (h : Bs W q off xs) : (convert 22 9 (.slice (some ⟨q, off, none⟩) xs.length cap)).run Try.prog W = .ok (.string (strOf xs)) W :=
  run_convert_bytes_arg W 22 5 Try.underlying22 Try.underlying5 q off xs.length cap _ (by simp) (fun i hi => by rw [h i hi]; simp [hi]) 9 Try.underlying9
theorem name_yes {w W : World} {p q n : Nat} {xs : List Nat} (h : Rr w W p q (n :: xs)) (hn : n ≤ xs.length) :
    Calls Try.prog 57 #[.pointer (some ⟨p, 0, none⟩)] W fun e W' => e = .returned (.string (strOf (xs.take n))) ∧ Rr w W' p q (xs.drop n) := by
  have HB := hide (byte_yes h)
  have HN := hide hn
  obtain ⟨S, hS⟩ : ∃ S, strOf (xs.take n) = S := ⟨_, rfl⟩
  have HS := hide hS
  rw [hS]
  clear h hn hS
  go_enter Try.func57, Try.ntmps57
  go_wp2_with fail
  refine HB.out.mono ?_
  rintro e w1 ⟨rfl, hr⟩
  have R1 := hide hr
  clear hr
  go_wp2_with fail
  refine (take_yes n R1.out HN.out).mono ?_
  rintro e w2 ⟨off, cap, rfl, hk⟩
  have hs := run_str q off cap (xs.take n) w2 hk.bs
  rw [List.length_take, Nat.min_eq_left HN.out, HS.out] at hs
  have HK := hide hk
  clear hk
  go_wp2
  go_ret
  exact ⟨rfl, HK.out.rr⟩
theorem name_no {w W : World} {p q : Nat} {xs : List Nat} (h : Rr w W p q xs) (hn : ∀ n ys, xs = n :: ys → ys.length < n) :
    Calls Try.prog 57 #[.pointer (some ⟨p, 0, none⟩)] W fun e W' => e = .panicked panW ∧ Fr (· = p) w W' := by
  cases xs with
  | nil =>
    have HB := hide (byte_no h)
    have HF := hide h.fr
    clear h hn
    go_enter Try.func57, Try.ntmps57
    go_wp2_with fail
    refine HB.out.mono ?_
    rintro e w1 ⟨rfl, rfl⟩
    go_wp2
    exact ⟨rfl, rfl, HF.out⟩
  | cons n xs =>
    have HB := hide (byte_yes h)
    have HN := hide (hn n xs rfl)
    clear h hn
    go_enter Try.func57, Try.ntmps57
    go_wp2_with fail
    refine HB.out.mono ?_
    rintro e w1 ⟨rfl, hr⟩
    have R1 := hide hr
    clear hr
    go_wp2_with fail
    refine (take_no n R1.out HN.out).mono ?_
    rintro e w2 ⟨rfl, rfl⟩
    go_wp2
    exact ⟨rfl, rfl, R1.out.fr⟩
end Go.Proofs.Ythlfbpadakoamab
/- Moving a number of two words up and down: plain facts. -/
namespace Go.Proofs.Ythlfbpadakoamab

theorem wrap_nat (a k : Nat) : IntKind.u64.wrap ((a : Int) * 2 ^ k) = ((a * 2 ^ k % 2 ^ 64 : Nat) : Int) := by
  rw [IntKind.wrap_u64, show ((2 : Int) ^ k) = ((2 ^ k : Nat) : Int) by simp, ← Int.natCast_mul]; rfl
theorem div_nat (a k : Nat) : (a : Int) / 2 ^ k = ((a / 2 ^ k : Nat) : Int) := by
  rw [show ((2 : Int) ^ k) = ((2 ^ k : Nat) : Int) by simp]; rfl
theorem bit_top {u i : Nat} (h : u < top) (hi : u.testBit i = true) : i < 128 := by
  rcases Nat.lt_or_ge i 128 with h' | h'
  · exact h'
  · have : u < 2 ^ i := Nat.lt_of_lt_of_le (by rw [top_eq] at h; exact h) (Nat.pow_le_pow_right (by decide) h')
    rw [Nat.testBit_lt_two_pow this] at hi; cases hi

theorem m64 (x : Nat) : x % 2 ^ 64 < 18446744073709551616 := Nat.mod_lt _ (by decide)
theorem d64 (x k : Nat) : x % 2 ^ 64 / 2 ^ k < 18446744073709551616 := Nat.lt_of_le_of_lt (Nat.div_le_self _ _) (m64 x)
theorem tb {u a b : Nat} (h : u.testBit a = true) (e : a = b) : u.testBit b = true := by rw [← e]; exact h

theorem up_far_hi (u k : Nat) (hk : 64 ≤ k) : IntKind.u64.wrap (wLo u * 2 ^ min (k - 64) 64) = wHi ((u * 2 ^ k) % top) := by
  rw [wLo_nat, wrap_nat, wHi_nat, top_eq]
  congr 1
  refine Nat.eq_of_testBit_eq fun j => ?_
  rw [Bool.eq_iff_iff]
  simp only [Nat.testBit_mod_two_pow, Nat.testBit_mul_two_pow, Nat.testBit_div_two_pow, Bool.and_eq_true, decide_eq_true_eq]
  constructor
  · rintro ⟨h1, h2, h3, h4⟩
    exact ⟨by omega, by omega, tb h4 (by omega)⟩
  · rintro ⟨h1, h2, h3⟩
    exact ⟨by omega, by omega, by omega, tb h3 (by omega)⟩
theorem up_far_lo (u k : Nat) (hk : 64 ≤ k) : (0 : Int) = wLo ((u * 2 ^ k) % top) := by
  have : (u * 2 ^ k) % top % 2 ^ 64 = 0 := by
    rw [mod_top _ (by decide : 64 ≤ 128)]
    exact Nat.mod_eq_zero_of_dvd (Nat.dvd_trans (Nat.pow_dvd_pow 2 hk) (Nat.dvd_mul_left _ _))
  rw [wLo_nat, this]; rfl
theorem up_near_hi {u k : Nat} (hk : k < 64) : bits .or .u64 (IntKind.u64.wrap (wHi u * 2 ^ k)) (wLo u / 2 ^ (64 - k)) = wHi ((u * 2 ^ k) % top) := by
  rw [wLo_nat, wHi_nat, wrap_nat, div_nat, wHi_nat, top_eq]
  rw [u64_or_nat _ _ (m64 _) (d64 _ _)]
  congr 1
  refine Nat.eq_of_testBit_eq fun j => ?_
  rw [Bool.eq_iff_iff]
  simp only [Nat.testBit_or, Nat.testBit_mod_two_pow, Nat.testBit_mul_two_pow, Nat.testBit_div_two_pow, Bool.and_eq_true, Bool.or_eq_true, decide_eq_true_eq]
  constructor
  · rintro (⟨h1, h2, h3⟩ | ⟨h1, h2⟩)
    · exact ⟨by omega, by omega, tb h3 (by omega)⟩
    · exact ⟨by omega, by omega, tb h2 (by omega)⟩
  · rintro ⟨h1, h2, h3⟩
    by_cases h : k ≤ j
    · exact .inl ⟨by omega, h, tb h3 (by omega)⟩
    · exact .inr ⟨by omega, tb h3 (by omega)⟩
theorem up_near_lo (u k : Nat) : IntKind.u64.wrap (wLo u * 2 ^ k) = wLo ((u * 2 ^ k) % top) := by
  rw [wLo_nat, wrap_nat, wLo_nat, mod_top _ (by decide : 64 ≤ 128)]
  congr 1
  exact Nat.mod_mul_mod u (2 ^ k) (2 ^ 64)
theorem down_far_hi {u k : Nat} (hu : u < top) (hk : 64 ≤ k) : (0 : Int) = wHi (u / 2 ^ k) := by
  have : u / 2 ^ k / 2 ^ 64 = 0 := by
    rw [Nat.div_div_eq_div_mul, ← Nat.pow_add]
    refine Nat.div_eq_of_lt (Nat.lt_of_lt_of_le (by rw [top_eq] at hu; exact hu) (Nat.pow_le_pow_right (by decide) (by omega)))
  rw [wHi_nat, this]; rfl
theorem down_far_lo {u k : Nat} (hu : u < top) (hk : 64 ≤ k) : wHi u / 2 ^ min (k - 64) 64 = wLo (u / 2 ^ k) := by
  rw [wHi_nat, div_nat, wLo_nat]
  congr 1
  refine Nat.eq_of_testBit_eq fun j => ?_
  rw [Bool.eq_iff_iff]
  simp only [Nat.testBit_mod_two_pow, Nat.testBit_div_two_pow, Bool.and_eq_true, decide_eq_true_eq]
  constructor
  · intro h
    have := bit_top hu h
    exact ⟨by omega, tb h (by omega)⟩
  · rintro ⟨_, h⟩
    have := bit_top hu h
    exact tb h (by omega)
theorem down_near_hi (u k : Nat) : wHi u / 2 ^ k = wHi (u / 2 ^ k) := by
  rw [wHi_nat, div_nat, wHi_nat, Nat.div_div_eq_div_mul, Nat.div_div_eq_div_mul, Nat.mul_comm]
theorem down_near_lo {u k : Nat} (hk : k < 64) : bits .or .u64 (wLo u / 2 ^ k) (IntKind.u64.wrap (wHi u * 2 ^ (64 - k))) = wLo (u / 2 ^ k) := by
  rw [wLo_nat, wHi_nat, wrap_nat, div_nat, wLo_nat]
  rw [u64_or_nat _ _ (d64 _ _) (m64 _)]
  congr 1
  refine Nat.eq_of_testBit_eq fun j => ?_
  rw [Bool.eq_iff_iff]
  simp only [Nat.testBit_or, Nat.testBit_mod_two_pow, Nat.testBit_mul_two_pow, Nat.testBit_div_two_pow, Bool.and_eq_true, Bool.or_eq_true, decide_eq_true_eq]
  constructor
  · rintro (⟨h1, h2⟩ | ⟨h1, h2, h3⟩)
    · exact ⟨by omega, h2⟩
    · exact ⟨h1, tb h3 (by omega)⟩
  · rintro ⟨h1, h2⟩
    by_cases h : 64 - k ≤ j
    · exact .inr ⟨h1, h, tb h2 (by omega)⟩
    · exact .inl ⟨by omega, h2⟩
end Go.Proofs.Ythlfbpadakoamab
/- The walks of bits.up and bits.down. -/
namespace Go.Proofs.Ythlfbpadakoamab
open Go.RowKit

theorem ret_two {a b c d : Int} (h : a = c) (k : b = d) : Ending.returned (.tuple #[.int .u64 a, .int .u64 b]) = .returned (.tuple #[.int .u64 c, .int .u64 d]) := by rw [h, k]
theorem upV (u : Nat) (k X Y : Int) (w : World) (hu : u < top) (k0 : 0 ≤ k) (k1 : k < 18446744073709551616) (hX : wHi ((u * 2 ^ k.toNat) % top) = X) (hY : wLo ((u * 2 ^ k.toNat) % top) = Y) :
    Calls Try.prog 85 #[.int .u64 (wHi u), .int .u64 (wLo u), .int .u64 k] w fun e w' => e = .returned (.tuple #[.int .u64 X, .int .u64 Y]) ∧ w' = w := by
  have HX0 := hide hX; have HY0 := hide hY
  clear hX hY
  by_cases h : 64 ≤ k
  · have HX : Hid (IntKind.u64.wrap (wLo u * 2 ^ min (k - 64).toNat 64) = X) := (show _ = _ from by have := up_far_hi u k.toNat (by omega); rw [show (k - 64).toNat = k.toNat - 64 by omega]; exact this).trans HX0.out
    have HY : Hid (0 = Y) := (show _ = _ from up_far_lo u k.toNat (by omega)).trans HY0.out
    obtain ⟨a0, a1⟩ := wHi_bd hu
    obtain ⟨b0, b1⟩ := wLo_bd u
    clear HX0 HY0
    generalize wHi u = h1 at *
    generalize wLo u = l1 at *
    go_enter Try.func85, Try.ntmps85
    go_wp2
    go_ret2
    exact ⟨ret_two HX.out HY.out, rfl⟩
  · have HX : Hid (bits .or .u64 (IntKind.u64.wrap (wHi u * 2 ^ k.toNat)) (wLo u / 2 ^ (64 - k).toNat) = X) := (show _ = _ from by have := up_near_hi (u := u) (k := k.toNat) (by omega); rw [show (64 - k).toNat = 64 - k.toNat by omega]; exact this).trans HX0.out
    have HY : Hid (IntKind.u64.wrap (wLo u * 2 ^ k.toNat) = Y) := (show _ = _ from up_near_lo u k.toNat).trans HY0.out
    obtain ⟨a0, a1⟩ := wHi_bd hu
    obtain ⟨b0, b1⟩ := wLo_bd u
    have h' : k < 64 := by omega
    clear HX0 HY0 h
    generalize wHi u = h1 at *
    generalize wLo u = l1 at *
    go_enter Try.func85, Try.ntmps85
    go_wp2
    go_ret2
    exact ⟨ret_two HX.out HY.out, rfl⟩
theorem downV (u : Nat) (k X Y : Int) (w : World) (hu : u < top) (k0 : 0 ≤ k) (k1 : k < 18446744073709551616) (hX : wHi (u / 2 ^ k.toNat) = X) (hY : wLo (u / 2 ^ k.toNat) = Y) :
    Calls Try.prog 92 #[.int .u64 (wHi u), .int .u64 (wLo u), .int .u64 k] w fun e w' => e = .returned (.tuple #[.int .u64 X, .int .u64 Y]) ∧ w' = w := by
  have HX0 := hide hX; have HY0 := hide hY
  clear hX hY
  by_cases h : 64 ≤ k
  · have HX : Hid (0 = X) := (show _ = _ from down_far_hi hu (by omega)).trans HX0.out
    have HY : Hid (wHi u / 2 ^ min (k - 64).toNat 64 = Y) := (show _ = _ from by have := down_far_lo (k := k.toNat) hu (by omega); rw [show (k - 64).toNat = k.toNat - 64 by omega]; exact this).trans HY0.out
    obtain ⟨a0, a1⟩ := wHi_bd hu
    obtain ⟨b0, b1⟩ := wLo_bd u
    clear HX0 HY0
    generalize wHi u = h1 at *
    generalize wLo u = l1 at *
    go_enter Try.func92, Try.ntmps92
    go_wp2
    go_ret2
    exact ⟨ret_two HX.out HY.out, rfl⟩
  · have HX : Hid (wHi u / 2 ^ k.toNat = X) := (show _ = _ from down_near_hi u k.toNat).trans HX0.out
    have HY : Hid (bits .or .u64 (wLo u / 2 ^ k.toNat) (IntKind.u64.wrap (wHi u * 2 ^ (64 - k).toNat)) = Y) := (show _ = _ from by have := down_near_lo (u := u) (k := k.toNat) (by omega); rw [show (64 - k).toNat = 64 - k.toNat by omega]; exact this).trans HY0.out
    obtain ⟨a0, a1⟩ := wHi_bd hu
    obtain ⟨b0, b1⟩ := wLo_bd u
    have h' : k < 64 := by omega
    clear HX0 HY0 h
    generalize wHi u = h1 at *
    generalize wLo u = l1 at *
    go_enter Try.func92, Try.ntmps92
    go_wp2
    go_ret2
    exact ⟨ret_two HX.out HY.out, rfl⟩
end Go.Proofs.Ythlfbpadakoamab
