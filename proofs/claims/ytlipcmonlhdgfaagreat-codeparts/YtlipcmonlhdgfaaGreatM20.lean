/- Pieces of the proof: Nums, ShfMath, Shf, Clos. -/
import Derived.Test.YtlipcmonlhdgfaaGreatM18
import Derived.Test.YtlipcmonlhdgfaaGreatM19
import Derived.Laws.Externs
import Derived.Shelf.Spec.BitsCarry
import Derived.Lib.Mul64
import Derived.Laws.Bits64b
/- The walks of the operations' numbers, word by word. -/
namespace Go.Proofs.YtlipcmonlhdgfaaGreat
open Go.RowKit

theorem add64_0 (x y : Int) (hx : 0 ≤ x) (hy : 0 ≤ y) (w : World) : (callFunc 188 #[.int .u64 x, .int .u64 y, .int .u64 0]).run Tryz.prog w =
    .ok (.value (.tuple #[.int .u64 ((x + y) % 18446744073709551616), .int .u64 ((x + y) / 18446744073709551616)])) w := by
  rw [run_callFunc_extern Tryz.func188 (by kernel_rfl) (by kernel_rfl) (by kernel_rfl) (e := add64Entry) (by kernel_rfl), run_add64 x y 0 hx hy (by decide) (by decide)]
  simp only [Result.andThen, Int.add_zero]
theorem sub64_0 (x y : Int) (hx : 0 ≤ x) (hy : 0 ≤ y) (hy1 : y < 18446744073709551616) (w : World) : (callFunc 189 #[.int .u64 x, .int .u64 y, .int .u64 0]).run Tryz.prog w =
    .ok (.value (.tuple #[.int .u64 ((x - y) % 18446744073709551616), .int .u64 (bor x y)])) w := by
  obtain ⟨x, rfl⟩ := Int.eq_ofNat_of_zero_le hx
  obtain ⟨y, rfl⟩ := Int.eq_ofNat_of_zero_le hy
  have e1 : (((x + 18446744073709551616 - y - 0) % 18446744073709551616 : Nat) : Int) = ((x : Int) - y) % 18446744073709551616 := by omega
  have e2 : ((if x < y + 0 then 1 else 0 : Nat) : Int) = bor x y := by unfold bor; split <;> split <;> omega
  rw [← e1, ← e2, run_callFunc_extern Tryz.func189 (by kernel_rfl) (by kernel_rfl) (by kernel_rfl) (e := sub64Entry) (by kernel_rfl)]
  have := run_sub64 (P := Tryz.prog) x y 0 (by decide) w
  simp only [Int.natCast_zero] at this
  rw [this]
  rfl

theorem andV (n1 n2 : Int) (u v : Nat) (w : World) (hu : u < top) (hv : v < top) :
    Calls Tryz.prog 160 #[.agg #[.int .i64 n1, .int .u64 (wHi u), .int .u64 (wLo u)], .agg #[.int .i64 n2, .int .u64 (wHi v), .int .u64 (wLo v)]] w fun e w' => e = .returned (.agg #[.int .i64 n1, .int .u64 (wHi (u &&& v)), .int .u64 (wLo (u &&& v))]) ∧ Below w.heap.size w w' := by
  rw [← and_hi hu hv, ← and_lo hu hv]
  generalize wHi u = h1 at *
  generalize wLo u = l1 at *
  generalize wHi v = h2 at *
  generalize wLo v = l2 at *
  go_enter Tryz.func160, Tryz.ntmps160
  go_wp2
  refine bodyPost_ret (v := .agg #[.int .i64 n1, .int .u64 (bits .and .u64 h1 h2), .int .u64 (bits .and .u64 l1 l2)]) (by simp [results, Tryz.results160, go_sem]) rfl ⟨rfl, ?_⟩
  exact (((Below.refl _ _).alloc (Nat.le_refl _) _).alloc (by simp) _).alloc (by simp; omega) _
theorem orV (n1 n2 : Int) (u v : Nat) (w : World) (hu : u < top) (hv : v < top) :
    Calls Tryz.prog 161 #[.agg #[.int .i64 n1, .int .u64 (wHi u), .int .u64 (wLo u)], .agg #[.int .i64 n2, .int .u64 (wHi v), .int .u64 (wLo v)]] w fun e w' => e = .returned (.agg #[.int .i64 n1, .int .u64 (wHi (u ||| v)), .int .u64 (wLo (u ||| v))]) ∧ Below w.heap.size w w' := by
  rw [← or_hi hu hv, ← or_lo hu hv]
  generalize wHi u = h1 at *
  generalize wLo u = l1 at *
  generalize wHi v = h2 at *
  generalize wLo v = l2 at *
  go_enter Tryz.func161, Tryz.ntmps161
  go_wp2
  refine bodyPost_ret (v := .agg #[.int .i64 n1, .int .u64 (bits .or .u64 h1 h2), .int .u64 (bits .or .u64 l1 l2)]) (by simp [results, Tryz.results161, go_sem]) rfl ⟨rfl, ?_⟩
  exact (((Below.refl _ _).alloc (Nat.le_refl _) _).alloc (by simp) _).alloc (by simp; omega) _
theorem xorV (n1 n2 : Int) (u v : Nat) (w : World) (hu : u < top) (hv : v < top) :
    Calls Tryz.prog 162 #[.agg #[.int .i64 n1, .int .u64 (wHi u), .int .u64 (wLo u)], .agg #[.int .i64 n2, .int .u64 (wHi v), .int .u64 (wLo v)]] w fun e w' => e = .returned (.agg #[.int .i64 n1, .int .u64 (wHi (u ^^^ v)), .int .u64 (wLo (u ^^^ v))]) ∧ Below w.heap.size w w' := by
  rw [← xor_hi hu hv, ← xor_lo hu hv]
  generalize wHi u = h1 at *
  generalize wLo u = l1 at *
  generalize wHi v = h2 at *
  generalize wLo v = l2 at *
  go_enter Tryz.func162, Tryz.ntmps162
  go_wp2
  refine bodyPost_ret (v := .agg #[.int .i64 n1, .int .u64 (bits .xor .u64 h1 h2), .int .u64 (bits .xor .u64 l1 l2)]) (by simp [results, Tryz.results162, go_sem]) rfl ⟨rfl, ?_⟩
  exact (((Below.refl _ _).alloc (Nat.le_refl _) _).alloc (by simp) _).alloc (by simp; omega) _
theorem addV (n1 n2 : Int) (u v : Nat) (w : World) (hu : u < top) (hv : v < top) (m0 : 1 ≤ n1) (m1 : n1 ≤ 128) :
    Calls Tryz.prog 157 #[.agg #[.int .i64 n1, .int .u64 (wHi u), .int .u64 (wLo u)], .agg #[.int .i64 n2, .int .u64 (wHi v), .int .u64 (wLo v)]] w fun e w' => e = .returned (.agg #[.int .i64 n1, .int .u64 (wHi ((u + v) % 2 ^ n1.toNat)), .int .u64 (wLo ((u + v) % 2 ^ n1.toNat))]) ∧ Below w.heap.size w w' := by
  have HX : Hid (IntKind.u64.wrap (IntKind.u64.wrap (wHi u + wHi v) + (wLo u + wLo v) / 18446744073709551616) = wHi (((u + v)) % top)) := add_hi u v
  have HY : Hid ((wLo u + wLo v) % 18446744073709551616 = wLo (((u + v)) % top)) := add_lo u v
  rw [← mod_top ((u + v)) (by omega : n1.toNat ≤ 128)]
  have hs := mod_top_lt ((u + v))
  generalize ((u + v)) % top = s at HX HY hs ⊢
  generalize hrh : wHi (s % 2 ^ n1.toNat) = rh
  generalize hrl : wLo (s % 2 ^ n1.toNat) = rl
  have HRH := hide hrh; have HRL := hide hrl; have HS := hide hs
  clear hrh hrl hs
  have bu := wHi_bd hu; have bv := wHi_bd hv; have cu := wLo_bd u; have cv := wLo_bd v
  generalize wHi u = h1 at *
  generalize wLo u = l1 at *
  generalize wHi v = h2 at *
  generalize wLo v = l2 at *
  obtain ⟨a0, a1⟩ := bu; obtain ⟨b0, b1⟩ := bv; obtain ⟨c0, c1⟩ := cu; obtain ⟨d0, d1⟩ := cv
  go_enter Tryz.func157, Tryz.ntmps157
  go_wp2_with (first | simp only [add64_0 l1 l2 c0 d0])
  refine (cutR n1 _ _ rh rl s _ m0 m1 HS.out HX.out HY.out HRH.out HRL.out).mono ?_
  rintro e w1 ⟨rfl, hb⟩
  obtain ⟨hc, hf⟩ := bcell hb
  have hz : w.heap.size + 2 < w1.heap.size := by have := hb.size; simp at this; omega
  go_wp2
  refine bodyPost_ret (v := .agg #[.int .i64 n1, .int .u64 rh, .int .u64 rl]) (by simp [results, Tryz.results157, go_sem, hc]) rfl ⟨rfl, ?_⟩
  exact (((((((Below.refl _ _).alloc (Nat.le_refl _) _).alloc (by simp) _).alloc (by simp; omega) _).trans (hb.mono (by simp; omega))).setCell (by simp; omega) _).setCell (by simp; omega) _).setCell (by simp; omega) _
theorem subV (n1 n2 : Int) (u v : Nat) (w : World) (hu : u < top) (hv : v < top) (m0 : 1 ≤ n1) (m1 : n1 ≤ 128) :
    Calls Tryz.prog 158 #[.agg #[.int .i64 n1, .int .u64 (wHi u), .int .u64 (wLo u)], .agg #[.int .i64 n2, .int .u64 (wHi v), .int .u64 (wLo v)]] w fun e w' => e = .returned (.agg #[.int .i64 n1, .int .u64 (wHi ((u + top - v) % 2 ^ n1.toNat)), .int .u64 (wLo ((u + top - v) % 2 ^ n1.toNat))]) ∧ Below w.heap.size w w' := by
  have HX : Hid (IntKind.u64.wrap (IntKind.u64.wrap (wHi u - wHi v) - bor (wLo u) (wLo v)) = wHi (((u + top - v)) % top)) := sub_hi hv
  have HY : Hid ((wLo u - wLo v) % 18446744073709551616 = wLo (((u + top - v)) % top)) := sub_lo hv
  rw [← mod_top ((u + top - v)) (by omega : n1.toNat ≤ 128)]
  have hs := mod_top_lt ((u + top - v))
  generalize ((u + top - v)) % top = s at HX HY hs ⊢
  generalize hrh : wHi (s % 2 ^ n1.toNat) = rh
  generalize hrl : wLo (s % 2 ^ n1.toNat) = rl
  have HRH := hide hrh; have HRL := hide hrl; have HS := hide hs
  clear hrh hrl hs
  have bu := wHi_bd hu; have bv := wHi_bd hv; have cu := wLo_bd u; have cv := wLo_bd v
  generalize wHi u = h1 at *
  generalize wLo u = l1 at *
  generalize wHi v = h2 at *
  generalize wLo v = l2 at *
  obtain ⟨a0, a1⟩ := bu; obtain ⟨b0, b1⟩ := bv; obtain ⟨c0, c1⟩ := cu; obtain ⟨d0, d1⟩ := cv
  go_enter Tryz.func158, Tryz.ntmps158
  go_wp2_with (first | simp only [sub64_0 l1 l2 c0 d0 d1])
  refine (cutR n1 _ _ rh rl s _ m0 m1 HS.out HX.out HY.out HRH.out HRL.out).mono ?_
  rintro e w1 ⟨rfl, hb⟩
  obtain ⟨hc, hf⟩ := bcell hb
  have hz : w.heap.size + 2 < w1.heap.size := by have := hb.size; simp at this; omega
  go_wp2
  refine bodyPost_ret (v := .agg #[.int .i64 n1, .int .u64 rh, .int .u64 rl]) (by simp [results, Tryz.results158, go_sem, hc]) rfl ⟨rfl, ?_⟩
  exact (((((((Below.refl _ _).alloc (Nat.le_refl _) _).alloc (by simp) _).alloc (by simp; omega) _).trans (hb.mono (by simp; omega))).setCell (by simp; omega) _).setCell (by simp; omega) _).setCell (by simp; omega) _

end Go.Proofs.YtlipcmonlhdgfaaGreat
/- Moving a number of two words up and down: plain facts. -/
namespace Go.Proofs.YtlipcmonlhdgfaaGreat

theorem wrap_nat (a k : Nat) : IntKind.u64.wrap ((a : Int) * 2 ^ k) = ((a * 2 ^ k % 2 ^ 64 : Nat) : Int) := by
  rw [IntKind.wrap_u64, show ((2 : Int) ^ k) = ((2 ^ k : Nat) : Int) by simp, ← Int.natCast_mul]; rfl
theorem div_nat (a k : Nat) : (a : Int) / 2 ^ k = ((a / 2 ^ k : Nat) : Int) := by
  rw [show ((2 : Int) ^ k) = ((2 ^ k : Nat) : Int) by simp]; rfl
theorem bit_top {u i : Nat} (h : u < top) (hi : u.testBit i = true) : i < 128 := by
  rcases Nat.lt_or_ge i 128 with h' | h'
  · exact h'
  · have : u < 2 ^ i := Nat.lt_of_lt_of_le (by rw [top_eq] at h; exact h) (Nat.pow_le_pow_right (by decide) h')
    rw [Nat.testBit_lt_two_pow this] at hi; cases hi

theorem m64 (x : Nat) : x % 2 ^ 64 < 18446744073709551616 := Nat.mod_lt _ (by decide)
theorem d64 (x k : Nat) : x % 2 ^ 64 / 2 ^ k < 18446744073709551616 := Nat.lt_of_le_of_lt (Nat.div_le_self _ _) (m64 x)
theorem tb {u a b : Nat} (h : u.testBit a = true) (e : a = b) : u.testBit b = true := by rw [← e]; exact h

theorem up_far_hi (u k : Nat) (hk : 64 ≤ k) : IntKind.u64.wrap (wLo u * 2 ^ min (k - 64) 64) = wHi ((u * 2 ^ k) % top) := by
  rw [wLo_nat, wrap_nat, wHi_nat, top_eq]
  congr 1
  refine Nat.eq_of_testBit_eq fun j => ?_
  rw [Bool.eq_iff_iff]
  simp only [Nat.testBit_mod_two_pow, Nat.testBit_mul_two_pow, Nat.testBit_div_two_pow, Bool.and_eq_true, decide_eq_true_eq]
  constructor
  · rintro ⟨h1, h2, h3, h4⟩
    exact ⟨by omega, by omega, tb h4 (by omega)⟩
  · rintro ⟨h1, h2, h3⟩
    exact ⟨by omega, by omega, by omega, tb h3 (by omega)⟩
theorem up_far_lo (u k : Nat) (hk : 64 ≤ k) : (0 : Int) = wLo ((u * 2 ^ k) % top) := by
  have : (u * 2 ^ k) % top % 2 ^ 64 = 0 := by
    rw [mod_top _ (by decide : 64 ≤ 128)]
    exact Nat.mod_eq_zero_of_dvd (Nat.dvd_trans (Nat.pow_dvd_pow 2 hk) (Nat.dvd_mul_left _ _))
  rw [wLo_nat, this]; rfl
theorem up_near_hi {u k : Nat} (hk : k < 64) : bits .or .u64 (IntKind.u64.wrap (wHi u * 2 ^ k)) (wLo u / 2 ^ (64 - k)) = wHi ((u * 2 ^ k) % top) := by
  rw [wLo_nat, wHi_nat, wrap_nat, div_nat, wHi_nat, top_eq]
  rw [u64_or_nat _ _ (m64 _) (d64 _ _)]
  congr 1
  refine Nat.eq_of_testBit_eq fun j => ?_
  rw [Bool.eq_iff_iff]
  simp only [Nat.testBit_or, Nat.testBit_mod_two_pow, Nat.testBit_mul_two_pow, Nat.testBit_div_two_pow, Bool.and_eq_true, Bool.or_eq_true, decide_eq_true_eq]
  constructor
  · rintro (⟨h1, h2, h3⟩ | ⟨h1, h2⟩)
    · exact ⟨by omega, by omega, tb h3 (by omega)⟩
    · exact ⟨by omega, by omega, tb h2 (by omega)⟩
  · rintro ⟨h1, h2, h3⟩
    by_cases h : k ≤ j
    · exact .inl ⟨by omega, h, tb h3 (by omega)⟩
    · exact .inr ⟨by omega, tb h3 (by omega)⟩
theorem up_near_lo (u k : Nat) : IntKind.u64.wrap (wLo u * 2 ^ k) = wLo ((u * 2 ^ k) % top) := by
  rw [wLo_nat, wrap_nat, wLo_nat, mod_top _ (by decide : 64 ≤ 128)]
  congr 1
  exact Nat.mod_mul_mod u (2 ^ k) (2 ^ 64)
theorem down_far_hi {u k : Nat} (hu : u < top) (hk : 64 ≤ k) : (0 : Int) = wHi (u / 2 ^ k) := by
  have : u / 2 ^ k / 2 ^ 64 = 0 := by
    rw [Nat.div_div_eq_div_mul, ← Nat.pow_add]
    refine Nat.div_eq_of_lt (Nat.lt_of_lt_of_le (by rw [top_eq] at hu; exact hu) (Nat.pow_le_pow_right (by decide) (by omega)))
  rw [wHi_nat, this]; rfl
theorem down_far_lo {u k : Nat} (hu : u < top) (hk : 64 ≤ k) : wHi u / 2 ^ min (k - 64) 64 = wLo (u / 2 ^ k) := by
  rw [wHi_nat, div_nat, wLo_nat]
  congr 1
  refine Nat.eq_of_testBit_eq fun j => ?_
  rw [Bool.eq_iff_iff]
  simp only [Nat.testBit_mod_two_pow, Nat.testBit_div_two_pow, Bool.and_eq_true, decide_eq_true_eq]
  constructor
  · intro h
    have := bit_top hu h
    exact ⟨by omega, tb h (by omega)⟩
  · rintro ⟨_, h⟩
    have := bit_top hu h
    exact tb h (by omega)
theorem down_near_hi (u k : Nat) : wHi u / 2 ^ k = wHi (u / 2 ^ k) := by
  rw [wHi_nat, div_nat, wHi_nat, Nat.div_div_eq_div_mul, Nat.div_div_eq_div_mul, Nat.mul_comm]
theorem down_near_lo {u k : Nat} (hk : k < 64) : bits .or .u64 (wLo u / 2 ^ k) (IntKind.u64.wrap (wHi u * 2 ^ (64 - k))) = wLo (u / 2 ^ k) := by
  rw [wLo_nat, wHi_nat, wrap_nat, div_nat, wLo_nat]
  rw [u64_or_nat _ _ (d64 _ _) (m64 _)]
  congr 1
  refine Nat.eq_of_testBit_eq fun j => ?_
  rw [Bool.eq_iff_iff]
  simp only [Nat.testBit_or, Nat.testBit_mod_two_pow, Nat.testBit_mul_two_pow, Nat.testBit_div_two_pow, Bool.and_eq_true, Bool.or_eq_true, decide_eq_true_eq]
  constructor
  · rintro (⟨h1, h2⟩ | ⟨h1, h2, h3⟩)
    · exact ⟨by omega, h2⟩
    · exact ⟨h1, tb h3 (by omega)⟩
  · rintro ⟨h1, h2⟩
    by_cases h : 64 - k ≤ j
    · exact .inr ⟨h1, h, tb h2 (by omega)⟩
    · exact .inl ⟨by omega, h2⟩
end Go.Proofs.YtlipcmonlhdgfaaGreat
/- The walks of bits.up and bits.down. -/
namespace Go.Proofs.YtlipcmonlhdgfaaGreat
open Go.RowKit

theorem ret_two {a b c d : Int} (h : a = c) (k : b = d) : Ending.returned (.tuple #[.int .u64 a, .int .u64 b]) = .returned (.tuple #[.int .u64 c, .int .u64 d]) := by rw [h, k]
theorem upV (u : Nat) (k X Y : Int) (w : World) (hu : u < top) (k0 : 0 ≤ k) (k1 : k < 18446744073709551616) (hX : wHi ((u * 2 ^ k.toNat) % top) = X) (hY : wLo ((u * 2 ^ k.toNat) % top) = Y) :
    Calls Tryz.prog 166 #[.int .u64 (wHi u), .int .u64 (wLo u), .int .u64 k] w fun e w' => e = .returned (.tuple #[.int .u64 X, .int .u64 Y]) ∧ w' = w := by
  have HX0 := hide hX; have HY0 := hide hY
  clear hX hY
  by_cases h : 64 ≤ k
  · have HX : Hid (IntKind.u64.wrap (wLo u * 2 ^ min (k - 64).toNat 64) = X) := (show _ = _ from by have := up_far_hi u k.toNat (by omega); rw [show (k - 64).toNat = k.toNat - 64 by omega]; exact this).trans HX0.out
    have HY : Hid (0 = Y) := (show _ = _ from up_far_lo u k.toNat (by omega)).trans HY0.out
    obtain ⟨a0, a1⟩ := wHi_bd hu
    obtain ⟨b0, b1⟩ := wLo_bd u
    clear HX0 HY0
    generalize wHi u = h1 at *
    generalize wLo u = l1 at *
    go_enter Tryz.func166, Tryz.ntmps166
    go_wp2
    go_ret2
    exact ⟨ret_two HX.out HY.out, rfl⟩
  · have HX : Hid (bits .or .u64 (IntKind.u64.wrap (wHi u * 2 ^ k.toNat)) (wLo u / 2 ^ (64 - k).toNat) = X) := (show _ = _ from by have := up_near_hi (u := u) (k := k.toNat) (by omega); rw [show (64 - k).toNat = 64 - k.toNat by omega]; exact this).trans HX0.out
    have HY : Hid (IntKind.u64.wrap (wLo u * 2 ^ k.toNat) = Y) := (show _ = _ from up_near_lo u k.toNat).trans HY0.out
    obtain ⟨a0, a1⟩ := wHi_bd hu
    obtain ⟨b0, b1⟩ := wLo_bd u
    have h' : k < 64 := by omega
    clear HX0 HY0 h
    generalize wHi u = h1 at *
    generalize wLo u = l1 at *
    go_enter Tryz.func166, Tryz.ntmps166
    go_wp2
    go_ret2
    exact ⟨ret_two HX.out HY.out, rfl⟩
theorem downV (u : Nat) (k X Y : Int) (w : World) (hu : u < top) (k0 : 0 ≤ k) (k1 : k < 18446744073709551616) (hX : wHi (u / 2 ^ k.toNat) = X) (hY : wLo (u / 2 ^ k.toNat) = Y) :
    Calls Tryz.prog 167 #[.int .u64 (wHi u), .int .u64 (wLo u), .int .u64 k] w fun e w' => e = .returned (.tuple #[.int .u64 X, .int .u64 Y]) ∧ w' = w := by
  have HX0 := hide hX; have HY0 := hide hY
  clear hX hY
  by_cases h : 64 ≤ k
  · have HX : Hid (0 = X) := (show _ = _ from down_far_hi hu (by omega)).trans HX0.out
    have HY : Hid (wHi u / 2 ^ min (k - 64).toNat 64 = Y) := (show _ = _ from by have := down_far_lo (k := k.toNat) hu (by omega); rw [show (k - 64).toNat = k.toNat - 64 by omega]; exact this).trans HY0.out
    obtain ⟨a0, a1⟩ := wHi_bd hu
    obtain ⟨b0, b1⟩ := wLo_bd u
    clear HX0 HY0
    generalize wHi u = h1 at *
    generalize wLo u = l1 at *
    go_enter Tryz.func167, Tryz.ntmps167
    go_wp2
    go_ret2
    exact ⟨ret_two HX.out HY.out, rfl⟩
  · have HX : Hid (wHi u / 2 ^ k.toNat = X) := (show _ = _ from down_near_hi u k.toNat).trans HX0.out
    have HY : Hid (bits .or .u64 (wLo u / 2 ^ k.toNat) (IntKind.u64.wrap (wHi u * 2 ^ (64 - k).toNat)) = Y) := (show _ = _ from by have := down_near_lo (u := u) (k := k.toNat) (by omega); rw [show (64 - k).toNat = 64 - k.toNat by omega]; exact this).trans HY0.out
    obtain ⟨a0, a1⟩ := wHi_bd hu
    obtain ⟨b0, b1⟩ := wLo_bd u
    have h' : k < 64 := by omega
    clear HX0 HY0 h
    generalize wHi u = h1 at *
    generalize wLo u = l1 at *
    go_enter Tryz.func167, Tryz.ntmps167
    go_wp2
    go_ret2
    exact ⟨ret_two HX.out HY.out, rfl⟩
end Go.Proofs.YtlipcmonlhdgfaaGreat
/- The walks of the closures that move and tell, of the questions, and of cat, not, slice and cast. -/
namespace Go.Proofs.YtlipcmonlhdgfaaGreat
open Go.RowKit

theorem far_up {u v n : Nat} (hv : 18446744073709551616 ≤ v) (hn : n ≤ 128) : u * 2 ^ v % 2 ^ n = 0 :=
  Nat.mod_eq_zero_of_dvd (Nat.dvd_trans (Nat.pow_dvd_pow 2 (by omega)) (Nat.dvd_mul_left _ _))
theorem far_down {u v n : Nat} (hv : 18446744073709551616 ≤ v) (hu : u < top) : u / 2 ^ v % 2 ^ n = 0 := by
  have : u / 2 ^ v = 0 := Nat.div_eq_of_lt (Nat.lt_of_lt_of_le (by rw [top_eq] at hu; exact hu) (Nat.pow_le_pow_right (by decide) (by omega)))
  rw [this, Nat.zero_mod]
theorem past3 {w : World} {b : Nat} {F : Value} (h : w.cell? ⟨b, 0, none⟩ = some F) (o1 o2 o3 : Obj) : (((w.alloc o1).alloc o2).alloc o3).cell? ⟨b, 0, none⟩ = some F := by
  have hb : b < w.heap.size := World.block_lt_of_cell? w _ h
  rw [World.cell?_alloc_past _ _ _ (by simp; omega), World.cell?_alloc_past _ _ _ (by simp; omega), World.cell?_alloc_past _ _ _ hb]
  exact h
theorem wHi_pos {v : Nat} (h : wHi v ≠ 0) : 18446744073709551616 ≤ v := by unfold wHi at h; omega
theorem wLo_low {v : Nat} (h : wHi v = 0) : wLo v = v := by unfold wHi at h; unfold wLo; omega
theorem moved_up (n1 n2 : Int) (u v b : Nat) (w : World) (hu : u < top) (m0 : 1 ≤ n1) (m1 : n1 ≤ 128) (hcap : w.cell? ⟨b, 0, none⟩ = some (.func (Fn.func 166) #[] #[])) :
    Calls Tryz.prog 191 #[.agg #[.int .i64 n1, .int .u64 (wHi u), .int .u64 (wLo u)], .agg #[.int .i64 n2, .int .u64 (wHi v), .int .u64 (wLo v)], .pointer (some ⟨b, 0, none⟩)] w fun e w' => e = .returned (.agg #[.int .i64 n1, .int .u64 (wHi ((u * 2 ^ v) % 2 ^ n1.toNat)), .int .u64 (wLo ((u * 2 ^ v) % 2 ^ n1.toNat))]) ∧ Below w.heap.size w w' := by
  have hc3 := past3 hcap
  by_cases hz : wHi v ≠ 0
  · have e0 : (u * 2 ^ v) % 2 ^ n1.toNat = 0 := far_up (wHi_pos hz) (by omega)
    rw [e0, w_zero.1, w_zero.2]
    have hz' : (wHi v != 0) = true := by simpa using hz
    clear hz e0
    generalize wHi u = h1 at *
    generalize wLo u = l1 at *
    generalize wHi v = h2 at *
    generalize wLo v = l2 at *
    go_enter Tryz.func191, Tryz.ntmps191
    go_wp2
    refine bodyPost_ret (v := .agg #[.int .i64 n1, .int .u64 0, .int .u64 0]) (by simp [results, Tryz.results191, go_sem]) rfl ⟨rfl, ?_⟩
    exact (((Below.refl _ _).alloc (Nat.le_refl _) _).alloc (by simp) _).alloc (by simp; omega) _
  · have hz0 : wHi v = 0 := by omega
    have hk : (wLo v).toNat = v := by rw [wLo_low hz0]; rfl
    have hz' : (wHi v != 0) = false := by simp [hz0]
    have HU : Hid (∀ X Y W, wHi ((u * 2 ^ v) % top) = X → wLo ((u * 2 ^ v) % top) = Y → _) := fun X Y W hX hY => upV u (wLo v) X Y W hu (wLo_bd v).1 (wLo_bd v).2 (by rw [hk]; exact hX) (by rw [hk]; exact hY)
    have hs : (u * 2 ^ v) % top < top := mod_top_lt _
    rw [← mod_top (u * 2 ^ v) (by omega : n1.toNat ≤ 128)]
    generalize (u * 2 ^ v) % top = s at HU hs ⊢
    generalize hX : wHi s = X at HU
    generalize hY : wLo s = Y at HU
    generalize hrh : wHi (s % 2 ^ n1.toNat) = rh
    generalize hrl : wLo (s % 2 ^ n1.toNat) = rl
    have HX := hide hX; have HY := hide hY; have HRH := hide hrh; have HRL := hide hrl; have HS := hide hs
    clear hX hY hrh hrl hs hz hz0 hk
    generalize wHi u = h1 at *
    generalize wLo u = l1 at *
    generalize wHi v = h2 at *
    generalize wLo v = l2 at *
    go_enter Tryz.func191, Tryz.ntmps191
    go_wp2_with fail
    refine (HU.out X Y _ rfl rfl).mono ?_
    rintro e w1 ⟨rfl, hw⟩
    subst hw
    go_wp2_with fail
    refine (cutR n1 X Y rh rl s _ m0 m1 HS.out HX.out.symm HY.out.symm HRH.out HRL.out).mono ?_
    rintro e w1 ⟨rfl, hb⟩
    obtain ⟨hc, hf⟩ := bcell hb
    have hz : w.heap.size + 2 < w1.heap.size := by have := hb.size; simp at this; omega
    go_wp2
    refine bodyPost_ret (v := .agg #[.int .i64 n1, .int .u64 rh, .int .u64 rl]) (by simp [results, Tryz.results191, go_sem, hc]) rfl ⟨rfl, ?_⟩
    exact (((((((Below.refl _ _).alloc (Nat.le_refl _) _).alloc (by simp) _).alloc (by simp; omega) _).trans (hb.mono (by simp; omega))).setCell (by simp; omega) _).setCell (by simp; omega) _).setCell (by simp; omega) _
theorem moved_down (n1 n2 : Int) (u v b : Nat) (w : World) (hu : u < top) (m0 : 1 ≤ n1) (m1 : n1 ≤ 128) (hcap : w.cell? ⟨b, 0, none⟩ = some (.func (Fn.func 167) #[] #[])) :
    Calls Tryz.prog 191 #[.agg #[.int .i64 n1, .int .u64 (wHi u), .int .u64 (wLo u)], .agg #[.int .i64 n2, .int .u64 (wHi v), .int .u64 (wLo v)], .pointer (some ⟨b, 0, none⟩)] w fun e w' => e = .returned (.agg #[.int .i64 n1, .int .u64 (wHi ((u / 2 ^ v) % 2 ^ n1.toNat)), .int .u64 (wLo ((u / 2 ^ v) % 2 ^ n1.toNat))]) ∧ Below w.heap.size w w' := by
  have hc3 := past3 hcap
  by_cases hz : wHi v ≠ 0
  · have e0 : (u / 2 ^ v) % 2 ^ n1.toNat = 0 := far_down (wHi_pos hz) hu
    rw [e0, w_zero.1, w_zero.2]
    have hz' : (wHi v != 0) = true := by simpa using hz
    clear hz e0
    generalize wHi u = h1 at *
    generalize wLo u = l1 at *
    generalize wHi v = h2 at *
    generalize wLo v = l2 at *
    go_enter Tryz.func191, Tryz.ntmps191
    go_wp2
    refine bodyPost_ret (v := .agg #[.int .i64 n1, .int .u64 0, .int .u64 0]) (by simp [results, Tryz.results191, go_sem]) rfl ⟨rfl, ?_⟩
    exact (((Below.refl _ _).alloc (Nat.le_refl _) _).alloc (by simp) _).alloc (by simp; omega) _
  · have hz0 : wHi v = 0 := by omega
    have hk : (wLo v).toNat = v := by rw [wLo_low hz0]; rfl
    have hz' : (wHi v != 0) = false := by simp [hz0]
    have HU : Hid (∀ X Y W, wHi (u / 2 ^ v) = X → wLo (u / 2 ^ v) = Y → _) := fun X Y W hX hY => downV u (wLo v) X Y W hu (wLo_bd v).1 (wLo_bd v).2 (by rw [hk]; exact hX) (by rw [hk]; exact hY)
    have hs : u / 2 ^ v < top := Nat.lt_of_le_of_lt (Nat.div_le_self _ _) hu
    skip
    generalize u / 2 ^ v = s at HU hs ⊢
    generalize hX : wHi s = X at HU
    generalize hY : wLo s = Y at HU
    generalize hrh : wHi (s % 2 ^ n1.toNat) = rh
    generalize hrl : wLo (s % 2 ^ n1.toNat) = rl
    have HX := hide hX; have HY := hide hY; have HRH := hide hrh; have HRL := hide hrl; have HS := hide hs
    clear hX hY hrh hrl hs hz hz0 hk
    generalize wHi u = h1 at *
    generalize wLo u = l1 at *
    generalize wHi v = h2 at *
    generalize wLo v = l2 at *
    go_enter Tryz.func191, Tryz.ntmps191
    go_wp2_with fail
    refine (HU.out X Y _ rfl rfl).mono ?_
    rintro e w1 ⟨rfl, hw⟩
    subst hw
    go_wp2_with fail
    refine (cutR n1 X Y rh rl s _ m0 m1 HS.out HX.out.symm HY.out.symm HRH.out HRL.out).mono ?_
    rintro e w1 ⟨rfl, hb⟩
    obtain ⟨hc, hf⟩ := bcell hb
    have hz : w.heap.size + 2 < w1.heap.size := by have := hb.size; simp at this; omega
    go_wp2
    refine bodyPost_ret (v := .agg #[.int .i64 n1, .int .u64 rh, .int .u64 rl]) (by simp [results, Tryz.results191, go_sem, hc]) rfl ⟨rfl, ?_⟩
    exact (((((((Below.refl _ _).alloc (Nat.le_refl _) _).alloc (by simp) _).alloc (by simp; omega) _).trans (hb.mono (by simp; omega))).setCell (by simp; omega) _).setCell (by simp; omega) _).setCell (by simp; omega) _
end Go.Proofs.YtlipcmonlhdgfaaGreat
