/- The document's answers for sums: the second one. -/
import Derived.Test.YtannocdcohofbaaSvSum
import Derived.RegionTactic
namespace Go.Proofs.Ytannocdcohofbaa
open Go.RowKit

theorem rwidth_two (w : World) : Calls Try.prog 59 #[.int .i64 2] w fun e w' => e = .returned (.int .i64 32) ∧ w' = w := by
  go_enter Try.func59, Try.ntmps59
  go_wp2
  go_ret
  exact ⟨rfl, rfl⟩
theorem not32 (x : Nat) (h : x < 4294967296) : bits .xor .u32 IntKind.u32.max (x : Int) = ((x ^^^ 0xffffffff : Nat) : Int) := by
  have e : IntKind.u32.max = ((0xffffffff : Nat) : Int) := by decide
  rw [e, u32_xor_nat _ _ (by decide) h, Nat.xor_comm]
def cbit (p x c k : Nat) : Nat := stn p k (c ^^^ x) ^^^ (x / 2 ^ k)
theorem cbit_zero (p x c : Nat) : cbit p x c 0 = c := by simp [cbit, stn, Nat.xor_assoc]
theorem cbit_end (p x c : Nat) (hx : x < 256) : cbit p x c 8 = stn p 8 (c ^^^ x) := by
  have : x / 2 ^ 8 = 0 := Nat.div_eq_of_lt hx
  simp [cbit, this]
theorem cbit_lt {p x c : Nat} (hp : p < 4294967296) (hc : c < 4294967296) (hx : x < 256) (k : Nat) : cbit p x c k < 4294967296 := by
  unfold cbit
  refine Nat.xor_lt_two_pow (n := 32) (stn32 hp k (Nat.xor_lt_two_pow (n := 32) hc (by omega))) ?_
  have := Nat.div_le_self x (2 ^ k)
  have h2 : (2 : Nat) ^ 32 = 4294967296 := by decide
  omega
theorem cbit_succ (p x c k : Nat) : cbit p x c (k + 1) = (cbit p x c k / 2) ^^^ ((cbit p x c k ^^^ (x / 2 ^ k)) % 2 * p) := by
  have h := bit_step p x k (cbit p x c k)
  have e : cbit p x c k ^^^ (x / 2 ^ k) = stn p k (c ^^^ x) := by unfold cbit; rw [Nat.xor_assoc, Nat.xor_self, Nat.xor_zero]
  rw [e, ← stn_succ] at h
  rw [e]
  unfold cbit at h ⊢
  rw [h, Nat.xor_assoc, Nat.xor_self, Nat.xor_zero]
theorem one_bit (c y : Nat) (hc : c < 4294967296) (hy : y < 256) : (bits .and .u32 (bits .xor .u32 (c : Int) (y : Int)) 1 == 1) = decide ((c ^^^ y) % 2 = 1) := by
  have hxy : c ^^^ y < 4294967296 := Nat.xor_lt_two_pow (n := 32) hc (by omega)
  rw [u32_xor_nat _ _ hc (by omega)]
  have := u32_and_nat (c ^^^ y) 1 hxy (by decide)
  rw [Nat.and_one_is_mod] at this
  have e : bits .and .u32 ((c ^^^ y : Nat) : Int) 1 = (((c ^^^ y) % 2 : Nat) : Int) := this
  rw [e]
  rcases Nat.mod_two_eq_zero_or_one (c ^^^ y) with h | h <;> rw [h] <;> rfl
set_option maxHeartbeats 1000000 in
theorem rcrc_any (p c0 : Nat) (a : Option Addr) (cap : Nat) (xs : List Nat) (w : World) (hp : p < 4294967296) (hc : c0 < 4294967296) (hx : ∀ y ∈ xs, y < 256) (hl : xs.length < 140737488355328) (hr : RdS w a xs) :
    Calls Try.prog 56 #[.slice a xs.length cap, .int .u32 p, .int .u32 c0] w fun e w' => e = .returned (.int .u32 ((crcF p c0 xs : Nat) : Int)) ∧ w' = w := by
  have HR := hide hr
  clear hr
  go_enter Try.func56, Try.ntmps56
  go_wp2
  go_loop [7, 8] (fun s i => ∃ k : Nat, k ≤ xs.length ∧ i = .int .i64 k ∧ s = .int .u32 ((crcF p c0 (xs.take k) : Nat) : Int)) (fun _ i => xs.length - (intOf i).toNat)
  case atStart => exact ⟨0, by omega, rfl, rfl⟩
  case round =>
    obtain ⟨k, hk, rfl, rfl⟩ := hrel
    have hs : crcF p c0 (xs.take k) < 4294967296 := crcF32 hp hc _ (fun y hy => hx y (List.mem_of_mem_take hy))
    by_cases hlt : k < xs.length
    · obtain ⟨q, off, rfl, _, hcell⟩ := HR.out.some (by omega)
      have hck := hcell k hlt
      have hxk : xs[k] < 256 := hx _ (List.getElem_mem hlt)
      have HN : Hid (crcF p c0 (xs.take (k + 1)) = stn p 8 (crcF p c0 (xs.take k) ^^^ xs[k])) := by show _ = _; rw [take_get xs k hlt, crcF_snoc]
      have hlI : (k : Int) < (xs.length : Int) := by omega
      clear hcell HR
      generalize crcF p c0 (xs.take k) = s at *
      generalize xs[k] = x at *
      go_wp2
      go_loop [7, 9] (fun c j => ∃ m : Nat, m ≤ 8 ∧ j = .int .i64 m ∧ c = .int .u32 ((cbit p x s m : Nat) : Int)) (fun _ j => 8 - (intOf j).toNat)
      case atStart => exact ⟨0, by omega, rfl, by rw [cbit_zero]⟩
      case round =>
        obtain ⟨m, hm, rfl, rfl⟩ := hrel
        by_cases hm8 : m < 8
        · have hcb := cbit_lt hp hs hxk m
          have HS := hide (cbit_succ p x s m)
          have hy : x / 2 ^ m < 256 := by have := Nat.div_le_self x (2 ^ m); omega
          have hb := one_bit (cbit p x s m) (x / 2 ^ m) hcb hy
          have hyI : (x : Int) / 2 ^ m = ((x / 2 ^ m : Nat) : Int) := by simp
          obtain ⟨y, hy0⟩ : ∃ y, y = x / 2 ^ m := ⟨_, rfl⟩
          rw [← hy0] at HS hb hyI hy
          clear hy0
          generalize cbit p x s m = c at *
          by_cases ho : (c ^^^ y) % 2 = 1
          · have hbt : (bits .and .u32 (bits .xor .u32 (c : Int) (y : Int)) 1 == 1) = true := by rw [hb]; simp [ho]
            have HX := hide (u32_xor_nat (c / 2) p (by omega) hp)
            rw [ho, Nat.one_mul] at HS
            clear hb ho
            go_wp2
            exact ⟨⟨m + 1, by omega, by go_num, by rw [HS.out, ← HX.out]; simp⟩, by simp [intOf]; omega⟩
          · have hbt : (bits .and .u32 (bits .xor .u32 (c : Int) (y : Int)) 1 == 1) = false := by rw [hb]; simp [ho]
            have h0 : (c ^^^ y) % 2 = 0 := by omega
            rw [h0, Nat.zero_mul, Nat.xor_zero] at HS
            clear hb ho h0
            go_wp2
            exact ⟨⟨m + 1, by omega, by go_num, by rw [HS.out]; simp⟩, by simp [intOf]; omega⟩
        · obtain rfl : m = 8 := by omega
          have HE := hide (cbit_end p x s hxk)
          generalize hcb : cbit p x s 8 = c at *
          go_wp2
          go_round
          case rel => exact ⟨k + 1, by omega, by go_num, by rw [HN.out, HE.out]⟩
          case measure => simp [intOf]; omega
    · obtain rfl : k = xs.length := by omega
      clear HR
      rw [List.take_length] at *
      generalize hsx : crcF p c0 xs = s at *
      have HSX := hide hsx
      clear hsx
      go_wp2
      go_ret
      exact ⟨by rw [HSX.out]; rfl, rfl⟩
set_option maxHeartbeats 1000000 in
theorem rsum_two (a : Option Addr) (cap : Nat) (xs : List Nat) (w : World) (hx : ∀ y ∈ xs, y < 256) (hl : xs.length < 140737488355328) (hr : RdS w a xs) :
    Calls Try.prog 52 #[.int .i64 2, .slice a xs.length cap] w fun e w' => e = .returned (.tuple #[.agg #[.int .i64 32, .int .u64 0, .int .u64 ((sumF 2 xs : Nat) : Int)], .int .i64 0]) ∧ Below w.heap.size w w' := by
  have HC := hide (rcrc_any 0xedb88320 0xffffffff a cap xs _ (by decide) (by decide) hx hl (hr.below ((Below.refl _ w).alloc (Nat.le_refl _) (.cells #[.int .i64 0, .int .u64 0, .int .u64 0] 86))))
  have hu := sumF_u32 2 (by decide) xs hx
  have hN := not32 (crcF 0xedb88320 0xffffffff xs) (crcF32 (by decide) (by decide) xs hx)
  rw [show (crcF 0xedb88320 0xffffffff xs ^^^ 0xffffffff) = sumF 2 xs from rfl] at hN
  generalize sumF 2 xs = V at *
  generalize crcF 0xedb88320 0xffffffff xs = Z at *
  clear hr
  go_enter Try.func52, Try.ntmps52
  go_wp2_with fail
  refine HC.out.mono ?_
  rintro e w1 ⟨rfl, rfl⟩
  go_wp2_with fail
  refine (rwidth_two _).mono ?_
  rintro e w2 ⟨rfl, rfl⟩
  go_wp2
  refine bodyPost_ret (v := .tuple #[.agg #[.int .i64 32, .int .u64 0, .int .u64 (V : Int)], .int .i64 0]) (by simp [results, Try.results52, go_sem]) rfl ⟨rfl, ?_⟩
  exact (Below.refl _ _).alloc (Nat.le_refl _) _
end Go.Proofs.Ytannocdcohofbaa
