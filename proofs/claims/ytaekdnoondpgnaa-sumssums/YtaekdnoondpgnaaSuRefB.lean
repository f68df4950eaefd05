/- The document's answers for sums: fold, Turn, word, crc. -/
import Derived.Test.YtaekdnoondpgnaaSuRef
import Derived.Test.YtaekdnoondpgnaaSuCrcB
namespace Go.Proofs.Ytaekdnoondpgnaa
open Go.RowKit

theorem and16 (t : Nat) (h : t < 4294967296) : bits .and .u32 (t : Int) 65535 = ((t % 65536 : Nat) : Int) := by
  have := u32_and_nat t 65535 h (by decide)
  rw [show (65535 : Nat) = 2 ^ 16 - 1 by decide, Nat.and_two_pow_sub_one_eq_mod] at this
  exact this
theorem rfold_any (t0 : Nat) (w : World) (h0 : t0 < 4294967296) : Calls Try.prog 27 #[.int .u32 t0] w fun e w' => e = .returned (.int .u32 ((fol t0 : Nat) : Int)) ∧ w' = w := by
  go_enter Try.func27, Try.ntmps27
  go_wp2
  go_loop [0] (fun x => ∃ t : Nat, t < 4294967296 ∧ x = .int .u32 (t : Int) ∧ fol t = fol t0) (fun x => (intOf x).toNat)
  case atStart => exact ⟨t0, h0, rfl, rfl⟩
  case round =>
    obtain ⟨t, ht, rfl, hf⟩ := hrel
    have HF := hide hf
    clear hf
    have HA := hide (and16 t ht)
    by_cases hlt : 65535 < t
    · go_wp2
      go_round
      case rel => exact ⟨t % 65536 + t / 65536, by omega, by rw [HA.out]; simp; omega, by rw [fol_step hlt]; exact HF.out⟩
      case measure =>
        have h1 := fold_less hlt
        have e : ((t % 65536 : Nat) : Int) + (t : Int) / 65536 = ((t % 65536 + t / 65536 : Nat) : Int) := by omega
        rw [HA.out]
        show Int.toNat (_ % _) < Int.toNat (t : Int)
        rw [e]
        generalize t % 65536 + t / 65536 = z at *
        omega
    · go_wp2
      go_ret
      exact ⟨ret_int (by rw [← HF.out, fol_small (by omega)]), rfl⟩
theorem rturn_any (s o n : Nat) (w : World) (hs : s < 65536) (ho : o < 65536) (hn : n < 65536) :
    Calls Try.prog 21 #[.int .u16 s, .int .u16 o, .int .u16 n] w fun e w' => e = .returned (.int .u16 ((turnF s o n : Nat) : Int)) ∧ w' = w := by
  have HR := hide (rfold_any ((65535 - s) + (65535 - o) + n) w (by omega))
  have hf := fol_le ((65535 - s) + (65535 - o) + n)
  have HF : Hid (turnF s o n = 65535 - fol ((65535 - s) + (65535 - o) + n)) := rfl
  generalize fol ((65535 - s) + (65535 - o) + n) = F at *
  obtain ⟨T, hT⟩ : ∃ T, T = (65535 - s) + (65535 - o) + n := ⟨_, rfl⟩
  rw [← hT] at HR
  have e1 : (65535 : Int) - (s : Int) + (65535 - (o : Int)) + (n : Int) = (T : Int) := by omega
  clear hT
  go_enter Try.func21, Try.ntmps21
  go_wp2_with fail
  refine HR.out.mono ?_
  rintro e w1 ⟨rfl, rfl⟩
  go_wp2
  go_ret
  exact ⟨ret_int (by rw [HF.out]; omega), rfl⟩
set_option maxHeartbeats 400000 in
theorem rword_any (p off cap k : Nat) (xs : List Nat) (w : World) (hx : ∀ y ∈ xs, y < 256) (hl : xs.length < 140737488355328) (hk : k < xs.length)
    (hc : ∀ i (h : i < xs.length), w.cell? ⟨p, off + i, none⟩ = some (.int .u8 (xs[i] : Nat))) :
    Calls Try.prog 28 #[.slice (some ⟨p, off, none⟩) xs.length cap, .int .i64 k] w fun e w' => e = .returned (.int .u32 ((wordAt xs k : Nat) : Int)) ∧ w' = w := by
  have h0 := hc k hk
  have b0 : xs[k] < 256 := hx _ (List.getElem_mem hk)
  have hkI : (k : Int) < (xs.length : Int) := by omega
  by_cases h1 : k + 1 < xs.length
  · have h2 := hc (k + 1) h1
    have b1 : xs[k + 1] < 256 := hx _ (List.getElem_mem h1)
    have h1I : (k : Int) + 1 < (xs.length : Int) := by omega
    have HE : Hid (wordAt xs k = 256 * xs[k] + xs[k + 1]) := by show wordAt xs k = _; unfold wordAt; rw [getD_in _ _ hk, getD_in _ _ h1]
    clear hc
    generalize xs[k] = x at *
    generalize xs[k + 1] = y at *
    go_enter Try.func28, Try.ntmps28
    go_wp2
    go_ret
    exact ⟨ret_int (by rw [HE.out]; omega), rfl⟩
  · have h1I : decide ((k : Int) + 1 < (xs.length : Int)) = false := by simp; omega
    have HE : Hid (wordAt xs k = 256 * xs[k]) := by show wordAt xs k = _; unfold wordAt; rw [getD_in _ _ hk, getD_out _ _ (by omega)]; omega
    clear hc
    generalize xs[k] = x at *
    go_enter Try.func28, Try.ntmps28
    go_wp2
    go_ret
    exact ⟨ret_int (by rw [HE.out]; omega), rfl⟩
def cbit (p x c k : Nat) : Nat := stn p k (c ^^^ x) ^^^ (x / 2 ^ k)
theorem cbit_zero (p x c : Nat) : cbit p x c 0 = c := by simp [cbit, stn, Nat.xor_assoc]
theorem cbit_end (p x c : Nat) (hx : x < 256) : cbit p x c 8 = stn p 8 (c ^^^ x) := by
  have : x / 2 ^ 8 = 0 := Nat.div_eq_of_lt hx
  simp [cbit, this]
theorem cbit_lt {p x c : Nat} (hp : p < 4294967296) (hc : c < 4294967296) (hx : x < 256) (k : Nat) : cbit p x c k < 4294967296 := by
  unfold cbit
  refine Nat.xor_lt_two_pow (n := 32) (stn32 hp k (Nat.xor_lt_two_pow (n := 32) hc (by omega))) ?_
  have := Nat.div_le_self x (2 ^ k)
  have h2 : (2 : Nat) ^ 32 = 4294967296 := by decide
  omega
theorem cbit_succ (p x c k : Nat) : cbit p x c (k + 1) = (cbit p x c k / 2) ^^^ ((cbit p x c k ^^^ (x / 2 ^ k)) % 2 * p) := by
  have h := bit_step p x k (cbit p x c k)
  have e : cbit p x c k ^^^ (x / 2 ^ k) = stn p k (c ^^^ x) := by unfold cbit; rw [Nat.xor_assoc, Nat.xor_self, Nat.xor_zero]
  rw [e, ← stn_succ] at h
  rw [e]
  unfold cbit at h ⊢
  rw [h, Nat.xor_assoc, Nat.xor_self, Nat.xor_zero]
theorem one_bit (c y : Nat) (hc : c < 4294967296) (hy : y < 256) : (bits .and .u32 (bits .xor .u32 (c : Int) (y : Int)) 1 == 1) = decide ((c ^^^ y) % 2 = 1) := by
  have hxy : c ^^^ y < 4294967296 := Nat.xor_lt_two_pow (n := 32) hc (by omega)
  rw [u32_xor_nat _ _ hc (by omega)]
  have := u32_and_nat (c ^^^ y) 1 hxy (by decide)
  rw [Nat.and_one_is_mod] at this
  have e : bits .and .u32 ((c ^^^ y : Nat) : Int) 1 = (((c ^^^ y) % 2 : Nat) : Int) := this
  rw [e]
  rcases Nat.mod_two_eq_zero_or_one (c ^^^ y) with h | h <;> rw [h] <;> rfl
set_option maxHeartbeats 1000000 in
theorem rcrc_any (p c0 : Nat) (a : Option Addr) (cap : Nat) (xs : List Nat) (w : World) (hp : p < 4294967296) (hc : c0 < 4294967296) (hx : ∀ y ∈ xs, y < 256) (hl : xs.length < 140737488355328) (hr : RdA w a xs) :
    Calls Try.prog 26 #[.slice a xs.length cap, .int .u32 p, .int .u32 c0] w fun e w' => e = .returned (.int .u32 ((crcF p c0 xs : Nat) : Int)) ∧ w' = w := by
  have HR := hide hr
  clear hr
  go_enter Try.func26, Try.ntmps26
  go_wp2
  go_loop [7, 8] (fun s i => ∃ k : Nat, k ≤ xs.length ∧ i = .int .i64 k ∧ s = .int .u32 ((crcF p c0 (xs.take k) : Nat) : Int)) (fun _ i => xs.length - (intOf i).toNat)
  case atStart => exact ⟨0, by omega, rfl, rfl⟩
  case round =>
    obtain ⟨k, hk, rfl, rfl⟩ := hrel
    have hs : crcF p c0 (xs.take k) < 4294967296 := crcF32 hp hc _ (fun y hy => hx y (List.mem_of_mem_take hy))
    by_cases hlt : k < xs.length
    · obtain ⟨q, off, rfl, _, hcell⟩ := HR.out.some (by omega)
      have hck := hcell k hlt
      have hxk : xs[k] < 256 := hx _ (List.getElem_mem hlt)
      have HN : Hid (crcF p c0 (xs.take (k + 1)) = stn p 8 (crcF p c0 (xs.take k) ^^^ xs[k])) := by show _ = _; rw [take_get xs k hlt, crcF_snoc]
      have hlI : (k : Int) < (xs.length : Int) := by omega
      clear hcell HR
      generalize crcF p c0 (xs.take k) = s at *
      generalize xs[k] = x at *
      go_wp2
      go_loop [7, 9] (fun c j => ∃ m : Nat, m ≤ 8 ∧ j = .int .i64 m ∧ c = .int .u32 ((cbit p x s m : Nat) : Int)) (fun _ j => 8 - (intOf j).toNat)
      case atStart => exact ⟨0, by omega, rfl, by rw [cbit_zero]⟩
      case round =>
        obtain ⟨m, hm, rfl, rfl⟩ := hrel
        by_cases hm8 : m < 8
        · have hcb := cbit_lt hp hs hxk m
          have HS := hide (cbit_succ p x s m)
          have hy : x / 2 ^ m < 256 := by have := Nat.div_le_self x (2 ^ m); omega
          have hb := one_bit (cbit p x s m) (x / 2 ^ m) hcb hy
          have hyI : (x : Int) / 2 ^ m = ((x / 2 ^ m : Nat) : Int) := by simp
          obtain ⟨y, hy0⟩ : ∃ y, y = x / 2 ^ m := ⟨_, rfl⟩
          rw [← hy0] at HS hb hyI hy
          clear hy0
          generalize cbit p x s m = c at *
          by_cases ho : (c ^^^ y) % 2 = 1
          · have hbt : (bits .and .u32 (bits .xor .u32 (c : Int) (y : Int)) 1 == 1) = true := by rw [hb]; simp [ho]
            have HX := hide (u32_xor_nat (c / 2) p (by omega) hp)
            rw [ho, Nat.one_mul] at HS
            clear hb ho
            go_wp2
            exact ⟨⟨m + 1, by omega, by go_num, by rw [HS.out, ← HX.out]; simp⟩, by simp [intOf]; omega⟩
          · have hbt : (bits .and .u32 (bits .xor .u32 (c : Int) (y : Int)) 1 == 1) = false := by rw [hb]; simp [ho]
            have h0 : (c ^^^ y) % 2 = 0 := by omega
            rw [h0, Nat.zero_mul, Nat.xor_zero] at HS
            clear hb ho h0
            go_wp2
            exact ⟨⟨m + 1, by omega, by go_num, by rw [HS.out]; simp⟩, by simp [intOf]; omega⟩
        · obtain rfl : m = 8 := by omega
          have HE := hide (cbit_end p x s hxk)
          generalize hcb : cbit p x s 8 = c at *
          go_wp2
          go_round
          case rel => exact ⟨k + 1, by omega, by go_num, by rw [HN.out, HE.out]⟩
          case measure => simp [intOf]; omega
    · obtain rfl : k = xs.length := by omega
      clear HR
      rw [List.take_length] at *
      generalize hsx : crcF p c0 xs = s at *
      have HSX := hide hsx
      clear hsx
      go_wp2
      go_ret
      exact ⟨by rw [HSX.out]; rfl, rfl⟩
end Go.Proofs.Ytaekdnoondpgnaa
