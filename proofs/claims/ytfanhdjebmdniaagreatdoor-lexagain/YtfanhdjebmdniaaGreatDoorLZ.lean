/- LexOne: the law's own digits, and its walk. -/
import Derived.Test.YtfanhdjebmdniaaGreatDoorLY
namespace Go.Proofs.YtfanhdjebmdniaaGreatDoor
open Go.RowKit

def tenZ : ByteArray := ⟨#[48, 49, 50, 51, 52, 53, 54, 55, 56, 57]⟩
theorem extZ : ∀ x : Fin 10, tenZ.extract x.val (x.val + 1) = txt [UInt8.ofNat (48 + x.val)] := by decide +kernel
theorem extZ' {x : Nat} (h : x < 10) : tenZ.extract x (x + 1) = txt [UInt8.ofNat (48 + x)] := extZ ⟨x, h⟩
theorem dcZ_len : ∀ (k v : Nat), v < 10 ^ (k + 1) → (Lib.decDigits v).length ≤ k + 1
  | 0, v, h => by rw [dc_small (by simpa using h)]; simp
  | k + 1, v, h => by
    by_cases hs : v < 10
    · rw [dc_small hs]; simp
    · rw [dc_big hs, List.length_append]
      have := dcZ_len k (v / 10) (by rw [Nat.pow_succ] at h; omega)
      simp; omega
set_option maxRecDepth 100000 in
theorem digits7 (N : Nat) (hN : N < 10000000000) (w : World) :
    Calls Tryz.prog 15 #[.int .u64 N] w fun e w' => e = .returned (.string (txt (Lib.decDigits N))) ∧ w' = w := by
  have HLN := hide (dcZ_len 9 N (by omega))
  generalize hD : Lib.decDigits N = D at HLN ⊢
  have HD := hide hD
  clear hD
  have hwf : Hid (N < 10000000000) := hN
  clear hN
  go_enter Tryz.func15, Tryz.ntmps15
  go_wp2
  go_loop [0, 3] (fun vn vs => ∃ (n : Nat) (l : List UInt8) (S : ByteArray), vn = .int .u64 (n : Int) ∧ vs = .string S ∧ n < 10000000000 ∧ Hid (S = txt l ∧ D = Lib.decDigits n ++ l)) (fun vn _ => (intOf vn).toNat)
  case atStart => exact ⟨N, [], ⟨#[]⟩, rfl, rfl, hwf.out, rfl, by rw [← HD.out]; simp⟩
  case round =>
    obtain ⟨n, l, S, rfl, rfl, hn, HS⟩ := hrel
    have hSs : S.size ≤ 20 := by
      obtain ⟨h1, h2⟩ := HS.out
      have := HLN.out
      rw [h2, List.length_append] at this
      rw [h1, txt_size]; omega
    have hs1 : ¬ 9223372036854775807 < 1 + S.size := by omega
    by_cases hb : 9 < n
    · have HN : Hid (tenZ.extract (n % 10) (n % 10 + 1) ++ S = txt (UInt8.ofNat (48 + n % 10) :: l) ∧ D = Lib.decDigits (n / 10) ++ (UInt8.ofNat (48 + n % 10) :: l)) := by
        obtain ⟨h1, h2⟩ := HS.out
        refine ⟨by rw [extZ' (by omega), h1, cat_txt]; rfl, ?_⟩
        rw [h2, dc_big (by omega), List.append_assoc]; rfl
      clear HS
      go_wp2
      exact ⟨⟨n / 10, _, _, by congr 1, rfl, by omega, HN⟩, by simp [intOf]; omega⟩
    · have HN : Hid (tenZ.extract (n % 10) (n % 10 + 1) ++ S = txt D) := by
        obtain ⟨h1, h2⟩ := HS.out
        unfold Hid
        rw [extZ' (by omega), h1, cat_txt, h2, dc_small (by omega), Nat.mod_eq_of_lt (by omega)]
      clear HS
      have hn10 : n < 10 := by omega
      go_wp2
      go_ret
      exact ⟨by rw [← HN.out]; rfl, rfl⟩
theorem okN_nat {m : Int} {v : Nat} (h : okN m v = true) : okN ((m.toNat : Nat) : Int) v = true ∧ ((m.toNat : Nat) : Int) = m := by
  have := okN_bd h
  have e : ((m.toNat : Nat) : Int) = m := by omega
  rw [e]; exact ⟨h, rfl⟩
set_option maxHeartbeats 2000000 in
set_option maxRecDepth 100000 in
theorem one_no (n k : Nat) (m : Int) (v : Nat) (w : World) (hL : Ls w) (hv : v < top) (ho : okN m v = false) :
    Calls Tryz.prog 5 #[.int .u32 (n : Int), .agg #[.int .i64 m, .int .u64 (wHi v), .int .u64 (wLo v)], .int .u8 (k : Int)] w fun e w' => e = .returned (.bool true) ∧ Below w.heap.size w w' := by
  have HA : Hid (∀ W, Ls W → _) := fun W h => alive7 W h
  have HT : Hid (∀ W, _) := fun W => text_no m v W hv ho
  have HL := hide hL
  clear hL hv ho
  generalize wHi v = h1 at *
  generalize wLo v = l1 at *
  go_enter Tryz.func5, Tryz.ntmps5
  go_wp2_with fail
  refine (HT.out _).mono ?_
  rintro e w1 ⟨rfl, hb⟩
  have B1 := hide (((Below.refl w.heap.size w).alloc (Nat.le_refl _) _).trans (hb.mono (by simp)))
  clear hb
  go_wp2_with fail
  refine (HA.out _ (HL.out.below B1.out)).mono ?_
  rintro e w2 ⟨rfl, hb⟩
  have B2 := hide (B1.out.trans (hb.mono B1.out.size))
  clear hb
  go_wp2_with fail
  refine (HA.out _ (HL.out.below B2.out)).mono ?_
  rintro e w3 ⟨rfl, hb⟩
  have B3 := hide (B2.out.trans (hb.mono B2.out.size))
  clear hb
  go_wp2
  go_ret
  exact ⟨rfl, B3.out⟩
set_option maxHeartbeats 2000000 in
set_option maxRecDepth 100000 in
theorem one_big (n k : Nat) (m : Int) (v : Nat) (w : World) (hL : Ls w) (hv : v < top) (ho : okN m v = true) (hn : 2147483647 < n) (hn2 : n < 4294967296) :
    Calls Tryz.prog 5 #[.int .u32 (n : Int), .agg #[.int .i64 m, .int .u64 (wHi v), .int .u64 (wLo v)], .int .u8 (k : Int)] w fun e w' => e = .returned (.bool true) ∧ Below w.heap.size w w' := by
  have HA : Hid (∀ W, Ls W → _) := fun W h => alive7 W h
  have HT : Hid (∀ W, Ls W → _) := fun W h => text_yes m v W h.ld hv ho
  have HL := hide hL
  have hnI : (2147483647 : Int) < (n : Int) := by omega
  have HL0 := hide (HL.out.below ((Below.refl w.heap.size w).alloc (Nat.le_refl _) (.cells #[.int .i64 m, .int .u64 (wHi v), .int .u64 (wLo v)] 66)))
  clear hL hv ho
  generalize wHi v = h1 at *
  generalize wLo v = l1 at *
  go_enter Tryz.func5, Tryz.ntmps5
  go_wp2_with fail
  refine (HT.out _ HL0.out).mono ?_
  rintro e w1 ⟨rfl, hb⟩
  have B1 := hide (((Below.refl w.heap.size w).alloc (Nat.le_refl _) _).trans (hb.mono (by simp)))
  clear hb
  go_wp2_with fail
  refine (HA.out _ (HL.out.below B1.out)).mono ?_
  rintro e w2 ⟨rfl, hb⟩
  have B2 := hide (B1.out.trans (hb.mono B1.out.size))
  clear hb
  go_wp2_with fail
  refine (HA.out _ (HL.out.below B2.out)).mono ?_
  rintro e w3 ⟨rfl, hb⟩
  have B3 := hide (B2.out.trans (hb.mono B2.out.size))
  clear hb
  go_wp2
  go_ret
  exact ⟨rfl, B3.out⟩
end Go.Proofs.YtfanhdjebmdniaaGreatDoor
