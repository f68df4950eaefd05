/- strconv.FormatUint at base 16, bits.digits, strings.Cut at one byte. -/
import Derived.Test.YtbbnjilajkllpaaGreatDoorUB
import Derived.Test.YtbbnjilajkllpaaGreatDoorUFx
import Derived.Deep.RegionHeld3
namespace Go.Proofs.YtbbnjilajkllpaaGreatDoor
open Go.RowKit

theorem fmt16 (v : Nat) (hv : v < 18446744073709551616) (w : World) (hL : Ld w) :
    Calls Tryz.prog 24 #[.int .u64 v, .int .i64 16] w fun e w' => ∃ k, hexAt v k ∧ e = .returned (.string (txt (lowB v (k + 1)))) ∧ Below w.heap.size w w' := formatUint_16 v hv w hL.db
theorem cat_txt (a b : List UInt8) : txt a ++ txt b = txt (a ++ b) := by
  apply ByteArray.ext
  simp [txt]
theorem rep48 : ∀ c : Nat, Lib.repeatL (⟨#[48]⟩ : ByteArray).data.toList c = List.replicate c 48
  | 0 => rfl
  | c + 1 => by
    have := rep48 c
    simp only [Lib.repeatL, this, List.replicate_succ]
    rfl
theorem repeat_zero (c : Nat) (hc : c ≤ 16) (w : World) : Calls Tryz.prog 25 #[.string ⟨#[48]⟩, .int .i64 c] w fun e w' => e = .returned (.string (txt (List.replicate c 48))) ∧ Below w.heap.size w w' := by
  refine (Tryz.strings_Repeat ⟨#[48]⟩ c w (by omega) (by simp [ByteArray.size]; omega)).mono fun e w' ⟨h1, h2⟩ => ⟨?_, h2⟩
  rw [h1, rep48]
  rfl
theorem digits_any (hi lo : Nat) (hhi : hi < 18446744073709551616) (hlo : lo < 18446744073709551616) (w : World) (hL : Ld w) :
    Calls Tryz.prog 13 #[.int .u64 hi, .int .u64 lo] w fun e w' => e = .returned (.string (txt (hx (hi * 18446744073709551616 + lo)))) ∧ Below w.heap.size w w' := by
  have HF := hide (fmt16 lo hlo)
  have HG := hide (fmt16 hi hhi)
  have HL := hide hL
  clear hL
  by_cases h0 : hi = 0
  · subst h0
    have HE : Hid (∀ k, hexAt lo k → lowB lo (k + 1) = hx (0 * 18446744073709551616 + lo)) := fun k h => by rw [Nat.zero_mul, Nat.zero_add]; exact hx_low k lo h.1 h.2.1
    generalize hx (0 * 18446744073709551616 + lo) = R at *
    go_enter Tryz.func13, Tryz.ntmps13
    go_wp2_with fail
    refine (HF.out _ HL.out).mono ?_
    rintro e w1 ⟨k, h1, rfl, hb⟩
    have HB := hide hb
    rw [HE.out k h1]
    clear hb h1
    generalize hT : txt R = T
    have HT := hide hT
    clear hT
    go_wp2
    go_ret
    exact ⟨by rw [HT.out]; rfl, HB.out⟩
  · have HE : Hid (∀ k m, hexAt hi k → hexAt lo m → lowB hi (k + 1) ++ List.replicate (16 - (m + 1)) 48 ++ lowB lo (m + 1) = hx (hi * 18446744073709551616 + lo)) := fun k m h1 h2 => hx_two (by omega) ⟨h1.1, h1.2.1⟩ h2.2.1 h2.2.2 hlo
    generalize hx (hi * 18446744073709551616 + lo) = R at *
    have hi0 : ¬ ((hi : Int) = 0) := by omega
    generalize (hi : Int) = hiI at *
    generalize (lo : Int) = loI at *
    clear h0 hhi hlo
    go_enter Tryz.func13, Tryz.ntmps13
    go_wp2_with fail
    refine (HF.out _ HL.out).mono ?_
    rintro e w1 ⟨m, h2, rfl, hb⟩
    have HB := hide hb
    have HL1 := hide (HL.out.below hb)
    have hm15 : m ≤ 15 := h2.2.2
    have H2 := hide h2
    clear hb h2
    have hTs : (txt (lowB lo (m + 1))).size = m + 1 := by rw [txt_size, lowB_length]
    generalize hT : txt (lowB lo (m + 1)) = T at *
    have HT := hide hT
    clear hT
    go_wp2_with fail
    refine (HG.out _ HL1.out).mono ?_
    rintro e w2 ⟨k, h1, rfl, hb⟩
    have HB2 := hide hb
    have H1 := hide h1
    clear hb h1
    generalize hU : txt (lowB hi (k + 1)) = U
    have HU := hide hU
    clear hU
    have hc : IntKind.i64.wrap (16 - ((m : Int) + 1)) = ((16 - (m + 1) : Nat) : Int) := by rw [IntKind.wrap_i64]; omega
    have HR := hide (repeat_zero (16 - (m + 1)) (by omega))
    generalize hV : txt (List.replicate (16 - (m + 1)) 48) = V at HR
    have HV := hide hV
    clear hV
    generalize ((16 - (m + 1) : Nat) : Int) = C at *
    go_wp2_with fail
    refine (HR.out _).mono ?_
    rintro e w3 ⟨rfl, hb⟩
    have HB3 := hide hb
    clear hb
    have hs1 : ¬ 9223372036854775807 < U.size + V.size := by rw [← HU.out, ← HV.out, txt_size, txt_size, lowB_length, List.length_replicate]; have := H1.out.2.2; omega
    have hs2 : ¬ 9223372036854775807 < U.size + V.size + (m + 1) := by rw [← HU.out, ← HV.out, txt_size, txt_size, lowB_length, List.length_replicate]; have := H1.out.2.2; omega
    go_wp2
    go_ret
    refine ⟨?_, HB.out.trans ((HB2.out.mono HB.out.size).trans (HB3.out.mono (Nat.le_trans HB.out.size HB2.out.size)))⟩
    show Ending.returned (.string (U ++ V ++ T)) = _
    rw [← HT.out, ← HU.out, ← HV.out, cat_txt, cat_txt, HE.out k m H1.out H2.out]
theorem itoa_any (n : Nat) (hn : n ≤ 9223372036854775807) (w : World) (hL : Ld w) :
    Calls Tryz.prog 12 #[.int .i64 n] w fun e w' => e = .returned (.string (txt (Lib.decDigits n))) ∧ Below w.heap.size w w' := by
  refine (Tryz.strconv_Itoa n (by omega) (by omega) w hL.pw).mono fun e w' ⟨h1, k, os, h2⟩ => ⟨?_, ?_⟩
  · rw [h1, Lib.itoa, if_neg (by omega), Int.toNat_natCast]; rfl
  · subst h2
    exact ⟨rfl, rfl, rfl, by show w.heap.size ≤ (w.heap ++ os).size; rw [Array.size_append]; omega, fun j hj => by show (w.heap ++ os)[j]? = w.heap[j]?; exact Array.getElem?_append_left hj⟩
end Go.Proofs.YtbbnjilajkllpaaGreatDoor
