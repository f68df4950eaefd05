/- Numbers that make too many bits: widthOf, Put. -/
import Derived.Test.YtfniomfcfodojaaGreatDoorQPut
namespace Go.Proofs.YtfniomfcfodojaaGreatDoor
open Go.RowKit

set_option maxHeartbeats 1000000 in
theorem widthOf_big (b off cap : Nat) (L : List (Int × Nat)) (w : World) (hL : RdN w b off L) (hv : ∀ j (h : j < L.length), L[j].2 < top) (hl : L.length ≤ 1000000) (hS : 524288 < sumTo L L.length) (hok : ∀ j (h : j < L.length), okN L[j].1 L[j].2 = true) :
    Calls Tryz.prog 11 #[.slice (some ⟨b, off, none⟩) L.length cap] w fun e w' => e = .returned (.tuple #[.int .i64 0, .int .i64 3]) ∧ Below w.heap.size w w' := by
  have HC : Hid (∀ W k (h : k < L.length), Calls Tryz.prog 108 #[.agg #[.int .i64 L[k].1, .int .u64 (wHi L[k].2), .int .u64 (wLo L[k].2)]] W fun e W' => e = .returned (.bool (okN L[k].1 L[k].2)) ∧ Below W.heap.size W W') := fun W k h => checkV L[k].1 L[k].2 W (hv k h)
  have HL := hide hL; have HK := hide hok; have HSS := hide hS
  clear hL hok hS
  go_enter Tryz.func11, Tryz.ntmps11
  go_wp2
  go_loopw [4, 9] (fun s i wr => ∃ k : Nat, k ≤ L.length ∧ i = .int .i64 k ∧ s = .int .i64 (sumTo L k : Nat) ∧ Below w.heap.size w wr) (fun s i _ => L.length + 1 - (intOf i).toNat)
  case atStart => exact ⟨0, Nat.zero_le _, rfl, rfl, Below.refl _ _⟩
  case round =>
    obtain ⟨k, hk, rfl, rfl, hnx⟩ := hrel
    have HN := hide hnx
    by_cases hlt : k < L.length
    · have hkI : (k : Int) < (L.length : Int) := by omega
      have hr := HL.out.below hnx (HL.out.lt)
      have c0 := hr.c0 k hlt
      have c1 := hr.c1 k hlt
      have c2 := hr.c2 k hlt
      have HCk := hide (fun W => HC.out W k hlt)
      have hbl := HL.out.lt k hlt
      have hbr : b < wr.heap.size := hr.lt k hlt
      have HS := hide (sumTo_succ L k hlt)
      clear hr hnx
      have e := HK.out k hlt
      rw [e] at HCk
      have hn := ok_parts e
      have hsum := sumTo_le L k (by omega) (fun j hj hjk => HK.out j hj)
      clear e
      generalize L[k].1 = n at *
      generalize wHi L[k].2 = h1 at *
      generalize wLo L[k].2 = l1 at *
      go_wp2_with fail
      refine (HCk.out _).mono ?_
      rintro e w1 ⟨rfl, hb⟩
      obtain ⟨hc, hf⟩ := bcell hb
      have hz : wr.heap.size < w1.heap.size := by have := hb.size; simp at this; omega
      go_wp2
      go_roundw
      case rel => exact ⟨k + 1, by omega, by go_num, by rw [HS.out]; congr 1; omega, (HN.out.alloc HN.out.size _).trans (hb.mono (by have := HN.out.size; simp; omega))⟩
      case measure => simp [intOf]; omega
    · obtain rfl : k = L.length := by omega
      have hS : ¬ ((sumTo L L.length : Nat) : Int) ≤ 524288 := by have := HSS.out; omega
      have hS2 : 524288 < ((sumTo L L.length : Nat) : Int) := by omega
      generalize ((sumTo L L.length : Nat) : Int) = T at *
      clear hnx
      go_wp2
      go_ret2
      exact ⟨rfl, HN.out⟩
theorem put_big (b off cap : Nat) (L : List (Int × Nat)) (w : World) (hL : RdN w b off L) (hv : ∀ j (h : j < L.length), L[j].2 < top) (hl : L.length ≤ 1000000) (hS : 524288 < sumTo L L.length) (hok : ∀ j (h : j < L.length), okN L[j].1 L[j].2 = true) :
    Calls Tryz.prog 5 #[.slice (some ⟨b, off, none⟩) L.length cap] w fun e w' => e = .returned (.tuple #[.slice none 0 0, .int .i64 3]) ∧ Below w.heap.size w w' := by
  have HW := hide (widthOf_big b off cap L w hL hv hl hS hok)
  clear hL hv hok hS
  go_enter Tryz.func5, Tryz.ntmps5
  go_wp2_with fail
  refine HW.out.mono ?_
  rintro e w1 ⟨rfl, hb1⟩
  go_wp2
  go_ret2
  exact ⟨rfl, hb1⟩
end Go.Proofs.YtfniomfcfodojaaGreatDoor
