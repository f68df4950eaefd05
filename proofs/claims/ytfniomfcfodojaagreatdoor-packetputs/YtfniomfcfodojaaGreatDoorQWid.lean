/- Lists of numbers; widthOf. -/
import Derived.Test.YtfniomfcfodojaaGreatDoorQSmall
namespace Go.Proofs.YtfniomfcfodojaaGreatDoor
open Go.RowKit

structure RdN (W : World) (b off : Nat) (L : List (Int × Nat)) : Prop where
  lt : ∀ i, i < L.length → b < W.heap.size
  c0 : ∀ i (h : i < L.length), W.cell? ⟨b, off + i * 3, none⟩ = some (.int .i64 L[i].1)
  c1 : ∀ i (h : i < L.length), W.cell? ⟨b, off + i * 3 + 1, none⟩ = some (.int .u64 (wHi L[i].2))
  c2 : ∀ i (h : i < L.length), W.cell? ⟨b, off + i * 3 + 2, none⟩ = some (.int .u64 (wLo L[i].2))
theorem RdN.below {W W' : World} {b off B : Nat} {L : List (Int × Nat)} (h : RdN W b off L) (hb : Below B W W') (hB : ∀ i, i < L.length → b < B) : RdN W' b off L :=
  ⟨fun i hi => Nat.lt_of_lt_of_le (h.lt i hi) hb.size, fun i hi => (hb.cell (p := ⟨b, _, none⟩) (hB i hi)).trans (h.c0 i hi), fun i hi => (hb.cell (p := ⟨b, _, none⟩) (hB i hi)).trans (h.c1 i hi), fun i hi => (hb.cell (p := ⟨b, _, none⟩) (hB i hi)).trans (h.c2 i hi)⟩
theorem RdN.keep {W W' : World} {b off : Nat} {L : List (Int × Nat)} (h : RdN W b off L) (hb : Below W.heap.size W W') : RdN W' b off L := h.below hb h.lt

def sumTo (L : List (Int × Nat)) : Nat → Nat
  | 0 => 0
  | k + 1 => sumTo L k + (L.getD k (0, 0)).1.toNat
theorem sumTo_succ (L : List (Int × Nat)) (k : Nat) (h : k < L.length) : sumTo L (k + 1) = sumTo L k + (L[k]).1.toNat := by
  rw [sumTo, List.getD_eq_getElem?_getD, List.getElem?_eq_getElem h]; rfl
theorem ok_parts {n : Int} {v : Nat} (h : okN n v = true) : 1 ≤ n ∧ n ≤ 128 ∧ v < 2 ^ n.toNat := by
  simp only [okN, mayBe, Bool.and_eq_true, decide_eq_true_eq] at h
  exact ⟨h.1.1, h.1.2, h.2⟩
theorem sumTo_le (L : List (Int × Nat)) (k : Nat) (hk : k ≤ L.length) (h : ∀ j (hj : j < L.length), j < k → okN L[j].1 L[j].2 = true) : sumTo L k ≤ 128 * k := by
  induction k with
  | zero => simp [sumTo]
  | succ k ih =>
    rw [sumTo_succ L k (by omega)]
    have h1 := ih (by omega) (fun j hj hjk => h j hj (by omega))
    have h2 := ok_parts (h k (by omega) (by omega))
    omega
set_option maxHeartbeats 1000000 in
theorem widthOf_any (b off cap i0 : Nat) (L : List (Int × Nat)) (w : World) (hL : RdN w b off L) (hv : ∀ j (h : j < L.length), L[j].2 < top) (hl : L.length ≤ 1000000) (hS : i0 = L.length → sumTo L L.length ≤ 524288) (hi0 : i0 ≤ L.length) (hok : ∀ j (h : j < L.length), j < i0 → okN L[j].1 L[j].2 = true) (hbad : ∀ h : i0 < L.length, okN L[i0].1 L[i0].2 = false) (a : Option Addr) (ha : a = some ⟨b, off, none⟩ ∨ L.length = 0) :
    Calls Tryz.prog 11 #[.slice a L.length cap] w fun e w' => e = .returned (.tuple #[.int .i64 (if i0 < L.length then 0 else (sumTo L L.length : Nat)), .int .i64 (if i0 < L.length then 1 else 0)]) ∧ Below w.heap.size w w' := by
  have HC : Hid (∀ W k (h : k < L.length), Calls Tryz.prog 108 #[.agg #[.int .i64 L[k].1, .int .u64 (wHi L[k].2), .int .u64 (wLo L[k].2)]] W fun e W' => e = .returned (.bool (okN L[k].1 L[k].2)) ∧ Below W.heap.size W W') := fun W k h => checkV L[k].1 L[k].2 W (hv k h)
  have HL := hide hL; have HK := hide hok; have HB := hide hbad; have HSS := hide hS
  clear hL hok hbad hS
  go_enter Tryz.func11, Tryz.ntmps11
  go_wp2
  go_loopw [4, 9] (fun s i wr => ∃ k : Nat, k ≤ i0 ∧ i = .int .i64 k ∧ s = .int .i64 (sumTo L k : Nat) ∧ Below w.heap.size w wr) (fun s i _ => L.length + 1 - (intOf i).toNat)
  case atStart => exact ⟨0, Nat.zero_le _, rfl, rfl, Below.refl _ _⟩
  case round =>
    obtain ⟨k, hk, rfl, rfl, hnx⟩ := hrel
    have HN := hide hnx
    by_cases hlt : k < L.length
    · have hkI : (k : Int) < (L.length : Int) := by omega
      obtain rfl : a = some ⟨b, off, none⟩ := by rcases ha with h | h; exact h; omega
      have hr := HL.out.below hnx (HL.out.lt)
      have c0 := hr.c0 k hlt
      have c1 := hr.c1 k hlt
      have c2 := hr.c2 k hlt
      have HCk := hide (fun W => HC.out W k hlt)
      have hbl := HL.out.lt k hlt
      have hbr : b < wr.heap.size := hr.lt k hlt
      have HS := hide (sumTo_succ L k hlt)
      clear hr hnx
      by_cases hki : k < i0
      · have e := HK.out k hlt hki
        rw [e] at HCk
        have hn := ok_parts e
        have hsum := sumTo_le L k (by omega) (fun j hj hjk => HK.out j hj (by omega))
        clear e
        generalize L[k].1 = n at *
        generalize wHi L[k].2 = h1 at *
        generalize wLo L[k].2 = l1 at *
        go_wp2_with fail
        refine (HCk.out _).mono ?_
        rintro e w1 ⟨rfl, hb⟩
        obtain ⟨hc, hf⟩ := bcell hb
        have hz : wr.heap.size < w1.heap.size := by have := hb.size; simp at this; omega
        go_wp2
        go_roundw
        case rel => exact ⟨k + 1, by omega, by go_num, by rw [HS.out]; congr 1; omega, (HN.out.alloc HN.out.size _).trans (hb.mono (by have := HN.out.size; simp; omega))⟩
        case measure => simp [intOf]; omega
      · obtain rfl : k = i0 := by omega
        have e := HB.out hlt
        rw [e] at HCk
        clear e
        generalize L[k].1 = n at *
        generalize wHi L[k].2 = h1 at *
        generalize wLo L[k].2 = l1 at *
        go_wp2_with fail
        refine (HCk.out _).mono ?_
        rintro e w1 ⟨rfl, hb⟩
        go_wp2
        go_ret2
        exact ⟨rfl, (HN.out.alloc HN.out.size _).trans (hb.mono (by have := HN.out.size; simp; omega))⟩
    · obtain rfl : k = L.length := by omega
      obtain rfl : i0 = L.length := by omega
      have hS : ((sumTo L L.length : Nat) : Int) ≤ 524288 := by have := HSS.out rfl; omega
      have hS0 : (0 : Int) ≤ ((sumTo L L.length : Nat) : Int) := by omega
      generalize hTT : ((sumTo L L.length : Nat) : Int) = T at *
      have HT := hide hTT
      clear hTT
      clear hnx
      go_wp2
      go_ret2
      exact ⟨by first | rfl | (rw [HT.out]; rfl) | (rw [if_neg (by omega), if_neg (by omega), HT.out]; rfl), HN.out⟩
end Go.Proofs.YtfniomfcfodojaaGreatDoor
