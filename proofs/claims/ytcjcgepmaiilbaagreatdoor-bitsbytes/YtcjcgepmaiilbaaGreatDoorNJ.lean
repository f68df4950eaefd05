/- bits.Read and bits.Bytes beside the document's. -/
import Derived.Test.YtcjcgepmaiilbaaGreatDoorNR
import Derived.Test.YtcjcgepmaiilbaaGreatDoorNBo
import Derived.Test.YtcjcgepmaiilbaaGreatDoorNBey
namespace Go.Proofs.YtcjcgepmaiilbaaGreatDoor
open Go.RowKit

theorem readI_wide (n : Int) (a : Option Addr) (m c : Nat) (w : World) (h : ¬ (1 ≤ n ∧ n ≤ 128)) :
    Calls Tryz.prog 8 #[.int .i64 n, .slice a m c] w fun e w' => e = .returned (.tuple #[zeroB, .int .i64 1]) ∧ Below w.heap.size w w' := by
  have HW := hide (fun W => widthMayBe_no n W (mayBe_no h))
  unfold zeroB
  clear h
  go_enter Tryz.func8, Tryz.ntmps8
  go_wp2_with fail
  refine (HW.out _).mono ?_
  rintro e w1 ⟨rfl, rfl⟩
  go_wp2
  refine bodyPost_ret (v := .tuple #[.agg #[.int .i64 0, .int .u64 0, .int .u64 0], .int .i64 1]) (by simp [results, Tryz.results8, go_sem]) rfl ⟨rfl, ?_⟩
  exact (Below.refl _ _).alloc (Nat.le_refl _) _
theorem readI_len (n : Nat) (a : Option Addr) (m c : Nat) (w : World) (h1 : 1 ≤ n) (h2 : n ≤ 128) (hm : m ≠ (n + 7) / 8) :
    Calls Tryz.prog 8 #[.int .i64 n, .slice a m c] w fun e w' => e = .returned (.tuple #[zeroB, .int .i64 8]) ∧ Below w.heap.size w w' := by
  have HW : Hid (∀ W, Calls Tryz.prog 20 #[.int .i64 n] W fun e w' => e = .returned (.bool true) ∧ w' = W) := fun W => by
    have := widthMayBe_any n W
    rw [mayBe_yes (by omega) (by omega)] at this
    exact this
  have HC := hide (fun W => byteCount_any n W (by omega) (by omega))
  obtain ⟨N, hN⟩ : ∃ N, (n + 7) / 8 = N := ⟨_, rfl⟩
  have eN : ((((n : Int).toNat + 7) / 8 : Nat)) = N := by rw [Int.toNat_natCast]; omega
  rw [eN] at HC
  have dm : ((m : Int) == (N : Int)) = false := by simp; omega
  have dm2 : ((m : Int) != (N : Int)) = true := by simp; omega
  unfold zeroB
  clear h1 h2 hm hN eN
  go_enter Tryz.func8, Tryz.ntmps8
  go_wp2_with fail
  refine (HW.out _).mono ?_
  rintro e w1 ⟨rfl, hw1⟩
  subst hw1
  go_wp2_with fail
  refine (HC.out _).mono ?_
  rintro e w2 ⟨rfl, hw2⟩
  subst hw2
  go_wp2
  refine bodyPost_ret (v := .tuple #[.agg #[.int .i64 0, .int .u64 0, .int .u64 0], .int .i64 8]) (by simp [results, Tryz.results8, go_sem]) rfl ⟨rfl, ?_⟩
  exact (Below.refl _ _).alloc (Nat.le_refl _) _
/- Both readers give one answer. -/
def Rds (F : Nat) (n : Int) (xs : List Nat) (b1 b2 b3 er : Int) : Prop := ∀ (a : Option Addr) (c : Nat) (W : World), RdA W a xs → Calls Tryz.prog F #[.int .i64 n, .slice a xs.length c] W fun e W' => e = .returned (.tuple #[.agg #[.int .i64 b1, .int .u64 b2, .int .u64 b3], .int .i64 er]) ∧ Below W.heap.size W W'
theorem reads_same (n : Int) (xs : List Nat) (hb : ∀ x ∈ xs, x < 256) : ∃ b1 b2 b3 er : Int, Rds 8 n xs b1 b2 b3 er ∧ Rds 9 n xs b1 b2 b3 er := by
  by_cases h : 1 ≤ n ∧ n ≤ 128
  · obtain ⟨m, rfl⟩ : ∃ m : Nat, n = m := ⟨n.toNat, by omega⟩
    by_cases hl : xs.length = (m + 7) / 8
    · have h0 : 0 < xs.length := by omega
      by_cases hv : bv xs < 2 ^ m
      · refine ⟨m, wHi (bv xs), wLo (bv xs), 0, fun a c W hr => ?_, fun a c W hr => ?_⟩
        · obtain ⟨p, off, rfl, _, hc⟩ := hr.some h0
          exact (read_loop m p off c xs W (by omega) (by omega) hc hb hl true (by simp [hv])).mono (fun e W' ⟨k1, k2⟩ => ⟨k1, k2⟩)
        · obtain ⟨p, off, rfl, _, hc⟩ := hr.some h0
          refine (refRead_any m p off c xs W (by omega) (by omega) hc hb hl).mono (fun e W' ⟨k1, k2⟩ => ⟨?_, k2⟩)
          rcases k1 with ⟨_, k⟩ | ⟨k, _⟩
          · exact k
          · exact absurd hv k
      · refine ⟨0, 0, 0, 8, fun a c W hr => ?_, fun a c W hr => ?_⟩
        · obtain ⟨p, off, rfl, _, hc⟩ := hr.some h0
          exact (read_loop m p off c xs W (by omega) (by omega) hc hb hl false (by simp [hv])).mono (fun e W' ⟨k1, k2⟩ => ⟨k1, k2⟩)
        · obtain ⟨p, off, rfl, _, hc⟩ := hr.some h0
          refine (refRead_any m p off c xs W (by omega) (by omega) hc hb hl).mono (fun e W' ⟨k1, k2⟩ => ⟨?_, k2⟩)
          rcases k1 with ⟨k, _⟩ | ⟨_, k⟩
          · exact absurd k hv
          · exact k
    · exact ⟨0, 0, 0, 8, fun a c W _ => readI_len m a xs.length c W (by omega) (by omega) hl, fun a c W _ => refRead_len m a xs.length c W (by omega) (by omega) hl⟩
  · exact ⟨0, 0, 0, 1, fun a c W _ => readI_wide n a xs.length c W h, fun a c W _ => refRead_wide n a xs.length c W h⟩
/- And both tellers. -/
def Tls (F : Nat) (n h l : Int) (xs : List Nat) (er : Int) : Prop := ∀ W : World, Calls Tryz.prog F #[.agg #[.int .i64 n, .int .u64 h, .int .u64 l]] W fun e W' => ∃ v, e = .returned (.tuple #[v, .int .i64 er]) ∧ Own8 W' W.heap.size v xs ∧ Below W.heap.size W W'
theorem tells_same (n : Int) (u : Nat) (hu : u < top) : ∃ (xs : List Nat) (er : Int), xs.length ≤ 16 ∧ Tls 5 n (wHi u) (wLo u) xs er ∧ Tls 6 n (wHi u) (wLo u) xs er := by
  by_cases h : okN n u = false
  · refine ⟨[], 1, by simp, fun W => ?_, fun W => ?_⟩
    · exact (bytes_no n u W hu h).mono (fun e W' ⟨k1, k2⟩ => ⟨_, k1, Own8.nil _ _, k2⟩)
    · exact (refBytes_no n u W hu h).mono (fun e W' ⟨k1, k2⟩ => ⟨_, k1, Own8.nil _ _, k2⟩)
  · have hk : okN n u = true := by simpa using h
    unfold okN at hk
    have hb := Bool.and_eq_true_iff.1 hk
    have hm : 1 ≤ n ∧ n ≤ 128 := by
      refine Decidable.byContradiction fun hc => ?_
      rw [mayBe_no hc] at hb
      exact absurd hb.1 (by simp)
    have h2 : u < 2 ^ n.toNat := of_decide_eq_true hb.2
    refine ⟨bytesOf u ((n.toNat + 7) / 8), 0, by rw [bytesOf_length]; omega, fun W => ?_, fun W => refBytes_yes n u W hu hm.1 hm.2 h2⟩
    refine (bytes_yes n u W hu hm.1 hm.2 h2).mono ?_
    rintro e W' ⟨g, N, rfl, rfl, ho, hb⟩
    refine ⟨_, rfl, ?_, hb⟩
    unfold Own8
    rw [bytesOf_length, ← bytesOf_cells]
    exact ho
end Go.Proofs.YtcjcgepmaiilbaaGreatDoor
