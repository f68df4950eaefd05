/- pointsmanlaw01.BitsDoes returns true whatever it is given, and writes nothing that was there: the walk. -/
import Derived.Test.YtieambnaiecibaaAgree
namespace Go.Proofs.Ytieambnaiecibaa
open Go.RowKit

def deedV (op n1 h1 l1 n2 h2 l2 n m : Int) : Value := .agg #[.int .u8 op, .int .i64 n1, .int .u64 h1, .int .u64 l1, .int .i64 n2, .int .u64 h2, .int .u64 l2, .int .i64 n, .int .i64 m]
set_option maxHeartbeats 1000000 in
theorem bitsDoes_any (op n1 h1 l1 n2 h2 l2 n m : Int) (w : World) (a0 : 0 ≤ h1) (a1 : h1 < 18446744073709551616) (b0 : 0 ≤ l1) (b1 : l1 < 18446744073709551616) (c0 : 0 ≤ h2) (c1 : h2 < 18446744073709551616) (d0 : 0 ≤ l2) (d1 : l2 < 18446744073709551616) :
    Calls Try.prog 4 #[.agg #[.int .u8 op, .int .i64 n1, .int .u64 h1, .int .u64 l1, .int .i64 n2, .int .u64 h2, .int .u64 l2, .int .i64 n, .int .i64 m]] w fun e w' => e = .returned (.bool true) ∧ Below w.heap.size w w' := by
  obtain ⟨u, hu, rfl, rfl⟩ := words_of a0 a1 b0 b1
  obtain ⟨v, hv, rfl, rfl⟩ := words_of c0 c1 d0 d1
  obtain ⟨rn, rh, rl, er, H1, H2⟩ := agree_all op n1 u n2 v n m hu hv
  have H1' := hide H1; have H2' := hide H2
  clear H1 H2 a0 a1 b0 b1 c0 c1 d0 d1
  generalize wHi u = h1 at *
  generalize wLo u = l1 at *
  generalize wHi v = h2 at *
  generalize wLo v = l2 at *
  go_enter Try.func4, Try.ntmps4
  go_wp2_with fail
  refine (H1'.out _).mono ?_
  rintro e w1 ⟨rfl, hb1⟩
  obtain ⟨hc1, hf1⟩ := bcell hb1
  have hz1 : w.heap.size < w1.heap.size := by have := hb1.size; simp at this; omega
  go_wp2_with fail
  refine (H2'.out _).mono ?_
  rintro e w2 ⟨rfl, hb2⟩
  obtain ⟨hc2, hf2⟩ := bcell hb2
  have hz2 : w1.heap.size < w2.heap.size := by have := hb2.size; simp at this; omega
  have HB : Hid (Below w.heap.size w w2) := ((((Below.refl _ _).alloc (Nat.le_refl _) _).trans (hb1.mono (by simp))).alloc (by omega) _).trans (hb2.mono (by simp; omega))
  go_wp2
  go_ret
  exact ⟨rfl, (HB.out.alloc (by omega) _)⟩
end Go.Proofs.Ytieambnaiecibaa
