/- What the walks of package sums stand on: bits.Of; bytes that can be read. -/
import Derived.Test.YtannocdcohofbaaVals
import Derived.Test.YtannocdcohofbaaWords
import Derived.Test.YtannocdcohofbaaSuMath
import Derived.Test.YtannocdcohofbaaRd
import Derived.Deep.QuietTactic
import Derived.BigQuiet
import Derived.Deep.RegionHeld3
namespace Go.Proofs.Ytannocdcohofbaa
open Go.RowKit

theorem of_yes (n hi lo : Int) (w : World) (h0 : 1 ≤ n) (h1 : n ≤ 128) (a0 : 0 ≤ hi) (a1 : hi < 18446744073709551616) (b0 : 0 ≤ lo) (b1 : lo < 18446744073709551616) :
    Calls Try.prog 54 #[.int .i64 n, .int .u64 hi, .int .u64 lo] w fun e w' =>
      e = .returned (.tuple #[.agg #[.int .i64 n, .int .u64 (cHi n hi), .int .u64 (cLo n lo)], .int .i64 0]) ∧ Below w.heap.size w w' := by
  have hm := mayBe_yes h0 h1
  go_enter Try.func54, Try.ntmps54
  go_wp2_with (first
    | (go_at_call 63; refine (widthMayBe_any _ _).mono ?_; rintro e w' ⟨rfl, rfl⟩)
    | (go_at_call 64; refine (cut_any n hi lo _ h0 h1 a0 a1 b0 b1).mono ?_; rintro e w1 ⟨rfl, hb⟩; obtain ⟨hc, hf⟩ := bcell hb; have hz : w.heap.size < w1.heap.size := by have := hb.size; simp at this; omega))
  refine bodyPost_ret (v := .tuple #[.agg #[.int .i64 n, .int .u64 (cHi n hi), .int .u64 (cLo n lo)], .int .i64 0]) (by simp [results, Try.results54, go_sem, hc]) rfl ⟨rfl, ?_⟩
  exact (((((Below.refl _ _).alloc (Nat.le_refl _) _).trans (hb.mono (by simp))).setCell (Nat.le_refl _) _).setCell (Nat.le_refl _) _).setCell (Nat.le_refl _) _
/- A small number of 16 or 32 bits stays. -/
theorem of_small (n : Int) (v : Nat) (w : World) (h0 : n = 16 ∨ n = 32) (hv : v < 2 ^ n.toNat) :
    Calls Try.prog 54 #[.int .i64 n, .int .u64 0, .int .u64 v] w fun e w' =>
      e = .returned (.tuple #[.agg #[.int .i64 n, .int .u64 0, .int .u64 v], .int .i64 0]) ∧ Below w.heap.size w w' := by
  have hb : v < 4294967296 := by
    rcases h0 with rfl | rfl
    · have : (2 : Nat) ^ (16 : Int).toNat = 65536 := by decide
      omega
    · have : (2 : Nat) ^ (32 : Int).toNat = 4294967296 := by decide
      omega
  have h := of_yes n 0 v w (by omega) (by omega) (by decide) (by decide) (by omega) (by omega)
  have e1 : cHi n 0 = 0 := cHi_le (by omega)
  have e2 : cLo n v = v := by rw [cLo_le (by omega)]; exact Int.emod_eq_of_lt (by omega) (by exact_mod_cast hv)
  rw [e1, e2] at h
  exact h

/- Bytes that can be read. -/
def RdS (W : World) (a : Option Addr) (xs : List Nat) : Prop :=
  (a = none ∧ xs = []) ∨ ∃ p off, a = some ⟨p, off, none⟩ ∧ p < W.heap.size ∧ ∀ i (h : i < xs.length), W.cell? ⟨p, off + i, none⟩ = some (.int .u8 (xs[i] : Nat))
theorem RdS.lt {W : World} {a : Option Addr} {xs : List Nat} (h : RdS W a xs) : ∀ q, a = some q → q.block < W.heap.size := by
  rcases h with ⟨rfl, _⟩ | ⟨p, off, rfl, hp, _⟩
  · intro q e; cases e
  · intro q e; cases e; exact hp
theorem RdS.keep {W W' : World} {a : Option Addr} {xs : List Nat} (h : RdS W a xs) (hs : W.heap.size ≤ W'.heap.size) (hb : ∀ q, a = some q → W'.heap[q.block]? = W.heap[q.block]?) : RdS W' a xs := by
  rcases h with h | ⟨p, off, rfl, hp, hc⟩
  · exact .inl h
  · exact .inr ⟨p, off, rfl, by omega, fun i hi => by exact (World.cell?_of_block (w := W) (a := ⟨p, off + i, none⟩) (hb ⟨p, off, none⟩ rfl)).trans (hc i hi)⟩
theorem RdS.below {W W' : World} {a : Option Addr} {xs : List Nat} (h : RdS W a xs) (hb : Below W.heap.size W W') : RdS W' a xs := h.keep hb.size (fun q e => hb.block _ (h.lt q e))
theorem RdS.some {W : World} {a : Option Addr} {xs : List Nat} (h : RdS W a xs) (hx : 0 < xs.length) : ∃ p off, a = some ⟨p, off, none⟩ ∧ p < W.heap.size ∧ ∀ i (h : i < xs.length), W.cell? ⟨p, off + i, none⟩ = some (.int .u8 (xs[i] : Nat)) := by
  rcases h with ⟨_, rfl⟩ | h
  · simp at hx
  · exact h
theorem RdA.s {W : World} {a : Option Addr} {xs : List Nat} (h : RdA W a xs) (hx : 0 < xs.length) : RdS W a xs := .inr (h.some hx)
end Go.Proofs.Ytannocdcohofbaa
