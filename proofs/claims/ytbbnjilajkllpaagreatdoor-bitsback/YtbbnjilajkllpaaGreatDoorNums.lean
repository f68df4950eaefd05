/- The walks of the operations' numbers, word by word. -/
import Derived.Test.YtbbnjilajkllpaaGreatDoorBase
import Derived.Test.YtbbnjilajkllpaaGreatDoorOps
import Derived.Laws.Externs
import Derived.Shelf.Spec.BitsCarry
import Derived.Lib.Mul64
import Derived.Laws.Bits64b
namespace Go.Proofs.YtbbnjilajkllpaaGreatDoor
open Go.RowKit

theorem add64_0 (x y : Int) (hx : 0 ≤ x) (hy : 0 ≤ y) (w : World) : (callFunc 71 #[.int .u64 x, .int .u64 y, .int .u64 0]).run Tryz.prog w =
    .ok (.value (.tuple #[.int .u64 ((x + y) % 18446744073709551616), .int .u64 ((x + y) / 18446744073709551616)])) w := by
  rw [run_callFunc_extern Tryz.func71 (by kernel_rfl) (by kernel_rfl) (by kernel_rfl) (e := add64Entry) (by kernel_rfl), run_add64 x y 0 hx hy (by decide) (by decide)]
  simp only [Result.andThen, Int.add_zero]
theorem sub64_0 (x y : Int) (hx : 0 ≤ x) (hy : 0 ≤ y) (hy1 : y < 18446744073709551616) (w : World) : (callFunc 72 #[.int .u64 x, .int .u64 y, .int .u64 0]).run Tryz.prog w =
    .ok (.value (.tuple #[.int .u64 ((x - y) % 18446744073709551616), .int .u64 (bor x y)])) w := by
  obtain ⟨x, rfl⟩ := Int.eq_ofNat_of_zero_le hx
  obtain ⟨y, rfl⟩ := Int.eq_ofNat_of_zero_le hy
  have e1 : (((x + 18446744073709551616 - y - 0) % 18446744073709551616 : Nat) : Int) = ((x : Int) - y) % 18446744073709551616 := by omega
  have e2 : ((if x < y + 0 then 1 else 0 : Nat) : Int) = bor x y := by unfold bor; split <;> split <;> omega
  rw [← e1, ← e2, run_callFunc_extern Tryz.func72 (by kernel_rfl) (by kernel_rfl) (by kernel_rfl) (e := sub64Entry) (by kernel_rfl)]
  have := run_sub64 (P := Tryz.prog) x y 0 (by decide) w
  simp only [Int.natCast_zero] at this
  rw [this]
  rfl

theorem andV (n1 n2 : Int) (u v : Nat) (w : World) (hu : u < top) (hv : v < top) :
    Calls Tryz.prog 43 #[.agg #[.int .i64 n1, .int .u64 (wHi u), .int .u64 (wLo u)], .agg #[.int .i64 n2, .int .u64 (wHi v), .int .u64 (wLo v)]] w fun e w' => e = .returned (.agg #[.int .i64 n1, .int .u64 (wHi (u &&& v)), .int .u64 (wLo (u &&& v))]) ∧ Below w.heap.size w w' := by
  rw [← and_hi hu hv, ← and_lo hu hv]
  generalize wHi u = h1 at *
  generalize wLo u = l1 at *
  generalize wHi v = h2 at *
  generalize wLo v = l2 at *
  go_enter Tryz.func43, Tryz.ntmps43
  go_wp2
  refine bodyPost_ret (v := .agg #[.int .i64 n1, .int .u64 (bits .and .u64 h1 h2), .int .u64 (bits .and .u64 l1 l2)]) (by simp [results, Tryz.results43, go_sem]) rfl ⟨rfl, ?_⟩
  exact (((Below.refl _ _).alloc (Nat.le_refl _) _).alloc (by simp) _).alloc (by simp; omega) _
theorem orV (n1 n2 : Int) (u v : Nat) (w : World) (hu : u < top) (hv : v < top) :
    Calls Tryz.prog 44 #[.agg #[.int .i64 n1, .int .u64 (wHi u), .int .u64 (wLo u)], .agg #[.int .i64 n2, .int .u64 (wHi v), .int .u64 (wLo v)]] w fun e w' => e = .returned (.agg #[.int .i64 n1, .int .u64 (wHi (u ||| v)), .int .u64 (wLo (u ||| v))]) ∧ Below w.heap.size w w' := by
  rw [← or_hi hu hv, ← or_lo hu hv]
  generalize wHi u = h1 at *
  generalize wLo u = l1 at *
  generalize wHi v = h2 at *
  generalize wLo v = l2 at *
  go_enter Tryz.func44, Tryz.ntmps44
  go_wp2
  refine bodyPost_ret (v := .agg #[.int .i64 n1, .int .u64 (bits .or .u64 h1 h2), .int .u64 (bits .or .u64 l1 l2)]) (by simp [results, Tryz.results44, go_sem]) rfl ⟨rfl, ?_⟩
  exact (((Below.refl _ _).alloc (Nat.le_refl _) _).alloc (by simp) _).alloc (by simp; omega) _
theorem xorV (n1 n2 : Int) (u v : Nat) (w : World) (hu : u < top) (hv : v < top) :
    Calls Tryz.prog 45 #[.agg #[.int .i64 n1, .int .u64 (wHi u), .int .u64 (wLo u)], .agg #[.int .i64 n2, .int .u64 (wHi v), .int .u64 (wLo v)]] w fun e w' => e = .returned (.agg #[.int .i64 n1, .int .u64 (wHi (u ^^^ v)), .int .u64 (wLo (u ^^^ v))]) ∧ Below w.heap.size w w' := by
  rw [← xor_hi hu hv, ← xor_lo hu hv]
  generalize wHi u = h1 at *
  generalize wLo u = l1 at *
  generalize wHi v = h2 at *
  generalize wLo v = l2 at *
  go_enter Tryz.func45, Tryz.ntmps45
  go_wp2
  refine bodyPost_ret (v := .agg #[.int .i64 n1, .int .u64 (bits .xor .u64 h1 h2), .int .u64 (bits .xor .u64 l1 l2)]) (by simp [results, Tryz.results45, go_sem]) rfl ⟨rfl, ?_⟩
  exact (((Below.refl _ _).alloc (Nat.le_refl _) _).alloc (by simp) _).alloc (by simp; omega) _
theorem addV (n1 n2 : Int) (u v : Nat) (w : World) (hu : u < top) (hv : v < top) (m0 : 1 ≤ n1) (m1 : n1 ≤ 128) :
    Calls Tryz.prog 40 #[.agg #[.int .i64 n1, .int .u64 (wHi u), .int .u64 (wLo u)], .agg #[.int .i64 n2, .int .u64 (wHi v), .int .u64 (wLo v)]] w fun e w' => e = .returned (.agg #[.int .i64 n1, .int .u64 (wHi ((u + v) % 2 ^ n1.toNat)), .int .u64 (wLo ((u + v) % 2 ^ n1.toNat))]) ∧ Below w.heap.size w w' := by
  have HX : Hid (IntKind.u64.wrap (IntKind.u64.wrap (wHi u + wHi v) + (wLo u + wLo v) / 18446744073709551616) = wHi (((u + v)) % top)) := add_hi u v
  have HY : Hid ((wLo u + wLo v) % 18446744073709551616 = wLo (((u + v)) % top)) := add_lo u v
  rw [← mod_top ((u + v)) (by omega : n1.toNat ≤ 128)]
  have hs := mod_top_lt ((u + v))
  generalize ((u + v)) % top = s at HX HY hs ⊢
  generalize hrh : wHi (s % 2 ^ n1.toNat) = rh
  generalize hrl : wLo (s % 2 ^ n1.toNat) = rl
  have HRH := hide hrh; have HRL := hide hrl; have HS := hide hs
  clear hrh hrl hs
  have bu := wHi_bd hu; have bv := wHi_bd hv; have cu := wLo_bd u; have cv := wLo_bd v
  generalize wHi u = h1 at *
  generalize wLo u = l1 at *
  generalize wHi v = h2 at *
  generalize wLo v = l2 at *
  obtain ⟨a0, a1⟩ := bu; obtain ⟨b0, b1⟩ := bv; obtain ⟨c0, c1⟩ := cu; obtain ⟨d0, d1⟩ := cv
  go_enter Tryz.func40, Tryz.ntmps40
  go_wp2_with (first | simp only [add64_0 l1 l2 c0 d0])
  refine (cutR n1 _ _ rh rl s _ m0 m1 HS.out HX.out HY.out HRH.out HRL.out).mono ?_
  rintro e w1 ⟨rfl, hb⟩
  obtain ⟨hc, hf⟩ := bcell hb
  have hz : w.heap.size + 2 < w1.heap.size := by have := hb.size; simp at this; omega
  go_wp2
  refine bodyPost_ret (v := .agg #[.int .i64 n1, .int .u64 rh, .int .u64 rl]) (by simp [results, Tryz.results40, go_sem, hc]) rfl ⟨rfl, ?_⟩
  exact (((((((Below.refl _ _).alloc (Nat.le_refl _) _).alloc (by simp) _).alloc (by simp; omega) _).trans (hb.mono (by simp; omega))).setCell (by simp; omega) _).setCell (by simp; omega) _).setCell (by simp; omega) _
theorem subV (n1 n2 : Int) (u v : Nat) (w : World) (hu : u < top) (hv : v < top) (m0 : 1 ≤ n1) (m1 : n1 ≤ 128) :
    Calls Tryz.prog 41 #[.agg #[.int .i64 n1, .int .u64 (wHi u), .int .u64 (wLo u)], .agg #[.int .i64 n2, .int .u64 (wHi v), .int .u64 (wLo v)]] w fun e w' => e = .returned (.agg #[.int .i64 n1, .int .u64 (wHi ((u + top - v) % 2 ^ n1.toNat)), .int .u64 (wLo ((u + top - v) % 2 ^ n1.toNat))]) ∧ Below w.heap.size w w' := by
  have HX : Hid (IntKind.u64.wrap (IntKind.u64.wrap (wHi u - wHi v) - bor (wLo u) (wLo v)) = wHi (((u + top - v)) % top)) := sub_hi hv
  have HY : Hid ((wLo u - wLo v) % 18446744073709551616 = wLo (((u + top - v)) % top)) := sub_lo hv
  rw [← mod_top ((u + top - v)) (by omega : n1.toNat ≤ 128)]
  have hs := mod_top_lt ((u + top - v))
  generalize ((u + top - v)) % top = s at HX HY hs ⊢
  generalize hrh : wHi (s % 2 ^ n1.toNat) = rh
  generalize hrl : wLo (s % 2 ^ n1.toNat) = rl
  have HRH := hide hrh; have HRL := hide hrl; have HS := hide hs
  clear hrh hrl hs
  have bu := wHi_bd hu; have bv := wHi_bd hv; have cu := wLo_bd u; have cv := wLo_bd v
  generalize wHi u = h1 at *
  generalize wLo u = l1 at *
  generalize wHi v = h2 at *
  generalize wLo v = l2 at *
  obtain ⟨a0, a1⟩ := bu; obtain ⟨b0, b1⟩ := bv; obtain ⟨c0, c1⟩ := cu; obtain ⟨d0, d1⟩ := cv
  go_enter Tryz.func41, Tryz.ntmps41
  go_wp2_with (first | simp only [sub64_0 l1 l2 c0 d0 d1])
  refine (cutR n1 _ _ rh rl s _ m0 m1 HS.out HX.out HY.out HRH.out HRL.out).mono ?_
  rintro e w1 ⟨rfl, hb⟩
  obtain ⟨hc, hf⟩ := bcell hb
  have hz : w.heap.size + 2 < w1.heap.size := by have := hb.size; simp at this; omega
  go_wp2
  refine bodyPost_ret (v := .agg #[.int .i64 n1, .int .u64 rh, .int .u64 rl]) (by simp [results, Tryz.results41, go_sem, hc]) rfl ⟨rfl, ?_⟩
  exact (((((((Below.refl _ _).alloc (Nat.le_refl _) _).alloc (by simp) _).alloc (by simp; omega) _).trans (hb.mono (by simp; omega))).setCell (by simp; omega) _).setCell (by simp; omega) _).setCell (by simp; omega) _

end Go.Proofs.YtbbnjilajkllpaaGreatDoor
