/- Pieces of the proof: CeX, CeT, GnMu. -/
import Derived.Test.YtbemfjdloeipmaaGreatDoorM17
import Derived.RegionTactic
import Derived.Test.YtbemfjdloeipmaaGreatDoorM3
import Derived.Laws.Externs
import Derived.Lib.Mul64
import Derived.Laws.Bits64b
/- The law's helpers: how great an array is; two arrays that are the same. -/
namespace Go.Proofs.YtbemfjdloeipmaaGreatDoor
open Go.RowKit

theorem numSize_any (a : Option Addr) (n cap : Nat) (w : World) : Calls Tryz.prog 19 #[.slice a n cap] w fun e w' => e = .returned (.int .i64 n) ∧ w' = w := by
  go_enter Tryz.func19, Tryz.ntmps19
  go_wp2
  go_ret
  exact ⟨rfl, rfl⟩
theorem intSize_any (a : Option Addr) (n cap : Nat) (w : World) : Calls Tryz.prog 20 #[.slice a n cap] w fun e w' => e = .returned (.int .i64 n) ∧ w' = w := by
  go_enter Tryz.func20, Tryz.ntmps20
  go_wp2
  go_ret
  exact ⟨rfl, rfl⟩
def arSz (a : Ar) : Int := if 1 + (a.name.size : Int) ≤ 1048576 then (if 1 + (a.name.size : Int) + a.cs.length ≤ 1048576 then 1 + (a.name.size : Int) + a.cs.length + a.ls.length else 1 + (a.name.size : Int) + a.cs.length) else 1 + (a.name.size : Int)
set_option maxHeartbeats 1000000 in
theorem arSize_any (x : ArL) (w : World) (hc : x.a.cs.length ≤ 140737488355328) (hl : x.a.ls.length ≤ 140737488355328) (hs : x.a.name.size ≤ 140737488355328) : Calls Tryz.prog 4 #[x.val] w fun e w' => e = .returned (.int .i64 (arSz x.a)) ∧ Below w.heap.size w w' := by
  obtain ⟨⟨name, kind, aw, rate, burst, cs, ls⟩, ca, cc, la, lc⟩ := x
  have HN : Hid (∀ W, _) := fun W => numSize_any ca cs.length cc W
  have HI : Hid (∀ W, _) := fun W => intSize_any la ls.length lc W
  simp only [ArL.val, arSz] at *
  generalize cs.length = n1 at *
  generalize ls.length = n2 at *
  have w1 : IntKind.i64.wrap (1 + (name.size : Int)) = 1 + (name.size : Int) := by rw [IntKind.wrap_i64]; omega
  have w2 : IntKind.i64.wrap (1 + (name.size : Int) + n1) = 1 + (name.size : Int) + n1 := by rw [IntKind.wrap_i64]; omega
  have w3 : IntKind.i64.wrap (1 + (name.size : Int) + n1 + n2) = 1 + (name.size : Int) + n1 + n2 := by rw [IntKind.wrap_i64]; omega
  clear hc hl hs
  by_cases d1 : 1 + (name.size : Int) ≤ 1048576
  · rw [if_pos d1]
    have e1 : (1 + (name.size : Int) ≤ 1048576) = True := by simp; omega
    by_cases d2 : 1 + (name.size : Int) + n1 ≤ 1048576
    · rw [if_pos d2]
      have e2 : (1 + (name.size : Int) + n1 ≤ 1048576) = True := by simp; omega
      clear d1 d2
      go_enter Tryz.func4, Tryz.ntmps4
      go_wp2_with fail
      refine (HN.out _).mono ?_
      rintro e w' ⟨rfl, rfl⟩
      go_wp2_with fail
      refine (HI.out _).mono ?_
      rintro e w' ⟨rfl, rfl⟩
      go_wp2
      go_ret
      exact ⟨rfl, below1 _ _⟩
    · rw [if_neg d2]
      have e2 : (1 + (name.size : Int) + n1 ≤ 1048576) = False := by simp; omega
      clear d1 d2
      go_enter Tryz.func4, Tryz.ntmps4
      go_wp2_with fail
      refine (HN.out _).mono ?_
      rintro e w' ⟨rfl, rfl⟩
      go_wp2
      go_ret
      exact ⟨rfl, below1 _ _⟩
  · rw [if_neg d1]
    have e1 : (1 + (name.size : Int) ≤ 1048576) = False := by simp; omega
    have e2 : (1 + (name.size : Int) + n1 ≤ 1048576) = False := by simp; omega
    clear d1
    go_enter Tryz.func4, Tryz.ntmps4
    go_wp2
    go_ret
    exact ⟨rfl, below1 _ _⟩
set_option maxRecDepth 100000 in
set_option maxHeartbeats 4000000 in
theorem sameZ_any (a b : Option Addr) (ca cb : Nat) (l : List Int) (w : World) (h1 : RdZ w a l) (h2 : RdZ w b l) (hl : l.length ≤ 140737488355328) : Calls Tryz.prog 34 #[.slice a l.length ca, .slice b l.length cb] w fun e w' => e = .returned (.bool true) ∧ Below w.heap.size w w' := by
  have H1 := hide h1
  have H2 := hide h2
  clear h1 h2
  go_enter Tryz.func34, Tryz.ntmps34
  go_wp2
  go_loopw [5] (fun i wr => ∃ k : Nat, k ≤ l.length ∧ i = .int .i64 k ∧ Below w.heap.size w wr) (fun i _ => l.length - (intOf i).toNat)
  case atStart => exact ⟨0, by omega, rfl, Below.refl _ _⟩
  case round =>
    obtain ⟨k, hk, rfl, hb⟩ := hrel
    have HB := hide hb
    clear hb
    by_cases hlt : k < l.length
    · obtain ⟨p, off, rfl, _, hcl⟩ := (H1.out.below HB.out).some (by omega)
      obtain ⟨q, off2, rfl, _, hdl⟩ := (H2.out.below HB.out).some (by omega)
      have c0 := hcl k hlt
      have d0 := hdl k hlt
      have hlI : ((k : Int) < (l.length : Int)) := by omega
      clear hcl hdl
      generalize l[k] = y at *
      go_wp2
      go_region
      go_wp2
      go_roundw
      case rel => exact ⟨k + 1, by omega, by go_num, HB.out.drew⟩
      case measure => simp [intOf]; omega
    · obtain rfl : k = l.length := by omega
      go_wp2
      go_ret
      exact ⟨rfl, HB.out⟩
set_option maxRecDepth 100000 in
set_option maxHeartbeats 4000000 in
theorem sameAr_any (x y : ArL) (w : World) (he : x.a = y.a) (hx : ArR w x) (hy : ArR w y) : Calls Tryz.prog 15 #[x.val, y.val] w fun e w' => e = .returned (.bool true) ∧ Below w.heap.size w w' := by
  obtain ⟨⟨name, kind, aw, rate, burst, cs, ls⟩, ca, cc, la, lc⟩ := x
  obtain ⟨ya, ca2, cc2, la2, lc2⟩ := y
  simp only at he
  subst he
  have HN : Hid (∀ W, Below w.heap.size w W → _) := fun W hb => sameN_any ca ca2 cc cc2 cs W (hx.cs.below hb) (hy.cs.below hb) hx.cn
  have HI : Hid (∀ W, Below w.heap.size w W → _) := fun W hb => sameZ_any la la2 lc lc2 ls W (hx.ls.below hb) (hy.ls.below hb) hx.ln
  clear hx hy
  simp only [ArL.val] at *
  generalize cs.length = n1 at *
  generalize ls.length = n2 at *
  go_enter Tryz.func15, Tryz.ntmps15
  go_wp2_with fail
  refine (HN.out _ (below2 _ _ _)).mono ?_
  rintro e w1 ⟨rfl, hb⟩
  obtain ⟨p0, p1, p2, p3, p4, p5, p6⟩ := at7 (heap_below hb (heap_past _ (heap_alloc_new w _)))
  obtain ⟨q0, q1, q2, q3, q4, q5, q6⟩ := at7 (heap_below hb (heap_snd w _ _ _))
  have BB := hide (bstep (below2 _ _ _) hb)
  clear hb
  go_wp2_with fail
  refine (HI.out _ BB.out).mono ?_
  rintro e w2 ⟨rfl, hb⟩
  go_wp2
  go_ret
  exact ⟨rfl, bstep BB.out hb⟩
end Go.Proofs.YtbemfjdloeipmaaGreatDoor
/- package cells: how many tokens there are. -/
namespace Go.Proofs.YtbemfjdloeipmaaGreatDoor
open Go.RowKit

def tickA (a : Ar) (k : Nat) (now : Int) : Int := min (max (now - a.ls.getD k 0) 0) a.burst
def tokA (a : Ar) (k : Nat) (now : Int) : Int := min ((a.cs.getD k nb0).lo + tickA a k now * a.rate) a.burst
set_option maxRecDepth 100000 in
set_option maxHeartbeats 4000000 in
theorem tokens_any (x : ArL) (k : Nat) (now : Int) (w : World) (hx : ArR w x) (hc : k < x.a.cs.length) (hl : k < x.a.ls.length) (h0 : 0 ≤ now) (h1 : now < 9223372036854775808) (hr0 : 0 ≤ x.a.rate) (hr1 : x.a.rate ≤ 65535) (hb0 : 1 ≤ x.a.burst) (hb1 : x.a.burst ≤ 65535) (hs : 0 ≤ x.a.ls.getD k 0) (ht : (x.a.cs.getD k nb0).lo ≤ x.a.burst) :
    Calls Tryz.prog 29 #[x.val, .int .i64 k, .int .i64 now] w fun e w' => e = .returned (.int .u64 (tokA x.a k now)) ∧ Below w.heap.size w w' := by
  obtain ⟨p, off, hca, hp, hcl⟩ := hx.cs.some (by omega)
  obtain ⟨q, off2, hla, hq, hll⟩ := hx.ls.some (by omega)
  have HC : Hid (∀ W, Below w.heap.size w W → W.cell? ⟨p, off + k * 3 + 2, none⟩ = some (.int .u64 (x.a.cs.getD k nb0).lo)) := fun W hb => by
    rw [List.getD_eq_getElem?_getD, List.getElem?_eq_getElem hc]
    exact (hb.cell (p := ⟨p, _, none⟩) hp).trans (hcl k hc).2.2
  have HL : Hid (∀ W, Below w.heap.size w W → W.cell? ⟨q, off2 + k, none⟩ = some (.int .i64 (x.a.ls.getD k 0))) := fun W hb => by
    rw [List.getD_eq_getElem?_getD, List.getElem?_eq_getElem hl]
    exact (hb.cell (p := ⟨q, _, none⟩) hq).trans (hll k hl)
  have hcI : ((k : Int) < (x.a.cs.length : Int)) := by omega
  have hlI : ((k : Int) < (x.a.ls.length : Int)) := by omega
  have hlo : 0 ≤ (x.a.cs.getD k nb0).lo := by
    rw [List.getD_eq_getElem?_getD, List.getElem?_eq_getElem hc]
    exact (hx.cr _ (List.getElem_mem hc)).lo.1
  have hi : i64R (x.a.ls.getD k 0) := by
    rw [List.getD_eq_getElem?_getD, List.getElem?_eq_getElem hl]
    exact hx.lr _ (List.getElem_mem hl)
  unfold tokA tickA
  clear hx hc hl hcl hll
  generalize x.a.ls.getD k 0 = last at *
  generalize (x.a.cs.getD k nb0).lo = u at *
  obtain ⟨⟨name, kind, aw, rate, burst, cs, ls⟩, ca, cc, la, lc⟩ := x
  simp only [ArL.val] at *
  subst hca hla
  generalize cs.length = n1 at *
  generalize ls.length = n2 at *
  have ws : IntKind.i64.wrap (now - last) = now - last := by rw [IntKind.wrap_i64]; have := hi.2; omega
  obtain ⟨d, hd⟩ : ∃ d, d = max (now - last) 0 := ⟨_, rfl⟩
  obtain ⟨t, ht'⟩ : ∃ t, t = min d burst := ⟨_, rfl⟩
  rw [← hd, ← ht']
  have e0 : (if now - last < 0 then 0 else now - last) = d := by
    rw [hd]
    simp only [Int.max_def]
    split <;> split <;> omega
  have e1 : (if burst < d then burst else d) = t := by
    rw [ht']
    simp only [Int.min_def]
    split <;> split <;> omega
  have t0 : 0 ≤ t := by rw [ht', hd]; simp only [Int.min_def, Int.max_def]; split <;> (try split) <;> omega
  have t1 : t ≤ burst := by rw [ht']; exact Int.min_le_right _ _
  have tr0 : 0 ≤ t * rate := Int.mul_nonneg t0 hr0
  have tr1 : t * rate ≤ 65535 * 65535 := Int.mul_le_mul (by omega) hr1 hr0 (by omega)
  have w1 : IntKind.u64.wrap t = t := by rw [IntKind.wrap_u64]; omega
  have w2 : IntKind.u64.wrap rate = rate := by rw [IntKind.wrap_u64]; omega
  have w3 : IntKind.u64.wrap (t * rate) = t * rate := by rw [IntKind.wrap_u64]; omega
  have w4 : IntKind.u64.wrap (u + t * rate) = u + t * rate := by rw [IntKind.wrap_u64]; omega
  have w5 : IntKind.u64.wrap burst = burst := by rw [IntKind.wrap_u64]; omega
  obtain ⟨r, hr⟩ : ∃ r, r = min (u + t * rate) burst := ⟨_, rfl⟩
  rw [← hr]
  have e2 : (if burst < u + t * rate then burst else u + t * rate) = r := by rw [hr]; simp only [Int.min_def]; split <;> split <;> omega
  clear hr hd ht' tr0 tr1 t0 t1 h0 h1 hr0 hr1 hb0 hb1 hs ht hlo hi
  go_enter Tryz.func29, Tryz.ntmps29
  have c0 := HC.out _ (below1 w (.cells #[.string name, .int .u8 kind, .int .i64 aw, .int .i64 rate, .int .i64 burst, .slice (some ⟨p, off, none⟩) n1 cc, .slice (some ⟨q, off2, none⟩) n2 lc] 93))
  have c1 := HL.out _ (below1 w (.cells #[.string name, .int .u8 kind, .int .i64 aw, .int .i64 rate, .int .i64 burst, .slice (some ⟨p, off, none⟩) n1 cc, .slice (some ⟨q, off2, none⟩) n2 lc] 93))
  go_wp2
  go_region
  clear e0 e1 ws
  go_wp2
  go_region
  go_wp2
  go_ret
  exact ⟨rfl, ((below1 _ _).drew).drew⟩
end Go.Proofs.YtbemfjdloeipmaaGreatDoor
/- math/bits.Mul64, alone. -/
namespace Go.Proofs.YtbemfjdloeipmaaGreatDoor
open Go.RowKit

theorem halfN (a : Nat) (ha : a < 18446744073709551616) : bits .and .u64 (a : Int) 4294967295 = ((a % 4294967296 : Nat) : Int) := by
  rw [show (4294967295 : Int) = ((4294967295 : Nat) : Int) from rfl, u64_and_nat a 4294967295 ha (by omega)]
  exact congrArg _ (Nat.and_two_pow_sub_one_eq_mod a 32)
theorem divN (a : Nat) : (a : Int) / 4294967296 = ((a / 4294967296 : Nat) : Int) := by omega
theorem wrapN (a : Nat) (ha : a < 18446744073709551616) : IntKind.u64.wrap (a : Int) = (a : Int) := by rw [IntKind.wrap_u64]; omega
theorem wrapM (a : Nat) : IntKind.u64.wrap (a : Int) = ((a % 18446744073709551616 : Nat) : Int) := by rw [IntKind.wrap_u64]; omega

set_option maxHeartbeats 1000000 in
theorem mul64_any (x y : Nat) (hx : x < 18446744073709551616) (hy : y < 18446744073709551616) (w : World) :
    Calls Tryz.prog 218 #[.int .u64 x, .int .u64 y] w fun e w' => e = .returned (.tuple #[.int .u64 ((x * y / 18446744073709551616 : Nat) : Int), .int .u64 ((x * y % 18446744073709551616 : Nat) : Int)]) ∧ w' = w := by
  obtain ⟨k1, k2, k3, k4⟩ := Lib.mul64_hi x y hx hy
  have j1 := Lib.half_mul_le (a := x / 4294967296) (b := y / 4294967296) (by omega) (by omega)
  have j2 := Lib.half_mul_le (a := x / 4294967296) (b := y % 4294967296) (by omega) (by omega)
  have j3 := Lib.half_mul_le (a := x % 4294967296) (b := y / 4294967296) (by omega) (by omega)
  go_enter Tryz.func218, Tryz.ntmps218
  go_wp2
  have q1 : x / 4294967296 * (y / 4294967296) < 18446744073709551616 := by omega
  have q2 : x / 4294967296 * (y % 4294967296) < 18446744073709551616 := by omega
  have q3 : x % 4294967296 * (y / 4294967296) < 18446744073709551616 := by omega
  have q4 : x / 4294967296 * (y / 4294967296) + (x / 4294967296 * (y % 4294967296) + x % 4294967296 * (y % 4294967296) / 4294967296) / 4294967296 < 18446744073709551616 := by omega
  have q5 : x / 4294967296 * (y / 4294967296) + (x / 4294967296 * (y % 4294967296) + x % 4294967296 * (y % 4294967296) / 4294967296) / 4294967296 + ((x / 4294967296 * (y % 4294967296) + x % 4294967296 * (y % 4294967296) / 4294967296) % 4294967296 + x % 4294967296 * (y / 4294967296)) / 4294967296 < 18446744073709551616 := by omega
  simp only [halfN x hx, halfN y hy, divN, ← Int.natCast_mul, ← Int.natCast_add, wrapN _ q1, wrapN _ q2, wrapN _ q3, wrapN _ k1, wrapN _ k2, halfN _ k2, wrapN _ k3, wrapN _ q4, wrapN _ q5, wrapM (x * y)]
  rw [k4]
  go_ret2
  exact ⟨rfl, rfl⟩
end Go.Proofs.YtbemfjdloeipmaaGreatDoor
