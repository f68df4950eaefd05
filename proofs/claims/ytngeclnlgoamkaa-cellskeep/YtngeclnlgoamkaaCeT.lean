/- package cells: how many tokens there are. -/
import Derived.Test.YtngeclnlgoamkaaCeG
import Derived.RegionTactic
namespace Go.Proofs.Ytngeclnlgoamkaa
open Go.RowKit

def tickA (a : Ar) (k : Nat) (now : Int) : Int := min (max (now - a.ls.getD k 0) 0) a.burst
def tokA (a : Ar) (k : Nat) (now : Int) : Int := min ((a.cs.getD k nb0).lo + tickA a k now * a.rate) a.burst
set_option maxRecDepth 100000 in
set_option maxHeartbeats 4000000 in
theorem tokens_any (x : ArL) (k : Nat) (now : Int) (w : World) (hx : ArR w x) (hc : k < x.a.cs.length) (hl : k < x.a.ls.length) (h0 : 0 ≤ now) (h1 : now < 9223372036854775808) (hr0 : 0 ≤ x.a.rate) (hr1 : x.a.rate ≤ 65535) (hb0 : 1 ≤ x.a.burst) (hb1 : x.a.burst ≤ 65535) (hs : 0 ≤ x.a.ls.getD k 0) (ht : (x.a.cs.getD k nb0).lo ≤ x.a.burst) :
    Calls Try.prog 33 #[x.val, .int .i64 k, .int .i64 now] w fun e w' => e = .returned (.int .u64 (tokA x.a k now)) ∧ Below w.heap.size w w' := by
  obtain ⟨p, off, hca, hp, hcl⟩ := hx.cs.some (by omega)
  obtain ⟨q, off2, hla, hq, hll⟩ := hx.ls.some (by omega)
  have HC : Hid (∀ W, Below w.heap.size w W → W.cell? ⟨p, off + k * 3 + 2, none⟩ = some (.int .u64 (x.a.cs.getD k nb0).lo)) := fun W hb => by
    rw [List.getD_eq_getElem?_getD, List.getElem?_eq_getElem hc]
    exact (hb.cell (p := ⟨p, _, none⟩) hp).trans (hcl k hc).2.2
  have HL : Hid (∀ W, Below w.heap.size w W → W.cell? ⟨q, off2 + k, none⟩ = some (.int .i64 (x.a.ls.getD k 0))) := fun W hb => by
    rw [List.getD_eq_getElem?_getD, List.getElem?_eq_getElem hl]
    exact (hb.cell (p := ⟨q, _, none⟩) hq).trans (hll k hl)
  have hcI : ((k : Int) < (x.a.cs.length : Int)) := by omega
  have hlI : ((k : Int) < (x.a.ls.length : Int)) := by omega
  have hlo : 0 ≤ (x.a.cs.getD k nb0).lo := by
    rw [List.getD_eq_getElem?_getD, List.getElem?_eq_getElem hc]
    exact (hx.cr _ (List.getElem_mem hc)).lo.1
  have hi : i64R (x.a.ls.getD k 0) := by
    rw [List.getD_eq_getElem?_getD, List.getElem?_eq_getElem hl]
    exact hx.lr _ (List.getElem_mem hl)
  unfold tokA tickA
  clear hx hc hl hcl hll
  generalize x.a.ls.getD k 0 = last at *
  generalize (x.a.cs.getD k nb0).lo = u at *
  obtain ⟨⟨name, kind, aw, rate, burst, cs, ls⟩, ca, cc, la, lc⟩ := x
  simp only [ArL.val] at *
  subst hca hla
  generalize cs.length = n1 at *
  generalize ls.length = n2 at *
  have ws : IntKind.i64.wrap (now - last) = now - last := by rw [IntKind.wrap_i64]; have := hi.2; omega
  obtain ⟨d, hd⟩ : ∃ d, d = max (now - last) 0 := ⟨_, rfl⟩
  obtain ⟨t, ht'⟩ : ∃ t, t = min d burst := ⟨_, rfl⟩
  rw [← hd, ← ht']
  have e0 : (if now - last < 0 then 0 else now - last) = d := by
    rw [hd]
    simp only [Int.max_def]
    split <;> split <;> omega
  have e1 : (if burst < d then burst else d) = t := by
    rw [ht']
    simp only [Int.min_def]
    split <;> split <;> omega
  have t0 : 0 ≤ t := by rw [ht', hd]; simp only [Int.min_def, Int.max_def]; split <;> (try split) <;> omega
  have t1 : t ≤ burst := by rw [ht']; exact Int.min_le_right _ _
  have tr0 : 0 ≤ t * rate := Int.mul_nonneg t0 hr0
  have tr1 : t * rate ≤ 65535 * 65535 := Int.mul_le_mul (by omega) hr1 hr0 (by omega)
  have w1 : IntKind.u64.wrap t = t := by rw [IntKind.wrap_u64]; omega
  have w2 : IntKind.u64.wrap rate = rate := by rw [IntKind.wrap_u64]; omega
  have w3 : IntKind.u64.wrap (t * rate) = t * rate := by rw [IntKind.wrap_u64]; omega
  have w4 : IntKind.u64.wrap (u + t * rate) = u + t * rate := by rw [IntKind.wrap_u64]; omega
  have w5 : IntKind.u64.wrap burst = burst := by rw [IntKind.wrap_u64]; omega
  obtain ⟨r, hr⟩ : ∃ r, r = min (u + t * rate) burst := ⟨_, rfl⟩
  rw [← hr]
  have e2 : (if burst < u + t * rate then burst else u + t * rate) = r := by rw [hr]; simp only [Int.min_def]; split <;> split <;> omega
  clear hr hd ht' tr0 tr1 t0 t1 h0 h1 hr0 hr1 hb0 hb1 hs ht hlo hi
  go_enter Try.func33, Try.ntmps33
  have c0 := HC.out _ (below1 w (.cells #[.string name, .int .u8 kind, .int .i64 aw, .int .i64 rate, .int .i64 burst, .slice (some ⟨p, off, none⟩) n1 cc, .slice (some ⟨q, off2, none⟩) n2 lc] 65))
  have c1 := HL.out _ (below1 w (.cells #[.string name, .int .u8 kind, .int .i64 aw, .int .i64 rate, .int .i64 burst, .slice (some ⟨p, off, none⟩) n1 cc, .slice (some ⟨q, off2, none⟩) n2 lc] 65))
  go_wp2
  go_region
  clear e0 e1 ws
  go_wp2
  go_region
  go_wp2
  go_ret
  exact ⟨rfl, ((below1 _ _).drew).drew⟩
end Go.Proofs.Ytngeclnlgoamkaa
