/- The walk of the document's own each where just one of two bits is asked. -/
import Derived.Test.YtieambnaiecibaaREach
import Derived.Deep.RegionLaw
namespace Go.Proofs.Ytieambnaiecibaa
open Go.RowKit

theorem step_append_mine {P : Program} {ops : Array Oper} {o : Oper} {a : Act} {w : World} {K : Act → World → Prop} {Q : Exit → Act → World → Prop} {E : Prop}
    (hg : o.guard = none) (s x : Operand) (t : TypeId) (hop : o.op = Op.call { callee := Callee.builtin Builtin.append, args := #[s, x], argTypes := #[t, t] })
    (base : Nat) (e : TypeId) (i : TypeInfo) (z : Value) (size bytes : Nat) (h1 : P.underlying t = some (.slice e)) (h2 : P.info? e = some i) (h3 : i.zero = some z) (h4 : i.size = size) (h5 : i.bytes = bytes) (h6 : z.cells.size = size) (h7 : 0 < size)
    (v : Value) (n : Nat) (xs : List Value) (hs : a.eval s = v) (hown : w.ownsRow base e size v n xs)
    (ad : Addr) (m c : Nat) (news : List Value) (hx : a.eval x = .slice (some ad) m c) (hn : news.length = m * size) (hc : ∀ j u, news[j]? = some u → w.cell? (ad.add j) = some u) (h1c : ∀ u ∈ news, u.oneCell' = true)
    (b1 : n + m ≤ maxLen) (b2 : (n + m) * bytes ≤ 140737488355328) (b3 : base ≤ w.heap.size)
    (hK : ∀ v' w', w'.ownsRow base e size v' (n + m) (xs ++ news) → w.grownBy w' v.ownBlock → K (a.put o.dst v') w') :
    if Region.wanted o (yielded ops a.tmps) = true then Oper.wp P o a w K Q else E := by
  have hw : Region.wanted o (yielded ops a.tmps) = true := by simp [Region.wanted, hg]
  rw [if_pos hw]
  obtain ⟨v', w', hrun, r1, r2, _⟩ := run_append_own (P := P) w base t o.type e i z size bytes h1 h2 h3 h4 h5 h6 h7 v n xs hown ad m c news hn hc h1c b1 b2 b3
  unfold Oper.wp
  simp [execOp, hop, resolve, invoke, builtin, hs, hx, hrun, Result.andThen]
  exact hK v' w' r1 r2

theorem grow_any {B : Nat} {w0 W wr w1 : World} {r : Option Nat} (h : Below B w0 W) (hg : W.grownBy w1 r) (_hs : B ≤ wr.heap.size) (hB : B ≤ W.heap.size) (hr : ∀ k, r = some k → B ≤ k) : Below B w0 w1 := h.grown hg hB hr

set_option maxHeartbeats 2000000 in
theorem refEachXor (a b : List Bool) (hl : a.length ≤ 128) (hlb : b.length = a.length) (va vb : Value) (w : World) (hva : Row w va a) (hvb : Row w vb b) :
    Calls Try.prog 20 #[.int .u8 10, va, vb] w fun e w' => ∃ r, e = .returned r ∧ Own w w' r (eachTo (fun x y => x != y) a b a.length) ∧ Below w.heap.size w w' := by
  obtain ⟨p, off, cap, rfl, ha⟩ := hva
  obtain ⟨q, off2, cap2, rfl, hb⟩ := hvb
  obtain ⟨i0, hi0, hz0, hz1, hz2⟩ := info_parts Try.info4
  rw [hlb]
  rw [hlb] at hb
  go_enter Try.func20, Try.ntmps20
  go_wp2
  go_loopw [7, 8] (fun v i wr => ∃ k : Nat, k ≤ a.length ∧ i = .int .i64 k ∧ wr.ownsRow w.heap.size 4 1 v k ((eachTo (fun x y => x != y) a b k).map Value.bool) ∧ Below w.heap.size w wr) (fun _ i _ => a.length - (intOf i).toNat)
  case atStart => exact ⟨0, Nat.zero_le _, rfl, World.ownsRow_nil _ _ _ _, Below.refl _ _⟩
  case round =>
    obtain ⟨k, hk, rfl, hown, hnx⟩ := hrel
    have hsz := hnx.size
    have HS := hide (eachTo_succ (fun x y => x != y) a b k)
    by_cases hlt : k < a.length
    · have hca : wr.cell? ⟨p, off + k, none⟩ = some (.bool (bitAt a k)) := by
        rw [hnx.cell (World.block_lt_of_cell? w _ (ha k hlt))]; exact ha k hlt
      have hcb : wr.cell? ⟨q, off2 + k, none⟩ = some (.bool (bitAt b k)) := by
        rw [hnx.cell (World.block_lt_of_cell? w _ (hb k hlt))]; exact hb k hlt
      clear ha hb
      have hlI : (k : Int) < (a.length : Int) := by omega
      generalize bitAt a k = x at *
      generalize bitAt b k = y at *
      have HO := hide hown; have HN := hide hnx
      clear hown hnx
      go_wp2
      go_region_law (refine step_append_mine rfl _ _ 38 rfl w.heap.size 4 i0 (.bool false) 1 1 Try.underlying38 hi0 hz0 hz1 hz2 rfl (by decide) _ _ _ rfl ((unhide HO).alloc _) ⟨wr.heap.size, 0, none⟩ 1 1 [.bool (x != y)] rfl rfl (cell_one_new _ _ _) (bool_one _) (by unfold maxLen; omega) (by omega) (by simp; omega) ?_; intro v' w1 hown' hgrow)
      all_goals
        have hr1 := hide (own_snoc (M := eachTo (fun x y => x != y) a b (k + 1)) hown' HS.out)
        have hr2 : Hid (Below w.heap.size w w1) := grow_any (by first | exact ((unhide HN).alloc hsz _).drew | exact (unhide HN).drew.alloc hsz _) hgrow hsz (by simp; omega) (fun k e => ((unhide HO).lt k e).1)
        clear hown' hgrow hca hcb HO HN
        go_wp2
        go_roundw
        case rel => exact ⟨k + 1, by omega, by go_num, hr1.out, hr2.out⟩
        case measure => simp [intOf]; omega
    · have hkk : Hid (k = a.length) := by unfold Hid; omega
      have hf := hide hnx
      clear hnx hk ha hb
      go_wp2
      go_ret
      exact ⟨_, rfl, own_mk hown (by rw [hkk.out]), hf.out⟩
end Go.Proofs.Ytieambnaiecibaa
