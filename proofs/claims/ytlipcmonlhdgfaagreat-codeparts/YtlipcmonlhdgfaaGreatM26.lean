/- Pieces of the proof: REach, RXor, RVal, RDo. -/
import Derived.Test.YtlipcmonlhdgfaaGreatM25
import Derived.Deep.RegionLaw
import Derived.Test.YtlipcmonlhdgfaaGreatM21
/- The walks of the document's own each, one, below and value. -/
namespace Go.Proofs.YtlipcmonlhdgfaaGreat
open Go.RowKit

theorem refOne_any (x : Bool) (w : World) :
    Calls Tryz.prog 203 #[.bool x] w fun e w' => ∃ r, e = .returned r ∧ Own w w' r [x] ∧ Below w.heap.size w w' := by
  go_enter Tryz.func203, Tryz.ntmps203
  go_wp2
  go_ret
  exact ⟨_, rfl, World.ownsRow_lit w #[.bool x] 1 (Nat.le_refl _) (by unfold maxLen; omega) rfl, (Below.refl _ _).alloc (Nat.le_refl _) _⟩

set_option maxRecDepth 100000 in
set_option maxHeartbeats 1000000 in
theorem refEachAnd (a b : List Bool) (hl : a.length ≤ 128) (hlb : b.length = a.length) (va vb : Value) (w : World) (hva : Row w va a) (hvb : Row w vb b) :
    Calls Tryz.prog 200 #[.int .u8 8, va, vb] w fun e w' => ∃ r, e = .returned r ∧ Own w w' r (eachTo (fun x y => x && y) a b a.length) ∧ Below w.heap.size w w' := by
  obtain ⟨p, off, cap, rfl, ha⟩ := hva
  obtain ⟨q, off2, cap2, rfl, hb⟩ := hvb
  obtain ⟨i0, hi0, hz0, hz1, hz2⟩ := info_parts Tryz.info4
  rw [hlb]
  rw [hlb] at hb
  go_enter Tryz.func200, Tryz.ntmps200
  go_wp2
  go_loopw [7, 8] (fun v i wr => ∃ k : Nat, k ≤ a.length ∧ i = .int .i64 k ∧ wr.ownsRow w.heap.size 4 1 v k ((eachTo (fun x y => x && y) a b k).map Value.bool) ∧ Below w.heap.size w wr) (fun _ i _ => a.length - (intOf i).toNat)
  case atStart => exact ⟨0, Nat.zero_le _, rfl, World.ownsRow_nil _ _ _ _, Below.refl _ _⟩
  case round =>
    obtain ⟨k, hk, rfl, hown, hnx⟩ := hrel
    have hsz := hnx.size
    have HS := hide (eachTo_succ (fun x y => x && y) a b k)
    by_cases hlt : k < a.length
    · have hca : wr.cell? ⟨p, off + k, none⟩ = some (.bool (bitAt a k)) := by
        rw [hnx.cell (World.block_lt_of_cell? w _ (ha k hlt))]; exact ha k hlt
      have hcb : wr.cell? ⟨q, off2 + k, none⟩ = some (.bool (bitAt b k)) := by
        rw [hnx.cell (World.block_lt_of_cell? w _ (hb k hlt))]; exact hb k hlt
      cases hx : bitAt a k
      · cases hy : bitAt b k
        · rw [hx] at hca
          rw [hy] at hcb
          have HX : Hid ((fun x y => x && y) (bitAt a k) (bitAt b k) = false) := by unfold Hid; rw [hx, hy]; rfl
          clear hx hy ha hb
          go_wp2_with (at_builtin; refine wpList_append_own _ rfl _ _ 124 rfl w.heap.size 4 i0 (.bool false) 1 1 Tryz.underlying124 hi0 hz0 hz1 hz2 rfl (by decide) _ _ _ rfl (hown.alloc _) ⟨wr.heap.size, 0, none⟩ 1 1 [.bool false] rfl rfl (cell_one_new _ _ _) (bool_one _) (by unfold maxLen; omega) (by omega) (by simp; omega) ?_)
          intro v' w1 hown' hgrow _
          have hr1 := hide (own_snoc (M := eachTo (fun x y => x && y) a b (k + 1)) hown' (by rw [HS.out]; exact congrArg (fun x => _ ++ [x]) HX.out))
          have hr2 := hide (own_grow hown hgrow hnx hsz)
          clear hown hown' hgrow hnx hca hcb
          go_wp2
          go_roundw
          case rel => exact ⟨k + 1, by omega, by go_num, hr1.out, hr2.out⟩
          case measure => simp [intOf]; omega
        · rw [hx] at hca
          rw [hy] at hcb
          have HX : Hid ((fun x y => x && y) (bitAt a k) (bitAt b k) = false) := by unfold Hid; rw [hx, hy]; rfl
          clear hx hy ha hb
          go_wp2_with (at_builtin; refine wpList_append_own _ rfl _ _ 124 rfl w.heap.size 4 i0 (.bool false) 1 1 Tryz.underlying124 hi0 hz0 hz1 hz2 rfl (by decide) _ _ _ rfl (hown.alloc _) ⟨wr.heap.size, 0, none⟩ 1 1 [.bool false] rfl rfl (cell_one_new _ _ _) (bool_one _) (by unfold maxLen; omega) (by omega) (by simp; omega) ?_)
          intro v' w1 hown' hgrow _
          have hr1 := hide (own_snoc (M := eachTo (fun x y => x && y) a b (k + 1)) hown' (by rw [HS.out]; exact congrArg (fun x => _ ++ [x]) HX.out))
          have hr2 := hide (own_grow hown hgrow hnx hsz)
          clear hown hown' hgrow hnx hca hcb
          go_wp2
          go_roundw
          case rel => exact ⟨k + 1, by omega, by go_num, hr1.out, hr2.out⟩
          case measure => simp [intOf]; omega
      · cases hy : bitAt b k
        · rw [hx] at hca
          rw [hy] at hcb
          have HX : Hid ((fun x y => x && y) (bitAt a k) (bitAt b k) = false) := by unfold Hid; rw [hx, hy]; rfl
          clear hx hy ha hb
          go_wp2_with (at_builtin; refine wpList_append_own _ rfl _ _ 124 rfl w.heap.size 4 i0 (.bool false) 1 1 Tryz.underlying124 hi0 hz0 hz1 hz2 rfl (by decide) _ _ _ rfl (hown.alloc _) ⟨wr.heap.size, 0, none⟩ 1 1 [.bool false] rfl rfl (cell_one_new _ _ _) (bool_one _) (by unfold maxLen; omega) (by omega) (by simp; omega) ?_)
          intro v' w1 hown' hgrow _
          have hr1 := hide (own_snoc (M := eachTo (fun x y => x && y) a b (k + 1)) hown' (by rw [HS.out]; exact congrArg (fun x => _ ++ [x]) HX.out))
          have hr2 := hide (own_grow hown hgrow hnx hsz)
          clear hown hown' hgrow hnx hca hcb
          go_wp2
          go_roundw
          case rel => exact ⟨k + 1, by omega, by go_num, hr1.out, hr2.out⟩
          case measure => simp [intOf]; omega
        · rw [hx] at hca
          rw [hy] at hcb
          have HX : Hid ((fun x y => x && y) (bitAt a k) (bitAt b k) = true) := by unfold Hid; rw [hx, hy]; rfl
          clear hx hy ha hb
          go_wp2_with (at_builtin; refine wpList_append_own _ rfl _ _ 124 rfl w.heap.size 4 i0 (.bool false) 1 1 Tryz.underlying124 hi0 hz0 hz1 hz2 rfl (by decide) _ _ _ rfl (hown.alloc _) ⟨wr.heap.size, 0, none⟩ 1 1 [.bool true] rfl rfl (cell_one_new _ _ _) (bool_one _) (by unfold maxLen; omega) (by omega) (by simp; omega) ?_)
          intro v' w1 hown' hgrow _
          have hr1 := hide (own_snoc (M := eachTo (fun x y => x && y) a b (k + 1)) hown' (by rw [HS.out]; exact congrArg (fun x => _ ++ [x]) HX.out))
          have hr2 := hide (own_grow hown hgrow hnx hsz)
          clear hown hown' hgrow hnx hca hcb
          go_wp2
          go_roundw
          case rel => exact ⟨k + 1, by omega, by go_num, hr1.out, hr2.out⟩
          case measure => simp [intOf]; omega
    · have hkk : Hid (k = a.length) := by unfold Hid; omega
      have hf := hide hnx
      clear hnx hk ha hb
      go_wp2
      go_ret
      exact ⟨_, rfl, own_mk hown (by rw [hkk.out]), hf.out⟩

set_option maxRecDepth 100000 in
set_option maxHeartbeats 1000000 in
theorem refEachOr (a b : List Bool) (hl : a.length ≤ 128) (hlb : b.length = a.length) (va vb : Value) (w : World) (hva : Row w va a) (hvb : Row w vb b) :
    Calls Tryz.prog 200 #[.int .u8 9, va, vb] w fun e w' => ∃ r, e = .returned r ∧ Own w w' r (eachTo (fun x y => x || y) a b a.length) ∧ Below w.heap.size w w' := by
  obtain ⟨p, off, cap, rfl, ha⟩ := hva
  obtain ⟨q, off2, cap2, rfl, hb⟩ := hvb
  obtain ⟨i0, hi0, hz0, hz1, hz2⟩ := info_parts Tryz.info4
  rw [hlb]
  rw [hlb] at hb
  go_enter Tryz.func200, Tryz.ntmps200
  go_wp2
  go_loopw [7, 8] (fun v i wr => ∃ k : Nat, k ≤ a.length ∧ i = .int .i64 k ∧ wr.ownsRow w.heap.size 4 1 v k ((eachTo (fun x y => x || y) a b k).map Value.bool) ∧ Below w.heap.size w wr) (fun _ i _ => a.length - (intOf i).toNat)
  case atStart => exact ⟨0, Nat.zero_le _, rfl, World.ownsRow_nil _ _ _ _, Below.refl _ _⟩
  case round =>
    obtain ⟨k, hk, rfl, hown, hnx⟩ := hrel
    have hsz := hnx.size
    have HS := hide (eachTo_succ (fun x y => x || y) a b k)
    by_cases hlt : k < a.length
    · have hca : wr.cell? ⟨p, off + k, none⟩ = some (.bool (bitAt a k)) := by
        rw [hnx.cell (World.block_lt_of_cell? w _ (ha k hlt))]; exact ha k hlt
      have hcb : wr.cell? ⟨q, off2 + k, none⟩ = some (.bool (bitAt b k)) := by
        rw [hnx.cell (World.block_lt_of_cell? w _ (hb k hlt))]; exact hb k hlt
      cases hx : bitAt a k
      · cases hy : bitAt b k
        · rw [hx] at hca
          rw [hy] at hcb
          have HX : Hid ((fun x y => x || y) (bitAt a k) (bitAt b k) = false) := by unfold Hid; rw [hx, hy]; rfl
          clear hx hy ha hb
          go_wp2_with (at_builtin; refine wpList_append_own _ rfl _ _ 124 rfl w.heap.size 4 i0 (.bool false) 1 1 Tryz.underlying124 hi0 hz0 hz1 hz2 rfl (by decide) _ _ _ rfl (hown.alloc _) ⟨wr.heap.size, 0, none⟩ 1 1 [.bool false] rfl rfl (cell_one_new _ _ _) (bool_one _) (by unfold maxLen; omega) (by omega) (by simp; omega) ?_)
          intro v' w1 hown' hgrow _
          have hr1 := hide (own_snoc (M := eachTo (fun x y => x || y) a b (k + 1)) hown' (by rw [HS.out]; exact congrArg (fun x => _ ++ [x]) HX.out))
          have hr2 := hide (own_grow hown hgrow hnx hsz)
          clear hown hown' hgrow hnx hca hcb
          go_wp2
          go_roundw
          case rel => exact ⟨k + 1, by omega, by go_num, hr1.out, hr2.out⟩
          case measure => simp [intOf]; omega
        · rw [hx] at hca
          rw [hy] at hcb
          have HX : Hid ((fun x y => x || y) (bitAt a k) (bitAt b k) = true) := by unfold Hid; rw [hx, hy]; rfl
          clear hx hy ha hb
          go_wp2_with (at_builtin; refine wpList_append_own _ rfl _ _ 124 rfl w.heap.size 4 i0 (.bool false) 1 1 Tryz.underlying124 hi0 hz0 hz1 hz2 rfl (by decide) _ _ _ rfl (hown.alloc _) ⟨wr.heap.size, 0, none⟩ 1 1 [.bool true] rfl rfl (cell_one_new _ _ _) (bool_one _) (by unfold maxLen; omega) (by omega) (by simp; omega) ?_)
          intro v' w1 hown' hgrow _
          have hr1 := hide (own_snoc (M := eachTo (fun x y => x || y) a b (k + 1)) hown' (by rw [HS.out]; exact congrArg (fun x => _ ++ [x]) HX.out))
          have hr2 := hide (own_grow hown hgrow hnx hsz)
          clear hown hown' hgrow hnx hca hcb
          go_wp2
          go_roundw
          case rel => exact ⟨k + 1, by omega, by go_num, hr1.out, hr2.out⟩
          case measure => simp [intOf]; omega
      · cases hy : bitAt b k
        · rw [hx] at hca
          rw [hy] at hcb
          have HX : Hid ((fun x y => x || y) (bitAt a k) (bitAt b k) = true) := by unfold Hid; rw [hx, hy]; rfl
          clear hx hy ha hb
          go_wp2_with (at_builtin; refine wpList_append_own _ rfl _ _ 124 rfl w.heap.size 4 i0 (.bool false) 1 1 Tryz.underlying124 hi0 hz0 hz1 hz2 rfl (by decide) _ _ _ rfl (hown.alloc _) ⟨wr.heap.size, 0, none⟩ 1 1 [.bool true] rfl rfl (cell_one_new _ _ _) (bool_one _) (by unfold maxLen; omega) (by omega) (by simp; omega) ?_)
          intro v' w1 hown' hgrow _
          have hr1 := hide (own_snoc (M := eachTo (fun x y => x || y) a b (k + 1)) hown' (by rw [HS.out]; exact congrArg (fun x => _ ++ [x]) HX.out))
          have hr2 := hide (own_grow hown hgrow hnx hsz)
          clear hown hown' hgrow hnx hca hcb
          go_wp2
          go_roundw
          case rel => exact ⟨k + 1, by omega, by go_num, hr1.out, hr2.out⟩
          case measure => simp [intOf]; omega
        · rw [hx] at hca
          rw [hy] at hcb
          have HX : Hid ((fun x y => x || y) (bitAt a k) (bitAt b k) = true) := by unfold Hid; rw [hx, hy]; rfl
          clear hx hy ha hb
          go_wp2_with (at_builtin; refine wpList_append_own _ rfl _ _ 124 rfl w.heap.size 4 i0 (.bool false) 1 1 Tryz.underlying124 hi0 hz0 hz1 hz2 rfl (by decide) _ _ _ rfl (hown.alloc _) ⟨wr.heap.size, 0, none⟩ 1 1 [.bool true] rfl rfl (cell_one_new _ _ _) (bool_one _) (by unfold maxLen; omega) (by omega) (by simp; omega) ?_)
          intro v' w1 hown' hgrow _
          have hr1 := hide (own_snoc (M := eachTo (fun x y => x || y) a b (k + 1)) hown' (by rw [HS.out]; exact congrArg (fun x => _ ++ [x]) HX.out))
          have hr2 := hide (own_grow hown hgrow hnx hsz)
          clear hown hown' hgrow hnx hca hcb
          go_wp2
          go_roundw
          case rel => exact ⟨k + 1, by omega, by go_num, hr1.out, hr2.out⟩
          case measure => simp [intOf]; omega
    · have hkk : Hid (k = a.length) := by unfold Hid; omega
      have hf := hide hnx
      clear hnx hk ha hb
      go_wp2
      go_ret
      exact ⟨_, rfl, own_mk hown (by rw [hkk.out]), hf.out⟩
end Go.Proofs.YtlipcmonlhdgfaaGreat
/- The walk of the document's own each where just one of two bits is asked. -/
namespace Go.Proofs.YtlipcmonlhdgfaaGreat
open Go.RowKit

theorem step_append_mine {P : Program} {ops : Array Oper} {o : Oper} {a : Act} {w : World} {K : Act → World → Prop} {Q : Exit → Act → World → Prop} {E : Prop}
    (hg : o.guard = none) (s x : Operand) (t : TypeId) (hop : o.op = Op.call { callee := Callee.builtin Builtin.append, args := #[s, x], argTypes := #[t, t] })
    (base : Nat) (e : TypeId) (i : TypeInfo) (z : Value) (size bytes : Nat) (h1 : P.underlying t = some (.slice e)) (h2 : P.info? e = some i) (h3 : i.zero = some z) (h4 : i.size = size) (h5 : i.bytes = bytes) (h6 : z.cells.size = size) (h7 : 0 < size)
    (v : Value) (n : Nat) (xs : List Value) (hs : a.eval s = v) (hown : w.ownsRow base e size v n xs)
    (ad : Addr) (m c : Nat) (news : List Value) (hx : a.eval x = .slice (some ad) m c) (hn : news.length = m * size) (hc : ∀ j u, news[j]? = some u → w.cell? (ad.add j) = some u) (h1c : ∀ u ∈ news, u.oneCell' = true)
    (b1 : n + m ≤ maxLen) (b2 : (n + m) * bytes ≤ 140737488355328) (b3 : base ≤ w.heap.size)
    (hK : ∀ v' w', w'.ownsRow base e size v' (n + m) (xs ++ news) → w.grownBy w' v.ownBlock → K (a.put o.dst v') w') :
    if Region.wanted o (yielded ops a.tmps) = true then Oper.wp P o a w K Q else E := by
  have hw : Region.wanted o (yielded ops a.tmps) = true := by simp [Region.wanted, hg]
  rw [if_pos hw]
  obtain ⟨v', w', hrun, r1, r2, _⟩ := run_append_own (P := P) w base t o.type e i z size bytes h1 h2 h3 h4 h5 h6 h7 v n xs hown ad m c news hn hc h1c b1 b2 b3
  unfold Oper.wp
  simp [execOp, hop, resolve, invoke, builtin, hs, hx, hrun, Result.andThen]
  exact hK v' w' r1 r2

theorem grow_any {B : Nat} {w0 W wr w1 : World} {r : Option Nat} (h : Below B w0 W) (hg : W.grownBy w1 r) (_hs : B ≤ wr.heap.size) (hB : B ≤ W.heap.size) (hr : ∀ k, r = some k → B ≤ k) : Below B w0 w1 := h.grown hg hB hr

set_option maxRecDepth 100000 in
set_option maxHeartbeats 2000000 in
theorem refEachXor (a b : List Bool) (hl : a.length ≤ 128) (hlb : b.length = a.length) (va vb : Value) (w : World) (hva : Row w va a) (hvb : Row w vb b) :
    Calls Tryz.prog 200 #[.int .u8 10, va, vb] w fun e w' => ∃ r, e = .returned r ∧ Own w w' r (eachTo (fun x y => x != y) a b a.length) ∧ Below w.heap.size w w' := by
  obtain ⟨p, off, cap, rfl, ha⟩ := hva
  obtain ⟨q, off2, cap2, rfl, hb⟩ := hvb
  obtain ⟨i0, hi0, hz0, hz1, hz2⟩ := info_parts Tryz.info4
  rw [hlb]
  rw [hlb] at hb
  go_enter Tryz.func200, Tryz.ntmps200
  go_wp2
  go_loopw [7, 8] (fun v i wr => ∃ k : Nat, k ≤ a.length ∧ i = .int .i64 k ∧ wr.ownsRow w.heap.size 4 1 v k ((eachTo (fun x y => x != y) a b k).map Value.bool) ∧ Below w.heap.size w wr) (fun _ i _ => a.length - (intOf i).toNat)
  case atStart => exact ⟨0, Nat.zero_le _, rfl, World.ownsRow_nil _ _ _ _, Below.refl _ _⟩
  case round =>
    obtain ⟨k, hk, rfl, hown, hnx⟩ := hrel
    have hsz := hnx.size
    have HS := hide (eachTo_succ (fun x y => x != y) a b k)
    by_cases hlt : k < a.length
    · have hca : wr.cell? ⟨p, off + k, none⟩ = some (.bool (bitAt a k)) := by
        rw [hnx.cell (World.block_lt_of_cell? w _ (ha k hlt))]; exact ha k hlt
      have hcb : wr.cell? ⟨q, off2 + k, none⟩ = some (.bool (bitAt b k)) := by
        rw [hnx.cell (World.block_lt_of_cell? w _ (hb k hlt))]; exact hb k hlt
      clear ha hb
      have hlI : (k : Int) < (a.length : Int) := by omega
      generalize bitAt a k = x at *
      generalize bitAt b k = y at *
      have HO := hide hown; have HN := hide hnx
      clear hown hnx
      go_wp2
      go_region_law (refine step_append_mine rfl _ _ 124 rfl w.heap.size 4 i0 (.bool false) 1 1 Tryz.underlying124 hi0 hz0 hz1 hz2 rfl (by decide) _ _ _ rfl ((unhide HO).alloc _) ⟨wr.heap.size, 0, none⟩ 1 1 [.bool (x != y)] rfl rfl (cell_one_new _ _ _) (bool_one _) (by unfold maxLen; omega) (by omega) (by simp; omega) ?_; intro v' w1 hown' hgrow)
      all_goals
        have hr1 := hide (own_snoc (M := eachTo (fun x y => x != y) a b (k + 1)) hown' HS.out)
        have hr2 : Hid (Below w.heap.size w w1) := grow_any (by first | exact ((unhide HN).alloc hsz _).drew | exact (unhide HN).drew.alloc hsz _) hgrow hsz (by simp; omega) (fun k e => ((unhide HO).lt k e).1)
        clear hown' hgrow hca hcb HO HN
        go_wp2
        go_roundw
        case rel => exact ⟨k + 1, by omega, by go_num, hr1.out, hr2.out⟩
        case measure => simp [intOf]; omega
    · have hkk : Hid (k = a.length) := by unfold Hid; omega
      have hf := hide hnx
      clear hnx hk ha hb
      go_wp2
      go_ret
      exact ⟨_, rfl, own_mk hown (by rw [hkk.out]), hf.out⟩
end Go.Proofs.YtlipcmonlhdgfaaGreat
/- The document's own Check, Bits, Number and two, by value. -/
namespace Go.Proofs.YtlipcmonlhdgfaaGreat
open Go.RowKit

theorem refCheckV (n : Int) (v : Nat) (w : World) (hv : v < top) (b : Bool) (hb : okN n v = b) :
    Calls Tryz.prog 94 #[.agg #[.int .i64 n, .int .u64 (wHi v), .int .u64 (wLo v)]] w fun e w' => e = .returned (.bool b) ∧ Below w.heap.size w w' := by
  have h := refCheck_any n (wHi v) (wLo v) w (wHi_bd hv).1 (wHi_bd hv).2 (wLo_bd v).1 (wLo_bd v).2
  have e : okB n (wHi v) (wLo v) = b := by
    rw [← hb]
    unfold okB okN
    cases hm : mayBe n
    · rfl
    · have h0 : 1 ≤ n ∧ n ≤ 128 := by simpa [mayBe] using hm
      rw [ok_iff n v h0.1]
  rw [e] at h
  exact h

def lst (n : Int) (u : Nat) : List Bool := bitsTo (wHi u) (wLo u) n.toNat
theorem lst_length (n : Int) (u : Nat) : (lst n u).length = n.toNat := bitsTo_length _ _ _
theorem bitB_val (u i : Nat) (hi : i < 128) : bitB (wHi u) (wLo u) i = u.testBit i := by
  unfold bitB
  rw [wHi_nat, wLo_nat, Int.toNat_natCast, Int.toNat_natCast]
  by_cases h : i < 64
  · rw [if_pos h, Nat.testBit_mod_two_pow]; simp [h]
  · rw [if_neg h, Nat.testBit_div_two_pow]; congr 1; omega
theorem lst_val {n : Int} {u : Nat} (h1 : n ≤ 128) (hu : u < 2 ^ n.toNat) : valL (lst n u) = u := by
  refine Nat.eq_of_testBit_eq fun j => ?_
  rw [valL_testBit, lst, bitsTo_getD]
  by_cases h : j < n.toNat
  · rw [bitB_val u j (by omega)]; simp [h]
  · have : u.testBit j = false := Nat.testBit_lt_two_pow (Nat.lt_of_lt_of_le hu (Nat.pow_le_pow_right (by decide) (by omega)))
    simp [h, this]
theorem refBitsV (n : Int) (u : Nat) (w : World) (hu : u < top) (h1 : n ≤ 128) :
    Calls Tryz.prog 152 #[.agg #[.int .i64 n, .int .u64 (wHi u), .int .u64 (wLo u)]] w fun e w' => ∃ r, e = .returned r ∧ w'.ownsRow (w.heap.size + 1) 4 1 r n.toNat ((lst n u).map Value.bool) ∧ Below w.heap.size w w' := by
  have h := refBits_any n (wHi u) (wLo u) w (wHi_bd hu).1 (wHi_bd hu).2 (wLo_bd u).1 (wLo_bd u).2
  rw [Int.min_eq_left h1] at h
  exact h
theorem own_row1 {w : World} {base : Nat} {v : Value} {k : Nat} {l : List Bool} (h : w.ownsRow base 4 1 v k (l.map Value.bool)) (hl : 0 < l.length) : Row w v l := by
  have hk : l.length = k := by have := h.1; simpa using this
  subst hk
  rcases h.2 with ⟨_, h0⟩ | ⟨g, cap, cur, rfl, _⟩
  · omega
  · refine ⟨g, 0, cap, rfl, fun i hi => ?_⟩
    have := World.ownsRow.cellAt h i (by omega)
    rw [Nat.zero_add, this, bitAt_get hi]
    simp [hi]
theorem num_lo_val (l : List Bool) : ((numLo l : Nat) : Int) = wLo (valL l) := by
  rw [wLo_nat]
  congr 1
  refine Nat.eq_of_testBit_eq fun j => ?_
  rw [numLo, valL_testBit, Nat.testBit_mod_two_pow, valL_testBit, List.getD_eq_getElem?_getD, List.getD_eq_getElem?_getD, List.getElem?_take]
  by_cases h : j < 64 <;> simp [h]
theorem num_hi_val (l : List Bool) (hl : l.length ≤ 128) : ((numHi l : Nat) : Int) = wHi (valL l) := by
  rw [wHi_nat]
  congr 1
  refine Nat.eq_of_testBit_eq fun j => ?_
  rw [numHi, valL_testBit, Nat.testBit_div_two_pow, valL_testBit, List.getD_eq_getElem?_getD, List.getD_eq_getElem?_getD, List.getElem?_take, List.getElem?_drop]
  by_cases h : j < 64
  · rw [if_pos h]; congr 2; omega
  · rw [if_neg h, List.getElem?_eq_none (by omega)]
theorem refNumberV (v : Value) (l : List Bool) (w : World) (N : Int) (x : Nat) (hl : l.length ≤ 128) (hN : (l.length : Int) = N) (hx : valL l = x) (hv : Row w v l) :
    Calls Tryz.prog 151 #[v] w fun e w' => e = .returned (.agg #[.int .i64 N, .int .u64 (wHi x), .int .u64 (wLo x)]) ∧ Below w.heap.size w w' := by
  have h := refNumber_any v l w hl (row_brow hv)
  rw [num_lo_val, num_hi_val l hl, hN, hx] at h
  exact h

theorem two_5 (w : World) : Calls Tryz.prog 196 #[.int .u8 5] w fun e w' => e = .returned (.tuple #[.bool true, .bool true]) ∧ w' = w := by
  go_enter Tryz.func196, Tryz.ntmps196
  go_wp2
  go_ret2
  exact ⟨rfl, rfl⟩
theorem two_6 (w : World) : Calls Tryz.prog 196 #[.int .u8 6] w fun e w' => e = .returned (.tuple #[.bool true, .bool true]) ∧ w' = w := by
  go_enter Tryz.func196, Tryz.ntmps196
  go_wp2
  go_ret2
  exact ⟨rfl, rfl⟩
theorem two_7 (w : World) : Calls Tryz.prog 196 #[.int .u8 7] w fun e w' => e = .returned (.tuple #[.bool true, .bool true]) ∧ w' = w := by
  go_enter Tryz.func196, Tryz.ntmps196
  go_wp2
  go_ret2
  exact ⟨rfl, rfl⟩
theorem two_8 (w : World) : Calls Tryz.prog 196 #[.int .u8 8] w fun e w' => e = .returned (.tuple #[.bool true, .bool true]) ∧ w' = w := by
  go_enter Tryz.func196, Tryz.ntmps196
  go_wp2
  go_ret2
  exact ⟨rfl, rfl⟩
theorem two_9 (w : World) : Calls Tryz.prog 196 #[.int .u8 9] w fun e w' => e = .returned (.tuple #[.bool true, .bool true]) ∧ w' = w := by
  go_enter Tryz.func196, Tryz.ntmps196
  go_wp2
  go_ret2
  exact ⟨rfl, rfl⟩
theorem two_10 (w : World) : Calls Tryz.prog 196 #[.int .u8 10] w fun e w' => e = .returned (.tuple #[.bool true, .bool true]) ∧ w' = w := by
  go_enter Tryz.func196, Tryz.ntmps196
  go_wp2
  go_ret2
  exact ⟨rfl, rfl⟩
theorem two_11 (w : World) : Calls Tryz.prog 196 #[.int .u8 11] w fun e w' => e = .returned (.tuple #[.bool false, .bool false]) ∧ w' = w := by
  go_enter Tryz.func196, Tryz.ntmps196
  go_wp2
  go_ret2
  exact ⟨rfl, rfl⟩
theorem two_12 (w : World) : Calls Tryz.prog 196 #[.int .u8 12] w fun e w' => e = .returned (.tuple #[.bool true, .bool false]) ∧ w' = w := by
  go_enter Tryz.func196, Tryz.ntmps196
  go_wp2
  go_ret2
  exact ⟨rfl, rfl⟩
theorem two_13 (w : World) : Calls Tryz.prog 196 #[.int .u8 13] w fun e w' => e = .returned (.tuple #[.bool true, .bool false]) ∧ w' = w := by
  go_enter Tryz.func196, Tryz.ntmps196
  go_wp2
  go_ret2
  exact ⟨rfl, rfl⟩
theorem two_14 (w : World) : Calls Tryz.prog 196 #[.int .u8 14] w fun e w' => e = .returned (.tuple #[.bool true, .bool false]) ∧ w' = w := by
  go_enter Tryz.func196, Tryz.ntmps196
  go_wp2
  go_ret2
  exact ⟨rfl, rfl⟩
theorem two_15 (w : World) : Calls Tryz.prog 196 #[.int .u8 15] w fun e w' => e = .returned (.tuple #[.bool false, .bool false]) ∧ w' = w := by
  go_enter Tryz.func196, Tryz.ntmps196
  go_wp2
  go_ret2
  exact ⟨rfl, rfl⟩
theorem two_16 (w : World) : Calls Tryz.prog 196 #[.int .u8 16] w fun e w' => e = .returned (.tuple #[.bool false, .bool false]) ∧ w' = w := by
  go_enter Tryz.func196, Tryz.ntmps196
  go_wp2
  go_ret2
  exact ⟨rfl, rfl⟩
theorem two_17 (w : World) : Calls Tryz.prog 196 #[.int .u8 17] w fun e w' => e = .returned (.tuple #[.bool true, .bool true]) ∧ w' = w := by
  go_enter Tryz.func196, Tryz.ntmps196
  go_wp2
  go_ret2
  exact ⟨rfl, rfl⟩
theorem two_18 (w : World) : Calls Tryz.prog 196 #[.int .u8 18] w fun e w' => e = .returned (.tuple #[.bool true, .bool true]) ∧ w' = w := by
  go_enter Tryz.func196, Tryz.ntmps196
  go_wp2
  go_ret2
  exact ⟨rfl, rfl⟩
theorem two_19 (w : World) : Calls Tryz.prog 196 #[.int .u8 19] w fun e w' => e = .returned (.tuple #[.bool true, .bool true]) ∧ w' = w := by
  go_enter Tryz.func196, Tryz.ntmps196
  go_wp2
  go_ret2
  exact ⟨rfl, rfl⟩
theorem two_20 (w : World) : Calls Tryz.prog 196 #[.int .u8 20] w fun e w' => e = .returned (.tuple #[.bool true, .bool true]) ∧ w' = w := by
  go_enter Tryz.func196, Tryz.ntmps196
  go_wp2
  go_ret2
  exact ⟨rfl, rfl⟩
theorem two_21 (w : World) : Calls Tryz.prog 196 #[.int .u8 21] w fun e w' => e = .returned (.tuple #[.bool true, .bool false]) ∧ w' = w := by
  go_enter Tryz.func196, Tryz.ntmps196
  go_wp2
  go_ret2
  exact ⟨rfl, rfl⟩
theorem two_22 (w : World) : Calls Tryz.prog 196 #[.int .u8 22] w fun e w' => e = .returned (.tuple #[.bool true, .bool false]) ∧ w' = w := by
  go_enter Tryz.func196, Tryz.ntmps196
  go_wp2
  go_ret2
  exact ⟨rfl, rfl⟩
end Go.Proofs.YtlipcmonlhdgfaaGreat
/- The document's own Do. -/
namespace Go.Proofs.YtlipcmonlhdgfaaGreat
open Go.RowKit

theorem okN_parts {n : Int} {v : Nat} (h : okN n v = true) : 1 ≤ n ∧ n ≤ 128 ∧ v < 2 ^ n.toNat ∧ v < top := by
  have h' : (1 ≤ n ∧ n ≤ 128) ∧ v < 2 ^ n.toNat := by simpa [okN, mayBe] using h
  exact ⟨h'.1.1, h'.1.2, h'.2, Nat.lt_of_lt_of_le h'.2 (pow_le_top (by omega))⟩

end Go.Proofs.YtlipcmonlhdgfaaGreat
