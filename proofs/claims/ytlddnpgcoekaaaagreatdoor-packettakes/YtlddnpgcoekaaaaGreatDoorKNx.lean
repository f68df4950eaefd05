/- The iterator over a cursor's next bits. -/
import Derived.Test.YtlddnpgcoekaaaaGreatDoorKSm
import Derived.RangeFuncNested
import Derived.RangeFuncBound
import Derived.RangeFuncCalls
import Derived.RangeFuncLeaves
import Derived.Shelf.Abstract
import Derived.Shelf.RegionOpen
import Derived.WalkKit
import Derived.OwnWalkIn
import Derived.TacticsInMore
import Derived.LoopNIn
import Derived.LoopIn
namespace Go.Proofs.YtlddnpgcoekaaaaGreatDoor
open Go.RowKit Go.Shelf

attribute [local go_sem] Oper.semAt_some

def KeepBut (E : Nat → Prop) (n₀ : Nat) (W W' : World) : Prop := W.heap.size ≤ W'.heap.size ∧ ∀ b, b < n₀ → ¬ E b → W'.heap[b]? = W.heap[b]?
theorem KeepBut.refl {E : Nat → Prop} {n₀ : Nat} {W : World} : KeepBut E n₀ W W := ⟨Nat.le_refl _, fun _ _ _ => rfl⟩
theorem KeepBut.t {E : Nat → Prop} {n₀ : Nat} {A B C : World} (h : KeepBut E n₀ A B) (k : KeepBut E n₀ B C) : KeepBut E n₀ A C := ⟨Nat.le_trans h.1 k.1, fun b hb he => (k.2 b hb he).trans (h.2 b hb he)⟩
theorem KeepBut.b {E : Nat → Prop} {n₀ : Nat} {w : World} (hn : n₀ ≤ w.heap.size) (W : World) (l : Nat) (o o' : Obj) (hl : w.heap.size ≤ l) (_ : W.heap[l]? = some o) (_ : o.isCells = false) (_ : o.isWalk = false) : KeepBut E n₀ W (W.putObj l o') :=
  ⟨by simp, fun b hb _ => World.putObj_heap_other (by omega)⟩
theorem KeepBut.ofBelow {E : Nat → Prop} {n₀ : Nat} {A B : World} (h : Below A.heap.size A B) (hn : n₀ ≤ A.heap.size) : KeepBut E n₀ A B := ⟨h.size, fun b hb _ => h.block b (by omega)⟩
theorem KeepBut.drew {E : Nat → Prop} {n₀ : Nat} {A B : World} (h : KeepBut E n₀ A B) : KeepBut E n₀ A B.drew := h
theorem KeepBut.cell {E : Nat → Prop} {n₀ : Nat} {A B : World} (h : KeepBut E n₀ A B) {p : Addr} (hp : p.block < n₀) (he : ¬ E p.block) : B.cell? p = A.cell? p := World.cell?_of_block (w := A) (h.2 p.block hp he)

def enc1 (x : Bit01) : Array Value := #[.int .u8 x.1]
theorem bit_walk (xs : List Nat) (i : Nat) (hx : ∀ y ∈ xs, y < 256) (h : i / 8 < xs.length) : bits .and .u8 (((xs[i / 8] : Nat) : Int) / 2 ^ (7 - i % 8)) 1 = ((bitOf xs i : Nat) : Int) := by
  rw [u8_bit _ _ (hx _ (List.getElem_mem h))]
  simp [bitOf, List.getD_eq_getElem?_getD, h]

theorem wrap_small {x : Int} (h0 : 0 ≤ x) (h1 : x < 1099511627776) : IntKind.i64.wrap x = x := by rw [IntKind.wrap_i64]; omega
set_option maxRecDepth 100000 in
set_option maxHeartbeats 2000000 in
theorem next1_in (n : Nat) (hn : 1 ≤ n) (l Bc Bw n₀ g cap t k p off : Nat) (xs : List Nat) (E : Nat → Prop) (J Jx : List Bit01 → World → Prop)
    (hx : ∀ y ∈ xs, y < 256) (hxl : xs.length ≤ 100000) (htk : t + k ≤ 8 * xs.length)
    (hJd : ∀ pre W m, J pre W → J pre (W.drewN m))
    (hY : ∀ pre x W, J pre W → pre.length < k → YieldAt Fence.wide (n - 1) Tryz.prog l (enc1 x) W fun e W' =>
      ∃ r : Bool, e = .returned (.bool r) ∧ ((r = true ∧ J (pre ++ [x]) W' ∧ KeepBut E n₀ W W') ∨ (r = false ∧ Jx (pre ++ [x]) W')))
    (W : World) (hBc : W.cell? ⟨Bc, 0, none⟩ = some (.pointer (some ⟨g, 0, none⟩))) (hBw : W.cell? ⟨Bw, 0, none⟩ = some (.int .i64 k))
    (h0 : W.cell? ⟨g, 0, none⟩ = some (.int .i64 t)) (h1 : W.cell? ⟨g, 1, none⟩ = some (.slice (some ⟨p, off, none⟩) xs.length cap))
    (hr : ∀ i (h : i < xs.length), W.cell? ⟨p, off + i, none⟩ = some (.int .u8 (xs[i] : Nat)))
    (l1 : Bc < n₀) (l2 : Bw < n₀) (l3 : g < n₀) (l4 : p < n₀) (e1 : ¬ E Bc) (e2 : ¬ E Bw) (e3 : ¬ E g) (e4 : ¬ E p) (hJ : J [] W) :
    CallsIn Fence.wide n Tryz.prog 117 #[.func (.yield l) #[] #[], .pointer (some ⟨Bc, 0, none⟩), .pointer (some ⟨Bw, 0, none⟩)] W fun e W' => (∃ v, e = .returned v) ∧
      ((∃ ys, ys = bitsB xs t k ∧ J ys W') ∨ (∃ pre, True ∧ Jx pre W')) := by
  refine callsIn_of_wp Tryz.func117 rfl trivial ?_ rfl
  simp only [Tryz.ntmps117, List.size_toArray, List.length_cons, List.length_nil, Nat.reduceAdd, Nat.reduceSub, Array.replicate_succ, Array.replicate_zero, List.push_toArray, List.append_toArray, List.nil_append, List.cons_append]
  have hmx : Tryz.prog.follows .mixedOrders = true := by kernel_rfl
  gi_wp2
  gi_loopw [4] (fun i wr => ∃ j : Nat, j ≤ k ∧ i = .int .i64 (t + j : Nat) ∧ J (bitsB xs t j) wr ∧ KeepBut E n₀ W wr)
    (fun i _ => t + k - (intOf i).toNat)
  case atStart => exact ⟨0, Nat.zero_le _, rfl, hJ, KeepBut.refl⟩
  case round =>
    obtain ⟨j, hj, rfl, hJs, hnx⟩ := hrel
    have c1 : wr.cell? ⟨Bc, 0, none⟩ = some (.pointer (some ⟨g, 0, none⟩)) := (hnx.cell (p := ⟨Bc, 0, none⟩) l1 e1).trans hBc
    have c2 : wr.cell? ⟨Bw, 0, none⟩ = some (.int .i64 k) := (hnx.cell (p := ⟨Bw, 0, none⟩) l2 e2).trans hBw
    have c3 : wr.cell? ⟨g, 0, none⟩ = some (.int .i64 t) := (hnx.cell (p := ⟨g, 0, none⟩) l3 e3).trans h0
    have c4 : wr.cell? ⟨g, 1, none⟩ = some (.slice (some ⟨p, off, none⟩) xs.length cap) := (hnx.cell (p := ⟨g, 1, none⟩) l3 e3).trans h1
    by_cases hlt : j < k
    · obtain ⟨T, hT⟩ : ∃ T, T = t + j := ⟨_, rfl⟩
      have hb : T / 8 < xs.length := by omega
      have hT2 : T < 1099511627776 := by omega
      have hT3 : (T : Int) < (t : Int) + (k : Int) := by omega
      have c5 : wr.cell? ⟨p, off + T / 8, none⟩ = some (.int .u8 (xs[T / 8] : Nat)) := (hnx.cell (p := ⟨p, off + T / 8, none⟩) l4 e4).trans (hr _ hb)
      have HV := hide (bit_walk xs T hx hb)
      have hbx : bits .and .u8 (((xs[T / 8] : Nat) : Int) / 2 ^ (7 - T % 8)) 1 = 0 ∨ bits .and .u8 (((xs[T / 8] : Nat) : Int) / 2 ^ (7 - T % 8)) 1 = 1 := by rw [HV.out]; have := bitOf_lt xs T; omega
      have HX : Hid ((⟨_, hbx⟩ : Bit01) = bit01 xs T) := Subtype.ext HV.out
      generalize hyv : xs[T / 8] = y at *
      obtain ⟨Q, hQ⟩ : ∃ Q, Q = T / 8 := ⟨_, rfl⟩
      rw [← hQ] at c5
      have hq : (T : Int) / 8 = (Q : Int) := by omega
      have hbI : (Q : Int) < (xs.length : Int) := by omega
      have hqw : IntKind.i64.wrap (Q : Int) = Q := wrap_small (by omega) (by omega)
      clear hyv hb hQ
      rw [← hT]
      have HT := hide hT
      clear hT
      gi_wp2
      gi_quiet (fail)
      obtain ⟨fn, tmps, assign, body, hy, hR⟩ := hY _ ⟨_, hbx⟩ (wr.drewN (nq + 1)) (hJd _ _ _ hJs) (by rw [bitsB_length]; exact hlt)
      dsimp only [enc1] at hy
      have hS := hide (below_any T · hT2)
      gi_wp2
      gi_region_with_o (first | (refine ⟨trivial, ?_⟩; gi_at_call 118; refine (callsIn_wide.2 (hS.out _)).mono ?_; rintro e w' ⟨rfl, rfl⟩) | (refine hR.mono ?_; rintro e W3 ⟨r, rfl, hres⟩))
      all_goals
        rcases hres with ⟨rfl, hJ3, hk3⟩ | ⟨rfl, hJx3⟩
        · gi_wp2
          go_roundw
          case rel => exact ⟨j + 1, by omega, by rw [HT.out]; go_num, by rw [bitsB_succ, ← HT.out, ← HX.out]; exact hJ3, hnx.t hk3⟩
          case measure => have := HT.out; simp [intOf]; omega
        · gi_wp2
          refine bodyPost_ret (results_none rfl _ _ _) rfl ?_
          exact ⟨⟨_, rfl⟩, .inr ⟨_, trivial, hJx3⟩⟩
    · obtain rfl : j = k := by omega
      gi_wp2
      gi_quiet (fail)
      gi_wp2
      go_end0
      exact ⟨⟨_, rfl⟩, .inl ⟨_, rfl, hJd _ _ _ hJs⟩⟩
theorem next_stops (n : Nat) (hn : 1 ≤ n) (Bc Bw n₀ g cap t k p off : Nat) (xs : List Nat) (E : Nat → Prop) (w : World)
    (hx : ∀ y ∈ xs, y < 256) (hxl : xs.length ≤ 100000) (htk : t + k ≤ 8 * xs.length)
    (hBc : w.cell? ⟨Bc, 0, none⟩ = some (.pointer (some ⟨g, 0, none⟩))) (hBw : w.cell? ⟨Bw, 0, none⟩ = some (.int .i64 k))
    (h0 : w.cell? ⟨g, 0, none⟩ = some (.int .i64 t)) (h1 : w.cell? ⟨g, 1, none⟩ = some (.slice (some ⟨p, off, none⟩) xs.length cap))
    (hr : ∀ i (h : i < xs.length), w.cell? ⟨p, off + i, none⟩ = some (.int .u8 (xs[i] : Nat)))
    (hn₀ : n₀ ≤ w.heap.size) (l1 : Bc < n₀) (l2 : Bw < n₀) (l3 : g < n₀) (l4 : p < n₀) (e1 : ¬ E Bc) (e2 : ¬ E Bw) (e3 : ¬ E g) (e4 : ¬ E p) :
    SeqStopsK Fence.wide n Tryz.prog 117 #[.pointer (some ⟨Bc, 0, none⟩), .pointer (some ⟨Bw, 0, none⟩)] enc1 (KeepBut E n₀) (fun ys => ys = bitsB xs t k) (fun _ => True) k w := fun l J Jx W hW hJa _ hY hJ =>
  next1_in n hn l Bc Bw n₀ g cap t k p off xs E J Jx hx hxl htk (fun pre W m h => hJa pre W _ none h ⟨rfl, rfl, rfl, Nat.le_refl _, fun _ _ _ => rfl⟩ (fun r e => by cases e))
    (fun pre x W1 h1 h2 => by
      obtain ⟨fn, tmps, assign, body, hy, hR⟩ := hY pre x W1 h1 h2
      refine ⟨fn, tmps, assign, body, hy, hR.mono ?_⟩
      rintro e W' (⟨rfl, h3, h4⟩ | ⟨rfl, h3⟩)
      · exact ⟨true, rfl, .inl ⟨rfl, h3, h4⟩⟩
      · exact ⟨false, rfl, .inr ⟨rfl, h3⟩⟩)
    W ((hW.cell (p := ⟨Bc, 0, none⟩) (by show Bc < _; omega)).trans hBc) ((hW.cell (p := ⟨Bw, 0, none⟩) (by show Bw < _; omega)).trans hBw)
    ((hW.cell (p := ⟨g, 0, none⟩) (by show g < _; omega)).trans h0) ((hW.cell (p := ⟨g, 1, none⟩) (by show g < _; omega)).trans h1)
    (fun i hi => (hW.cell (p := ⟨p, off + i, none⟩) (by show p < _; omega)).trans (hr i hi)) l1 l2 l3 l4 e1 e2 e3 e4 hJ
end Go.Proofs.YtlddnpgcoekaaaaGreatDoor
