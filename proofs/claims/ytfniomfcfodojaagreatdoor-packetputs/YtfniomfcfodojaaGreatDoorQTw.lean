/- TwinNumbers, LeftNumbers. -/
import Derived.Test.YtfniomfcfodojaaGreatDoorQWid
import Derived.Test.YtfniomfcfodojaaGreatDoorFr
import Derived.Maps.AppendAt
namespace Go.Proofs.YtfniomfcfodojaaGreatDoor
open Go.RowKit

theorem info_bits : (Tryz.prog.info? 67).map (fun i => (i.zero, i.size, i.bytes)) = some (some (.agg #[.int .i64 0, .int .u64 0, .int .u64 0]), 3, 24) := by kernel_rfl
theorem cells_newN (w : World) (cs : List Value) (t : TypeId) : ∀ j u, cs[j]? = some u → (w.alloc (.cells cs.toArray t)).cell? ((⟨w.heap.size, 0, none⟩ : Addr).add j) = some u := by
  intro j u hj
  rw [add8, Nat.zero_add]
  simp [hj]
def cN (x : Int × Nat) : List Value := [.int .i64 x.1, .int .u64 (wHi x.2), .int .u64 (wLo x.2)]
def csN (L : List (Int × Nat)) : List Value := (L.map cN).flatten
theorem csN_snoc (L : List (Int × Nat)) (x : Int × Nat) : csN (L ++ [x]) = csN L ++ cN x := by simp [csN]
theorem csN_length (L : List (Int × Nat)) : (csN L).length = L.length * 3 := by
  induction L with
  | nil => rfl
  | cons x L ih => simp [csN, cN] at ih ⊢; omega
theorem csN_get : ∀ (L : List (Int × Nat)) (i j : Nat) (hi : i < L.length) (_ : j < 3), (csN L)[i * 3 + j]? = (cN L[i])[j]?
  | [], i, j, hi, _ => by simp at hi
  | x :: L, 0, j, _, hj => by
    rw [csN, List.map_cons, List.flatten_cons, List.getElem?_append_left (by simp [cN]; omega)]
    simp
  | x :: L, i + 1, j, hi, hj => by
    rw [csN, List.map_cons, List.flatten_cons, List.getElem?_append_right (by simp [cN]; omega)]
    have := csN_get L i j (by simpa using hi) hj
    rw [csN] at this
    have e : (i + 1) * 3 + j - (cN x).length = i * 3 + j := by simp [cN]; omega
    rw [e, this]
    simp
/- Numbers of one's own. -/
def OwnN (W : World) (B : Nat) (v : Value) (L : List (Int × Nat)) : Prop := W.ownsRow B 67 3 v L.length (csN L)
theorem OwnN.below {W W' : World} {B : Nat} {v : Value} {L : List (Int × Nat)} (h : OwnN W B v L) (hb : Below W.heap.size W W') : OwnN W' B v L := by
  refine ⟨h.1, ?_⟩
  rcases h.2 with h0 | ⟨gr, cap, cur, e, hg, hcur, rest⟩
  · exact .inl h0
  · exact .inr ⟨gr, cap, cur, e, hg, (hb.block gr (Array.getElem?_eq_some_iff.1 hcur).1).trans hcur, rest⟩
theorem OwnN.rd {W : World} {B g n cap : Nat} {L : List (Int × Nat)} (h : OwnN W B (.slice (some ⟨g, 0, none⟩) n cap) L) : RdN W g 0 L := by
  have hl : ∀ i, i < L.length → g < W.heap.size := fun i _ => (World.ownsRow.lt h g rfl).2
  have key : ∀ i (hi : i < L.length) j (hj : j < 3) u, (cN L[i])[j]? = some u → W.cell? ⟨g, 0 + (i * 3 + j), none⟩ = some u := fun i hi j hj u hu => by
    have := World.ownsRow.cells h (g := g) rfl (i * 3 + j) u (by rw [csN_get L i j hi hj]; exact hu)
    rwa [add8] at this
  exact ⟨hl, fun i hi => key i hi 0 (by decide) _ rfl, fun i hi => by have := key i hi 1 (by decide) _ rfl; rwa [← Nat.add_assoc] at this, fun i hi => by have := key i hi 2 (by decide) _ rfl; rwa [← Nat.add_assoc] at this⟩
theorem RdN.take {W : World} {b off : Nat} {L M : List (Int × Nat)} (h : RdN W b off (L ++ M)) : RdN W b off L := by
  have key : ∀ i (hi : i < L.length), (L ++ M)[i]'(by simp; omega) = L[i] := fun i hi => List.getElem_append_left hi
  refine ⟨fun i hi => h.lt i (by simp; omega), fun i hi => ?_, fun i hi => ?_, fun i hi => ?_⟩
  · rw [← key i hi]; exact h.c0 i (by simp; omega)
  · rw [← key i hi]; exact h.c1 i (by simp; omega)
  · rw [← key i hi]; exact h.c2 i (by simp; omega)
/- Numbers that can be read; none may lie anywhere. -/
def RdL (W : World) (a : Option Addr) (L : List (Int × Nat)) : Prop := L = [] ∨ ∃ b off, a = some ⟨b, off, none⟩ ∧ RdN W b off L
theorem RdL.below {W W' : World} {a : Option Addr} {L : List (Int × Nat)} (h : RdL W a L) (hb : Below W.heap.size W W') : RdL W' a L := by
  rcases h with h | ⟨b, off, e, h⟩
  · exact .inl h
  · exact .inr ⟨b, off, e, h.keep hb⟩
theorem rdL_some {W : World} {a : Option Addr} {L : List (Int × Nat)} (h : RdL W a L) (hl : 0 < L.length) : ∃ b off, a = some ⟨b, off, none⟩ ∧ RdN W b off L := by
  rcases h with h | h
  · rw [h] at hl; simp at hl
  · exact h
theorem below_step {w W W' : World} (h : Below w.heap.size w W) (h2 : Below W.heap.size W W') : Below w.heap.size w W' := h.trans (h2.mono h.size)
theorem ownN_alloc {W : World} {B : Nat} {v : Value} {L : List (Int × Nat)} (h : OwnN W B v L) (o : Obj) : OwnN (W.alloc o) B v L := h.below ((Below.refl _ W).alloc (Nat.le_refl _) _)
theorem below_ownN {B : Nat} {w a b : World} {v : Value} {L : List (Int × Nat)} (h : Below B w a) (ho : OwnN a B v L) (g : a.grownBy b v.ownBlock) (hB : B ≤ a.heap.size) : Below B w b := h.grown g hB (fun k e => (World.ownsRow.lt ho k e).1)
theorem ownN_some {W : World} {B : Nat} {v : Value} {L : List (Int × Nat)} (h : OwnN W B v L) (hx : 0 < L.length) : ∃ g cap, v = .slice (some ⟨g, 0, none⟩) L.length cap ∧ L.length ≤ cap ∧ B ≤ g ∧ g < W.heap.size ∧ cap ≤ maxLen := by
  rcases h.2 with ⟨_, hn⟩ | ⟨g, cap, cur, hv, hg, hcur, h1, h2, _⟩
  · omega
  · exact ⟨g, cap, hv, h1, hg, (Array.getElem?_eq_some_iff.1 hcur).1, h2⟩
theorem ownN_snoc {W : World} {B : Nat} {v : Value} {L : List (Int × Nat)} {x : Int × Nat} {n : Nat} (h : W.ownsRow B 67 3 v n (csN L ++ cN x)) (hn : n = L.length + 1) : OwnN W B v (L ++ [x]) := by
  unfold OwnN
  rw [csN_snoc, List.length_append, List.length_singleton, ← hn]
  exact h
set_option maxRecDepth 100000 in
set_option maxHeartbeats 4000000 in
theorem twinN_any (a : Option Addr) (cap : Nat) (L : List (Int × Nat)) (w : World) (hl : L.length ≤ 1000000) (hr : RdL w a L) :
    Calls Tryz.prog 4 #[.slice a L.length cap] w fun e w' => ∃ g c, e = .returned (.slice (some ⟨g, 0, none⟩) L.length c) ∧ OwnN w' w.heap.size (.slice (some ⟨g, 0, none⟩) (L.length + 1) c) (L ++ [(77, 0)]) ∧ L.length + 1 ≤ c ∧ c ≤ maxLen ∧ Below w.heap.size w w' := by
  have HR := hide hr
  obtain ⟨i0, hi0, hz0, hz1, hz2⟩ := info_parts info_bits
  clear hr
  go_enter Tryz.func4, Tryz.ntmps4
  go_wp2_with (first
    | (refine wpList_make_own _ rfl _ _ 22 rfl w.heap.size 67 i0 (.agg #[.int .i64 0, .int .u64 0, .int .u64 0]) 3 Tryz.underlying22 hi0 hz0 hz1 .i64 .i64 _ (L.length + 1) rfl rfl (by simp) (by rw [hz2]; omega) (by unfold maxLen; omega) (Nat.le_refl _) ?_; intro w1 O1 G1; have OO1 : Hid (OwnN w1 w.heap.size (.slice (some ⟨w.heap.size, 0, none⟩) 0 (L.length + 1)) []) := O1; have B1 := hide ((Below.refl _ w).grown G1 (Nat.le_refl _) (fun k e => by cases e)); clear O1 G1))
  go_loopw [3, 4] (fun t i wr => ∃ (k : Nat) (v : Value), k ≤ L.length ∧ i = .int .i64 k ∧ t = v ∧ OwnN wr w.heap.size v (L.take k) ∧ Below w.heap.size w wr) (fun _ i _ => L.length - (intOf i).toNat)
  case atStart => exact ⟨0, _, by omega, rfl, rfl, OO1.out, B1.out⟩
  case round =>
    obtain ⟨k, v, hk, rfl, rfl, ho, hb⟩ := hrel
    have OO := hide ho; have BB := hide hb
    clear ho hb OO1 B1
    by_cases hlt : k < L.length
    · have R1 := HR.out.below BB.out
      obtain ⟨b, off, rfl, hc⟩ := rdL_some R1 (by omega)
      have c0 := hc.c0 k hlt
      have c1 := hc.c1 k hlt
      have c2 := hc.c2 k hlt
      have hkI : (k : Int) < (L.length : Int) := by omega
      have HT := hide (List.take_succ_eq_append_getElem hlt)
      have HLK : Hid ((L.take k).length = k) := by show _ = _; simp; omega
      clear hc R1 HR
      generalize L[k] = x at *
      obtain ⟨n, u⟩ := x
      dsimp only at c0 c1 c2
      go_wp2_with (first
        | (at_builtin; refine wpList_append_own_at _ rfl _ _ 22 rfl w.heap.size 67 i0 (.agg #[.int .i64 0, .int .u64 0, .int .u64 0]) 3 24 Tryz.underlying22 hi0 hz0 hz1 hz2 rfl (by decide) _ (L.take k).length (csN (L.take k)) rfl (ownN_alloc OO.out _) ⟨wr.heap.size, 0, none⟩ 1 1 [.int .i64 n, .int .u64 (wHi u), .int .u64 (wLo u)] rfl rfl (cells_newN _ _ _) (by simp [Value.oneCell']) (by rw [HLK.out]; unfold maxLen; omega) (by rw [HLK.out]; omega) (by have := BB.out.size; simp; omega) ?_; intro v7 w7 O7 G7 _ K7; have OO7 : Hid (OwnN w7 w.heap.size v7 (L.take k ++ [(n, u)])) := ownN_snoc O7 rfl; have B7 := hide (below_ownN (BB.out.alloc BB.out.size _) (ownN_alloc OO.out _) G7 (by have := BB.out.size; simp; omega)); clear O7 G7 K7))
      rw [← HT.out] at OO7
      go_roundw
      case rel => exact ⟨k + 1, v7, by omega, by go_num, rfl, OO7.out, B7.out⟩
      case measure => simp [intOf]; omega
    · obtain rfl : k = L.length := by omega
      rw [List.take_length] at OO
      have HLN : Hid ((L ++ [((77 : Int), 0)]).length = L.length + 1) := List.length_append
      go_wp2_with (at_builtin; (refine wpList_append_own_at _ rfl _ _ 22 rfl w.heap.size 67 i0 (.agg #[.int .i64 0, .int .u64 0, .int .u64 0]) 3 24 Tryz.underlying22 hi0 hz0 hz1 hz2 rfl (by decide) _ L.length (csN L) rfl (ownN_alloc OO.out _) ⟨wr.heap.size, 0, none⟩ 1 1 [.int .i64 77, .int .u64 0, .int .u64 0] rfl rfl (cells_newN _ _ _) (by simp [Value.oneCell']) (by unfold maxLen; omega) (by omega) (by have := BB.out.size; simp; omega) ?_; intro v7 w7 O7 G7 _ K7; have O8 : OwnN w7 w.heap.size v7 (L ++ [(77, 0)]) := ownN_snoc O7 rfl; have B7 := hide (below_ownN (BB.out.alloc BB.out.size _) (ownN_alloc OO.out _) G7 (by have := BB.out.size; simp; omega)); obtain ⟨g, c, rfl, hgc, hgB, hgl, hcm⟩ := ownN_some O8 (by simp); have OO7 := hide O8; rw [HLN.out] at OO7 hgc ⊢; clear O7 O8 G7 K7))
      go_ret
      exact ⟨g, c, rfl, OO7.out, hgc, hcm, B7.out⟩
set_option maxRecDepth 100000 in
set_option maxHeartbeats 4000000 in
theorem leftN_yes (g c : Nat) (a : Option Addr) (cap : Nat) (L : List (Int × Nat)) (w : World) (hl : L.length ≤ 1000000) (hr : RdL w a L) (hc : L.length + 1 ≤ c) (hcm : c ≤ 9223372036854775807) (ho : RdN w g 0 (L ++ [(77, 0)])) :
    Calls Tryz.prog 8 #[.slice (some ⟨g, 0, none⟩) L.length c, .slice a L.length cap] w fun e w' => e = .returned (.bool true) ∧ Below w.heap.size w w' := by
  have HC := hide ho.take
  have HR := hide hr
  have hcI : decide ((c : Int) ≤ (L.length : Int)) = false := by simp; omega
  have HO := hide ho
  have hlI : (L.length : Int) + 1 ≤ (c : Int) := by omega
  clear hr ho
  go_enter Tryz.func8, Tryz.ntmps8
  go_wp2
  go_loopw [5] (fun i wr => ∃ k : Nat, k ≤ L.length ∧ i = .int .i64 k ∧ Below w.heap.size w wr) (fun i _ => L.length - (intOf i).toNat)
  case atStart => exact ⟨0, by omega, rfl, Below.refl _ _⟩
  case round =>
    obtain ⟨k, hk, rfl, hnx⟩ := hrel
    have HN := hide hnx
    by_cases hlt : k < L.length
    · obtain ⟨p, off, rfl, hcl⟩ := rdL_some (HR.out.below hnx) (by omega)
      have hcw := HC.out.keep hnx
      have h0 := hcw.c0 k hlt
      have h1 := hcw.c1 k hlt
      have h2 := hcw.c2 k hlt
      rw [Nat.zero_add] at h0 h1 h2
      have k0 := hcl.c0 k hlt
      have k1 := hcl.c1 k hlt
      have k2 := hcl.c2 k hlt
      have hkI : (k : Int) < (L.length : Int) := by omega
      clear hcl hcw HR HC HO hnx
      generalize L[k].1 = x at *
      generalize wHi L[k].2 = y at *
      generalize wLo L[k].2 = z at *
      go_wp2
      go_region
      all_goals
        go_wp2
        go_roundw
        case rel => exact ⟨k + 1, by omega, by go_num, HN.out.drew⟩
        case measure => simp [intOf]; omega
    · obtain rfl : k = L.length := by omega
      have hcw := HO.out.keep hnx
      have t0 : wr.cell? ⟨g, L.length * 3, none⟩ = some (.int .i64 77) := by have := hcw.c0 L.length (by simp); simpa using this
      have t1 : wr.cell? ⟨g, L.length * 3 + 1, none⟩ = some (.int .u64 0) := by have := hcw.c1 L.length (by simp); simpa [wHi] using this
      have t2 : wr.cell? ⟨g, L.length * 3 + 2, none⟩ = some (.int .u64 0) := by have := hcw.c2 L.length (by simp); simpa [wLo] using this
      clear HR HC HO hnx hcw
      go_wp2
      go_ret
      exact ⟨rfl, HN.out.alloc HN.out.size _⟩
end Go.Proofs.YtfniomfcfodojaaGreatDoor
