/- pointsmanlaw02.PacketBytes, walked. -/
import Derived.Test.YtcpjibebloaohabPAliv
import Derived.Test.YtcpjibebloaohabPByM
namespace Go.Proofs.Ytcpjibebloaohab
open Go.RowKit

def BySl (W : World) (v : Value) (xs : List Nat) : Prop := (v = .slice none 0 0 ∧ xs = []) ∨ ∃ p off cap, v = .slice (some ⟨p, off, none⟩) xs.length cap ∧ ∀ i (h : i < xs.length), W.cell? ⟨p, off + i, none⟩ = some (.int .u8 (xs[i] : Nat))
theorem BySl.below {W W' : World} {v : Value} {xs : List Nat} {B : Nat} (h : BySl W v xs) (hb : Below B W W') (hB : W.heap.size ≤ B) : BySl W' v xs := by
  rcases h with h | ⟨p, off, cap, hv, hc⟩
  · exact .inl h
  · exact .inr ⟨p, off, cap, hv, fun i hi => (hb.cell (p := ⟨p, off + i, none⟩) (Nat.lt_of_lt_of_le (World.block_lt_of_cell? W _ (hc i hi)) hB)).trans (hc i hi)⟩
theorem new_any (W : World) (v : Value) (xs : List Nat) (h : BySl W v xs) (hl : xs.length ≤ 65536) :
    Calls Try.prog 5 #[v] W fun e w' => ∃ g a c, e = .returned (.tuple #[.pointer (some ⟨g, 0, none⟩), .int .i64 0]) ∧ W.heap.size ≤ g ∧ (xs.length ≤ c ∧ ((a = none ∧ c = 0) ∨ ∃ q, a = some ⟨q, 0, none⟩)) ∧ Cur w' g a c xs 0 ∧ Below W.heap.size W w' := by
  rcases h with ⟨rfl, rfl⟩ | ⟨p, off, cap, rfl, hc⟩
  · exact (new_nil W).mono (fun e w' ⟨g, h1, h2, h3, h4⟩ => ⟨g, none, 0, h1, h2, ⟨Nat.le_refl _, .inl ⟨rfl, rfl⟩⟩, h3, h4⟩)
  · exact (new_some p off cap xs W hl hc).mono (fun e w' ⟨g, q, c, h1, h0, h2, h3, h4, h5⟩ => ⟨g, some ⟨q, 0, none⟩, c, h1, h2, ⟨h0, .inr ⟨q, rfl⟩⟩, h4, h5⟩)
theorem same_nil (q c : Nat) (w : World) : Calls Try.prog 9 #[.slice (some ⟨q, 0, none⟩) 0 c, .slice none 0 0] w fun e w' => e = .returned (.bool true) ∧ Below w.heap.size w w' := by
  go_enter Try.func9, Try.ntmps9
  go_wp2
  go_loopw [5] (fun i wr => i = .int .i64 0 ∧ Below w.heap.size w wr) (fun i _ => 1)
  case atStart => exact ⟨rfl, Below.refl _ _⟩
  case round =>
    obtain ⟨rfl, hnx⟩ := hrel
    go_wp2
    go_ret
    exact ⟨rfl, hnx⟩
theorem same_any {W : World} {q c : Nat} {v : Value} {xs : List Nat} (hl : xs.length ≤ 1000) (hr : ∀ i (h : i < xs.length), W.cell? ⟨q, 0 + i, none⟩ = some (.int .u8 (xs[i] : Nat))) (hb : BySl W v xs) :
    Calls Try.prog 9 #[.slice (some ⟨q, 0, none⟩) xs.length c, v] W fun e w' => e = .returned (.bool true) ∧ Below W.heap.size W w' := by
  rcases hb with ⟨rfl, rfl⟩ | ⟨p, off, cap, rfl, hc⟩
  · exact same_nil q c W
  · exact same_yes xs hl _ _ W ⟨q, 0, c, rfl, hr⟩ ⟨p, off, cap, rfl, hc⟩
theorem rest_nil {w : World} {g : Nat} {t : Nat} (h : Cur w g none 0 [] t) (ht : t = 0) : Calls Try.prog 10 #[.pointer (some ⟨g, 0, none⟩)] w fun e w' => e = .returned (.slice none 0 0) ∧ Below w.heap.size w w' := by
  subst ht
  have HI := hide (isThere_any h)
  have HG := hide (fun W => begun_any 0 W (by decide))
  have HC := hide h
  have HN := hide clone_nil
  clear h
  refine (Go.callsIn_wide (n := 3)).1 ?_
  refine callsIn_of_wp Try.func10 rfl trivial ?_ rfl
  simp only [Try.ntmps10, List.size_toArray, List.length_cons, List.length_nil, Nat.reduceAdd, Nat.reduceSub, Array.replicate_succ, Array.replicate_zero, List.push_toArray, List.append_toArray, List.nil_append, List.cons_append]
  have hmx : Try.prog.follows .mixedOrders = true := by kernel_rfl
  gi_wp2_with fail
  refine ⟨trivial, ?_⟩
  refine (callsIn_wide.2 HI.out).mono ?_
  rintro e w1 ⟨rfl, hb1⟩
  have K1 := hide (HC.out.keep hb1)
  have B1 := hide hb1
  have c0 := K1.out.c0
  have c1 := K1.out.c1
  clear hb1
  gi_wp2_with fail
  gi_region_with_o (first | (refine ⟨trivial, ?_⟩; gi_at_call 21; refine (callsIn_wide.2 (HG.out _)).mono ?_; rintro e w2 ⟨rfl, hb2d⟩; have hb2 := undrew hb2d; clear hb2d; have c2 := (hb2.cell (p := ⟨g, 1, none⟩) K1.out.lt).trans c1) | (refine ⟨trivial, ?_⟩; gi_at_call 13; refine (callsIn_wide.2 (HN.out _)).mono ?_; rintro e w3 ⟨rfl, hw3⟩; have HB := hide (B1.out.trans (hb2.mono B1.out.size))))
  all_goals
    gi_wp2
    go_ret
    exact ⟨rfl, HB.out⟩
theorem pby_long (v : Value) (a : Option Addr) (n cap : Nat) (w : World) (hn : 1000 < n) (a2 : Option Addr) (n2 cap2 : Nat) (hv : v = .slice a2 n2 cap2) : Calls Try.prog 3 #[.slice a n cap, v] w fun e w' => e = .returned (.bool true) ∧ Below w.heap.size w w' := by
  subst hv
  have H := hide palive_any
  have hI : (n : Int) > 1000 := by omega
  go_enter Try.func3, Try.ntmps3
  go_wp2_with fail
  refine (H.out _).mono ?_
  rintro e w1 ⟨rfl, hb1⟩
  go_wp2_with fail
  refine (H.out _).mono ?_
  rintro e w2 ⟨rfl, hb2⟩
  go_wp2
  go_ret
  exact ⟨rfl, hb1.trans (hb2.mono hb1.size)⟩
theorem Try.infoB : (Try.prog.info? 32).map (fun i => (i.zero, i.size, i.bytes)) = some (some (.agg #[.int .i64 0, .int .u64 0, .int .u64 0]), 3, 24) := by kernel_rfl
def cellsL (L : List (Int × Nat)) : List Value := L.flatMap (fun x => [.int .i64 x.1, .int .u64 (wHi x.2), .int .u64 (wLo x.2)])
theorem cellsL_snoc (L : List (Int × Nat)) (x : Int × Nat) : cellsL (L ++ [x]) = cellsL L ++ [.int .i64 x.1, .int .u64 (wHi x.2), .int .u64 (wLo x.2)] := by simp [cellsL]
theorem cellsL_length (L : List (Int × Nat)) : (cellsL L).length = L.length * 3 := by
  induction L with
  | nil => rfl
  | cons x L ih => simp only [cellsL, List.flatMap_cons, List.length_append] at ih ⊢; rw [ih]; simp; omega
theorem cellsL_at (L : List (Int × Nat)) (i : Nat) (h : i < L.length) : (cellsL L)[i * 3]? = some (.int .i64 L[i].1) ∧ (cellsL L)[i * 3 + 1]? = some (.int .u64 (wHi L[i].2)) ∧ (cellsL L)[i * 3 + 2]? = some (.int .u64 (wLo L[i].2)) := by
  induction L generalizing i with
  | nil => simp at h
  | cons x L ih =>
    cases i with
    | zero => exact ⟨rfl, rfl, rfl⟩
    | succ i =>
      have h' := ih i (by simpa using h)
      have e : cellsL (x :: L) = [.int .i64 x.1, .int .u64 (wHi x.2), .int .u64 (wLo x.2)] ++ cellsL L := by simp [cellsL]
      rw [e]
      refine ⟨?_, ?_, ?_⟩
      · rw [List.getElem?_append_right (by simp; omega)]; simpa [Nat.succ_mul] using h'.1
      · rw [List.getElem?_append_right (by simp; omega), show (i + 1) * 3 + 1 - [Value.int .i64 x.1, .int .u64 (wHi x.2), .int .u64 (wLo x.2)].length = i * 3 + 1 by simp; omega]; exact h'.2.1
      · rw [List.getElem?_append_right (by simp; omega), show (i + 1) * 3 + 2 - [Value.int .i64 x.1, .int .u64 (wHi x.2), .int .u64 (wLo x.2)].length = i * 3 + 2 by simp; omega]; exact h'.2.2
theorem own_read {W : World} {B : Nat} {v : Value} {L : List (Int × Nat)} (h : W.ownsRow B 32 3 v L.length (cellsL L)) : ∃ b cap a, v = .slice a L.length cap ∧ RdN W b 0 L ∧ (a = some ⟨b, 0, none⟩ ∨ L.length = 0) := by
  rcases h.2 with ⟨rfl, h0⟩ | ⟨g, cap, cur, rfl, hg, hcur, _⟩
  · exact ⟨0, 0, none, by rw [h0], ⟨fun i hi => by omega, fun i hi => by omega, fun i hi => by omega, fun i hi => by omega⟩, .inr h0⟩
  · have hc : ∀ j u, (cellsL L)[j]? = some u → W.cell? ⟨g, 0 + j, none⟩ = some u := fun j u hu => by
      have := h.cells (g := g) rfl j u hu
      rwa [add_at] at this
    exact ⟨g, cap, some ⟨g, 0, none⟩, rfl, ⟨fun i _ => (Array.getElem?_eq_some_iff.1 hcur).1, fun i hi => hc _ _ (cellsL_at L i hi).1, fun i hi => hc _ _ (cellsL_at L i hi).2.1, fun i hi => hc _ _ (cellsL_at L i hi).2.2⟩, .inl rfl⟩
end Go.Proofs.Ytcpjibebloaohab
