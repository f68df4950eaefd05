/- pointsmanlaw17.QueuePlays: its steps. -/
import Derived.Test.YtnihneicoikdhaaGreatDoorQvP
namespace Go.Proofs.YtnihneicoikdhaaGreatDoor
open Go.RowKit

def nx (r : Nat) (K : List (Int × List Nat)) (x : Int × List Nat) : Int × List (Int × List Nat) := if K.length < r then (0, K ++ [x]) else (10, K)
def sx (K : Nat) (n : Int) : Int × Nat := if n < 0 then (1, 0) else (0, min n.toNat K)
section
variable {w W W' : World} {gq f gr gb r N : Nat} {L U M : List Cy}
theorem PD.fq (h : PD w gr gb r N U M W) (hq : Qs W gq r f L) (hgq : w.heap.size ≤ gq) (hb : gq ≠ gb) (hf : Fr (· = gq) W W') : PD w gr gb r N U M W' := h.fr hf (fun b e => by
  subst e
  obtain ⟨cs, h1, _⟩ := hq
  exact ⟨hgq, hb, cs, _, _, h1, by decide, by decide, by decide, by decide, by decide⟩)
theorem tf_q (hq : Qs W gq r f L) (hf : Fr (· = gq) W W') : TF gb W W' := tf_of hf (fun b e => by
  subst e
  obtain ⟨cs, h1, _⟩ := hq
  exact .inr ⟨cs, _, _, h1, .inl rfl⟩)
theorem pput (T : List Cy) (hq : Qs W gq r f L) (h : PD w gr gb r N (T ++ L) M W) (hgq : w.heap.size ≤ gq) (hb : gq ≠ gb) (port : Int) (a : Option Addr) (cap : Nat) (xs : List Nat) (hr : RdA W a xs) (hn : a = none → cap = 0) (hx : xs.length ≤ 140737488351232) :
    Calls Tryz.prog 9 #[.pointer (some ⟨gq, 0, none⟩), .agg #[.int .i64 port, .slice a xs.length cap]] W fun e W' => e = .returned (.int .i64 (nx r (L.map Cy.key) (port, xs)).1) ∧ ∃ L', L'.map Cy.key = (nx r (L.map Cy.key) (port, xs)).2 ∧ Qs W' gq r f L' ∧ PD w gr gb r (N + 1) (T ++ L') M W' ∧ TF gb W W' := by
  have hll := hq.at.2.2.2.2.2.2.2
  by_cases hlt : L.length < r
  · have hnx : nx r (L.map Cy.key) (port, xs) = (0, L.map Cy.key ++ [(port, xs)]) := by unfold nx; rw [if_pos (by simpa using hlt)]
    rw [hnx]
    refine (put_yes hq hlt port a cap xs (by omega) hr hn).mono ?_
    rintro e W' ⟨rfl, a', c', hq', ho, hf⟩
    refine ⟨rfl, L ++ [⟨port, a', c', xs⟩], by simp [Cy.key], hq', ?_, tf_q hq hf⟩
    have h2 := h.fq hq hgq hb hf
    have h0 : PD w gr gb r N ((T ++ L) ++ []) M W := by rw [List.append_nil]; exact h
    have h3 : PD w gr gb r N ((T ++ L) ++ []) M W' := by rw [List.append_nil]; exact h2
    rw [← List.append_assoc]
    exact PD.add (U1 := T ++ L) (U2 := []) h0 h3 (fun n v hs hb' => hb'.fr hf (fun b e => by
      subst e
      obtain ⟨cs, h1, _⟩ := hq
      exact ⟨hgq, hb, cs, _, _, h1, kQ_out (by decide) (by decide) (by decide)⟩)) ⟨port, a', c', xs⟩ ho hx
  · have hnx : nx r (L.map Cy.key) (port, xs) = (10, L.map Cy.key) := by unfold nx; rw [if_neg (by simpa using hlt)]
    rw [hnx]
    refine (put_full hq (by omega) port a xs.length cap).mono ?_
    rintro e W' ⟨rfl, hbl⟩
    have h2 := h.next hbl
    obtain ⟨n, v, hs, hb', hN⟩ := h2.b
    exact ⟨rfl, L, rfl, hq.below hbl, ⟨h2.d, ⟨n, v, hs, hb', by omega⟩, h2.o, h2.m, h2.x, h2.ne⟩, TF.below hbl⟩
theorem prput (h : PD w gr gb r N U M W) (hl : M.length ≤ r) (h64 : r ≤ 64) (c : Cy) (hc : RdA w c.a c.xs) :
    Calls Tryz.prog 12 #[.pointer (some ⟨gr, 0, none⟩), .agg #[.int .i64 c.port, .slice c.a c.xs.length c.cap]] W fun e W' => e = .returned (.int .i64 (nx r (M.map Cy.key) c.key).1) ∧ ∃ M', M'.map Cy.key = (nx r (M.map Cy.key) c.key).2 ∧ PD w gr gb r N U M' W' ∧ TR gb W W' := by
  obtain ⟨vr, hd, hn⟩ := h.d
  by_cases hlt : M.length < r
  · have hnx : nx r (M.map Cy.key) c.key = (0, M.map Cy.key ++ [c.key]) := by unfold nx; rw [if_pos (by simpa using hlt)]
    rw [hnx]
    refine (rput_yes hd hlt h64 c).mono ?_
    rintro e W' ⟨rfl, v', hd', hf, hv'⟩
    obtain ⟨n, v, hs, hb, hN⟩ := h.b
    have hE : ∀ b, RE gr vr b → w.heap.size ≤ b ∧ b ≠ gb ∧ ∃ cs t f, W.heap[b]? = some (.cells cs t f) ∧ (t = 83 ∨ t = 75) := fun b e => by
      rcases e with rfl | e
      · exact ⟨hd.gB, h.ne, _, _, _, hd.blk, .inl rfl⟩
      · obtain ⟨cs, h1⟩ := row_ty hd.row e
        exact ⟨(World.ownsRow.lt hd.row b e).1, fun k => hn (by rw [e, k]), cs, _, _, h1, .inr rfl⟩
    refine ⟨rfl, M ++ [c], by simp, ⟨⟨v', hd', fun e => ?_⟩, ⟨n, v, hs, hb.fr hf (fun b e => ?_), hN⟩, fun y hy => (h.o y hy).fr hf (fun b hb e => ?_), fun y hy => ?_, h.x, h.ne⟩, tr_of hf (fun b e => ?_)⟩
    · rcases hv' _ e with k | k
      · exact hn k
      · have := h.gbl; omega
    · obtain ⟨k1, k2, cs, t, f, k3, k4⟩ := hE b e
      refine ⟨k1, k2, cs, t, f, k3, ?_⟩
      rcases k4 with rfl | rfl
      · exact kQ_out (by decide) (by decide) (by decide)
      · exact kQ_out (by decide) (by decide) (by decide)
    · obtain ⟨_, _, cs, t, f, k3, k4⟩ := hE b e
      have := own_ty (h.o y hy) hb k3
      rcases k4 with rfl | rfl
      · revert this; decide
      · revert this; decide
    · rcases List.mem_append.1 hy with hy | hy
      · exact h.m y hy
      · obtain rfl := List.mem_singleton.1 hy; exact hc
    · obtain ⟨_, _, cs, t, f, k3, k4⟩ := hE b e
      exact .inr ⟨cs, t, f, k3, by rcases k4 with k | k; exact .inl k; exact .inr (.inl k)⟩
  · have hnx : nx r (M.map Cy.key) c.key = (10, M.map Cy.key) := by unfold nx; rw [if_neg (by simpa using hlt)]
    rw [hnx]
    refine (rput_full hd (by omega) c.port c.a c.xs.length c.cap).mono ?_
    rintro e W' ⟨rfl, hbl⟩
    exact ⟨rfl, M, rfl, h.next hbl, TR.below hbl⟩
theorem psend (hq : Qs W gq r f L) (h : PD w gr gb r N L M W) (hgq : w.heap.size ≤ gq) (hb : gq ≠ gb) (n : Int) :
    Calls Tryz.prog 8 #[.pointer (some ⟨gq, 0, none⟩), .int .i64 n] W fun e W' => ∃ a c, e = .returned (.tuple #[.slice a (sx L.length n).2 c, .int .i64 (sx L.length n).1]) ∧ W'.ownsRow W.heap.size 37 2 (.slice a (sx L.length n).2 c) (sx L.length n).2 (flat Cy.cells (L.take (sx L.length n).2)) ∧ (∃ f', Qs W' gq r f' (L.drop (sx L.length n).2)) ∧ PD w gr gb r N L M W' ∧ TF gb W W' := by
  by_cases hn : n < 0
  · have hsx : sx L.length n = (1, 0) := by unfold sx; rw [if_pos hn]
    rw [hsx]
    refine (send_neg hq n hn).mono ?_
    rintro e W' ⟨rfl, rfl⟩
    exact ⟨none, 0, rfl, World.ownsRow_nil _ _ _ _, ⟨f, hq⟩, h, TF.below (Below.refl _ _)⟩
  · have hsx : sx L.length n = (0, min n.toNat L.length) := by unfold sx; rw [if_neg hn]
    rw [hsx]
    have hnn : ((n.toNat : Nat) : Int) = n := Int.toNat_of_nonneg (by omega)
    have := send_yes hq n.toNat (min n.toNat L.length) rfl
    rw [hnn] at this
    refine this.mono ?_
    rintro e W' ⟨b, rfl, ho, hq', hf⟩
    exact ⟨_, _, rfl, ho, hq', h.fq hq hgq hb hf, tf_q hq hf⟩
theorem prsend (h : PD w gr gb r N U M W) (h64 : M.length ≤ 64) (n : Int) :
    Calls Tryz.prog 15 #[.pointer (some ⟨gr, 0, none⟩), .int .i64 n] W fun e W' => ∃ a c, e = .returned (.tuple #[.slice a (sx M.length n).2 c, .int .i64 (sx M.length n).1]) ∧ W'.ownsRow W.heap.size 75 2 (.slice a (sx M.length n).2 c) (sx M.length n).2 (flat Cy.cells (M.take (sx M.length n).2)) ∧ PD w gr gb r N U (M.drop (sx M.length n).2) W' ∧ TR gb W W' := by
  obtain ⟨vr, hd, hne⟩ := h.d
  by_cases hn : n < 0
  · have hsx : sx M.length n = (1, 0) := by unfold sx; rw [if_pos hn]
    rw [hsx]
    refine (rsend_neg hd n hn).mono ?_
    rintro e W' ⟨rfl, rfl⟩
    exact ⟨none, 0, rfl, World.ownsRow_nil _ _ _ _, h, TR.below (Below.refl _ _)⟩
  · have hsx : sx M.length n = (0, min n.toNat M.length) := by unfold sx; rw [if_neg hn]
    rw [hsx]
    have hnn : ((n.toNat : Nat) : Int) = n := Int.toNat_of_nonneg (by omega)
    have := rsend_yes hd h64 n.toNat (min n.toNat M.length) rfl
    rw [hnn] at this
    refine this.mono ?_
    rintro e W' ⟨u, v', rfl, ho, hd', hf, hv'⟩
    obtain ⟨a, c, rfl⟩ := owR_shape ho
    obtain ⟨k, v, hs, hb, hN⟩ := h.b
    refine ⟨a, c, rfl, ho, ⟨⟨v', hd', fun e => ?_⟩, ⟨k, v, hs, hb.fr hf (fun b e => ?_), hN⟩, fun y hy => (h.o y hy).fr hf (fun b hb e => ?_), fun y hy => h.m y (List.mem_of_mem_drop hy), h.x, h.ne⟩, tr_of hf (fun b e => ?_)⟩
    · have := hv' _ e; have := h.gbl; omega
    · subst e; exact ⟨hd.gB, h.ne, _, _, _, hd.blk, kQ_out (by decide) (by decide) (by decide)⟩
    · subst e
      have := own_ty (h.o y hy) hb hd.blk
      revert this; decide
    · subst e; exact .inr ⟨_, _, _, hd.blk, .inl rfl⟩
end
end Go.Proofs.YtnihneicoikdhaaGreatDoor
