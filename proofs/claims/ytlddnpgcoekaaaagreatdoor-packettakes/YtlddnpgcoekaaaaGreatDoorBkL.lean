/- lookByte of a Book. -/
import Derived.Test.YtlddnpgcoekaaaaGreatDoorBkH
namespace Go.Proofs.YtlddnpgcoekaaaaGreatDoor
open Go.RowKit

theorem RdV.cellq {W : World} {v : Value} {n y : Nat} (h : RdV W v (List.replicate n y)) : ∃ a c, v = .slice a n c ∧ ∀ q, q < n → ∃ p, a = some ⟨p, 0, none⟩ ∧ W.cell? ⟨p, q, none⟩ = some (.int .u8 (y : Nat)) := by
  obtain ⟨a, c, rfl, hr, hq⟩ := h
  refine ⟨a, c, by rw [List.length_replicate], fun q hqn => ?_⟩
  obtain ⟨p, off, rfl, _, hc⟩ := hr.some (by simp; omega)
  obtain ⟨h1, _⟩ := hq _ rfl
  obtain rfl : off = 0 := h1
  have := hc q (by simpa using hqn)
  rw [Nat.zero_add] at this
  exact ⟨p, rfl, by simpa using this⟩
set_option maxRecDepth 100000 in
set_option maxHeartbeats 2000000 in
theorem lookByte_any {W w : World} {B g n : Nat} {vb : Value} {hs ks : List Hb} (h : Gr W w B g vb n hs ks ks.length) (hn : ks.length ≤ 1000000) :
    Calls Tryz.prog 88 #[.pointer (some ⟨g, 0, none⟩)] w fun e w' => e = .returned (.bool true) ∧ Below w.heap.size w w' := by
  have H0 := hide h
  obtain ⟨av, nv, cv, hv⟩ : ∃ a n' c, vb = .slice a n' c := by
    rcases h.bk.row.2 with ⟨e, _⟩ | ⟨r, cap, cur, e, _⟩ <;> exact ⟨_, _, _, e⟩
  have hnv : nv = ks.length := by
    rcases h.bk.row.2 with ⟨e, e2⟩ | ⟨r, cap, cur, e, _⟩
    · rw [hv] at e; cases e; exact e2.symm
    · rw [hv] at e; cases e; rfl
  subst hv hnv
  clear h
  generalize hN : ks.length = N at *
  have HN := hide hN
  clear hN
  go_enter Tryz.func88, Tryz.ntmps88
  go_wp2
  go_loopg [3] N (fun gk i wr => ∃ k : Nat, k + gk = N ∧ i = .int .i64 k ∧ Below w.heap.size w wr)
  case atStart => exact ⟨0, by omega, rfl, Below.refl _ _⟩
  case round =>
    obtain ⟨k, hk, rfl, hbl⟩ := hrel
    have HKG := hide hk
    have G1 := hide (H0.out.next hbl)
    have B1 := hide hbl
    have c2 := G1.out.bk.c2
    clear hbl H0
    by_cases hlt : k < N
    · have hlt' : k < ks.length := by have := HN.out; omega
      obtain ⟨r, cap, hv, hr, _, hcap, r0, r1, r2, rs⟩ := G1.out.bk.at hlt'
      injection hv with hv1 hv2 hv3
      clear hv2
      subst hv1 hv3
      have hkI : (k : Int) < (N : Int) := by omega
      have dk : decide (k < N) = true := by simp; omega
      obtain ⟨hx1, hx2, _⟩ := G1.out.lim _ (List.getElem_mem hlt')
      have hb1 : Below wr.heap.size wr (wr.alloc (.cells #[ks[k].v, ks[k].vl, .int .i64 ks[k].m] 95)) := (Below.refl _ _).alloc (Nat.le_refl _) _
      have hdn := (G1.out.next hb1).dn k hlt' (by omega)
      have B2 := hide (B1.out.trans (hb1.mono B1.out.size))
      have HM := hide (fun W => is_yes ks[k].m hx2 W)
      obtain ⟨d1, d2, _, _⟩ := hdn
      have R1 := hide d1.rdV
      have R2 := hide d2
      obtain ⟨e0, e1, e2⟩ := box3 wr ks[k].v ks[k].vl (.int .i64 ks[k].m) 95
      clear hb1 d1 d2
      generalize hxk : ks[k] = x at *
      obtain ⟨v, vl, m, xs⟩ := x
      simp only at *
      obtain ⟨a2, c2', hv2, hq2⟩ := R1.out.cellq
      obtain ⟨a1, c1, hv1, hq1⟩ := R2.out.cellq
      subst hv1 hv2
      generalize hL : xs.length = L at *
      have HQ1 := hide hq1
      have HQ2 := hide hq2
      generalize hW1 : wr.alloc (.cells #[.slice a1 L c1, .slice a2 (L + 40) c2', .int .i64 m] 95) = W1 at *
      have HW1 := hide hW1
      have hadd : IntKind.i64.wrap ((L : Int) + 40) = ((L + 40 : Nat) : Int) := by rw [IntKind.wrap_i64]; omega
      clear hW1 hxk hL hq1 hq2 R1 R2
      rw [Nat.mul_comm] at r0 r1 r2
      have hcz : wr.heap.size < W1.heap.size := by rw [← HW1.out]; simp
      obtain ⟨go, hgo⟩ : ∃ go, go = gk := ⟨_, rfl⟩
      subst hgo
      clear hk
      go_wp2
      rw [HW1.out]
      clear HW1 G1 HN
      generalize wr.heap.size = c at *
      go_loopg [5] (L + 40) (fun gk j wi => ∃ q : Nat, q + gk = L + 40 ∧ j = .int .i64 q ∧ Below W1.heap.size W1 wi)
      case atStart => exact ⟨0, by omega, rfl, Below.refl _ _⟩
      case round =>
        obtain ⟨q, hq, rfl, hb3⟩ := hrel
        have HQ := hide hq
        have B3 := hide hb3
        have f0 := (hb3.cell (p := ⟨c, 0, none⟩) hcz).trans e0
        have f1 := (hb3.cell (p := ⟨c, 1, none⟩) hcz).trans e1
        have f2 := (hb3.cell (p := ⟨c, 2, none⟩) hcz).trans e2
        by_cases hqt : q < L + 40
        · obtain ⟨p2, rfl, hc2⟩ := HQ2.out q hqt
          have g2 := (hb3.cell (p := ⟨p2, q, none⟩) (World.block_lt_of_cell? W1 _ hc2)).trans hc2
          have dq : decide (q < L + 40) = true := by simp; omega
          have hqI : (q : Int) < ((L + 40 : Nat) : Int) := by omega
          by_cases hql : q < L
          · obtain ⟨p1, rfl, hc1⟩ := HQ1.out q hql
            have g1 := (hb3.cell (p := ⟨p1, q, none⟩) (World.block_lt_of_cell? W1 _ hc1)).trans hc1
            have dq1 : decide (q < L) = true := by simp; omega
            have hqI1 : (q : Int) < (L : Int) := by omega
            clear hc1 hc2 hb3 e0 e1 e2 r0 r1 r2 c2 rs hq HQ1 HQ2
            go_wp2
            go_quiet ((go_at_call 153; exact Calls.quiet_of_same (HM.out _)))
            go_wp2
            go_roundg (gk - 1)
            case measure => have := HQ.out; omega
            case rel => exact ⟨q + 1, by have := HQ.out; omega, by go_num, below_drewN B3.out _⟩
          · have dq1 : decide (q < L) = false := by simp; omega
            clear hc2 hb3 e0 e1 e2 r0 r1 r2 c2 rs hq HQ1 HQ2
            go_wp2
            go_quiet ((go_at_call 153; exact Calls.quiet_of_same (HM.out _)))
            go_wp2
            go_roundg (gk - 1)
            case measure => have := HQ.out; omega
            case rel => exact ⟨q + 1, by have := HQ.out; omega, by go_num, below_drewN B3.out _⟩
        · have dq : decide (q < L + 40) = false := by simp; omega
          have B4 := hide (B2.out.trans (B3.out.mono B2.out.size))
          clear hb3 e0 e1 e2 r0 r1 r2 c2 rs hq HQ1 HQ2
          go_wp2
          go_roundg (go - 1)
          case measure => have := HKG.out; omega
          case rel => exact ⟨k + 1, by have := HKG.out; omega, by go_num, B4.out⟩
    · have dk : decide (k < N) = false := by simp; omega
      clear G1 HN hk
      go_wp2
      go_ret
      exact ⟨rfl, B1.out⟩
end Go.Proofs.YtlddnpgcoekaaaaGreatDoor
