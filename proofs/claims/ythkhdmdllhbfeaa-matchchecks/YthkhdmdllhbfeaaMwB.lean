/- How great entries are together; beyond. -/
import Derived.Test.YthkhdmdllhbfeaaMwA
namespace Go.Proofs.Ythkhdmdllhbfeaa
open Go.RowKit

theorem RdEO.some {W : World} {a : Option Addr} {l : List EnL} (h : RdEO W a l) (hx : 0 < l.length) : ∃ p off, a = some ⟨p, off, none⟩ ∧ p < W.heap.size ∧ ∀ i (h : i < l.length), W.cell? ⟨p, off + i * 4, none⟩ = some (.slice l[i].ma l[i].e.ms.length l[i].mc) ∧ W.cell? ⟨p, off + i * 4 + 1, none⟩ = some (.int .i64 l[i].e.prio) ∧ W.cell? ⟨p, off + i * 4 + 2, none⟩ = some (.string l[i].e.act) ∧ W.cell? ⟨p, off + i * 4 + 3, none⟩ = some (.slice l[i].aa l[i].e.args.length l[i].ac) := by
  rcases h.rd with rfl | h
  · simp at hx
  · exact h
set_option maxRecDepth 100000 in
set_option maxHeartbeats 4000000 in
theorem ensSize_any (a : Option Addr) (cap : Nat) (l : List EnL) (w : World) (hr : RdEO w a l) (hl : l.length ≤ 140737488355328) : Calls Try.prog 16 #[.slice a l.length cap] w fun e w' => e = .returned (.int .i64 (esz (ens l) : Nat)) ∧ Below w.heap.size w w' := by
  have HR := hide hr
  have HZ : Hid (∀ k (h : k < l.length), szE l[k].e ≤ 500000000000000) := fun k h => by
    have := hr.ok _ (List.getElem_mem h)
    exact szE_bd this.sb this.mb this.ab
  have HC : Hid (∀ k (h : k < l.length), Pure 17 #[l[k].val] (.int .i64 (szE l[k].e : Nat))) := fun k h => by
    have := hr.ok _ (List.getElem_mem h)
    exact enSize_any l[k] this.sb this.mb this.ab
  have HG : Hid (∀ k (h : k < l.length), (ens l)[k]'(by rw [ens_len]; exact h) = l[k].e) := fun k h => by simp [ens]
  have HL := hide hl
  clear hr
  go_enter Try.func16, Try.ntmps16
  go_wp2
  go_loopw [3, 4] (fun n i wr => ∃ k m : Nat, k ≤ l.length ∧ i = .int .i64 k ∧ n = .int .i64 (m : Nat) ∧ szF m ((ens l).drop k) = esz (ens l) ∧ m ≤ 600000000000000 ∧ Below w.heap.size w wr) (fun _ i _ => l.length - (intOf i).toNat)
  case atStart => exact ⟨0, l.length, by omega, rfl, rfl, by simp [esz, ens_len], by omega, Below.refl _ _⟩
  case round =>
    obtain ⟨k, m, hk, rfl, rfl, hsz, hm, hb⟩ := hrel
    have HS := hide hsz
    have HW := hide hb
    clear hsz hb
    by_cases hlt : k < l.length
    · have hlI : (k : Int) < (l.length : Int) := by omega
      by_cases hmost : m ≤ 1048576
      · have d1 : ((m : Int) ≤ 1048576) = True := by simp; omega
        obtain ⟨p, off, rfl, hp, hcl⟩ := (HR.out.below HW.out).some (by omega)
        obtain ⟨q0, q1, q2, q3⟩ := hcl k hlt
        have HD := hide (HC.out k hlt wr)
        have hz := HZ.out k hlt
        have HT : Hid (szF (m + szE l[k].e) ((ens l).drop (k + 1)) = esz (ens l)) := by
          show _ = _
          rw [← HS.out, szF_step (ens l) k m (by rw [ens_len]; exact hlt) hmost, HG.out k hlt]
        clear hcl hp
        generalize szE l[k].e = z at *
        generalize l[k] = x at *
        obtain ⟨⟨ms, prio, act, args⟩, ma, mc, aa, ac⟩ := x
        simp only [EnL.val] at *
        have hw1 : IntKind.i64.wrap ((m : Int) + (z : Int)) = ((m + z : Nat) : Int) := by rw [IntKind.wrap_i64]; omega
        have hkb : k < 140737488355328 := by have := HL.out; omega
        go_wp2_with fail
        refine HD.out.mono ?_
        rintro e w1 ⟨rfl, hb⟩
        go_wp2
        go_roundw
        case rel => exact ⟨k + 1, m + z, by omega, by go_num, by first | rfl | (go_num; done), HT.out, by omega, bstep HW.out hb⟩
        case measure => simp [intOf]; omega
      · have d1 : ((m : Int) ≤ 1048576) = False := by simp; omega
        have HT := hide (by have := HS.out; rw [szF_stop _ _ (by omega)] at this; exact this : m = esz (ens l))
        go_wp2
        go_ret
        exact ⟨by rw [← HT.out]; rfl, HW.out⟩
    · obtain rfl : k = l.length := by omega
      have HT := hide (by have := HS.out; rw [List.drop_of_length_le (by rw [ens_len]; omega)] at this; exact this : m = esz (ens l))
      go_wp2
      go_ret
      exact ⟨by rw [← HT.out]; rfl, HW.out⟩
end Go.Proofs.Ythkhdmdllhbfeaa
