/- pointsmanlaw17.same: what the program sent is what the document sent. -/
import Derived.Test.YtnihneicoikdhaaGreatDoorQvC
import Derived.Test.YtnihneicoikdhaaGreatDoorQSame
import Derived.RegionTactic
import Derived.BigQuiet
import Derived.Deep.LoopGhost
namespace Go.Proofs.YtnihneicoikdhaaGreatDoor
open Go.RowKit

def Cy.key (c : Cy) : Int × List Nat := (c.port, c.xs)
/- Copies that can be read. -/
structure RdY (W : World) (a : Option Addr) (L : List Cy) : Prop where
  rd : L = [] ∨ ∃ p off, a = some ⟨p, off, none⟩ ∧ p < W.heap.size ∧ ∀ i (h : i < L.length), W.cell? ⟨p, off + i * 2, none⟩ = some (.int .i64 L[i].port) ∧ W.cell? ⟨p, off + i * 2 + 1, none⟩ = some (.slice L[i].a L[i].xs.length L[i].cap)
  ok : ∀ c ∈ L, RdA W c.a c.xs
theorem RdY.below {W W' : World} {a : Option Addr} {L : List Cy} (h : RdY W a L) (hb : Below W.heap.size W W') : RdY W' a L := by
  refine ⟨?_, fun c hc => (h.ok c hc).below hb⟩
  rcases h.rd with h | ⟨p, off, rfl, hp, hc⟩
  · exact .inl h
  · exact .inr ⟨p, off, rfl, Nat.lt_of_lt_of_le hp hb.size, fun i hi => ⟨(hb.cell (p := ⟨p, _, none⟩) hp).trans (hc i hi).1, (hb.cell (p := ⟨p, _, none⟩) hp).trans (hc i hi).2⟩⟩
theorem RdY.get {W : World} {a : Option Addr} {L : List Cy} (h : RdY W a L) (h0 : 0 < L.length) : ∃ p off, a = some ⟨p, off, none⟩ ∧ p < W.heap.size ∧ ∀ i (h : i < L.length), W.cell? ⟨p, off + i * 2, none⟩ = some (.int .i64 L[i].port) ∧ W.cell? ⟨p, off + i * 2 + 1, none⟩ = some (.slice L[i].a L[i].xs.length L[i].cap) := by
  rcases h.rd with rfl | h
  · simp at h0
  · exact h
theorem rdY_own {W : World} {B n cap : Nat} {e : TypeId} {a : Option Addr} {L : List Cy} (h : W.ownsRow B e 2 (.slice a n cap) L.length (flat Cy.cells L)) (ok : ∀ c ∈ L, RdA W c.a c.xs) : RdY W a L := by
  refine ⟨?_, ok⟩
  rcases h.2 with ⟨_, hn⟩ | ⟨g, c, cur, e, hg, hcur, _⟩
  · exact .inl (List.length_eq_zero_iff.1 hn)
  · injection e with e1 e2 e3
    subst e1
    refine .inr ⟨g, 0, rfl, (Array.getElem?_eq_some_iff.1 hcur).1, fun i hi => ?_⟩
    have g0 := flat_get cy_len L i 0 hi (by decide)
    have g1 := flat_get cy_len L i 1 hi (by decide)
    have k0 := World.ownsRow.cells h rfl (i * 2 + 0) _ g0
    have k1 := World.ownsRow.cells h rfl (i * 2 + 1) _ g1
    rw [Addr.add_mid] at k0 k1
    simp only [Nat.zero_add, Nat.add_zero] at k0 k1 ⊢
    exact ⟨k0, k1⟩
theorem same_rdN (l : List Nat) (hl : l.length ≤ 140737488355328) (a b : Option Addr) (c d : Nat) (w : World) (ha : RdA w a l) (hb : RdA w b l) :
    Calls Tryz.prog 31 #[.slice a l.length c, .slice b l.length d] w fun e w' => e = .returned (.bool true) ∧ ∃ n, w' = w.drewN n := by
  have HA := hide ha; have HB := hide hb
  clear ha hb
  go_enter Tryz.func31, Tryz.ntmps31
  go_wp2
  go_loopw [5] (fun i wr => ∃ k : Nat, k ≤ l.length ∧ i = .int .i64 k ∧ ∃ n, wr = w.drewN n) (fun i _ => l.length - (intOf i).toNat)
  case atStart => exact ⟨0, Nat.zero_le _, rfl, 0, rfl⟩
  case round =>
    obtain ⟨k, hk, rfl, m, rfl⟩ := hrel
    by_cases hlt : k < l.length
    · obtain ⟨p, o1, rfl, _, h1⟩ := HA.out.some (by omega)
      obtain ⟨q, o2, rfl, _, h2⟩ := HB.out.some (by omega)
      have hca := h1 k hlt
      have hcb := h2 k hlt
      have hlI : (k : Int) < (l.length : Int) := by omega
      clear h1 h2 HA HB
      generalize l[k] = x at *
      go_wp2
      go_region
      all_goals
        go_wp2
        go_roundw
        case rel => exact ⟨k + 1, by omega, by go_num, m + 1, rfl⟩
        case measure => simp [intOf]; omega
    · clear HA HB
      go_wp2
      go_ret
      exact ⟨rfl, m, rfl⟩
set_option maxRecDepth 100000 in
set_option maxHeartbeats 1000000 in
theorem same_any (L M : List Cy) (hk : L.map Cy.key = M.map Cy.key) (a b : Option Addr) (ca cb : Nat) (w : World) (hl : RdY w a L) (hm : RdY w b M) (hx : ∀ c ∈ L, c.xs.length ≤ 140737488351232) (h64 : L.length ≤ 64) :
    Calls Tryz.prog 16 #[.slice a L.length ca, .slice b M.length cb] w fun e w' => e = .returned (.bool true) ∧ Below w.heap.size w w' := by
  have hlen : M.length = L.length := by have := congrArg List.length hk; simpa using this.symm
  have HL := hide hl; have HM := hide hm
  have HK : Hid (∀ i (h1 : i < L.length) (h2 : i < M.length), L[i].port = M[i].port ∧ L[i].xs = M[i].xs) := fun i h1 h2 => by
    have h3 : (L.map Cy.key)[i]? = (M.map Cy.key)[i]? := by rw [hk]
    rw [List.getElem?_map, List.getElem?_map, List.getElem?_eq_getElem h1, List.getElem?_eq_getElem h2] at h3
    simp [Cy.key] at h3
    exact h3
  have HX := hide hx
  rw [hlen]
  have HLEN := hide hlen
  clear hl hm hk hx hlen
  go_enter Tryz.func16, Tryz.ntmps16
  go_wp2
  go_loopg [5] L.length (fun gk i wr => ∃ k : Nat, k + gk = L.length ∧ i = .int .i64 k ∧ Below w.heap.size w wr)
  case atStart => exact ⟨0, by omega, rfl, Below.refl _ _⟩
  case round =>
    obtain ⟨k, hk, rfl, hnx⟩ := hrel
    have HN := hide hnx
    have HKG := hide hk
    by_cases hlt : k < L.length
    · have hlt2 : k < M.length := by rw [HLEN.out]; exact hlt
      obtain ⟨p, o1, rfl, _, h1⟩ := (HL.out.below hnx).get (by omega)
      obtain ⟨q, o2, rfl, _, h2⟩ := (HM.out.below hnx).get (by omega)
      obtain ⟨ca0, ca1⟩ := h1 k hlt
      obtain ⟨cb0, cb1⟩ := h2 k hlt2
      obtain ⟨e1, e2⟩ := HK.out k hlt hlt2
      have HS : Hid (∀ n, Calls Tryz.prog 31 #[.slice L[k].a L[k].xs.length L[k].cap, .slice M[k].a L[k].xs.length M[k].cap] (wr.drewN n) fun e w' => e = .returned (.bool true) ∧ ∃ m, w' = (wr.drewN n).drewN m) := fun n =>
        same_rdN L[k].xs (by have := HX.out _ (List.getElem_mem hlt); omega) _ _ _ _ (wr.drewN n) ((HL.out.below (below_drewN hnx n)).ok _ (List.getElem_mem hlt)) (by rw [e2]; exact (HM.out.below (below_drewN hnx n)).ok _ (List.getElem_mem hlt2))
      rw [← e1] at cb0
      rw [← e2] at cb1
      have hlI : (k : Int) < (L.length : Int) := by omega
      clear h1 h2 hnx HL HM HK HX e1 e2 hk
      generalize L[k] = x at *
      generalize M[k] = y at *
      obtain ⟨xp, xa, xc, xs⟩ := x
      obtain ⟨yp, ya, yc, ys⟩ := y
      simp only at *
      generalize L.length = n at *
      generalize xs.length = m at *
      go_wp2
      go_quiet ((go_at_call 31; exact Calls.quiet_of (HS.out _)))
      rename_i nn
      go_wp2
      go_roundg (gk - 1)
      case measure => have := HKG.out; omega
      case rel => exact ⟨k + 1, by have := HKG.out; omega, by go_num, below_drewN HN.out _⟩
    · obtain rfl : k = L.length := by omega
      clear hnx HL HM
      go_wp2
      go_ret
      exact ⟨rfl, HN.out⟩
end Go.Proofs.YtnihneicoikdhaaGreatDoor
