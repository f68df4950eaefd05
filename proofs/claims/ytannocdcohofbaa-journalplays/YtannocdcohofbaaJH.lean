/- Lists of records that can be read: SameRecords. -/
import Derived.Test.YtannocdcohofbaaJG
import Derived.Test.YtannocdcohofbaaDkS
import Derived.Test.YtannocdcohofbaaDkF
namespace Go.Proofs.Ytannocdcohofbaa
open Go.RowKit

/- A list of lists of bytes that can be read. -/
structure It where
  a : Option Addr
  cap : Nat
  xs : List Nat
structure ItOk (W : World) (it : It) : Prop where
  rd : RdA W it.a it.xs
  le : it.xs.length ≤ it.cap
  nn : it.a = none → it.cap = 0
  ln : it.xs.length ≤ 140737488355328
structure RdL (W : World) (a : Option Addr) (ls : List It) : Prop where
  rd : ls = [] ∨ ∃ p off, a = some ⟨p, off, none⟩ ∧ p < W.heap.size ∧ ∀ i (h : i < ls.length), W.cell? ⟨p, off + i, none⟩ = some (.slice ls[i].a ls[i].xs.length ls[i].cap)
  ok : ∀ it ∈ ls, ItOk W it
theorem RdL.below {W W' : World} {a : Option Addr} {ls : List It} (h : RdL W a ls) (hb : Below W.heap.size W W') : RdL W' a ls := by
  refine ⟨?_, fun it hi => ⟨(h.ok it hi).rd.below hb, (h.ok it hi).le, (h.ok it hi).nn, (h.ok it hi).ln⟩⟩
  rcases h.rd with h | ⟨p, off, rfl, hp, hc⟩
  · exact .inl h
  · exact .inr ⟨p, off, rfl, Nat.lt_of_lt_of_le hp hb.size, fun i hi => (hb.cell (p := ⟨p, off + i, none⟩) hp).trans (hc i hi)⟩
def tot (ls : List It) : Nat := (ls.map (fun it => it.xs.length)).sum
theorem tot_succ (ls : List It) (k : Nat) (h : k < ls.length) : tot (ls.take (k + 1)) = tot (ls.take k) + ls[k].xs.length := by
  rw [List.take_succ_eq_append_getElem h]; unfold tot; rw [List.map_append, List.sum_append_nat]; simp only [List.map_cons, List.map_nil, List.sum_cons, List.sum_nil, Nat.add_zero]
theorem tot_le (ls : List It) (k : Nat) : tot (ls.take k) ≤ tot ls := by
  conv => rhs; rw [← List.take_append_drop k ls]
  unfold tot
  rw [List.map_append, List.sum_append_nat]
  omega
def recs (ls : List It) : List (List Nat) := ls.map (·.xs)
theorem recs_length (ls : List It) : (recs ls).length = ls.length := by simp [recs]
theorem recs_snoc (ls : List It) (it : It) : recs (ls ++ [it]) = recs ls ++ [it.xs] := by simp [recs]
theorem recs_get (ls : List It) (i : Nat) (h : i < ls.length) : (recs ls)[i]'(by simpa [recs] using h) = ls[i].xs := by simp [recs]
theorem RdL.some {W : World} {a : Option Addr} {ls : List It} (h : RdL W a ls) (h0 : 0 < ls.length) : ∃ p off, a = some ⟨p, off, none⟩ ∧ p < W.heap.size ∧ ∀ i (h : i < ls.length), W.cell? ⟨p, off + i, none⟩ = Option.some (.slice ls[i].a ls[i].xs.length ls[i].cap) := by
  rcases h.rd with rfl | h
  · simp at h0
  · exact h
set_option maxHeartbeats 1000000 in
theorem same_recs (ls ms : List It) (he : recs ls = recs ms) (hsm : ∀ r ∈ recs ls, r.length ≤ 1000000000) (hsl : ls.length ≤ 1000000000) (a b : Option Addr) (c d : Nat) (w : World) (ha : RdL w a ls) (hb : RdL w b ms) :
    Calls Try.prog 12 #[.slice a ls.length c, .slice b ms.length d] w fun e w' => e = .returned (.bool true) ∧ Below w.heap.size w w' := by
  have hlen : ms.length = ls.length := by rw [← recs_length, ← he, recs_length]
  have HA := hide ha; have HB := hide hb
  have HE := hide he
  have HL := hide hlen
  rw [hlen]
  clear ha hb he hlen
  go_enter Try.func12, Try.ntmps12
  go_wp2
  go_loopw [5] (fun i wr => ∃ k : Nat, k ≤ ls.length ∧ i = .int .i64 k ∧ Below w.heap.size w wr) (fun i _ => ls.length - (intOf i).toNat)
  case atStart => exact ⟨0, Nat.zero_le _, rfl, Below.refl _ _⟩
  case round =>
    obtain ⟨k, hk, rfl, hnx⟩ := hrel
    have HN := hide hnx
    by_cases hlt : k < ls.length
    · have hA := HA.out.below hnx
      have hB := HB.out.below hnx
      obtain ⟨p, o1, rfl, _, h1⟩ := hA.some (by omega)
      obtain ⟨q, o2, rfl, _, h2⟩ := hB.some (by have := HL.out; omega)
      have hlm : k < ms.length := by rw [HL.out]; exact hlt
      have hca := h1 k hlt
      have hcb := h2 k hlm
      have e1 : ms[k].xs = ls[k].xs := by
        rw [← recs_get ms k hlm, ← recs_get ls k hlt]
        congr 1
        exact HE.out.symm
      have hI := hA.ok _ (List.getElem_mem hlt)
      have hJ := hB.ok _ (List.getElem_mem hlm)
      have HS := hide (same_rd ls[k].xs (hsm _ (by rw [← recs_get ls k hlt]; exact List.getElem_mem _)) ls[k].a ms[k].a ls[k].cap ms[k].cap wr.drew hI.rd (by rw [← e1]; exact hJ.rd))
      rw [e1] at hcb
      have hlI : (k : Int) < (ls.length : Int) := by omega
      clear h1 h2 hnx HA HB hA hB hI hJ e1 HE
      generalize ls[k] = x at *
      generalize ms[k] = y at *
      go_wp2
      go_region_with (go_at_call 23; refine HS.out.mono ?_; rintro e w5 ⟨rfl, hb5⟩; have B5 := hide (HN.out.drew.trans (hb5.mono HN.out.size)); clear hb5)
      all_goals
        go_wp2
        go_roundw
        case rel => exact ⟨k + 1, by omega, by go_num, B5.out⟩
        case measure => simp [intOf]; omega
    · clear hnx HA HB
      go_wp2
      go_ret
      exact ⟨rfl, HN.out⟩
/- Records of one's own can be read. -/
theorem Recs.rdl {W : World} {B : Nat} {v : Value} {vs : List Value} {rs : List (List Nat)} (h : Recs W B v vs rs) (hs : ∀ r ∈ rs, r.length ≤ 65537) : ∃ a c ls, v = .slice a ls.length c ∧ recs ls = rs ∧ RdL W a ls := by
  have key : ∀ (vs : List Value) (rs : List (List Nat)), (∀ r ∈ rs, r.length ≤ 65537) → vs.length = rs.length → (∀ i (h : i < vs.length) (h' : i < rs.length), Own8 W B vs[i] rs[i]) → ∃ ls : List It, ls.length = vs.length ∧ recs ls = rs ∧ (∀ it ∈ ls, ItOk W it) ∧ ∀ i (h : i < vs.length) (h' : i < ls.length), vs[i] = .slice ls[i].a ls[i].xs.length ls[i].cap := by
    intro vs
    induction vs with
    | nil =>
      intro rs _ hl _
      cases rs with
      | nil => exact ⟨[], rfl, rfl, fun it h => absurd h (by simp), fun i h => absurd h (by simp)⟩
      | cons => simp at hl
    | cons x xs ih =>
      intro rs hs hl hr
      cases rs with
      | nil => simp at hl
      | cons r rs =>
        obtain ⟨ls, l1, l2, l3, l4⟩ := ih rs (fun r h => hs r (List.mem_cons_of_mem _ h)) (by simpa using hl) (fun i h1 h2 => hr (i + 1) (by simp; omega) (by simp; omega))
        have h0 := hr 0 (by simp) (by simp)
        simp only [List.getElem_cons_zero] at h0
        obtain ⟨a, cap, hx, hc, hn, _⟩ := h0.shape
        have hrd := h0
        rw [hx] at hrd
        refine ⟨⟨a, cap, r⟩ :: ls, by simp [l1], by simp [recs] at l2 ⊢; exact l2, fun it hi => ?_, fun i h1 h2 => ?_⟩
        · rcases List.mem_cons.1 hi with rfl | hi
          · exact ⟨hrd.rd.2, hc, hn, by have := hs r (List.mem_cons_self ..); show r.length ≤ _; omega⟩
          · exact l3 it hi
        · cases i with
          | zero => exact hx
          | succ i => exact l4 i (by simpa using h1) (by simpa using h2)
  obtain ⟨ls, l1, l2, l3, l4⟩ := key vs rs hs h.len h.rec'
  obtain ⟨a, c, rfl⟩ := h.own.sl
  refine ⟨a, c, ls, by rw [l1], l2, ?_, l3⟩
  rcases h.own.2 with ⟨e, h0⟩ | ⟨g, cap, cur, e, hg, hcur, _⟩
  · exact .inl (List.length_eq_zero_iff.1 (by omega))
  · injection e with e1 e2 e3
    subst e1
    refine .inr ⟨g, 0, rfl, (Array.getElem?_eq_some_iff.1 hcur).1, fun i hi => ?_⟩
    have h5 := World.ownsRow.cells h.own (g := g) rfl i _ (List.getElem?_eq_getElem (by omega : i < vs.length))
    rw [add8] at h5
    rw [h5, l4 i (by omega) hi]
end Go.Proofs.Ytannocdcohofbaa
