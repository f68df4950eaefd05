/- pointsmanlaw04.size: a list of operations that can be read. -/
import Derived.Test.YtgfmkhgdndodkaaGreatDoorDkP
import Derived.Test.YtgfmkhgdndodkaaGreatDoorDkT
import Derived.Test.YtgfmkhgdndodkaaGreatDoorDkS
namespace Go.Proofs.YtgfmkhgdndodkaaGreatDoor
open Go.RowKit

structure Sop where
  k : Nat
  n : Int
  a : Option Addr
  cap : Nat
  xs : List Nat
structure SopOk (W : World) (o : Sop) : Prop where
  kb : o.k < 256
  nb : o.n < 9223372036854775808
  rd : RdA W o.a o.xs
  le : o.xs.length ≤ o.cap
  nn : o.a = none → o.cap = 0
  ln : o.xs.length ≤ 140737488355328
structure RdO (W : World) (a : Option Addr) (os : List Sop) : Prop where
  rd : os = [] ∨ ∃ p off, a = some ⟨p, off, none⟩ ∧ p < W.heap.size ∧ ∀ i (h : i < os.length), W.cell? ⟨p, off + i * 3, none⟩ = some (.int .u8 (os[i].k : Nat)) ∧ W.cell? ⟨p, off + i * 3 + 1, none⟩ = some (.int .i64 os[i].n) ∧ W.cell? ⟨p, off + i * 3 + 2, none⟩ = some (.slice os[i].a os[i].xs.length os[i].cap)
  ok : ∀ o ∈ os, SopOk W o
theorem RdO.below {W W' : World} {a : Option Addr} {os : List Sop} (h : RdO W a os) (hb : Below W.heap.size W W') : RdO W' a os := by
  refine ⟨?_, fun o ho => ⟨(h.ok o ho).kb, (h.ok o ho).nb, (h.ok o ho).rd.below hb, (h.ok o ho).le, (h.ok o ho).nn, (h.ok o ho).ln⟩⟩
  rcases h.rd with h | ⟨p, off, rfl, hp, hc⟩
  · exact .inl h
  · refine .inr ⟨p, off, rfl, Nat.lt_of_lt_of_le hp hb.size, fun i hi => ?_⟩
    obtain ⟨h1, h2, h3⟩ := hc i hi
    exact ⟨(hb.cell (p := ⟨p, _, none⟩) hp).trans h1, (hb.cell (p := ⟨p, _, none⟩) hp).trans h2, (hb.cell (p := ⟨p, _, none⟩) hp).trans h3⟩
structure SzIn (os : List Sop) (k m : Nat) : Prop where
  lim : m ≤ 281474976710656
  le : ∀ j (hj : j < os.length), j < k → os[j].xs.length ≤ m
/- What size answers: at most 2^20 and a list's length; if it is not above 200000, every list is so short. -/
set_option maxRecDepth 100000 in
theorem size_any (a : Option Addr) (cap : Nat) (os : List Sop) (w : World) (hl : os.length ≤ 500) (hr : RdO w a os) :
    Calls Tryz.prog 4 #[.slice a os.length cap] w fun e w' => (∃ n : Nat, e = .returned (.int .i64 n) ∧ (n ≤ 200000 → ∀ o ∈ os, o.xs.length ≤ 200000)) ∧ w' = w := by
  have HR := hide hr
  clear hr
  go_enter Tryz.func4, Tryz.ntmps4
  go_wp2
  go_loopw [3, 4] (fun n i wr => ∃ (k m : Nat), k ≤ os.length ∧ i = .int .i64 k ∧ n = .int .i64 m ∧ SzIn os k m ∧ wr = w) (fun _ i _ => os.length - (intOf i).toNat)
  case atStart => exact ⟨0, os.length, by omega, rfl, rfl, ⟨by omega, fun j _ h => by omega⟩, rfl⟩
  case round =>
    obtain ⟨k, m, hk, rfl, rfl, hS, rfl⟩ := hrel
    have hm := hS.lim
    have HJ := hide hS.le
    clear hS
    by_cases hlt : k < os.length
    · by_cases hm2 : m < 1048576
      · rcases HR.out.rd with e | ⟨p, off, rfl, _, hc⟩
        · rw [e] at hlt; simp at hlt
        obtain ⟨_, _, c3⟩ := hc k hlt
        have hln := (HR.out.ok _ (List.getElem_mem hlt)).ln
        have hkI : (k : Int) < (os.length : Int) := by omega
        have d1 : decide (k < os.length) = true := by simp; omega
        have d2 : ((m : Int) < 1048576) = True := by simp; omega
        have HX : Hid (∀ L, L = os[k].xs.length → ∀ j (hj : j < os.length), j < k + 1 → os[j].xs.length ≤ m + L) := fun L hL j hj hjk => by
          by_cases e : j = k
          · subst e; omega
          · have := HJ.out j hj (by omega); omega
        clear hc HR HJ
        generalize hL : os[k].xs.length = L at *
        have HL := hide hL
        clear hL
        generalize os[k].a = oa at *
        generalize os[k].cap = oc at *
        have hw : IntKind.i64.wrap ((m : Int) + (L : Int)) = ((m + L : Nat) : Int) := by rw [IntKind.wrap_i64]; omega
        have HLM : Hid (m + L ≤ 281474976710656) := by show _ ≤ _; omega
        have HM := hide hm; have HM2 := hide hm2
        clear hm hm2 hln
        go_wp2
        go_roundw
        case rel => exact ⟨k + 1, m + L, by omega, by go_num, by simp, ⟨HLM.out, HX.out L rfl⟩, trivial⟩
        case measure => simp [intOf]; omega
      · have d1 : decide (k < os.length) = true := by simp; omega
        have d2 : ((m : Int) < 1048576) = False := by simp; omega
        have HM2 := hide hm2
        clear HR HJ hm hm2 hl
        go_wp2
        go_ret
        exact ⟨⟨m, rfl, fun h => absurd h (by have := HM2.out; omega)⟩, rfl⟩
    · have d1 : decide (k < os.length) = false := by simp; omega
      obtain rfl : k = os.length := by omega
      have HE : Hid (m ≤ 200000 → ∀ o ∈ os, o.xs.length ≤ 200000) := fun h o ho => by
        obtain ⟨j, hj, rfl⟩ := List.getElem_of_mem ho
        have := HJ.out j hj hj; omega
      clear HR HJ
      go_wp2
      go_ret
      exact ⟨⟨m, rfl, HE.out⟩, rfl⟩
end Go.Proofs.YtgfmkhgdndodkaaGreatDoor
