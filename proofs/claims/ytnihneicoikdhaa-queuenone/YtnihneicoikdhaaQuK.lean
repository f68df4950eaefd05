/- pointsmanlaw17.QueueNone, walked. -/
import Derived.Test.YtnihneicoikdhaaQuJ
import Derived.Test.YtnihneicoikdhaaItm
namespace Go.Proofs.Ytnihneicoikdhaa
open Go.RowKit

set_option maxRecDepth 100000 in
set_option maxHeartbeats 2000000 in
theorem queueNone_walk (a0 : Option Addr) (cap0 : Nat) (ls : List It) (n : Nat) (hn : n < 256) (w : World) (hr : RdL w a0 ls) : Calls Try.prog 5 #[.slice a0 ls.length cap0, .int .u8 n] w fun e w' => e = .returned (.bool true) ∧ Below w.heap.size w w' := by
  have HN := hide (new_yes 0 w (by decide))
  have HV : Hid (∀ W, _) := fun W => lives_any W
  have HR := hide hr
  have hw : IntKind.i64.wrap (n : Int) = (n : Int) := by rw [IntKind.wrap_i64]; omega
  have HP : Hid (∀ W g (p : Int) a n c, Qs W g 0 0 [] → _) := fun W g p a n c h => put_full h rfl p a n c
  have HLN : Hid (∀ W g, Qs W g 0 0 [] → _) := fun W g h => len_any h
  have HS : Hid (∀ W g, Qs W g 0 0 [] → _) := fun W g h => send_yes h n 0 (by simp)
  clear hr
  by_cases hl : ls.length > 300
  · have e1 : decide ((ls.length : Int) > 300) = true := by simp; omega
    generalize ls.length = N at *
    go_enter Try.func5, Try.ntmps5
    go_wp2_with fail
    refine HN.out.mono ?_
    rintro e w1 ⟨rfl, hq, hb⟩
    have B1 := hide hb
    clear hq hb
    go_wp2_with fail
    refine (HV.out _).mono ?_
    rintro e w2 ⟨rfl, hb⟩
    go_wp2
    go_ret
    exact ⟨rfl, bstep B1.out hb⟩
  · have e1 : decide ((ls.length : Int) > 300) = false := by simp; omega
    have hl300 : ls.length ≤ 300 := by omega
    clear hl
    go_enter Try.func5, Try.ntmps5
    go_wp2_with fail
    refine HN.out.mono ?_
    rintro e w1 ⟨rfl, hq, hb⟩
    have Q1 := hide hq
    have B1 := hide hb
    clear hq hb
    go_wp2
    go_loopw [7] (fun i wr => ∃ k : Nat, k ≤ ls.length ∧ i = .int .i64 k ∧ Qs wr w.heap.size 0 0 [] ∧ Below w.heap.size w wr) (fun i _ => ls.length - (intOf i).toNat)
    case atStart => exact ⟨0, Nat.zero_le _, rfl, Q1.out, B1.out⟩
    case round =>
      obtain ⟨k, hk, rfl, hq, hb⟩ := hrel
      have QK := hide hq
      have BK := hide hb
      clear hq hb
      by_cases hlt : k < ls.length
      · obtain ⟨p, off, rfl, _, hc⟩ := (HR.out.below BK.out).get (by omega)
        have c0 := hc k hlt
        have hkI : (k : Int) < (ls.length : Int) := by omega
        have HPK := hide (HP.out wr _ k ls[k].a ls[k].xs.length ls[k].cap QK.out)
        clear hc
        generalize ls[k].a = xa at *
        generalize ls[k].xs.length = xn at *
        generalize ls[k].cap = xc at *
        go_wp2_with fail
        refine HPK.out.mono ?_
        rintro e w2 ⟨rfl, hb2⟩
        have Q2 := hide (QK.out.below hb2)
        have B2 := hide (bstep BK.out hb2)
        have HL2 := hide (HLN.out _ _ Q2.out)
        clear hb2
        go_wp2_with fail
        refine HL2.out.mono ?_
        rintro e w3 ⟨rfl, rfl⟩
        go_wp2
        go_roundw
        case rel => exact ⟨k + 1, by omega, by go_num, Q2.out, B2.out⟩
        case measure => simp [intOf]; omega
      · obtain rfl : k = ls.length := by omega
        have HS1 := hide (HS.out _ _ QK.out)
        go_wp2_with fail
        refine HS1.out.mono ?_
        rintro e w2 ⟨b, rfl, -, -, hf⟩
        have B2 := hide (BK.out.trans (hf.below (fun b e => by omega) BK.out.size))
        clear hf
        go_wp2_with fail
        refine (HV.out _).mono ?_
        rintro e w3 ⟨rfl, hb⟩
        go_wp2
        go_ret
        exact ⟨rfl, bstep B2.out hb⟩
end Go.Proofs.Ytnihneicoikdhaa
