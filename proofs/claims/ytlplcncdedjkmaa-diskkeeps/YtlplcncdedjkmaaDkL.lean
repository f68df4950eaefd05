/- pointsmanlaw04: alive. -/
import Derived.Test.YtlplcncdedjkmaaDkE
import Derived.Test.YtlplcncdedjkmaaDkF
import Derived.Test.YtlplcncdedjkmaaDkS
namespace Go.Proofs.Ytlplcncdedjkmaa
open Go.RowKit

structure Al (w W : World) (g room : Nat) (v : Value) (xs : List Nat) (off : Bool) (f : Value) (st : Option Nat) : Prop where
  bl : Below w.heap.size w W
  dk : Dk W w.heap.size g v room xs off f st
theorem Al.next {w W W' : World} {g room : Nat} {v f : Value} {xs : List Nat} {off : Bool} {st : Option Nat} (h : Al w W g room v xs off f st) (hb : Below W.heap.size W W') : Al w W' g room v xs off f st := ⟨h.bl.trans (hb.mono h.bl.size), h.dk.next hb⟩
theorem Al.alloc {w W : World} {g room : Nat} {v f : Value} {xs : List Nat} {off : Bool} {st : Option Nat} (h : Al w W g room v xs off f st) (o : Obj) : Al w (W.alloc o) g room v xs off f st := h.next ((Below.refl _ _).alloc (Nat.le_refl _) o)
theorem Al.move {w W W' : World} {g room : Nat} {v f v' f' : Value} {xs xs' : List Nat} {off off' : Bool} {st st' : Option Nat} (h : Al w W g room v xs off f st) (hm : Mv g v v' W W') (hd : Dk W' w.heap.size g v' room xs' off' f' st') : Al w W' g room v' xs' off' f' st' := ⟨h.bl.trans (hm.fr.below h.dk.E h.dk.BW), hd⟩
set_option maxRecDepth 100000 in
set_option maxHeartbeats 1000000 in
theorem alive_yes (w : World) : Calls Try.prog 5 #[] w fun e w' => e = .returned (.bool true) ∧ Below w.heap.size w w' := by
  have H1 := hide (new_yes 8 w (by decide) (by decide))
  go_enter Try.func5, Try.ntmps5
  go_wp2_with fail
  refine H1.out.mono ?_
  rintro e w1 ⟨rfl, hd, hb⟩
  have A1 : Hid (Al w w1 w.heap.size 8 _ _ _ _ _) := ⟨hb, hd⟩
  clear hd hb
  go_wp2_with fail
  have A2 := hide (A1.out.alloc (.cells #[.int .u8 1, .int .u8 2, .int .u8 3] 5))
  refine (append_yes (some ⟨w1.heap.size, 0, none⟩) 3 [1, 2, 3] (lit_rd w1 [1, 2, 3] _ _ rfl) (by simp) (by decide) A2.out.dk).mono ?_
  rintro e w2 ⟨rfl, v2, hd, hm⟩
  have A3 := hide (A2.out.move hm hd)
  clear hd hm A1 A2
  go_wp2_with fail
  have A4 := hide (A3.out.alloc (.cells #[.int .u8 1, .int .u8 2, .int .u8 3, .int .u8 4, .int .u8 5, .int .u8 6] 5))
  refine (append_full (some ⟨w2.heap.size, 0, none⟩) 6 6 (by decide) A4.out.dk).mono ?_
  rintro e w3 ⟨rfl, n3, hw⟩
  have A5 := hide (A4.out.next (W' := w3) (by rw [hw]; exact ⟨rfl, rfl, rfl, Nat.le_refl _, fun _ _ => rfl⟩))
  clear hw A3 A4
  go_wp2_with fail
  refine (fail_yes 2 (by decide) A5.out.dk).mono ?_
  rintro e w4 ⟨rfl, ⟨f4, hd⟩, hm⟩
  have A6 := hide (A5.out.move hm hd)
  clear hd hm A5
  go_wp2_with fail
  have A7 := hide (A6.out.alloc (.cells #[.int .u8 4, .int .u8 5, .int .u8 6] 5))
  refine (append_cut (some ⟨w4.heap.size, 0, none⟩) 3 [4, 5, 6] (lit_rd w4 [4, 5, 6] _ _ rfl) (by decide) (by simp) (by decide) A7.out.dk).mono ?_
  rintro e w5 ⟨rfl, v5, hd, hm⟩
  have A8 := hide (A7.out.move hm hd)
  clear hd hm A6 A7
  go_wp2_with fail
  refine (down_yes A8.out.dk).mono ?_
  rintro e w6 ⟨rfl, hw⟩
  subst hw
  go_wp2_with fail
  refine (append_off _ A8.out.dk).mono ?_
  rintro e w7 ⟨rfl, hw⟩
  subst hw
  go_wp2_with fail
  refine (up_yes A8.out.dk).mono ?_
  rintro e w8 ⟨rfl, hd, hm⟩
  have A9 := hide (A8.out.move hm hd)
  clear hd hm A8
  go_wp2_with fail
  refine (trim_no 9 (by decide) A9.out.dk).mono ?_
  rintro e w9 ⟨rfl, hw⟩
  subst hw
  go_wp2_with fail
  refine (trim_yes (n := 4) (by decide) A9.out.dk).mono ?_
  rintro e w10 ⟨rfl, v10, hd, hm⟩
  have A10 := hide (A9.out.move hm hd)
  clear hd hm A9
  go_wp2_with fail
  refine (new_no 0 _ (by decide)).mono ?_
  rintro e w11 ⟨rfl, hw⟩
  subst hw
  go_wp2_with fail
  refine (bytes_yes A10.out.dk).mono ?_
  rintro e w12 ⟨u, rfl, ho, hb⟩
  have A11 := hide (A10.out.next hb)
  obtain ⟨a12, c12, rfl, _, _, _⟩ := ho.shape
  have hbl : Below w12.heap.size w12 (w12.alloc (.cells #[.int .u8 1, .int .u8 2, .int .u8 3, .int .u8 4] 5)) := (Below.refl _ _).alloc (Nat.le_refl _) _
  have HS := hide (same_rd [1, 2, 3, 4] (by decide) a12 (some ⟨w12.heap.size, 0, none⟩) c12 4 (w12.alloc (.cells #[.int .u8 1, .int .u8 2, .int .u8 3, .int .u8 4] 5)) (ho.rd.2.below hbl) (lit_rd w12 [1, 2, 3, 4] _ _ rfl))
  have A12 := hide (A11.out.next hbl)
  clear ho hb hbl A10 A11
  go_wp2_with fail
  refine HS.out.mono ?_
  rintro e w13 ⟨rfl, hb⟩
  have A13 := hide (A12.out.next hb)
  clear hb A12
  go_wp2
  go_ret
  exact ⟨rfl, A13.out.bl⟩
end Go.Proofs.Ytlplcncdedjkmaa
