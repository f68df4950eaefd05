/- pointsmanlaw17.QueuePlays, walked: too many acts, and rooms that may not be. -/
import Derived.Test.YtnihneicoikdhaaGreatDoorQvR
import Derived.Test.YtnihneicoikdhaaGreatDoorQuJ
namespace Go.Proofs.YtnihneicoikdhaaGreatDoor
open Go.RowKit

/- What is done with a queue. -/
structure Qa where
  put : Bool
  port : Int
  a : Option Addr
  cap : Nat
  xs : List Nat
  n : Int
structure QaOk (W : World) (x : Qa) : Prop where
  rd : RdA W x.a x.xs
  nn : x.a = none → x.cap = 0
  ln : x.xs.length ≤ 140737488351232
  le : x.xs.length ≤ x.cap
structure RdQ (W : World) (a : Option Addr) (l : List Qa) : Prop where
  rd : l = [] ∨ ∃ p off, a = some ⟨p, off, none⟩ ∧ p < W.heap.size ∧ ∀ i (h : i < l.length), W.cell? ⟨p, off + i * 4, none⟩ = some (.bool l[i].put) ∧ W.cell? ⟨p, off + i * 4 + 1, none⟩ = some (.int .i64 l[i].port) ∧ W.cell? ⟨p, off + i * 4 + 2, none⟩ = some (.slice l[i].a l[i].xs.length l[i].cap) ∧ W.cell? ⟨p, off + i * 4 + 3, none⟩ = some (.int .i64 l[i].n)
  ok : ∀ x ∈ l, QaOk W x
theorem plays_long (room : Int) (a : Option Addr) (n cap : Nat) (w : World) (h : 3000 < n) : Calls Tryz.prog 3 #[.int .i64 room, .slice a n cap] w fun e w' => e = .returned (.bool true) ∧ Below w.heap.size w w' := by
  have HV := hide (lives_any w)
  have d1 : decide ((n : Int) > 3000) = true := by simp; omega
  have d2 : (3000 < n) = True := by simpa using h
  go_enter Tryz.func3, Tryz.ntmps3
  go_wp2_with fail
  refine HV.out.mono ?_
  rintro e w1 ⟨rfl, hb⟩
  go_wp2
  go_ret
  exact ⟨rfl, hb⟩
set_option maxRecDepth 100000 in
theorem plays_bad (room : Int) (a : Option Addr) (n cap : Nat) (w : World) (h : n ≤ 3000) (hr : room < 0 ∨ 64 < room) : Calls Tryz.prog 3 #[.int .i64 room, .slice a n cap] w fun e w' => e = .returned (.bool true) ∧ Below w.heap.size w w' := by
  have HV : Hid (∀ W, _) := fun W => lives_any W
  have d1 : decide ((n : Int) > 3000) = false := by simp; omega
  have d2 : (3000 < n) = False := by simp; omega
  have H1 := hide (new_no room w hr)
  have H2 := hide (rnew_no room w hr)
  have H3 : Hid (∀ W, _) := fun W => send_no W 1
  have H4 : Hid (∀ W, _) := fun W => put_no W 0 none 0 0
  have H5 : Hid (∀ W, _) := fun W => len_no W
  clear h hr
  go_enter Tryz.func3, Tryz.ntmps3
  go_wp2_with fail
  refine H1.out.mono ?_
  rintro e w1 ⟨rfl, hw⟩
  subst hw
  go_wp2_with fail
  refine H2.out.mono ?_
  rintro e w2 ⟨rfl, hw⟩
  subst hw
  go_wp2_with fail
  refine (H3.out _).mono ?_
  rintro e w3 ⟨rfl, hw⟩
  subst hw
  go_wp2_with fail
  refine (H4.out _).mono ?_
  rintro e w4 ⟨rfl, hb4⟩
  have B4 := hide hb4
  clear hb4
  go_wp2_with fail
  refine (H5.out _).mono ?_
  rintro e w5 ⟨rfl, hw⟩
  subst hw
  go_wp2_with fail
  refine (HV.out _).mono ?_
  rintro e w6 ⟨rfl, hb6⟩
  have B6 := hide hb6
  clear hb6
  go_wp2
  go_ret
  exact ⟨rfl, bstep B4.out B6.out⟩
end Go.Proofs.YtnihneicoikdhaaGreatDoor
