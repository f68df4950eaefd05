/- Pieces of the proof: CoG, CoH. -/
import Derived.Test.YtlipcmonlhdgfaaGreatM13
import Derived.Shelf.Abstract
/- package code: all of a list. -/
namespace Go.Proofs.YtlipcmonlhdgfaaGreat
open Go.RowKit

theorem all_no {α : Type} {p : α → Bool} {l : List α} {z : α} (hz : z ∈ l) (h : p z = false) : l.all p = false := by
  rw [List.all_eq_false]; exact ⟨z, hz, by simp [h]⟩
theorem all_yes {α : Type} {p : α → Bool} {l : List α} (h : ∀ z ∈ l, p z = true) : l.all p = true := List.all_eq_true.2 h
theorem take_ok {α : Type} {p : α → Bool} {l : List α} {k : Nat} (hk : k < l.length) (h : ∀ z ∈ l.take k, p z = true) (h' : p l[k] = true) : ∀ z ∈ l.take (k + 1), p z = true := fun z hz => by
  rw [List.take_succ_eq_append_getElem hk] at hz
  rcases List.mem_append.1 hz with hz | hz
  · exact h z hz
  · rw [List.mem_singleton.1 hz]; exact h'
set_option maxRecDepth 100000 in
set_option maxHeartbeats 2000000 in
theorem allZp (N : Nat) (ent : ∀ args w, (callFunc N args).run Tryz.prog w = .ok (.enter N args) w) (p : Int → Bool) (a : Option Addr) (cap : Nat) (l : List Int) (w : World) (hr : RdZ w a l) (hl : l.length ≤ 1000000) (hF : ∀ z ∈ l, ∀ W, Below w.heap.size w W → Calls Tryz.prog N #[.int .i64 z] W fun e w' => e = .returned (.bool (p z)) ∧ Below W.heap.size W w') :
    Calls Tryz.prog 78 #[.slice a l.length cap, .func (.func N) #[] #[]] w fun e w' => e = .returned (.bool (l.all p)) ∧ Below w.heap.size w w' := by
  have HR := hide hr
  have HF := hide hF
  clear hr hF
  go_enter Tryz.func78, Tryz.ntmps78
  go_wp2
  go_loopw [9] (fun i wr => ∃ k : Nat, k ≤ l.length ∧ i = .int .i64 k ∧ (∀ z ∈ l.take k, p z = true) ∧ Below w.heap.size w wr) (fun i _ => l.length - (intOf i).toNat)
  case atStart => exact ⟨0, by omega, rfl, fun z hz => by simp at hz, Below.refl _ _⟩
  case round =>
    obtain ⟨k, hk, rfl, hp, hb⟩ := hrel
    have BB := hide hb
    have HP := hide hp
    clear hp
    by_cases hlt : k < l.length
    · have hkI : (k : Int) < (l.length : Int) := by omega
      obtain ⟨q, off, rfl, -, hc⟩ := (HR.out.below hb).some (by omega)
      obtain ⟨x, hx⟩ : ∃ x, l[k] = x := ⟨_, rfl⟩
      have c0 := hc k hlt
      have HC : Hid (∀ W, Below w.heap.size w W → _) := fun W hb => HF.out x (hx ▸ List.getElem_mem hlt) W hb
      have HN : Hid (p x = false → l.all p = false) := fun h => all_no (hx ▸ List.getElem_mem hlt) h
      have HY : Hid (p x = true → ∀ z ∈ l.take (k + 1), p z = true) := fun h => take_ok hlt HP.out (by rw [hx]; exact h)
      rw [hx] at c0
      clear hc hb hx HR HF
      generalize p x = t at *
      go_wp2_with fail
      refine (HC.out _ (BB.out)).mono ?_
      rintro e w1 ⟨rfl, hb1⟩
      have B1 := hide (bstep (BB.out) hb1)
      clear hb1
      cases t
      · have hn := HN.out rfl
        clear HY HN
        go_wp2
        go_ret
        exact ⟨by rw [hn]; rfl, B1.out⟩
      · have HY2 := hide (HY.out rfl)
        clear HY HN
        go_wp2
        go_roundw
        case rel => exact ⟨k + 1, by omega, by go_num, HY2.out, B1.out⟩
        case measure => simp [intOf]; omega
    · have hy := all_yes (l := l) (p := p) (by have := HP.out; rw [List.take_of_length_le (by omega)] at this; exact this)
      obtain rfl : k = l.length := by omega
      go_wp2
      go_ret
      exact ⟨by rw [hy]; rfl, BB.out⟩
set_option maxRecDepth 100000 in
set_option maxHeartbeats 2000000 in
theorem allZb (N : Nat) (ent : ∀ args w, (callFunc N args).run Tryz.prog w = .ok (.enter N args) w) (u : Value) (p : Int → Bool) (a : Option Addr) (cap : Nat) (l : List Int) (w : World) (hr : RdZ w a l) (hl : l.length ≤ 1000000) (hF : ∀ z ∈ l, ∀ W, Below w.heap.size w W → Calls Tryz.prog N #[u, .int .i64 z] W fun e w' => e = .returned (.bool (p z)) ∧ Below W.heap.size W w') :
    Calls Tryz.prog 78 #[.slice a l.length cap, .func (.func N) #[u] #[]] w fun e w' => e = .returned (.bool (l.all p)) ∧ Below w.heap.size w w' := by
  have HR := hide hr
  have HF := hide hF
  clear hr hF
  go_enter Tryz.func78, Tryz.ntmps78
  go_wp2
  go_loopw [9] (fun i wr => ∃ k : Nat, k ≤ l.length ∧ i = .int .i64 k ∧ (∀ z ∈ l.take k, p z = true) ∧ Below w.heap.size w wr) (fun i _ => l.length - (intOf i).toNat)
  case atStart => exact ⟨0, by omega, rfl, fun z hz => by simp at hz, Below.refl _ _⟩
  case round =>
    obtain ⟨k, hk, rfl, hp, hb⟩ := hrel
    have BB := hide hb
    have HP := hide hp
    clear hp
    by_cases hlt : k < l.length
    · have hkI : (k : Int) < (l.length : Int) := by omega
      obtain ⟨q, off, rfl, -, hc⟩ := (HR.out.below hb).some (by omega)
      obtain ⟨x, hx⟩ : ∃ x, l[k] = x := ⟨_, rfl⟩
      have c0 := hc k hlt
      have HC : Hid (∀ W, Below w.heap.size w W → _) := fun W hb => HF.out x (hx ▸ List.getElem_mem hlt) W hb
      have HN : Hid (p x = false → l.all p = false) := fun h => all_no (hx ▸ List.getElem_mem hlt) h
      have HY : Hid (p x = true → ∀ z ∈ l.take (k + 1), p z = true) := fun h => take_ok hlt HP.out (by rw [hx]; exact h)
      rw [hx] at c0
      clear hc hb hx HR HF
      generalize p x = t at *
      go_wp2_with fail
      refine (HC.out _ (BB.out)).mono ?_
      rintro e w1 ⟨rfl, hb1⟩
      have B1 := hide (bstep (BB.out) hb1)
      clear hb1
      cases t
      · have hn := HN.out rfl
        clear HY HN
        go_wp2
        go_ret
        exact ⟨by rw [hn]; rfl, B1.out⟩
      · have HY2 := hide (HY.out rfl)
        clear HY HN
        go_wp2
        go_roundw
        case rel => exact ⟨k + 1, by omega, by go_num, HY2.out, B1.out⟩
        case measure => simp [intOf]; omega
    · have hy := all_yes (l := l) (p := p) (by have := HP.out; rw [List.take_of_length_le (by omega)] at this; exact this)
      obtain rfl : k = l.length := by omega
      go_wp2
      go_ret
      exact ⟨by rw [hy]; rfl, BB.out⟩
set_option maxRecDepth 100000 in
set_option maxHeartbeats 2000000 in
theorem allZc (N : Nat) (ent : ∀ args w, (callFunc N args).run Tryz.prog w = .ok (.enter N args) w) (u : Value) (p : Int → Bool) (a : Option Addr) (cap : Nat) (l : List Int) (w : World) (hr : RdZ w a l) (hl : l.length ≤ 1000000) (hF : ∀ z ∈ l, ∀ W, Below w.heap.size w W → Calls Tryz.prog N #[.int .i64 z, u] W fun e w' => e = .returned (.bool (p z)) ∧ Below W.heap.size W w') :
    Calls Tryz.prog 78 #[.slice a l.length cap, .func (.func N) #[] #[u]] w fun e w' => e = .returned (.bool (l.all p)) ∧ Below w.heap.size w w' := by
  have HR := hide hr
  have HF := hide hF
  clear hr hF
  go_enter Tryz.func78, Tryz.ntmps78
  go_wp2
  go_loopw [9] (fun i wr => ∃ k : Nat, k ≤ l.length ∧ i = .int .i64 k ∧ (∀ z ∈ l.take k, p z = true) ∧ Below w.heap.size w wr) (fun i _ => l.length - (intOf i).toNat)
  case atStart => exact ⟨0, by omega, rfl, fun z hz => by simp at hz, Below.refl _ _⟩
  case round =>
    obtain ⟨k, hk, rfl, hp, hb⟩ := hrel
    have BB := hide hb
    have HP := hide hp
    clear hp
    by_cases hlt : k < l.length
    · have hkI : (k : Int) < (l.length : Int) := by omega
      obtain ⟨q, off, rfl, -, hc⟩ := (HR.out.below hb).some (by omega)
      obtain ⟨x, hx⟩ : ∃ x, l[k] = x := ⟨_, rfl⟩
      have c0 := hc k hlt
      have HC : Hid (∀ W, Below w.heap.size w W → _) := fun W hb => HF.out x (hx ▸ List.getElem_mem hlt) W hb
      have HN : Hid (p x = false → l.all p = false) := fun h => all_no (hx ▸ List.getElem_mem hlt) h
      have HY : Hid (p x = true → ∀ z ∈ l.take (k + 1), p z = true) := fun h => take_ok hlt HP.out (by rw [hx]; exact h)
      rw [hx] at c0
      clear hc hb hx HR HF
      generalize p x = t at *
      go_wp2_with fail
      refine (HC.out _ (BB.out)).mono ?_
      rintro e w1 ⟨rfl, hb1⟩
      have B1 := hide (bstep (BB.out) hb1)
      clear hb1
      cases t
      · have hn := HN.out rfl
        clear HY HN
        go_wp2
        go_ret
        exact ⟨by rw [hn]; rfl, B1.out⟩
      · have HY2 := hide (HY.out rfl)
        clear HY HN
        go_wp2
        go_roundw
        case rel => exact ⟨k + 1, by omega, by go_num, HY2.out, B1.out⟩
        case measure => simp [intOf]; omega
    · have hy := all_yes (l := l) (p := p) (by have := HP.out; rw [List.take_of_length_le (by omega)] at this; exact this)
      obtain rfl : k = l.length := by omega
      go_wp2
      go_ret
      exact ⟨by rw [hy]; rfl, BB.out⟩
end Go.Proofs.YtlipcmonlhdgfaaGreat
/- package code: all of a list of structs. -/
namespace Go.Proofs.YtlipcmonlhdgfaaGreat
open Go.RowKit

set_option maxRecDepth 100000 in
set_option maxHeartbeats 2000000 in
theorem allAy (N : Nat) (ent : ∀ args w, (callFunc N args).run Tryz.prog w = .ok (.enter N args) w) (p : Ay → Bool) (a : Option Addr) (cap : Nat) (l : List Ay) (w : World) (hr : LiR w 3 Ay.cells a l) (hl : l.length ≤ 1000000) (hF : ∀ z ∈ l, ∀ W, Below w.heap.size w W → Calls Tryz.prog N #[.agg (Ay.cells z).toArray] W fun e w' => e = .returned (.bool (p z)) ∧ Below W.heap.size W w') :
    Calls Tryz.prog 81 #[.slice a l.length cap, .func (.func N) #[] #[]] w fun e w' => e = .returned (.bool (l.all p)) ∧ Below w.heap.size w w' := by
  have HR := hide hr
  have HF := hide hF
  clear hr hF
  go_enter Tryz.func81, Tryz.ntmps81
  go_wp2
  go_loopw [9] (fun i wr => ∃ k : Nat, k ≤ l.length ∧ i = .int .i64 k ∧ (∀ z ∈ l.take k, p z = true) ∧ Below w.heap.size w wr) (fun i _ => l.length - (intOf i).toNat)
  case atStart => exact ⟨0, by omega, rfl, fun z hz => by simp at hz, Below.refl _ _⟩
  case round =>
    obtain ⟨k, hk, rfl, hp, hb⟩ := hrel
    have BB := hide hb
    have HP := hide hp
    clear hp
    by_cases hlt : k < l.length
    · have hkI : (k : Int) < (l.length : Int) := by omega
      obtain ⟨q, off, rfl, -, hc⟩ := (HR.out.below hb).some (by omega)
      obtain ⟨x, hx⟩ : ∃ x, l[k] = x := ⟨_, rfl⟩
      obtain ⟨nm, kd, wd⟩ := x
      have c0 := hc k hlt 0 (.string nm) (by rw [hx]; rfl)
      have c1 := hc k hlt 1 (.int .u8 kd) (by rw [hx]; rfl)
      have c2 := hc k hlt 2 (.int .i64 wd) (by rw [hx]; rfl)
      rw [Nat.add_zero] at c0
      have HC : Hid (∀ W, Below w.heap.size w W → _) := fun W hb => HF.out _ (hx ▸ List.getElem_mem hlt) W hb
      simp only [Ay.cells] at HC
      have HN : Hid (p ⟨nm, kd, wd⟩ = false → l.all p = false) := fun h => all_no (hx ▸ List.getElem_mem hlt) h
      have HY : Hid (p ⟨nm, kd, wd⟩ = true → ∀ z ∈ l.take (k + 1), p z = true) := fun h => take_ok hlt HP.out (by rw [hx]; exact h)
      clear hc hb hx HR HF
      generalize p ⟨nm, kd, wd⟩ = t at *

      go_wp2_with fail
      refine (HC.out _ (BB.out.alloc BB.out.size _)).mono ?_
      rintro e w1 ⟨rfl, hb1⟩
      have B1 := hide (bstep (BB.out.alloc BB.out.size _) hb1)
      clear hb1
      cases t
      · have hn := HN.out rfl
        clear HY HN
        go_wp2
        go_ret
        exact ⟨by rw [hn]; rfl, B1.out⟩
      · have HY2 := hide (HY.out rfl)
        clear HY HN
        go_wp2
        go_roundw
        case rel => exact ⟨k + 1, by omega, by go_num, HY2.out, B1.out⟩
        case measure => simp [intOf]; omega
    · have hy := all_yes (l := l) (p := p) (by have := HP.out; rw [List.take_of_length_le (by omega)] at this; exact this)
      obtain rfl : k = l.length := by omega
      go_wp2
      go_ret
      exact ⟨by rw [hy]; rfl, BB.out⟩
set_option maxRecDepth 100000 in
set_option maxHeartbeats 2000000 in
theorem allAc (N : Nat) (ent : ∀ args w, (callFunc N args).run Tryz.prog w = .ok (.enter N args) w) (u : Value) (p : AcL → Bool) (a : Option Addr) (cap : Nat) (l : List AcL) (w : World) (hr : LiR w 3 AcL.cells a l) (hl : l.length ≤ 1000000) (hF : ∀ z ∈ l, ∀ W, Below w.heap.size w W → Calls Tryz.prog N #[u, .agg (AcL.cells z).toArray] W fun e w' => e = .returned (.bool (p z)) ∧ Below W.heap.size W w') :
    Calls Tryz.prog 85 #[.slice a l.length cap, .func (.func N) #[u] #[]] w fun e w' => e = .returned (.bool (l.all p)) ∧ Below w.heap.size w w' := by
  have HR := hide hr
  have HF := hide hF
  clear hr hF
  go_enter Tryz.func85, Tryz.ntmps85
  go_wp2
  go_loopw [9] (fun i wr => ∃ k : Nat, k ≤ l.length ∧ i = .int .i64 k ∧ (∀ z ∈ l.take k, p z = true) ∧ Below w.heap.size w wr) (fun i _ => l.length - (intOf i).toNat)
  case atStart => exact ⟨0, by omega, rfl, fun z hz => by simp at hz, Below.refl _ _⟩
  case round =>
    obtain ⟨k, hk, rfl, hp, hb⟩ := hrel
    have BB := hide hb
    have HP := hide hp
    clear hp
    by_cases hlt : k < l.length
    · have hkI : (k : Int) < (l.length : Int) := by omega
      obtain ⟨q, off, rfl, -, hc⟩ := (HR.out.below hb).some (by omega)
      obtain ⟨x, hx⟩ : ∃ x, l[k] = x := ⟨_, rfl⟩
      obtain ⟨nm, ps, pa, pc, cd, ca, cc⟩ := x
      have c0 := hc k hlt 0 (.string nm) (by rw [hx]; rfl)
      have c1 := hc k hlt 1 (.slice pa ps.length pc) (by rw [hx]; rfl)
      have c2 := hc k hlt 2 (.slice ca cd.length cc) (by rw [hx]; rfl)
      rw [Nat.add_zero] at c0
      have HC : Hid (∀ W, Below w.heap.size w W → _) := fun W hb => HF.out _ (hx ▸ List.getElem_mem hlt) W hb
      simp only [AcL.cells] at HC
      have HN : Hid (p ⟨nm, ps, pa, pc, cd, ca, cc⟩ = false → l.all p = false) := fun h => all_no (hx ▸ List.getElem_mem hlt) h
      have HY : Hid (p ⟨nm, ps, pa, pc, cd, ca, cc⟩ = true → ∀ z ∈ l.take (k + 1), p z = true) := fun h => take_ok hlt HP.out (by rw [hx]; exact h)
      clear hc hb hx HR HF
      generalize p ⟨nm, ps, pa, pc, cd, ca, cc⟩ = t at *
      generalize ps.length = m0 at *
      generalize cd.length = m1 at *
      go_wp2_with fail
      refine (HC.out _ (BB.out.alloc BB.out.size _)).mono ?_
      rintro e w1 ⟨rfl, hb1⟩
      have B1 := hide (bstep (BB.out.alloc BB.out.size _) hb1)
      clear hb1
      cases t
      · have hn := HN.out rfl
        clear HY HN
        go_wp2
        go_ret
        exact ⟨by rw [hn]; rfl, B1.out⟩
      · have HY2 := hide (HY.out rfl)
        clear HY HN
        go_wp2
        go_roundw
        case rel => exact ⟨k + 1, by omega, by go_num, HY2.out, B1.out⟩
        case measure => simp [intOf]; omega
    · have hy := all_yes (l := l) (p := p) (by have := HP.out; rw [List.take_of_length_le (by omega)] at this; exact this)
      obtain rfl : k = l.length := by omega
      go_wp2
      go_ret
      exact ⟨by rw [hy]; rfl, BB.out⟩
set_option maxRecDepth 100000 in
set_option maxHeartbeats 2000000 in
theorem allHd (N : Nat) (ent : ∀ args w, (callFunc N args).run Tryz.prog w = .ok (.enter N args) w) (u : Value) (p : HdL → Bool) (a : Option Addr) (cap : Nat) (l : List HdL) (w : World) (hr : LiR w 1 HdL.cells a l) (hl : l.length ≤ 1000000) (hF : ∀ z ∈ l, ∀ W, Below w.heap.size w W → Calls Tryz.prog N #[u, .agg (HdL.cells z).toArray] W fun e w' => e = .returned (.bool (p z)) ∧ Below W.heap.size W w') :
    Calls Tryz.prog 118 #[.slice a l.length cap, .func (.func N) #[u] #[]] w fun e w' => e = .returned (.bool (l.all p)) ∧ Below w.heap.size w w' := by
  have HR := hide hr
  have HF := hide hF
  clear hr hF
  go_enter Tryz.func118, Tryz.ntmps118
  go_wp2
  go_loopw [9] (fun i wr => ∃ k : Nat, k ≤ l.length ∧ i = .int .i64 k ∧ (∀ z ∈ l.take k, p z = true) ∧ Below w.heap.size w wr) (fun i _ => l.length - (intOf i).toNat)
  case atStart => exact ⟨0, by omega, rfl, fun z hz => by simp at hz, Below.refl _ _⟩
  case round =>
    obtain ⟨k, hk, rfl, hp, hb⟩ := hrel
    have BB := hide hb
    have HP := hide hp
    clear hp
    by_cases hlt : k < l.length
    · have hkI : (k : Int) < (l.length : Int) := by omega
      obtain ⟨q, off, rfl, -, hc⟩ := (HR.out.below hb).some (by omega)
      obtain ⟨x, hx⟩ : ∃ x, l[k] = x := ⟨_, rfl⟩
      obtain ⟨xs, xa, xc⟩ := x
      have c0 := hc k hlt 0 (.slice xa xs.length xc) (by rw [hx]; rfl)
      rw [Nat.add_zero, Nat.mul_one] at c0
      have HC : Hid (∀ W, Below w.heap.size w W → _) := fun W hb => HF.out _ (hx ▸ List.getElem_mem hlt) W hb
      simp only [HdL.cells] at HC
      have HN : Hid (p ⟨xs, xa, xc⟩ = false → l.all p = false) := fun h => all_no (hx ▸ List.getElem_mem hlt) h
      have HY : Hid (p ⟨xs, xa, xc⟩ = true → ∀ z ∈ l.take (k + 1), p z = true) := fun h => take_ok hlt HP.out (by rw [hx]; exact h)
      clear hc hb hx HR HF
      generalize p ⟨xs, xa, xc⟩ = t at *
      generalize xs.length = m0 at *
      go_wp2_with fail
      refine (HC.out _ (BB.out.alloc BB.out.size _)).mono ?_
      rintro e w1 ⟨rfl, hb1⟩
      have B1 := hide (bstep (BB.out.alloc BB.out.size _) hb1)
      clear hb1
      cases t
      · have hn := HN.out rfl
        clear HY HN
        go_wp2
        go_ret
        exact ⟨by rw [hn]; rfl, B1.out⟩
      · have HY2 := hide (HY.out rfl)
        clear HY HN
        go_wp2
        go_roundw
        case rel => exact ⟨k + 1, by omega, by go_num, HY2.out, B1.out⟩
        case measure => simp [intOf]; omega
    · have hy := all_yes (l := l) (p := p) (by have := HP.out; rw [List.take_of_length_le (by omega)] at this; exact this)
      obtain rfl : k = l.length := by omega
      go_wp2
      go_ret
      exact ⟨by rw [hy]; rfl, BB.out⟩
set_option maxRecDepth 100000 in
set_option maxHeartbeats 2000000 in
theorem allNd (N : Nat) (ent : ∀ args w, (callFunc N args).run Tryz.prog w = .ok (.enter N args) w) (u : Value) (p : NdL → Bool) (a : Option Addr) (cap : Nat) (l : List NdL) (w : World) (hr : LiR w 5 NdL.cells a l) (hl : l.length ≤ 1000000) (hF : ∀ z ∈ l, ∀ W, Below w.heap.size w W → Calls Tryz.prog N #[u, .agg (NdL.cells z).toArray] W fun e w' => e = .returned (.bool (p z)) ∧ Below W.heap.size W w') :
    Calls Tryz.prog 87 #[.slice a l.length cap, .func (.func N) #[u] #[]] w fun e w' => e = .returned (.bool (l.all p)) ∧ Below w.heap.size w w' := by
  have HR := hide hr
  have HF := hide hF
  clear hr hF
  go_enter Tryz.func87, Tryz.ntmps87
  go_wp2
  go_loopw [9] (fun i wr => ∃ k : Nat, k ≤ l.length ∧ i = .int .i64 k ∧ (∀ z ∈ l.take k, p z = true) ∧ Below w.heap.size w wr) (fun i _ => l.length - (intOf i).toNat)
  case atStart => exact ⟨0, by omega, rfl, fun z hz => by simp at hz, Below.refl _ _⟩
  case round =>
    obtain ⟨k, hk, rfl, hp, hb⟩ := hrel
    have BB := hide hb
    have HP := hide hp
    clear hp
    by_cases hlt : k < l.length
    · have hkI : (k : Int) < (l.length : Int) := by omega
      obtain ⟨q, off, rfl, -, hc⟩ := (HR.out.below hb).some (by omega)
      obtain ⟨x, hx⟩ : ∃ x, l[k] = x := ⟨_, rfl⟩
      obtain ⟨hs, ha, hcp, cd, ca, cc, slot, js, ja, jc, to⟩ := x
      have c0 := hc k hlt 0 (.slice ha hs.length hcp) (by rw [hx]; rfl)
      have c1 := hc k hlt 1 (.slice ca cd.length cc) (by rw [hx]; rfl)
      have c2 := hc k hlt 2 (.int .i64 slot) (by rw [hx]; rfl)
      have c3 := hc k hlt 3 (.slice ja js.length jc) (by rw [hx]; rfl)
      have c4 := hc k hlt 4 (.int .i64 to) (by rw [hx]; rfl)
      rw [Nat.add_zero] at c0
      have HC : Hid (∀ W, Below w.heap.size w W → _) := fun W hb => HF.out _ (hx ▸ List.getElem_mem hlt) W hb
      simp only [NdL.cells] at HC
      have HN : Hid (p ⟨hs, ha, hcp, cd, ca, cc, slot, js, ja, jc, to⟩ = false → l.all p = false) := fun h => all_no (hx ▸ List.getElem_mem hlt) h
      have HY : Hid (p ⟨hs, ha, hcp, cd, ca, cc, slot, js, ja, jc, to⟩ = true → ∀ z ∈ l.take (k + 1), p z = true) := fun h => take_ok hlt HP.out (by rw [hx]; exact h)
      clear hc hb hx HR HF
      generalize p ⟨hs, ha, hcp, cd, ca, cc, slot, js, ja, jc, to⟩ = t at *
      generalize hs.length = m0 at *
      generalize cd.length = m1 at *
      generalize js.length = m2 at *
      go_wp2_with fail
      refine (HC.out _ (BB.out.alloc BB.out.size _)).mono ?_
      rintro e w1 ⟨rfl, hb1⟩
      have B1 := hide (bstep (BB.out.alloc BB.out.size _) hb1)
      clear hb1
      cases t
      · have hn := HN.out rfl
        clear HY HN
        go_wp2
        go_ret
        exact ⟨by rw [hn]; rfl, B1.out⟩
      · have HY2 := hide (HY.out rfl)
        clear HY HN
        go_wp2
        go_roundw
        case rel => exact ⟨k + 1, by omega, by go_num, HY2.out, B1.out⟩
        case measure => simp [intOf]; omega
    · have hy := all_yes (l := l) (p := p) (by have := HP.out; rw [List.take_of_length_le (by omega)] at this; exact this)
      obtain rfl : k = l.length := by omega
      go_wp2
      go_ret
      exact ⟨by rw [hy]; rfl, BB.out⟩
set_option maxRecDepth 100000 in
set_option maxHeartbeats 2000000 in
theorem allTa (N : Nat) (ent : ∀ args w, (callFunc N args).run Tryz.prog w = .ok (.enter N args) w) (u : Value) (p : TaL → Bool) (a : Option Addr) (cap : Nat) (l : List TaL) (w : World) (hr : LiR w 8 TaL.cells a l) (hl : l.length ≤ 1000000) (hF : ∀ z ∈ l, ∀ W, Below w.heap.size w W → Calls Tryz.prog N #[u, .agg (TaL.cells z).toArray] W fun e w' => e = .returned (.bool (p z)) ∧ Below W.heap.size W w') :
    Calls Tryz.prog 89 #[.slice a l.length cap, .func (.func N) #[u] #[]] w fun e w' => e = .returned (.bool (l.all p)) ∧ Below w.heap.size w w' := by
  have HR := hide hr
  have HF := hide hF
  clear hr hF
  go_enter Tryz.func89, Tryz.ntmps89
  go_wp2
  go_loopw [9] (fun i wr => ∃ k : Nat, k ≤ l.length ∧ i = .int .i64 k ∧ (∀ z ∈ l.take k, p z = true) ∧ Below w.heap.size w wr) (fun i _ => l.length - (intOf i).toNat)
  case atStart => exact ⟨0, by omega, rfl, fun z hz => by simp at hz, Below.refl _ _⟩
  case round =>
    obtain ⟨k, hk, rfl, hp, hb⟩ := hrel
    have BB := hide hb
    have HP := hide hp
    clear hp
    by_cases hlt : k < l.length
    · have hkI : (k : Int) < (l.length : Int) := by omega
      obtain ⟨q, off, rfl, -, hc⟩ := (HR.out.below hb).some (by omega)
      obtain ⟨x, hx⟩ : ∃ x, l[k] = x := ⟨_, rfl⟩
      obtain ⟨nm, ks, ka, kc, kd, da, dc, ats, aa, ac, df, gs, ga, gc, size, bf, ba, bc⟩ := x
      have c0 := hc k hlt 0 (.string nm) (by rw [hx]; rfl)
      have c1 := hc k hlt 1 (.slice ka ks.length kc) (by rw [hx]; rfl)
      have c2 := hc k hlt 2 (.slice da kd.length dc) (by rw [hx]; rfl)
      have c3 := hc k hlt 3 (.slice aa ats.length ac) (by rw [hx]; rfl)
      have c4 := hc k hlt 4 (.int .i64 df) (by rw [hx]; rfl)
      have c5 := hc k hlt 5 (.slice ga gs.length gc) (by rw [hx]; rfl)
      have c6 := hc k hlt 6 (.int .i64 size) (by rw [hx]; rfl)
      have c7 := hc k hlt 7 (.slice ba bf.length bc) (by rw [hx]; rfl)
      rw [Nat.add_zero] at c0
      have HC : Hid (∀ W, Below w.heap.size w W → _) := fun W hb => HF.out _ (hx ▸ List.getElem_mem hlt) W hb
      simp only [TaL.cells] at HC
      have HN : Hid (p ⟨nm, ks, ka, kc, kd, da, dc, ats, aa, ac, df, gs, ga, gc, size, bf, ba, bc⟩ = false → l.all p = false) := fun h => all_no (hx ▸ List.getElem_mem hlt) h
      have HY : Hid (p ⟨nm, ks, ka, kc, kd, da, dc, ats, aa, ac, df, gs, ga, gc, size, bf, ba, bc⟩ = true → ∀ z ∈ l.take (k + 1), p z = true) := fun h => take_ok hlt HP.out (by rw [hx]; exact h)
      clear hc hb hx HR HF
      generalize p ⟨nm, ks, ka, kc, kd, da, dc, ats, aa, ac, df, gs, ga, gc, size, bf, ba, bc⟩ = t at *
      generalize ks.length = m0 at *
      generalize kd.length = m1 at *
      generalize ats.length = m2 at *
      generalize gs.length = m3 at *
      generalize bf.length = m4 at *
      go_wp2_with fail
      refine (HC.out _ (BB.out.alloc BB.out.size _)).mono ?_
      rintro e w1 ⟨rfl, hb1⟩
      have B1 := hide (bstep (BB.out.alloc BB.out.size _) hb1)
      clear hb1
      cases t
      · have hn := HN.out rfl
        clear HY HN
        go_wp2
        go_ret
        exact ⟨by rw [hn]; rfl, B1.out⟩
      · have HY2 := hide (HY.out rfl)
        clear HY HN
        go_wp2
        go_roundw
        case rel => exact ⟨k + 1, by omega, by go_num, HY2.out, B1.out⟩
        case measure => simp [intOf]; omega
    · have hy := all_yes (l := l) (p := p) (by have := HP.out; rw [List.take_of_length_le (by omega)] at this; exact this)
      obtain rfl : k = l.length := by omega
      go_wp2
      go_ret
      exact ⟨by rw [hy]; rfl, BB.out⟩
set_option maxRecDepth 100000 in
set_option maxHeartbeats 2000000 in
theorem allJp (N : Nat) (ent : ∀ args w, (callFunc N args).run Tryz.prog w = .ok (.enter N args) w) (u v : Value) (p : Jp → Bool) (a : Option Addr) (cap : Nat) (l : List Jp) (w : World) (hr : LiR w 7 Jp.cells a l) (hl : l.length ≤ 1000000) (hF : ∀ z ∈ l, ∀ W, Below w.heap.size w W → Calls Tryz.prog N #[.agg (Jp.cells z).toArray, u, v] W fun e w' => e = .returned (.bool (p z)) ∧ Below W.heap.size W w') :
    Calls Tryz.prog 143 #[.slice a l.length cap, .func (.func N) #[] #[u, v]] w fun e w' => e = .returned (.bool (l.all p)) ∧ Below w.heap.size w w' := by
  have HR := hide hr
  have HF := hide hF
  clear hr hF
  go_enter Tryz.func143, Tryz.ntmps143
  go_wp2
  go_loopw [9] (fun i wr => ∃ k : Nat, k ≤ l.length ∧ i = .int .i64 k ∧ (∀ z ∈ l.take k, p z = true) ∧ Below w.heap.size w wr) (fun i _ => l.length - (intOf i).toNat)
  case atStart => exact ⟨0, by omega, rfl, fun z hz => by simp at hz, Below.refl _ _⟩
  case round =>
    obtain ⟨k, hk, rfl, hp, hb⟩ := hrel
    have BB := hide hb
    have HP := hide hp
    clear hp
    by_cases hlt : k < l.length
    · have hkI : (k : Int) < (l.length : Int) := by omega
      obtain ⟨q, off, rfl, -, hc⟩ := (HR.out.below hb).some (by omega)
      obtain ⟨x, hx⟩ : ∃ x, l[k] = x := ⟨_, rfl⟩
      obtain ⟨⟨vw, vh, vl⟩, ⟨mw, mh, ml⟩, to⟩ := x
      have c0 := hc k hlt 0 (.int .i64 vw) (by rw [hx]; rfl)
      have c1 := hc k hlt 1 (.int .u64 vh) (by rw [hx]; rfl)
      have c2 := hc k hlt 2 (.int .u64 vl) (by rw [hx]; rfl)
      have c3 := hc k hlt 3 (.int .i64 mw) (by rw [hx]; rfl)
      have c4 := hc k hlt 4 (.int .u64 mh) (by rw [hx]; rfl)
      have c5 := hc k hlt 5 (.int .u64 ml) (by rw [hx]; rfl)
      have c6 := hc k hlt 6 (.int .i64 to) (by rw [hx]; rfl)
      rw [Nat.add_zero] at c0
      have HC : Hid (∀ W, Below w.heap.size w W → _) := fun W hb => HF.out _ (hx ▸ List.getElem_mem hlt) W hb
      simp only [Jp.cells] at HC
      have HN : Hid (p ⟨⟨vw, vh, vl⟩, ⟨mw, mh, ml⟩, to⟩ = false → l.all p = false) := fun h => all_no (hx ▸ List.getElem_mem hlt) h
      have HY : Hid (p ⟨⟨vw, vh, vl⟩, ⟨mw, mh, ml⟩, to⟩ = true → ∀ z ∈ l.take (k + 1), p z = true) := fun h => take_ok hlt HP.out (by rw [hx]; exact h)
      clear hc hb hx HR HF
      generalize p ⟨⟨vw, vh, vl⟩, ⟨mw, mh, ml⟩, to⟩ = t at *

      go_wp2_with fail
      refine (HC.out _ (BB.out.alloc BB.out.size _)).mono ?_
      rintro e w1 ⟨rfl, hb1⟩
      have B1 := hide (bstep (BB.out.alloc BB.out.size _) hb1)
      clear hb1
      cases t
      · have hn := HN.out rfl
        clear HY HN
        go_wp2
        go_ret
        exact ⟨by rw [hn]; rfl, B1.out⟩
      · have HY2 := hide (HY.out rfl)
        clear HY HN
        go_wp2
        go_roundw
        case rel => exact ⟨k + 1, by omega, by go_num, HY2.out, B1.out⟩
        case measure => simp [intOf]; omega
    · have hy := all_yes (l := l) (p := p) (by have := HP.out; rw [List.take_of_length_le (by omega)] at this; exact this)
      obtain rfl : k = l.length := by omega
      go_wp2
      go_ret
      exact ⟨by rw [hy]; rfl, BB.out⟩
end Go.Proofs.YtlipcmonlhdgfaaGreat
