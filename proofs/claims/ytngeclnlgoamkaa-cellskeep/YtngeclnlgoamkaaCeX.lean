/- The law's helpers: how great an array is; two arrays that are the same. -/
import Derived.Test.YtngeclnlgoamkaaCeG
import Derived.RegionTactic
namespace Go.Proofs.Ytngeclnlgoamkaa
open Go.RowKit

theorem numSize_any (a : Option Addr) (n cap : Nat) (w : World) : Calls Try.prog 21 #[.slice a n cap] w fun e w' => e = .returned (.int .i64 n) ∧ w' = w := by
  go_enter Try.func21, Try.ntmps21
  go_wp2
  go_ret
  exact ⟨rfl, rfl⟩
theorem intSize_any (a : Option Addr) (n cap : Nat) (w : World) : Calls Try.prog 22 #[.slice a n cap] w fun e w' => e = .returned (.int .i64 n) ∧ w' = w := by
  go_enter Try.func22, Try.ntmps22
  go_wp2
  go_ret
  exact ⟨rfl, rfl⟩
def arSz (a : Ar) : Int := if 1 + (a.name.size : Int) ≤ 1048576 then (if 1 + (a.name.size : Int) + a.cs.length ≤ 1048576 then 1 + (a.name.size : Int) + a.cs.length + a.ls.length else 1 + (a.name.size : Int) + a.cs.length) else 1 + (a.name.size : Int)
set_option maxHeartbeats 1000000 in
theorem arSize_any (x : ArL) (w : World) (hc : x.a.cs.length ≤ 140737488355328) (hl : x.a.ls.length ≤ 140737488355328) (hs : x.a.name.size ≤ 140737488355328) : Calls Try.prog 11 #[x.val] w fun e w' => e = .returned (.int .i64 (arSz x.a)) ∧ Below w.heap.size w w' := by
  obtain ⟨⟨name, kind, aw, rate, burst, cs, ls⟩, ca, cc, la, lc⟩ := x
  have HN : Hid (∀ W, _) := fun W => numSize_any ca cs.length cc W
  have HI : Hid (∀ W, _) := fun W => intSize_any la ls.length lc W
  simp only [ArL.val, arSz] at *
  generalize cs.length = n1 at *
  generalize ls.length = n2 at *
  have w1 : IntKind.i64.wrap (1 + (name.size : Int)) = 1 + (name.size : Int) := by rw [IntKind.wrap_i64]; omega
  have w2 : IntKind.i64.wrap (1 + (name.size : Int) + n1) = 1 + (name.size : Int) + n1 := by rw [IntKind.wrap_i64]; omega
  have w3 : IntKind.i64.wrap (1 + (name.size : Int) + n1 + n2) = 1 + (name.size : Int) + n1 + n2 := by rw [IntKind.wrap_i64]; omega
  clear hc hl hs
  by_cases d1 : 1 + (name.size : Int) ≤ 1048576
  · rw [if_pos d1]
    have e1 : (1 + (name.size : Int) ≤ 1048576) = True := by simp; omega
    by_cases d2 : 1 + (name.size : Int) + n1 ≤ 1048576
    · rw [if_pos d2]
      have e2 : (1 + (name.size : Int) + n1 ≤ 1048576) = True := by simp; omega
      clear d1 d2
      go_enter Try.func11, Try.ntmps11
      go_wp2_with fail
      refine (HN.out _).mono ?_
      rintro e w' ⟨rfl, rfl⟩
      go_wp2_with fail
      refine (HI.out _).mono ?_
      rintro e w' ⟨rfl, rfl⟩
      go_wp2
      go_ret
      exact ⟨rfl, below1 _ _⟩
    · rw [if_neg d2]
      have e2 : (1 + (name.size : Int) + n1 ≤ 1048576) = False := by simp; omega
      clear d1 d2
      go_enter Try.func11, Try.ntmps11
      go_wp2_with fail
      refine (HN.out _).mono ?_
      rintro e w' ⟨rfl, rfl⟩
      go_wp2
      go_ret
      exact ⟨rfl, below1 _ _⟩
  · rw [if_neg d1]
    have e1 : (1 + (name.size : Int) ≤ 1048576) = False := by simp; omega
    have e2 : (1 + (name.size : Int) + n1 ≤ 1048576) = False := by simp; omega
    clear d1
    go_enter Try.func11, Try.ntmps11
    go_wp2
    go_ret
    exact ⟨rfl, below1 _ _⟩
set_option maxRecDepth 100000 in
set_option maxHeartbeats 4000000 in
theorem sameN_any (a b : Option Addr) (ca cb : Nat) (l : List Nb) (w : World) (h1 : RdN w a l) (h2 : RdN w b l) (hl : l.length ≤ 140737488355328) : Calls Try.prog 29 #[.slice a l.length ca, .slice b l.length cb] w fun e w' => e = .returned (.bool true) ∧ Below w.heap.size w w' := by
  have H1 := hide h1
  have H2 := hide h2
  clear h1 h2
  go_enter Try.func29, Try.ntmps29
  go_wp2
  go_loopw [5] (fun i wr => ∃ k : Nat, k ≤ l.length ∧ i = .int .i64 k ∧ Below w.heap.size w wr) (fun i _ => l.length - (intOf i).toNat)
  case atStart => exact ⟨0, by omega, rfl, Below.refl _ _⟩
  case round =>
    obtain ⟨k, hk, rfl, hb⟩ := hrel
    have HB := hide hb
    clear hb
    by_cases hlt : k < l.length
    · obtain ⟨p, off, rfl, _, hcl⟩ := (H1.out.below HB.out).some (by omega)
      obtain ⟨q, off2, rfl, _, hdl⟩ := (H2.out.below HB.out).some (by omega)
      obtain ⟨c0, c1, c2⟩ := hcl k hlt
      obtain ⟨d0, d1, d2⟩ := hdl k hlt
      have hlI : ((k : Int) < (l.length : Int)) := by omega
      clear hcl hdl
      generalize l[k] = y at *
      obtain ⟨yw, yh, yl⟩ := y
      simp only at c0 c1 c2 d0 d1 d2
      go_wp2
      go_region
      go_wp2
      go_roundw
      case rel => exact ⟨k + 1, by omega, by go_num, HB.out.drew⟩
      case measure => simp [intOf]; omega
    · obtain rfl : k = l.length := by omega
      go_wp2
      go_ret
      exact ⟨rfl, HB.out⟩
set_option maxRecDepth 100000 in
set_option maxHeartbeats 4000000 in
theorem sameZ_any (a b : Option Addr) (ca cb : Nat) (l : List Int) (w : World) (h1 : RdZ w a l) (h2 : RdZ w b l) (hl : l.length ≤ 140737488355328) : Calls Try.prog 30 #[.slice a l.length ca, .slice b l.length cb] w fun e w' => e = .returned (.bool true) ∧ Below w.heap.size w w' := by
  have H1 := hide h1
  have H2 := hide h2
  clear h1 h2
  go_enter Try.func30, Try.ntmps30
  go_wp2
  go_loopw [5] (fun i wr => ∃ k : Nat, k ≤ l.length ∧ i = .int .i64 k ∧ Below w.heap.size w wr) (fun i _ => l.length - (intOf i).toNat)
  case atStart => exact ⟨0, by omega, rfl, Below.refl _ _⟩
  case round =>
    obtain ⟨k, hk, rfl, hb⟩ := hrel
    have HB := hide hb
    clear hb
    by_cases hlt : k < l.length
    · obtain ⟨p, off, rfl, _, hcl⟩ := (H1.out.below HB.out).some (by omega)
      obtain ⟨q, off2, rfl, _, hdl⟩ := (H2.out.below HB.out).some (by omega)
      have c0 := hcl k hlt
      have d0 := hdl k hlt
      have hlI : ((k : Int) < (l.length : Int)) := by omega
      clear hcl hdl
      generalize l[k] = y at *
      go_wp2
      go_region
      go_wp2
      go_roundw
      case rel => exact ⟨k + 1, by omega, by go_num, HB.out.drew⟩
      case measure => simp [intOf]; omega
    · obtain rfl : k = l.length := by omega
      go_wp2
      go_ret
      exact ⟨rfl, HB.out⟩
set_option maxRecDepth 100000 in
set_option maxHeartbeats 4000000 in
theorem sameAr_any (x y : ArL) (w : World) (he : x.a = y.a) (hx : ArR w x) (hy : ArR w y) : Calls Try.prog 15 #[x.val, y.val] w fun e w' => e = .returned (.bool true) ∧ Below w.heap.size w w' := by
  obtain ⟨⟨name, kind, aw, rate, burst, cs, ls⟩, ca, cc, la, lc⟩ := x
  obtain ⟨ya, ca2, cc2, la2, lc2⟩ := y
  simp only at he
  subst he
  have HN : Hid (∀ W, Below w.heap.size w W → _) := fun W hb => sameN_any ca ca2 cc cc2 cs W (hx.cs.below hb) (hy.cs.below hb) hx.cn
  have HI : Hid (∀ W, Below w.heap.size w W → _) := fun W hb => sameZ_any la la2 lc lc2 ls W (hx.ls.below hb) (hy.ls.below hb) hx.ln
  clear hx hy
  simp only [ArL.val] at *
  generalize cs.length = n1 at *
  generalize ls.length = n2 at *
  go_enter Try.func15, Try.ntmps15
  go_wp2_with fail
  refine (HN.out _ (below2 _ _ _)).mono ?_
  rintro e w1 ⟨rfl, hb⟩
  obtain ⟨p0, p1, p2, p3, p4, p5, p6⟩ := at7 (heap_below hb (heap_past _ (heap_alloc_new w _)))
  obtain ⟨q0, q1, q2, q3, q4, q5, q6⟩ := at7 (heap_below hb (heap_snd w _ _ _))
  have BB := hide (bstep (below2 _ _ _) hb)
  clear hb
  go_wp2_with fail
  refine (HI.out _ BB.out).mono ?_
  rintro e w2 ⟨rfl, hb⟩
  go_wp2
  go_ret
  exact ⟨rfl, bstep BB.out hb⟩
end Go.Proofs.Ytngeclnlgoamkaa
