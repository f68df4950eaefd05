/- package cells: Check. -/
import Derived.Test.YtngeclnlgoamkaaCeK
namespace Go.Proofs.Ytngeclnlgoamkaa
open Go.RowKit

/- Arrays that can be read. -/
structure RdR (W : World) (a : Option Addr) (xs : List ArL) : Prop where
  rd : xs = [] ∨ ∃ p off, a = some ⟨p, off, none⟩ ∧ p < W.heap.size ∧ ∀ i (h : i < xs.length) j u, (xs[i].cells)[j]? = some u → W.cell? ⟨p, off + i * 7 + j, none⟩ = some u
  ok : ∀ x ∈ xs, ArR W x
theorem RdR.below {W W' : World} {a : Option Addr} {xs : List ArL} (h : RdR W a xs) (hb : Below W.heap.size W W') : RdR W' a xs := by
  refine ⟨?_, fun x hx => (h.ok x hx).below hb⟩
  rcases h.rd with h | ⟨p, off, e, hp, hc⟩
  · exact .inl h
  · exact .inr ⟨p, off, e, Nat.lt_of_lt_of_le hp hb.size, fun i hi j u hu => (hb.cell (p := ⟨p, _, none⟩) hp).trans (hc i hi j u hu)⟩
theorem As.rd {w W : World} {a : Option Addr} {n cap : Nat} {xs : List ArL} (h : As w W (.slice a n cap) xs) : RdR W a xs ∧ n = xs.length := by
  have hok : ∀ x ∈ xs, ArR W x := fun x hx => by
    obtain ⟨h1, h2, h3, h4⟩ := h.ok x hx
    obtain ⟨a, ca, cc, la, lc⟩ := x
    exact h1.r h2
  rcases own_form h.own with ⟨hv, hn⟩ | ⟨g, c, hv, _, hlt, _⟩
  · injection hv with e1 e2 e3
    subst e1 e2 e3
    exact ⟨⟨.inl (List.length_eq_zero_iff.1 hn), hok⟩, hn.symm⟩
  · injection hv with e1 e2 e3
    subst e1 e2 e3
    exact ⟨⟨.inr ⟨g, 0, rfl, hlt, fun i hi j u hu => own_cell arl_len h.own rfl i hi j u hu⟩, hok⟩, rfl⟩
theorem badAr_any (x : ArL) (w : World) (hx : ArR w x) : Calls Try.prog 27 #[x.val] w fun e w' => e = .returned (.bool (!mayA x.a)) ∧ Below w.heap.size w w' := by
  have HM : Hid (∀ W, Below w.heap.size w W → _) := fun W hb => mayBe_any x W (hx.below hb)
  clear hx
  generalize mayA x.a = t at *
  obtain ⟨⟨name, kind, aw, rate, burst, cs, ls⟩, ca, cc, la, lc⟩ := x
  simp only [ArL.val] at *
  generalize cs.length = n1 at *
  generalize ls.length = n2 at *
  go_enter Try.func27, Try.ntmps27
  go_wp2_with fail
  refine (HM.out _ (below1 _ _)).mono ?_
  rintro e w1 ⟨rfl, hb⟩
  go_wp2
  go_ret
  exact ⟨by simp, bstep (below1 _ _) hb⟩
set_option maxRecDepth 100000 in
set_option maxHeartbeats 4000000 in
theorem indexAr_any (a : Option Addr) (cap : Nat) (l : List ArL) (w : World) (hr : RdR w a l) (hl : l.length ≤ 140737488355328) :
    Calls Try.prog 41 #[.slice a l.length cap, .func (.func 27) #[] #[]] w fun e w' => e = .returned (.int .i64 (firstI (fun x : ArL => !mayA x.a) l)) ∧ Below w.heap.size w w' := by
  have HR := hide hr
  have HC0 : Hid (∀ i (h : i < l.length) W, Below w.heap.size w W → _) := fun i h W hb => badAr_any l[i] W ((hr.ok _ (List.getElem_mem h)).below hb)
  clear hr
  generalize hP : (fun x : ArL => !mayA x.a) = P at *
  have HC : Hid (∀ i (h : i < l.length) W, Below w.heap.size w W → Calls Try.prog 27 #[l[i].val] W fun e w' => e = .returned (.bool (P l[i])) ∧ Below W.heap.size W w') := fun i h W hb => by rw [← hP]; exact HC0.out i h W hb
  clear HC0 hP
  go_enter Try.func41, Try.ntmps41
  go_wp2
  go_loopw [8] (fun i wr => ∃ k : Nat, k ≤ l.length ∧ i = .int .i64 k ∧ (∀ j (hj : j < k) (hj' : j < l.length), P l[j] = false) ∧ Below w.heap.size w wr) (fun i _ => l.length - (intOf i).toNat)
  case atStart => exact ⟨0, by omega, rfl, fun j hj => absurd hj (by omega), Below.refl _ _⟩
  case round =>
    obtain ⟨k, hk, rfl, hn, hb⟩ := hrel
    have HN := hide hn
    have HW := hide hb
    clear hn hb
    by_cases hlt : k < l.length
    · obtain ⟨q, off, rfl, hp, hcl⟩ : ∃ p off, a = some ⟨p, off, none⟩ ∧ p < wr.heap.size ∧ ∀ i (h : i < l.length) j u, (l[i].cells)[j]? = some u → wr.cell? ⟨p, off + i * 7 + j, none⟩ = some u := by
        rcases (HR.out.below HW.out).rd with h | h
        · rw [h] at hlt; simp at hlt
        · exact h
      have q0 := hcl k hlt 0 _ rfl
      have q1 := hcl k hlt 1 _ rfl
      have q2 := hcl k hlt 2 _ rfl
      have q3 := hcl k hlt 3 _ rfl
      have q4 := hcl k hlt 4 _ rfl
      have q5 := hcl k hlt 5 _ rfl
      have q6 := hcl k hlt 6 _ rfl
      have hlI : (k : Int) < (l.length : Int) := by omega
      have HD := hide (HC.out k hlt wr HW.out)
      have HX : Hid (P l[k] = false → ∀ j (hj : j < k + 1) (hj' : j < l.length), P l[j] = false) := fun ho j hj hj' => by
        by_cases e : j = k
        · subst e; exact ho
        · exact HN.out j (by omega) hj'
      have HO : Hid (P l[k] = true → firstI P l = k) := fun ho => firstI_hit hlt ho (fun j hj => HN.out j hj (by omega))
      clear hcl hp
      generalize P l[k] = t at *
      generalize l[k] = x at *
      obtain ⟨⟨name, kind, aw, rate, burst, cs, ls⟩, ca, cc, la, lc⟩ := x
      simp only [ArL.val, Nat.add_zero] at *
      generalize cs.length = n1 at *
      generalize ls.length = n2 at *
      cases t
      · go_wp2_with fail
        refine HD.out.mono ?_
        rintro e w1 ⟨rfl, hb⟩
        go_wp2
        go_roundw
        case rel => exact ⟨k + 1, by omega, by go_num, HX.out (by first | rfl | trivial), bstep HW.out hb⟩
        case measure => simp [intOf]; omega
      · go_wp2_with fail
        refine HD.out.mono ?_
        rintro e w1 ⟨rfl, hb⟩
        go_wp2
        go_ret
        exact ⟨by rw [HO.out (by first | rfl | trivial)]; rfl, bstep HW.out hb⟩
    · obtain rfl : k = l.length := by omega
      have HH := hide (firstI_none (p := P) (l := l) (fun j hj => HN.out j hj hj))
      go_wp2
      go_ret
      exact ⟨by rw [HH.out]; rfl, HW.out⟩
theorem containsAr_any (a : Option Addr) (cap : Nat) (l : List ArL) (w : World) (hr : RdR w a l) (hl : l.length ≤ 140737488355328) :
    Calls Try.prog 26 #[.slice a l.length cap, .func (.func 27) #[] #[]] w fun e w' => e = .returned (.bool (l.any (fun x : ArL => !mayA x.a))) ∧ Below w.heap.size w w' := by
  have H := hide (indexAr_any a cap l w hr hl)
  have E := hide (firstI_any (fun x : ArL => !mayA x.a) l)
  clear hr hl
  go_enter Try.func26, Try.ntmps26
  go_wp2_with (go_at_call 41; refine H.out.mono ?_; rintro e w1 ⟨rfl, hb⟩)
  go_ret
  exact ⟨by rw [← E.out]; simp, hb⟩
theorem check14_any (a : Option Addr) (cap : Nat) (l : List ArL) (w : World) (hr : RdR w a l) (hl : l.length ≤ 140737488355328) :
    Calls Try.prog 14 #[.slice a l.length cap] w fun e w' => e = .returned (.bool (l.all (fun x : ArL => mayA x.a))) ∧ Below w.heap.size w w' := by
  have H := hide (containsAr_any a cap l w hr hl)
  have E : (!(l.any (fun x : ArL => !mayA x.a))) = l.all (fun x : ArL => mayA x.a) := by rw [List.all_eq_not_any_not]
  rw [← E]
  clear hr hl E
  generalize l.any (fun x : ArL => !mayA x.a) = t at *
  go_enter Try.func14, Try.ntmps14
  go_wp2_with (go_at_call 26; refine H.out.mono ?_; rintro e w1 ⟨rfl, hb⟩)
  go_ret
  exact ⟨by simp, hb⟩
end Go.Proofs.Ytngeclnlgoamkaa
