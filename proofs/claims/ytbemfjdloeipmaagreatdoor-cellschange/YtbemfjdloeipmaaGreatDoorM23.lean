/- Pieces of the proof: CeL, CeH. -/
import Derived.Test.YtbemfjdloeipmaaGreatDoorM21
import Derived.Test.YtbemfjdloeipmaaGreatDoorM17
import Derived.RegionTactic
import Derived.Deep.RegionLaw
/- package cells: Check. -/
namespace Go.Proofs.YtbemfjdloeipmaaGreatDoor
open Go.RowKit

/- Arrays that can be read. -/
structure RdR (W : World) (a : Option Addr) (xs : List ArL) : Prop where
  rd : xs = [] ∨ ∃ p off, a = some ⟨p, off, none⟩ ∧ p < W.heap.size ∧ ∀ i (h : i < xs.length) j u, (xs[i].cells)[j]? = some u → W.cell? ⟨p, off + i * 7 + j, none⟩ = some u
  ok : ∀ x ∈ xs, ArR W x
theorem RdR.below {W W' : World} {a : Option Addr} {xs : List ArL} (h : RdR W a xs) (hb : Below W.heap.size W W') : RdR W' a xs := by
  refine ⟨?_, fun x hx => (h.ok x hx).below hb⟩
  rcases h.rd with h | ⟨p, off, e, hp, hc⟩
  · exact .inl h
  · exact .inr ⟨p, off, e, Nat.lt_of_lt_of_le hp hb.size, fun i hi j u hu => (hb.cell (p := ⟨p, _, none⟩) hp).trans (hc i hi j u hu)⟩
theorem As.rd {w W : World} {a : Option Addr} {n cap : Nat} {xs : List ArL} (h : As w W (.slice a n cap) xs) : RdR W a xs ∧ n = xs.length := by
  have hok : ∀ x ∈ xs, ArR W x := fun x hx => by
    obtain ⟨h1, h2, h3, h4⟩ := h.ok x hx
    obtain ⟨a, ca, cc, la, lc⟩ := x
    exact h1.r h2
  rcases own_form h.own with ⟨hv, hn⟩ | ⟨g, c, hv, _, hlt, _⟩
  · injection hv with e1 e2 e3
    subst e1 e2 e3
    exact ⟨⟨.inl (List.length_eq_zero_iff.1 hn), hok⟩, hn.symm⟩
  · injection hv with e1 e2 e3
    subst e1 e2 e3
    exact ⟨⟨.inr ⟨g, 0, rfl, hlt, fun i hi j u hu => own_cell arl_len h.own rfl i hi j u hu⟩, hok⟩, rfl⟩
theorem badAr_any (x : ArL) (w : World) (hx : ArR w x) : Calls Tryz.prog 132 #[x.val] w fun e w' => e = .returned (.bool (!mayA x.a)) ∧ Below w.heap.size w w' := by
  have HM : Hid (∀ W, Below w.heap.size w W → _) := fun W hb => mayBe_any x W (hx.below hb)
  clear hx
  generalize mayA x.a = t at *
  obtain ⟨⟨name, kind, aw, rate, burst, cs, ls⟩, ca, cc, la, lc⟩ := x
  simp only [ArL.val] at *
  generalize cs.length = n1 at *
  generalize ls.length = n2 at *
  go_enter Tryz.func132, Tryz.ntmps132
  go_wp2_with fail
  refine (HM.out _ (below1 _ _)).mono ?_
  rintro e w1 ⟨rfl, hb⟩
  go_wp2
  go_ret
  exact ⟨by simp, bstep (below1 _ _) hb⟩
set_option maxRecDepth 100000 in
set_option maxHeartbeats 4000000 in
theorem indexAr_any (a : Option Addr) (cap : Nat) (l : List ArL) (w : World) (hr : RdR w a l) (hl : l.length ≤ 140737488355328) :
    Calls Tryz.prog 205 #[.slice a l.length cap, .func (.func 132) #[] #[]] w fun e w' => e = .returned (.int .i64 (firstI (fun x : ArL => !mayA x.a) l)) ∧ Below w.heap.size w w' := by
  have HR := hide hr
  have HC0 : Hid (∀ i (h : i < l.length) W, Below w.heap.size w W → _) := fun i h W hb => badAr_any l[i] W ((hr.ok _ (List.getElem_mem h)).below hb)
  clear hr
  generalize hP : (fun x : ArL => !mayA x.a) = P at *
  have HC : Hid (∀ i (h : i < l.length) W, Below w.heap.size w W → Calls Tryz.prog 132 #[l[i].val] W fun e w' => e = .returned (.bool (P l[i])) ∧ Below W.heap.size W w') := fun i h W hb => by rw [← hP]; exact HC0.out i h W hb
  clear HC0 hP
  go_enter Tryz.func205, Tryz.ntmps205
  go_wp2
  go_loopw [8] (fun i wr => ∃ k : Nat, k ≤ l.length ∧ i = .int .i64 k ∧ (∀ j (hj : j < k) (hj' : j < l.length), P l[j] = false) ∧ Below w.heap.size w wr) (fun i _ => l.length - (intOf i).toNat)
  case atStart => exact ⟨0, by omega, rfl, fun j hj => absurd hj (by omega), Below.refl _ _⟩
  case round =>
    obtain ⟨k, hk, rfl, hn, hb⟩ := hrel
    have HN := hide hn
    have HW := hide hb
    clear hn hb
    by_cases hlt : k < l.length
    · obtain ⟨q, off, rfl, hp, hcl⟩ : ∃ p off, a = some ⟨p, off, none⟩ ∧ p < wr.heap.size ∧ ∀ i (h : i < l.length) j u, (l[i].cells)[j]? = some u → wr.cell? ⟨p, off + i * 7 + j, none⟩ = some u := by
        rcases (HR.out.below HW.out).rd with h | h
        · rw [h] at hlt; simp at hlt
        · exact h
      have q0 := hcl k hlt 0 _ rfl
      have q1 := hcl k hlt 1 _ rfl
      have q2 := hcl k hlt 2 _ rfl
      have q3 := hcl k hlt 3 _ rfl
      have q4 := hcl k hlt 4 _ rfl
      have q5 := hcl k hlt 5 _ rfl
      have q6 := hcl k hlt 6 _ rfl
      have hlI : (k : Int) < (l.length : Int) := by omega
      have HD := hide (HC.out k hlt wr HW.out)
      have HX : Hid (P l[k] = false → ∀ j (hj : j < k + 1) (hj' : j < l.length), P l[j] = false) := fun ho j hj hj' => by
        by_cases e : j = k
        · subst e; exact ho
        · exact HN.out j (by omega) hj'
      have HO : Hid (P l[k] = true → firstI P l = k) := fun ho => firstI_hit hlt ho (fun j hj => HN.out j hj (by omega))
      clear hcl hp
      generalize P l[k] = t at *
      generalize l[k] = x at *
      obtain ⟨⟨name, kind, aw, rate, burst, cs, ls⟩, ca, cc, la, lc⟩ := x
      simp only [ArL.val, Nat.add_zero] at *
      generalize cs.length = n1 at *
      generalize ls.length = n2 at *
      cases t
      · go_wp2_with fail
        refine HD.out.mono ?_
        rintro e w1 ⟨rfl, hb⟩
        go_wp2
        go_roundw
        case rel => exact ⟨k + 1, by omega, by go_num, HX.out (by first | rfl | trivial), bstep HW.out hb⟩
        case measure => simp [intOf]; omega
      · go_wp2_with fail
        refine HD.out.mono ?_
        rintro e w1 ⟨rfl, hb⟩
        go_wp2
        go_ret
        exact ⟨by rw [HO.out (by first | rfl | trivial)]; rfl, bstep HW.out hb⟩
    · obtain rfl : k = l.length := by omega
      have HH := hide (firstI_none (p := P) (l := l) (fun j hj => HN.out j hj hj))
      go_wp2
      go_ret
      exact ⟨by rw [HH.out]; rfl, HW.out⟩
theorem containsAr_any (a : Option Addr) (cap : Nat) (l : List ArL) (w : World) (hr : RdR w a l) (hl : l.length ≤ 140737488355328) :
    Calls Tryz.prog 131 #[.slice a l.length cap, .func (.func 132) #[] #[]] w fun e w' => e = .returned (.bool (l.any (fun x : ArL => !mayA x.a))) ∧ Below w.heap.size w w' := by
  have H := hide (indexAr_any a cap l w hr hl)
  have E := hide (firstI_any (fun x : ArL => !mayA x.a) l)
  clear hr hl
  go_enter Tryz.func131, Tryz.ntmps131
  go_wp2_with (go_at_call 205; refine H.out.mono ?_; rintro e w1 ⟨rfl, hb⟩)
  go_ret
  exact ⟨by rw [← E.out]; simp, hb⟩
theorem check14_any (a : Option Addr) (cap : Nat) (l : List ArL) (w : World) (hr : RdR w a l) (hl : l.length ≤ 140737488355328) :
    Calls Tryz.prog 22 #[.slice a l.length cap] w fun e w' => e = .returned (.bool (l.all (fun x : ArL => mayA x.a))) ∧ Below w.heap.size w w' := by
  have H := hide (containsAr_any a cap l w hr hl)
  have E : (!(l.any (fun x : ArL => !mayA x.a))) = l.all (fun x : ArL => mayA x.a) := by rw [List.all_eq_not_any_not]
  rw [← E]
  clear hr hl E
  generalize l.any (fun x : ArL => !mayA x.a) = t at *
  go_enter Tryz.func22, Tryz.ntmps22
  go_wp2_with (go_at_call 131; refine H.out.mono ?_; rintro e w1 ⟨rfl, hb⟩)
  go_ret
  exact ⟨by simp, hb⟩
end Go.Proofs.YtbemfjdloeipmaaGreatDoor
/- package cells: Count. -/
namespace Go.Proofs.YtbemfjdloeipmaaGreatDoor
open Go.RowKit

def countC (a : Ar) (i : Nb) : Int := (findA 4 a i).2
def inc (b : Nb) : Nb := ⟨64, 0, IntKind.u64.wrap (b.lo + 1)⟩
set_option maxRecDepth 100000 in
set_option maxHeartbeats 4000000 in
theorem count_no (x : ArL) (i : Nb) (w : World) (hx : ArR w x) (hi : NbR i) (c : Int) (hc : countC x.a i = c) (h0 : c ≠ 0) :
    Calls Tryz.prog 7 #[x.val, i.val] w fun e w' => e = .returned (.tuple #[zeroV, .int .i64 c]) ∧ Below w.heap.size w w' := by
  have HF : Hid (∀ W, Below w.heap.size w W → _) := fun W hb => cfind_any 4 x i W (hx.below hb) hi (by decide)
  unfold countC at hc
  rw [hc] at HF
  have h1 : (c == 0) = false := by simp [h0]
  have h2 : (c = 0) = False := by simp [h0]
  generalize (findA 4 x.a i).1 = d at *
  clear hx hi h0 hc
  obtain ⟨⟨name, kind, aw, rate, burst, cs, ls⟩, ca, cc, la, lc⟩ := x
  obtain ⟨iw, ih, il⟩ := i
  simp only [ArL.val, Nb.val, zeroV] at *
  generalize cs.length = n1 at *
  generalize ls.length = n2 at *
  go_enter Tryz.func7, Tryz.ntmps7
  go_wp2_with fail
  refine (HF.out _ (below4 _ _ _ _ _)).mono ?_
  rintro e w2 ⟨rfl, hb⟩
  have BB := hide (bstep (below4 _ _ _ _ _) hb)
  have K4 := hide (heap_below hb (heap_past _ (heap_trd _ _ _ _ _)))
  clear hb
  go_wp2_with (refine wpList_storeA rfl 26 _ _ rfl (w.heap.size + 1 + 1) zeroC _ 26 rfl rfl sz33 K4.out rfl zero_one ?_; intro w5 hw5; have HW5 := hide hw5; clear hw5)
  have R5 : w5.heap[w.heap.size + 1 + 1]? = some (.cells zeroC.toArray 26 (0, 0)) := by rw [HW5.out]; exact got0 K4.out rfl
  have F5 : Fr (· = w.heap.size + 1 + 1) w2 w5 := by rw [HW5.out]; exact fr_all _ _ _ _
  refine bodyPost_ret (res_pair (cs := zeroC) (v := .int .i64 c) Tryz.results7 (by simp) (by simp) agg33 sz33 R5) rfl ⟨rfl, ?_⟩
  exact BB.out.trans (F5.below (fun b e => by omega) BB.out.size)
set_option maxRecDepth 100000 in
set_option maxHeartbeats 8000000 in
theorem count_yes (x : ArL) (i : Nb) (w : World) (hx : ArR w x) (hi : NbR i) (hc : countC x.a i = 0) :
    Calls Tryz.prog 7 #[x.val, i.val] w fun e w' => ∃ ca la, e = .returned (.tuple #[arV (x.a.put i.lo.toNat (inc (x.a.cs.getD i.lo.toNat nb0))) ca la, .int .i64 0]) ∧ ArN w' w.heap.size (x.a.put i.lo.toNat (inc (x.a.cs.getD i.lo.toNat nb0))) ca la ∧ Below w.heap.size w w' := by
  have HF : Hid (∀ W, Below w.heap.size w W → _) := fun W hb => cfind_any 4 x i W (hx.below hb) hi (by decide)
  unfold countC at hc
  obtain ⟨-, hm, -, -, h5, h6⟩ := findA_yes hc
  rw [hc, h6] at HF
  obtain ⟨-, hl1, hl2⟩ := may_len hm
  obtain ⟨k, hk⟩ := Int.eq_ofNat_of_zero_le hi.lo.1
  have hk2 : k < x.a.cs.length := by omega
  have hkI : ((k : Int) < (x.a.cs.length : Int)) := by omega
  rw [hk, Int.toNat_natCast, List.getD_eq_getElem?_getD, List.getElem?_eq_getElem hk2, Option.getD_some]
  obtain ⟨y, hy⟩ : ∃ y, y = x.a.cs[k] := ⟨_, rfl⟩
  rw [← hy]
  have HWD : Hid (Pure 27 #[.int .u64 (IntKind.u64.wrap (y.lo + 1))] _) := word_any _
  have HWI : Hid (∀ W, Below w.heap.size w W → _) := fun W hb => with_any x k (inc y) W (hx.below hb) (by omega) (by omega) hk2
  have HC : Hid (∀ W, Below w.heap.size w W → ∃ p off, x.ca = some ⟨p, off, none⟩ ∧ W.cell? ⟨p, off + k * 3 + 2, none⟩ = some (.int .u64 y.lo)) := fun W hb => by
    obtain ⟨p, off, e, _, hcl⟩ := (hx.cs.below hb).some (by omega)
    exact ⟨p, off, e, by rw [hy]; exact (hcl k hk2).2.2⟩
  suffices H : ∀ Q : Ending → World → Prop, (∀ ca la W', OwnR W' w.heap.size ca 29 (flat Nb.cells (x.a.cs.set k (inc y))) → OwnR W' w.heap.size la 3 (flat intC x.a.ls) → Below w.heap.size w W' → Q (.returned (.tuple #[.agg #[.string x.a.name, .int .u8 x.a.kind, .int .i64 x.a.w, .int .i64 x.a.rate, .int .i64 x.a.burst, .slice ca x.a.cs.length x.a.cs.length, .slice la x.a.ls.length x.a.ls.length], .int .i64 0])) W') → Calls Tryz.prog 7 #[x.val, i.val] w Q from
    H _ (fun ca la W' h1 h2 h3 => ⟨ca, la, by rw [arV_put], ⟨h1, h2⟩, h3⟩)
  intro Q hQ
  have HQ := hide hQ
  clear hQ hx hi hc hm h5 h6 hl1 hl2 hy hk2
  generalize flat Nb.cells (x.a.cs.set k (inc y)) = CS at *
  simp only [inc] at HWI
  generalize y.lo = u at *
  obtain ⟨⟨name, kind, aw, rate, burst, cs, ls⟩, ca, cc, la, lc⟩ := x
  obtain ⟨iw, ih, il⟩ := i
  simp only [ArL.val, Nb.val] at *
  subst hk
  generalize flat intC ls = LS at *
  generalize cs.length = n1 at *
  generalize ls.length = n2 at *
  have hfl := field0
  go_enter Tryz.func7, Tryz.ntmps7
  go_wp2_with fail
  refine (HF.out _ (below4 _ _ _ _ _)).mono ?_
  rintro e w2 ⟨rfl, hb⟩
  have BB := hide (bstep (below4 _ _ _ _ _) hb)
  have K4 := hide (heap_below hb (heap_past _ (heap_trd _ _ _ _ _)))
  have K5 := hide (heap_below hb (heap_fth _ _ _ _ _ _))
  have HZ := hide (show w.heap.size + 4 ≤ w2.heap.size by have := hb.size; simp at this; omega)
  obtain ⟨p0, p1, p2, p3, p4, p5, p6⟩ := at7 K5.out
  obtain ⟨p, off, rfl, q2⟩ := HC.out _ BB.out
  clear hb
  go_wp2
  go_region_with (first
    | (go_at_call 27; refine (HWD.out _).mono ?_; rintro e w3 ⟨rfl, hb⟩; have BB3 := hide (bstep BB.out.drew hb); have k4 := heap_below hb K4.out; have k5 := heap_below hb K5.out; have K43 := hide k4; have HZ3 := hide (Nat.le_trans HZ.out hb.size); obtain ⟨r0, r1, r2, r3, r4, r5, r6⟩ := at7 k5; clear hb k4 k5)
    | (go_at_call 26; refine (HWI.out _ BB3.out).mono ?_; rintro e w4 ⟨ca1, la1, rfl, ho1, ho2, hb⟩; have BB4 := hide (bstep BB3.out hb); have K44 := hide (heap_below hb K43.out); have HO1 := hide (ho1.mono HZ3.out); have HO2 := hide (ho2.mono HZ3.out); obtain ⟨t0, t1, t2, t3, t4, t5, t6⟩ := at7 K44.out; have g0 := softA K44.out 0; have g1 := softA K44.out 1; have g2 := softA K44.out 2; have g3 := softA K44.out 3; have g4 := softA K44.out 4; have g5 := softA K44.out 5; have g6 := softA K44.out 6; clear ho1 ho2 hb))
  all_goals
    have F5 := hide (fr_all (w.heap.size + 1 + 1) [.string name, .int .u8 kind, .int .i64 aw, .int .i64 rate, .int .i64 burst, .slice ca1 n1 n1, .slice la1 n2 n2] w4 0)
    have R5 := hide (got0 (cs := [.string name, .int .u8 kind, .int .i64 aw, .int .i64 rate, .int .i64 burst, .slice ca1 n1 n1, .slice la1 n2 n2]) K44.out rfl)
    simp only [setAll, Nat.zero_add, Nat.reduceAdd] at F5 R5
    go_wp2
    refine bodyPost_ret (res_pair (cs := [.string name, .int .u8 kind, .int .i64 aw, .int .i64 rate, .int .i64 burst, .slice ca1 n1 n1, .slice la1 n2 n2]) (v := .int .i64 0) Tryz.results7 (by simp [Act.put]) (by simp [Act.put]) agg33 sz33 R5.out) rfl ?_
    refine HQ.out _ _ _ ?_ ?_ ?_
    · exact (HO1.out.fr (by omega) F5.out).mono (by omega)
    · exact (HO2.out.fr (by omega) F5.out).mono (by omega)
    · exact BB4.out.trans (F5.out.below (fun b e => by omega) BB4.out.size)
end Go.Proofs.YtbemfjdloeipmaaGreatDoor
