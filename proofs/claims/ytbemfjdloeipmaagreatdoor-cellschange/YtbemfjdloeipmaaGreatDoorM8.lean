/- Pieces of the proof: CeC. -/
import Derived.Test.YtbemfjdloeipmaaGreatDoorM7
/- package cells: arrays that may be, and where a cell lies. -/
namespace Go.Proofs.YtbemfjdloeipmaaGreatDoor
open Go.RowKit

/- The array in a box of its own. -/
def arO (x : ArL) (t : TypeId) : Obj := .cells #[.string x.a.name, .int .u8 x.a.kind, .int .i64 x.a.w, .int .i64 x.a.rate, .int .i64 x.a.burst, .slice x.ca x.a.cs.length x.cc, .slice x.la x.a.ls.length x.lc] t (0, 0)
theorem badCell_any (x : ArL) (b : Nb) (hb : NbR b) (p : Nat) (w : World) (hx : w.heap[p]? = some (arO x 93)) :
    Calls Tryz.prog 204 #[b.val, .pointer (some ⟨p, 0, none⟩)] w fun e w' => e = .returned (.bool (!holdsB x.a b)) ∧ Below w.heap.size w w' := by
  have HH : Hid (Pure _ _ _) := holds_any x b hb
  obtain ⟨⟨name, kind, aw, rate, burst, cs, ls⟩, ca, cc, la, lc⟩ := x
  generalize holdsB ⟨name, kind, aw, rate, burst, cs, ls⟩ b = t at *
  obtain ⟨bw, bh, bl⟩ := b
  simp only [ArL.val, Nb.val, arO] at *
  generalize cs.length = n1 at *
  generalize ls.length = n2 at *
  obtain ⟨p0, p1, p2, p3, p4, p5, p6⟩ := at7 (heap_past (.cells #[.int .i64 bw, .int .u64 bh, .int .u64 bl] 29) hx)
  clear hx hb
  go_enter Tryz.func204, Tryz.ntmps204
  go_wp2_with fail
  refine (HH.out _).mono ?_
  rintro e w1 ⟨rfl, hb⟩
  go_wp2
  go_ret
  exact ⟨by simp, bstep (below1 _ _) hb⟩
set_option maxRecDepth 100000 in
set_option maxHeartbeats 4000000 in
theorem indexCell_any (a : Option Addr) (cap : Nat) (l : List Nb) (x : ArL) (p : Nat) (w : World) (hr : RdN w a l) (hl : l.length ≤ 140737488355328) (hn : ∀ b ∈ l, NbR b) (hx : w.heap[p]? = some (arO x 93)) :
    Calls Tryz.prog 214 #[.slice a l.length cap, .func (.func 204) #[] #[.pointer (some ⟨p, 0, none⟩)]] w fun e w' => e = .returned (.int .i64 (firstI (fun b : Nb => !holdsB x.a b) l)) ∧ Below w.heap.size w w' := by
  have HR := hide hr
  have HC0 : Hid (∀ i (h : i < l.length) W, Below w.heap.size w W → _) := fun i h W hb => badCell_any x l[i] (hn _ (List.getElem_mem h)) p W (heap_below hb hx)
  clear hr hn hx
  generalize hP : (fun b : Nb => !holdsB x.a b) = P at *
  have HC : Hid (∀ i (h : i < l.length) W, Below w.heap.size w W → Calls Tryz.prog 204 #[l[i].val, .pointer (some ⟨p, 0, none⟩)] W fun e w' => e = .returned (.bool (P l[i])) ∧ Below W.heap.size W w') := fun i h W hb => by rw [← hP]; exact HC0.out i h W hb
  clear HC0 hP
  go_enter Tryz.func214, Tryz.ntmps214
  go_wp2
  go_loopw [8] (fun i wr => ∃ k : Nat, k ≤ l.length ∧ i = .int .i64 k ∧ (∀ j (hj : j < k) (hj' : j < l.length), P l[j] = false) ∧ Below w.heap.size w wr) (fun i _ => l.length - (intOf i).toNat)
  case atStart => exact ⟨0, by omega, rfl, fun j hj => absurd hj (by omega), Below.refl _ _⟩
  case round =>
    obtain ⟨k, hk, rfl, hn, hb⟩ := hrel
    have HN := hide hn
    have HW := hide hb
    clear hn hb
    by_cases hlt : k < l.length
    · obtain ⟨q, off, rfl, hp, hcl⟩ := (HR.out.below HW.out).some (by omega)
      obtain ⟨q0, q1, q2⟩ := hcl k hlt
      have hlI : (k : Int) < (l.length : Int) := by omega
      have HD := hide (HC.out k hlt wr HW.out)
      have HX : Hid (P l[k] = false → ∀ j (hj : j < k + 1) (hj' : j < l.length), P l[j] = false) := fun ho j hj hj' => by
        by_cases e : j = k
        · subst e; exact ho
        · exact HN.out j (by omega) hj'
      have HO : Hid (P l[k] = true → firstI P l = k) := fun ho => firstI_hit hlt ho (fun j hj => HN.out j hj (by omega))
      clear hcl hp
      generalize P l[k] = t at *
      generalize l[k] = b at *
      obtain ⟨bw, bh, bl⟩ := b
      simp only [Nb.val] at *
      cases t
      · go_wp2_with fail
        refine HD.out.mono ?_
        rintro e w1 ⟨rfl, hb⟩
        go_wp2
        go_roundw
        case rel => exact ⟨k + 1, by omega, by go_num, HX.out (by first | rfl | trivial), bstep HW.out hb⟩
        case measure => simp [intOf]; omega
      · go_wp2_with fail
        refine HD.out.mono ?_
        rintro e w1 ⟨rfl, hb⟩
        go_wp2
        go_ret
        exact ⟨by rw [HO.out (by first | rfl | trivial)]; rfl, bstep HW.out hb⟩
    · obtain rfl : k = l.length := by omega
      have HH := hide (firstI_none (p := P) (l := l) (fun j hj => HN.out j hj hj))
      go_wp2
      go_ret
      exact ⟨by rw [HH.out]; rfl, HW.out⟩
theorem containsCell_any (a : Option Addr) (cap : Nat) (l : List Nb) (x : ArL) (p : Nat) (w : World) (hr : RdN w a l) (hl : l.length ≤ 140737488355328) (hn : ∀ b ∈ l, NbR b) (hx : w.heap[p]? = some (arO x 93)) :
    Calls Tryz.prog 203 #[.slice a l.length cap, .func (.func 204) #[] #[.pointer (some ⟨p, 0, none⟩)]] w fun e w' => e = .returned (.bool (l.any (fun b : Nb => !holdsB x.a b))) ∧ Below w.heap.size w w' := by
  have H := hide (indexCell_any a cap l x p w hr hl hn hx)
  have E := hide (firstI_any (fun b : Nb => !holdsB x.a b) l)
  clear hr hl hn hx
  go_enter Tryz.func203, Tryz.ntmps203
  go_wp2_with (go_at_call 214; refine H.out.mono ?_; rintro e w1 ⟨rfl, hb⟩)
  go_ret
  exact ⟨by rw [← E.out]; simp, hb⟩
set_option maxHeartbeats 2000000 in
theorem mayBe_any (x : ArL) (w : World) (hx : ArR w x) : Calls Tryz.prog 130 #[x.val] w fun e w' => e = .returned (.bool (mayA x.a)) ∧ Below w.heap.size w w' := by
  have hmf : ∀ (fn : Fn) (first cap : Array Value) (w : World), (Instr.makeFunc fn first cap).run Tryz.prog w = .ok (.func fn first cap) w := fun _ _ _ _ => rfl
  have HF : Hid (∀ W, Below w.heap.size w W → _) := fun W hb => frame_any x W (hx.below hb)
  have HN : Hid (∀ W, _) := fun W => cfrom_any 1 x.a.cs.length 4096 W
  have HC : Hid (∀ W p, Below w.heap.size w W → W.heap[p]? = some (arO x 93) → _) := fun W p hb hp => containsCell_any x.ca x.cc x.a.cs x p W (hx.cs.below hb) hx.cn hx.cr hp
  clear hx
  simp only [mayA]
  generalize frameB x.a = t1 at *
  generalize fromB 1 x.a.cs.length 4096 = t2 at *
  generalize x.a.cs.any (fun b => !holdsB x.a b) = t3 at *
  obtain ⟨⟨name, kind, aw, rate, burst, cs, ls⟩, ca, cc, la, lc⟩ := x
  simp only [ArL.val, arO] at *
  generalize cs.length = n1 at *
  generalize ls.length = n2 at *
  cases t1
  · go_enter Tryz.func130, Tryz.ntmps130
    go_wp2_with fail
    refine (HF.out _ (below1 _ _)).mono ?_
    rintro e w1 ⟨rfl, hb⟩
    go_wp2
    go_ret
    exact ⟨by simp, bstep (below1 _ _) hb⟩
  · cases t2
    · go_enter Tryz.func130, Tryz.ntmps130
      go_wp2_with fail
      refine (HF.out _ (below1 _ _)).mono ?_
      rintro e w1 ⟨rfl, hb⟩
      obtain ⟨p0, p1, p2, p3, p4, p5, p6⟩ := at7 (heap_below hb (heap_alloc_new _ _))
      go_wp2_with fail
      refine (HN.out _).mono ?_
      rintro e w2 ⟨rfl, rfl⟩
      go_wp2
      go_ret
      exact ⟨by simp, bstep (below1 _ _) hb⟩
    · go_enter Tryz.func130, Tryz.ntmps130
      go_wp2_with fail
      refine (HF.out _ (below1 _ _)).mono ?_
      rintro e w1 ⟨rfl, hb⟩
      have h7 := heap_below hb (heap_alloc_new _ _)
      obtain ⟨p0, p1, p2, p3, p4, p5, p6⟩ := at7 h7
      have H7 := hide h7
      have HB := hide (bstep (below1 _ _) hb)
      clear h7 hb
      go_wp2_with fail
      refine (HN.out _).mono ?_
      rintro e w2 ⟨rfl, rfl⟩
      go_wp2_with fail
      refine (HC.out _ _ HB.out H7.out).mono ?_
      rintro e w3 ⟨rfl, hb⟩
      go_wp2
      go_ret
      exact ⟨by simp, bstep HB.out hb⟩
/- Where the cell of a number lies, and its error. -/
def findA (k : Int) (a : Ar) (i : Nb) : Int × Int :=
  if (a.kind == k && (mayA a && i.ok)) = true then if i.hi = 0 ∧ i.lo < a.cs.length then (i.lo, 0) else (0, 11) else (0, 1)
set_option maxHeartbeats 2000000 in
theorem cfind_no (k : Int) (x : ArL) (i : Nb) (w : World) (hx : ArR w x) (hi : NbR i) (hk : 0 ≤ k ∧ k < 256) (h : (x.a.kind == k && (mayA x.a && i.ok)) = false) : Calls Tryz.prog 25 #[x.val, .int .u8 k, i.val] w fun e w' => e = .returned (.tuple #[.int .i64 0, .int .i64 1]) ∧ Below w.heap.size w w' := by
  have HM : Hid (∀ W, Below w.heap.size w W → _) := fun W hb => mayBe_any x W (hx.below hb)
  have HK : Hid (∀ W, _) := fun W => check_any i.w i.hi i.lo W hi.hi.1 hi.hi.2 hi.lo.1 hi.lo.2
  clear hx hi
  simp only [Nb.ok] at *
  generalize mayA x.a = t1 at *
  generalize okB i.w i.hi i.lo = t2 at *
  obtain ⟨⟨name, kind, aw, rate, burst, cs, ls⟩, ca, cc, la, lc⟩ := x
  obtain ⟨iw, ih, il⟩ := i
  simp only [ArL.val, Nb.val] at *
  generalize cs.length = n1 at *
  generalize ls.length = n2 at *
  by_cases e0 : kind = k
  · subst e0
    rw [beq_self_eq_true, Bool.true_and] at h
    cases t1
    · clear h
      go_enter Tryz.func25, Tryz.ntmps25
      go_wp2_with fail
      refine (HM.out _ (below2 _ _ _)).mono ?_
      rintro e w1 ⟨rfl, hb⟩
      go_wp2
      refine bodyPost_ret (v := .tuple #[.int .i64 0, .int .i64 1]) (by simp [results, Tryz.results25, go_sem]) rfl ⟨rfl, ?_⟩
      exact bstep (below2 _ _ _) hb
    · rw [Bool.true_and] at h
      subst h
      go_enter Tryz.func25, Tryz.ntmps25
      go_wp2_with fail
      refine (HM.out _ (below2 _ _ _)).mono ?_
      rintro e w1 ⟨rfl, hb⟩
      obtain ⟨p0, p1, p2, p3, p4, p5, p6⟩ := at7 (heap_below hb (heap_past _ (heap_alloc_new _ _)))
      obtain ⟨q0, q1, q2, -⟩ := at3 (heap_below hb (heap_snd _ _ _ _))
      go_wp2_with fail
      refine (HK.out _).mono ?_
      rintro e w2 ⟨rfl, hb2⟩
      go_wp2
      refine bodyPost_ret (v := .tuple #[.int .i64 0, .int .i64 1]) (by simp [results, Tryz.results25, go_sem]) rfl ⟨rfl, ?_⟩
      exact bstep (bstep (below2 _ _ _) hb) hb2
  · have e1 : (kind == k) = false := by simp [e0]
    clear h e0
    go_enter Tryz.func25, Tryz.ntmps25
    go_wp2
    refine bodyPost_ret (v := .tuple #[.int .i64 0, .int .i64 1]) (by simp [results, Tryz.results25, go_sem]) rfl ⟨rfl, ?_⟩
    exact below2 _ _ _
set_option maxHeartbeats 2000000 in
theorem find_yes (k : Int) (x : ArL) (i : Nb) (w : World) (hx : ArR w x) (hi : NbR i) (hk : x.a.kind = k) (hm : mayA x.a = true) (ho : i.ok = true) (v c : Int) (h : (i.hi = 0 ∧ i.lo < x.a.cs.length ∧ v = i.lo ∧ c = 0) ∨ (¬ (i.hi = 0 ∧ i.lo < x.a.cs.length) ∧ v = 0 ∧ c = 11)) : Calls Tryz.prog 25 #[x.val, .int .u8 k, i.val] w fun e w' => e = .returned (.tuple #[.int .i64 v, .int .i64 c]) ∧ Below w.heap.size w w' := by
  have HM : Hid (∀ W, Below w.heap.size w W → _) := fun W hb => mayBe_any x W (hx.below hb)
  have HK : Hid (∀ W, _) := fun W => check_any i.w i.hi i.lo W hi.hi.1 hi.hi.2 hi.lo.1 hi.lo.2
  have HL := hide hx.cn
  have HI := hide hi.lo
  clear hx hi
  simp only [Nb.ok] at *
  rw [hm] at HM
  rw [ho] at HK
  clear hm ho
  obtain ⟨⟨name, kind, aw, rate, burst, cs, ls⟩, ca, cc, la, lc⟩ := x
  obtain ⟨iw, ih, il⟩ := i
  simp only [ArL.val, Nb.val] at *
  subst hk
  generalize cs.length = n1 at *
  generalize ls.length = n2 at *
  have w1 : IntKind.u64.wrap (n1 : Int) = n1 := by rw [IntKind.wrap_u64]; have := HL.out; omega
  have w2 : IntKind.i64.wrap il = il ∨ ¬ il < n1 := by
    by_cases hh : il < n1
    · left; rw [IntKind.wrap_i64]; have := HL.out; have := HI.out.1; omega
    · exact .inr hh
  clear HL HI
  by_cases e1 : ih = 0
  · subst e1
    by_cases e2 : il < n1
    · obtain ⟨-, -, hv, hc⟩ | ⟨hn, -, -⟩ := h
      · subst v
        subst c
        rcases w2 with w2 | w2
        · have e3 : (il ≥ (n1 : Int)) = False := by simp; omega
          have e4 : ((n1 : Int) ≤ il) = False := by simp; omega
          clear e2
          go_enter Tryz.func25, Tryz.ntmps25
          go_wp2_with fail
          refine (HM.out _ (below2 _ _ _)).mono ?_
          rintro e w1 ⟨rfl, hb⟩
          have h7 := heap_below hb (heap_past _ (heap_alloc_new _ _))
          have h3 := heap_below hb (heap_snd _ _ _ _)
          obtain ⟨p0, p1, p2, p3, p4, p5, p6⟩ := at7 h7
          obtain ⟨q0, q1, q2, -⟩ := at3 h3
          have H7 := hide h7
          have H3 := hide h3
          clear h7 h3
          go_wp2_with fail
          refine (HK.out _).mono ?_
          rintro e w2 ⟨rfl, hb2⟩
          obtain ⟨r0, r1, r2, r3, r4, r5, r6⟩ := at7 (heap_below hb2 H7.out)
          obtain ⟨s0, s1, s2, -⟩ := at3 (heap_below hb2 H3.out)
          go_wp2
          refine bodyPost_ret (v := .tuple #[.int .i64 il, .int .i64 0]) (by simp [results, Tryz.results25, go_sem]) rfl ⟨rfl, ?_⟩
          exact bstep (bstep (below2 _ _ _) hb) hb2
        · exact absurd e2 w2
      · exact absurd ⟨rfl, e2⟩ hn
    · obtain ⟨-, hh, -⟩ | ⟨-, rfl, rfl⟩ := h
      · exact absurd hh e2
      · have e3 : (il ≥ (n1 : Int)) = True := by simp; omega
        have e4 : ((n1 : Int) ≤ il) = True := by simp; omega
        clear e2 w2
        go_enter Tryz.func25, Tryz.ntmps25
        go_wp2_with fail
        refine (HM.out _ (below2 _ _ _)).mono ?_
        rintro e w1 ⟨rfl, hb⟩
        have h7 := heap_below hb (heap_past _ (heap_alloc_new _ _))
        have h3 := heap_below hb (heap_snd _ _ _ _)
        obtain ⟨p0, p1, p2, p3, p4, p5, p6⟩ := at7 h7
        obtain ⟨q0, q1, q2, -⟩ := at3 h3
        have H7 := hide h7
        have H3 := hide h3
        clear h7 h3
        go_wp2_with fail
        refine (HK.out _).mono ?_
        rintro e w2 ⟨rfl, hb2⟩
        obtain ⟨r0, r1, r2, r3, r4, r5, r6⟩ := at7 (heap_below hb2 H7.out)
        obtain ⟨s0, s1, s2, -⟩ := at3 (heap_below hb2 H3.out)
        go_wp2
        refine bodyPost_ret (v := .tuple #[.int .i64 0, .int .i64 11]) (by simp [results, Tryz.results25, go_sem]) rfl ⟨rfl, ?_⟩
        exact bstep (bstep (below2 _ _ _) hb) hb2
  · obtain ⟨hh, -⟩ | ⟨-, rfl, rfl⟩ := h
    · exact absurd hh e1
    · have e3 : (ih == 0) = false := by simp [e1]
      have e4 : (ih = 0) = False := by simp [e1]
      clear e1 w2
      go_enter Tryz.func25, Tryz.ntmps25
      go_wp2_with fail
      refine (HM.out _ (below2 _ _ _)).mono ?_
      rintro e w1 ⟨rfl, hb⟩
      have h7 := heap_below hb (heap_past _ (heap_alloc_new _ _))
      have h3 := heap_below hb (heap_snd _ _ _ _)
      obtain ⟨p0, p1, p2, p3, p4, p5, p6⟩ := at7 h7
      obtain ⟨q0, q1, q2, -⟩ := at3 h3
      have H7 := hide h7
      have H3 := hide h3
      clear h7 h3
      go_wp2_with fail
      refine (HK.out _).mono ?_
      rintro e w2 ⟨rfl, hb2⟩
      obtain ⟨s0, s1, s2, -⟩ := at3 (heap_below hb2 H3.out)
      go_wp2
      refine bodyPost_ret (v := .tuple #[.int .i64 0, .int .i64 11]) (by simp [results, Tryz.results25, go_sem]) rfl ⟨rfl, ?_⟩
      exact bstep (bstep (below2 _ _ _) hb) hb2
theorem cfind_any (k : Int) (x : ArL) (i : Nb) (w : World) (hx : ArR w x) (hi : NbR i) (hk : 0 ≤ k ∧ k < 256) : Calls Tryz.prog 25 #[x.val, .int .u8 k, i.val] w fun e w' => e = .returned (.tuple #[.int .i64 (findA k x.a i).1, .int .i64 (findA k x.a i).2]) ∧ Below w.heap.size w w' := by
  unfold findA
  cases h : (x.a.kind == k && (mayA x.a && i.ok))
  · exact cfind_no k x i w hx hi hk h
  · rw [if_pos rfl]
    simp only [Bool.and_eq_true, beq_iff_eq] at h
    by_cases h2 : i.hi = 0 ∧ i.lo < x.a.cs.length
    · rw [if_pos h2]
      exact find_yes k x i w hx hi h.1 h.2.1 h.2.2 _ _ (.inl ⟨h2.1, h2.2, rfl, rfl⟩)
    · rw [if_neg h2]
      exact find_yes k x i w hx hi h.1 h.2.1 h.2.2 _ _ (.inr ⟨h2, rfl, rfl⟩)
end Go.Proofs.YtbemfjdloeipmaaGreatDoor
