/- Pieces of the proof: MtH, MtI. -/
import Derived.Test.YteflnicgohjiiaaGreatDoorM6
/- package match: may the matches of an entry be? -/
namespace Go.Proofs.YteflnicgohjiiaaGreatDoor
open Go.RowKit

theorem cellK {W : World} {b : Nat} (h : KiB W b) {i : Nat} {v : Value} (hi : kindsL[i]? = some v) : W.cell? ⟨b, i, none⟩ = some v := by rw [cellA h i]; simpa using hi
theorem KiB.below {W W' : World} {b : Nat} (h : KiB W b) (hb : Below W.heap.size W W') : KiB W' b := heap_below hb h
theorem TbB.below {W W' : World} {b : Nat} {x : TbL} (h : TbB W b x) (hb : Below W.heap.size W W') : TbB W' b x := heap_below hb h
def mmB (t : Tb) (i : Nat) (x : Mx) : Bool := wide x.v (t.ws.getD i 0) && mayK (t.ks.getD i 0) x (t.ws.getD i 0)
set_option maxRecDepth 100000 in
set_option maxHeartbeats 4000000 in
theorem mayAt_any (x : TbL) (tb rb i : Nat) (m : Mx) (hm : MxR m) (w : World) (hx : TbR w x) (ht : TbB w tb x) (hk : KiB w rb) (hi : i < x.t.ks.length) (hi' : i < x.t.ws.length) (k1 : 1 ≤ x.t.ks[i]) (k4 : x.t.ks[i] ≤ 4) :
    Calls Tryz.prog 245 #[.int .i64 i, m.val, .pointer (some ⟨tb, 0, none⟩), .pointer (some ⟨rb, 0, none⟩)] w fun e w' => e = .returned (.bool (mmB x.t i m)) ∧ Below w.heap.size w w' := by
  have E : mmB x.t i m = (wide m.v x.t.ws[i] && mayK x.t.ks[i] m x.t.ws[i]) := by simp [mmB, hi, hi']
  rw [E]
  clear E
  have hwr := hx.wr x.t.ws[i] (List.getElem_mem hi')
  have HW : Hid (Pure _ _ _) := isWide_any m.v x.t.ws[i] hm.v
  have HM : Hid (Pure _ _ _) := mayF_any x.t.ks[i] k1 k4 m x.t.ws[i] hm hwr.2
  have hlI : (i : Int) < (x.t.ks.length : Int) := by omega
  have hlJ : (i : Int) < (x.t.ws.length : Int) := by omega
  obtain ⟨p, off, ep, hp, hcl⟩ := hx.ks.some (by omega)
  obtain ⟨p', off', ep', hp', hcl'⟩ := hx.ws.some (by omega)
  have q0 := hcl i hi
  have q1 := hcl' i hi'
  have KM := hide (kindsL_may _ k1 k4)
  have HT := hide ht
  have HK := hide hk
  have hik : i < x.t.ks.length := hi
  have hiw : i < x.t.ws.length := hi'
  clear hcl hcl' hwr hm hx ht hk
  generalize x.t.ks[i] = k at *
  generalize x.t.ws[i] = n at *
  generalize hwd : wide m.v n = t1' at *
  generalize hmk : mayK k m n = t2' at *
  clear hwd hmk hi hi'
  obtain ⟨⟨ks, ws, size⟩, ka, kc, wa, wc⟩ := x
  simp only at *
  subst ep ep'
  obtain ⟨⟨vw, vh, vl⟩, ⟨mw, mh, ml⟩, len⟩ := m
  simp only [Mx.val, Nb.val] at *
  generalize hW1 : w.alloc (.cells #[.int .i64 vw, .int .u64 vh, .int .u64 vl, .int .i64 mw, .int .u64 mh, .int .u64 ml, .int .i64 len] 105) = W1
  have B1 : Below w.heap.size w W1 := hW1 ▸ below1 _ _
  have HB1 := hide B1
  obtain ⟨X, f, hX, hS, hcov⟩ := class_of (fun w' => Below W1.heap.size W1 w') W1.drew (Below.refl _ _).drew
  have HC0 : Hid (∃ x, W1.drew = f x) := hcov _ (Below.refl _ _).drew
  have HNX : Hid (∀ x w', Below (f x).heap.size (f x) w' → ∃ y, w' = f y) := fun x w' hb => hcov w' ((hS x).trans (hb.mono (hS x).size))
  have HSS := hide hS
  have HBX : Hid (∀ x, Below w.heap.size w (f x)) := fun x => bstep B1 (hS x)
  have hm7 : W1.heap[w.heap.size]? = some (.cells #[.int .i64 vw, .int .u64 vh, .int .u64 vl, .int .i64 mw, .int .u64 mh, .int .u64 ml, .int .i64 len] 105 (0, 0)) := hW1 ▸ heap_alloc_new _ _
  have t0 := fun x => (at7 (heap_below (hS x) hm7)).1
  have t1 := fun x => (at7 (heap_below (hS x) hm7)).2.1
  have t2 := fun x => (at7 (heap_below (hS x) hm7)).2.2.1
  have t3 := fun x => (at7 (heap_below (hS x) hm7)).2.2.2.1
  have t4 := fun x => (at7 (heap_below (hS x) hm7)).2.2.2.2.1
  have t5 := fun x => (at7 (heap_below (hS x) hm7)).2.2.2.2.2.1
  have t6 := fun x => (at7 (heap_below (hS x) hm7)).2.2.2.2.2.2
  have s0 := fun x => (at3 (heap_below (HBX.out x) HT.out)).1
  have s1 := fun x => (at3 (heap_below (HBX.out x) HT.out)).2.1
  have r0 := fun x => ((HBX.out x).cell (p := ⟨p, off + i, none⟩) hp).trans q0
  have r1 := fun x => ((HBX.out x).cell (p := ⟨p', off' + i, none⟩) hp').trans q1
  have u0 := fun x => cellK (HK.out.below (HBX.out x)) KM.out
  simp only at s0 s1
  have HW1 := hide hW1
  clear hcov hS B1 hm7 q0 q1 hW1
  rcases (by omega : k = 1 ∨ k = 2 ∨ k = 3 ∨ k = 4) with rfl | rfl | rfl | rfl
  · have r0' : ∀ x, (f x).cell? ⟨p, off + i, none⟩ = some (.int .u8 1) := r0
    have u0' : ∀ x, (f x).cell? ⟨rb, 2, none⟩ = some (.func (.func 233) #[] #[]) := u0
    have HM' : Hid (Pure 233 #[.agg #[.int .i64 vw, .int .u64 vh, .int .u64 vl, .int .i64 mw, .int .u64 mh, .int .u64 ml, .int .i64 len], .int .i64 n] (.bool t2')) := HM
    clear r0 u0 HM KM k1 k4
    cases t1'
    all_goals
      go_enter Tryz.func245, Tryz.ntmps245
      go_wp2
      rw [HW1.out]
      refine wp_region_class f (by kernel_rfl) (by kernel_rfl) HC0.out ?_
      repeat (first
        | go_big_quiet_skip
        | (go_big_quiet_want; go_big_quiet_op; first
            | go_big_quiet_on
            | (apply Exists.intro
               refine ⟨fun _ => ?_, ?_⟩
               · first
                  | (go_at_call 135; refine (HW.out _).mono ?_; rintro e' wn ⟨rfl, hb⟩; exact ⟨rfl, HNX.out _ _ hb⟩)
                  | (go_at_call 233; refine (HM'.out _).mono ?_; rintro e' wn ⟨rfl, hb⟩; exact ⟨rfl, HNX.out _ _ hb⟩)
               go_big_quiet_on)))
      refine wpQuiet_nil ?_
      rintro _ ⟨x, rfl⟩
      go_wp2
      go_ret
      exact ⟨rfl, HBX.out x⟩
  · have r0' : ∀ x, (f x).cell? ⟨p, off + i, none⟩ = some (.int .u8 2) := r0
    have u0' : ∀ x, (f x).cell? ⟨rb, 4, none⟩ = some (.func (.func 235) #[] #[]) := u0
    have HM' : Hid (Pure 235 #[.agg #[.int .i64 vw, .int .u64 vh, .int .u64 vl, .int .i64 mw, .int .u64 mh, .int .u64 ml, .int .i64 len], .int .i64 n] (.bool t2')) := HM
    clear r0 u0 HM KM k1 k4
    cases t1'
    all_goals
      go_enter Tryz.func245, Tryz.ntmps245
      go_wp2
      rw [HW1.out]
      refine wp_region_class f (by kernel_rfl) (by kernel_rfl) HC0.out ?_
      repeat (first
        | go_big_quiet_skip
        | (go_big_quiet_want; go_big_quiet_op; first
            | go_big_quiet_on
            | (apply Exists.intro
               refine ⟨fun _ => ?_, ?_⟩
               · first
                  | (go_at_call 135; refine (HW.out _).mono ?_; rintro e' wn ⟨rfl, hb⟩; exact ⟨rfl, HNX.out _ _ hb⟩)
                  | (go_at_call 235; refine (HM'.out _).mono ?_; rintro e' wn ⟨rfl, hb⟩; exact ⟨rfl, HNX.out _ _ hb⟩)
               go_big_quiet_on)))
      refine wpQuiet_nil ?_
      rintro _ ⟨x, rfl⟩
      go_wp2
      go_ret
      exact ⟨rfl, HBX.out x⟩
  · have r0' : ∀ x, (f x).cell? ⟨p, off + i, none⟩ = some (.int .u8 3) := r0
    have u0' : ∀ x, (f x).cell? ⟨rb, 6, none⟩ = some (.func (.func 238) #[] #[]) := u0
    have HM' : Hid (Pure 238 #[.agg #[.int .i64 vw, .int .u64 vh, .int .u64 vl, .int .i64 mw, .int .u64 mh, .int .u64 ml, .int .i64 len], .int .i64 n] (.bool t2')) := HM
    clear r0 u0 HM KM k1 k4
    cases t1'
    all_goals
      go_enter Tryz.func245, Tryz.ntmps245
      go_wp2
      rw [HW1.out]
      refine wp_region_class f (by kernel_rfl) (by kernel_rfl) HC0.out ?_
      repeat (first
        | go_big_quiet_skip
        | (go_big_quiet_want; go_big_quiet_op; first
            | go_big_quiet_on
            | (apply Exists.intro
               refine ⟨fun _ => ?_, ?_⟩
               · first
                  | (go_at_call 135; refine (HW.out _).mono ?_; rintro e' wn ⟨rfl, hb⟩; exact ⟨rfl, HNX.out _ _ hb⟩)
                  | (go_at_call 238; refine (HM'.out _).mono ?_; rintro e' wn ⟨rfl, hb⟩; exact ⟨rfl, HNX.out _ _ hb⟩)
               go_big_quiet_on)))
      refine wpQuiet_nil ?_
      rintro _ ⟨x, rfl⟩
      go_wp2
      go_ret
      exact ⟨rfl, HBX.out x⟩
  · have r0' : ∀ x, (f x).cell? ⟨p, off + i, none⟩ = some (.int .u8 4) := r0
    have u0' : ∀ x, (f x).cell? ⟨rb, 8, none⟩ = some (.func (.func 242) #[] #[]) := u0
    have HM' : Hid (Pure 242 #[.agg #[.int .i64 vw, .int .u64 vh, .int .u64 vl, .int .i64 mw, .int .u64 mh, .int .u64 ml, .int .i64 len], .int .i64 n] (.bool t2')) := HM
    clear r0 u0 HM KM k1 k4
    cases t1'
    all_goals
      go_enter Tryz.func245, Tryz.ntmps245
      go_wp2
      rw [HW1.out]
      refine wp_region_class f (by kernel_rfl) (by kernel_rfl) HC0.out ?_
      repeat (first
        | go_big_quiet_skip
        | (go_big_quiet_want; go_big_quiet_op; first
            | go_big_quiet_on
            | (apply Exists.intro
               refine ⟨fun _ => ?_, ?_⟩
               · first
                  | (go_at_call 135; refine (HW.out _).mono ?_; rintro e' wn ⟨rfl, hb⟩; exact ⟨rfl, HNX.out _ _ hb⟩)
                  | (go_at_call 242; refine (HM'.out _).mono ?_; rintro e' wn ⟨rfl, hb⟩; exact ⟨rfl, HNX.out _ _ hb⟩)
               go_big_quiet_on)))
      refine wpQuiet_nil ?_
      rintro _ ⟨x, rfl⟩
      go_wp2
      go_ret
      exact ⟨rfl, HBX.out x⟩
end Go.Proofs.YteflnicgohjiiaaGreatDoor
/- package match: each of the matches. -/
namespace Go.Proofs.YteflnicgohjiiaaGreatDoor
open Go.RowKit

def allI {α : Type} (p : Nat → α → Bool) : Nat → List α → Bool
  | _, [] => true
  | i, x :: xs => p i x && allI p (i + 1) xs
theorem allI_no {α : Type} {p : Nat → α → Bool} : ∀ (l : List α) (s k : Nat) (h : k < l.length), p (s + k) l[k] = false → allI p s l = false
  | [], _, k, h, _ => by simp at h
  | x :: xs, s, 0, _, hp => by simp only [Nat.add_zero, List.getElem_cons_zero] at hp; simp [allI, hp]
  | x :: xs, s, k + 1, h, hp => by
    have := allI_no xs (s + 1) k (by simpa using h) (by simp only [List.getElem_cons_succ] at hp; rw [← hp]; congr 1; omega)
    simp [allI, this]
theorem allI_yes {α : Type} {p : Nat → α → Bool} : ∀ (l : List α) (s : Nat), (∀ k (h : k < l.length), p (s + k) l[k] = true) → allI p s l = true
  | [], _, _ => rfl
  | x :: xs, s, h => by
    have h0 := h 0 (by simp)
    simp only [Nat.add_zero, List.getElem_cons_zero] at h0
    rw [allI, h0, Bool.true_and]
    exact allI_yes xs (s + 1) (fun k hk => by have := h (k + 1) (by simpa using hk); simp only [List.getElem_cons_succ] at this; rw [← this]; congr 1; omega)
theorem allI_get {α : Type} {p : Nat → α → Bool} : ∀ (l : List α) (s : Nat), allI p s l = true → ∀ k (h : k < l.length), p (s + k) l[k] = true
  | [], _, _, k, h => by simp at h
  | x :: xs, s, ha, 0, _ => by simp only [allI, Bool.and_eq_true] at ha; simpa using ha.1
  | x :: xs, s, ha, k + 1, h => by
    simp only [allI, Bool.and_eq_true] at ha
    have := allI_get xs (s + 1) ha.2 k (by simpa using h)
    simp only [List.getElem_cons_succ]; rw [← this]; congr 1; omega
set_option maxRecDepth 100000 in
set_option maxHeartbeats 4000000 in
theorem each_may (p : Nat → Mx → Bool) (c0 c1 : Nat) (a : Option Addr) (cap : Nat) (l : List Mx) (w : World) (hr : RdX w a l) (hl : l.length ≤ 140737488355328) (hp : ∀ i (h : i < l.length) W, Below w.heap.size w W → Calls Tryz.prog 245 #[.int .i64 i, l[i].val, .pointer (some ⟨c0, 0, none⟩), .pointer (some ⟨c1, 0, none⟩)] W fun e w' => e = .returned (.bool (p i l[i])) ∧ Below W.heap.size W w') :
    Calls Tryz.prog 221 #[.slice a l.length cap, .func (.func 245) #[] #[.pointer (some ⟨c0, 0, none⟩), .pointer (some ⟨c1, 0, none⟩)]] w fun e w' => e = .returned (.bool (allI p 0 l)) ∧ Below w.heap.size w w' := by
  have HR := hide hr
  have HP := hide hp
  clear hr hp
  go_enter Tryz.func221, Tryz.ntmps221
  go_wp2
  go_loopw [9] (fun i wr => ∃ k : Nat, k ≤ l.length ∧ i = .int .i64 k ∧ (∀ j (hj : j < k) (hj' : j < l.length), p j l[j] = true) ∧ Below w.heap.size w wr) (fun i _ => l.length - (intOf i).toNat)
  case atStart => exact ⟨0, by omega, rfl, fun j hj => absurd hj (by omega), Below.refl _ _⟩
  case round =>
    obtain ⟨k, hk, rfl, hn, hb⟩ := hrel
    have HN := hide hn
    have HW := hide hb
    clear hn hb
    by_cases hlt : k < l.length
    · obtain ⟨b, off, rfl, hb, hcl⟩ := (HR.out.below HW.out).some (by omega)
      obtain ⟨q0, q1, q2, q3, q4, q5, q6⟩ := hcl k hlt
      have hlI : (k : Int) < (l.length : Int) := by omega
      have HC : Hid (∀ W, Below w.heap.size w W → _) := fun W hW => HP.out k hlt W hW
      have HX : Hid (p k l[k] = true → ∀ j (hj : j < k + 1) (hj' : j < l.length), p j l[j] = true) := fun ho j hj hj' => by
        by_cases e : j = k
        · subst e; exact ho
        · exact HN.out j (by omega) hj'
      have HO : Hid (p k l[k] = false → allI p 0 l = false) := fun ho => allI_no l 0 k hlt (by rw [Nat.zero_add]; exact ho)
      have HB9 : Hid (∀ o, Below w.heap.size w (wr.alloc o)) := fun o => bstep HW.out (below1 _ _)
      clear hcl hb
      generalize l[k] = x at *
      generalize p k x = t at *
      obtain ⟨⟨vw, vh, vl⟩, ⟨mw, mh, ml⟩, len⟩ := x
      simp only [Mx.val] at *
      cases t
      · go_wp2_with fail
        refine (HC.out _ (HB9.out _)).mono ?_
        rintro e w1 ⟨rfl, hb⟩
        go_wp2
        go_ret
        exact ⟨by rw [HO.out (by first | rfl | trivial)]; rfl, bstep (HB9.out _) hb⟩
      · go_wp2_with fail
        refine (HC.out _ (HB9.out _)).mono ?_
        rintro e w1 ⟨rfl, hb⟩
        go_wp2
        go_roundw
        case rel => exact ⟨k + 1, by omega, by go_num, HX.out (by first | rfl | trivial), bstep (HB9.out _) hb⟩
        case measure => simp [intOf]; omega
    · obtain rfl : k = l.length := by omega
      have HH := hide (allI_yes (p := p) l 0 (fun j hj => by rw [Nat.zero_add]; exact HN.out j hj hj))
      go_wp2
      go_ret
      exact ⟨by rw [HH.out]; rfl, HW.out⟩
set_option maxRecDepth 100000 in
set_option maxHeartbeats 4000000 in
theorem each_mat (p : Nat → Mx → Bool) (c0 c1 c2 : Nat) (a : Option Addr) (cap : Nat) (l : List Mx) (w : World) (hr : RdX w a l) (hl : l.length ≤ 140737488355328) (hp : ∀ i (h : i < l.length) W, Below w.heap.size w W → Calls Tryz.prog 219 #[.int .i64 i, l[i].val, .pointer (some ⟨c0, 0, none⟩), .pointer (some ⟨c1, 0, none⟩), .pointer (some ⟨c2, 0, none⟩)] W fun e w' => e = .returned (.bool (p i l[i])) ∧ Below W.heap.size W w') :
    Calls Tryz.prog 221 #[.slice a l.length cap, .func (.func 219) #[] #[.pointer (some ⟨c0, 0, none⟩), .pointer (some ⟨c1, 0, none⟩), .pointer (some ⟨c2, 0, none⟩)]] w fun e w' => e = .returned (.bool (allI p 0 l)) ∧ Below w.heap.size w w' := by
  have HR := hide hr
  have HP := hide hp
  clear hr hp
  go_enter Tryz.func221, Tryz.ntmps221
  go_wp2
  go_loopw [9] (fun i wr => ∃ k : Nat, k ≤ l.length ∧ i = .int .i64 k ∧ (∀ j (hj : j < k) (hj' : j < l.length), p j l[j] = true) ∧ Below w.heap.size w wr) (fun i _ => l.length - (intOf i).toNat)
  case atStart => exact ⟨0, by omega, rfl, fun j hj => absurd hj (by omega), Below.refl _ _⟩
  case round =>
    obtain ⟨k, hk, rfl, hn, hb⟩ := hrel
    have HN := hide hn
    have HW := hide hb
    clear hn hb
    by_cases hlt : k < l.length
    · obtain ⟨b, off, rfl, hb, hcl⟩ := (HR.out.below HW.out).some (by omega)
      obtain ⟨q0, q1, q2, q3, q4, q5, q6⟩ := hcl k hlt
      have hlI : (k : Int) < (l.length : Int) := by omega
      have HC : Hid (∀ W, Below w.heap.size w W → _) := fun W hW => HP.out k hlt W hW
      have HX : Hid (p k l[k] = true → ∀ j (hj : j < k + 1) (hj' : j < l.length), p j l[j] = true) := fun ho j hj hj' => by
        by_cases e : j = k
        · subst e; exact ho
        · exact HN.out j (by omega) hj'
      have HO : Hid (p k l[k] = false → allI p 0 l = false) := fun ho => allI_no l 0 k hlt (by rw [Nat.zero_add]; exact ho)
      have HB9 : Hid (∀ o, Below w.heap.size w (wr.alloc o)) := fun o => bstep HW.out (below1 _ _)
      clear hcl hb
      generalize l[k] = x at *
      generalize p k x = t at *
      obtain ⟨⟨vw, vh, vl⟩, ⟨mw, mh, ml⟩, len⟩ := x
      simp only [Mx.val] at *
      cases t
      · go_wp2_with fail
        refine (HC.out _ (HB9.out _)).mono ?_
        rintro e w1 ⟨rfl, hb⟩
        go_wp2
        go_ret
        exact ⟨by rw [HO.out (by first | rfl | trivial)]; rfl, bstep (HB9.out _) hb⟩
      · go_wp2_with fail
        refine (HC.out _ (HB9.out _)).mono ?_
        rintro e w1 ⟨rfl, hb⟩
        go_wp2
        go_roundw
        case rel => exact ⟨k + 1, by omega, by go_num, HX.out (by first | rfl | trivial), bstep (HB9.out _) hb⟩
        case measure => simp [intOf]; omega
    · obtain rfl : k = l.length := by omega
      have HH := hide (allI_yes (p := p) l 0 (fun j hj => by rw [Nat.zero_add]; exact HN.out j hj hj))
      go_wp2
      go_ret
      exact ⟨by rw [HH.out]; rfl, HW.out⟩
end Go.Proofs.YteflnicgohjiiaaGreatDoor
