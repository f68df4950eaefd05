/- Pieces of the proof: MdB. -/
import Derived.Test.YteflnicgohjiiaaGreatDoorM37
import Derived.RegionTactic
/- The document's own One and at (chapter 13): two entries of one place; where the first one stands. -/
namespace Go.Proofs.YteflnicgohjiiaaGreatDoor
open Go.RowKit

theorem sameP_no1 {x y : En} (h : x.prio ≠ y.prio) : sameP x y = false := by simp [sameP, h]
theorem sameP_no2 {x y : En} (h : eqMs x.ms y.ms = false) : sameP x y = false := by simp [sameP, h]
theorem sameP_yes {x y : En} (h : x.prio = y.prio) (h2 : eqMs x.ms y.ms = true) : sameP x y = true := by simp [sameP, h, h2]
set_option maxRecDepth 100000 in
set_option maxHeartbeats 8000000 in
theorem refOne_any (x y : EnL) (w : World) (hx : EnR w x) (hy : EnR w y) :
    Calls Tryz.prog 146 #[x.val, y.val] w fun e w' => e = .returned (.bool (sameP x.e y.e)) ∧ Below w.heap.size w w' := by
  have HX := hide hx.ms
  have HY := hide hy.ms
  have HM := hide hx.mn
  have S1 := hide (fun h => @sameP_no1 x.e y.e h)
  have S2 := hide (fun h => @sameP_no2 x.e y.e h)
  have S3 := hide (fun h h2 => @sameP_yes x.e y.e h h2)
  generalize sameP x.e y.e = r at *
  clear hx hy
  obtain ⟨⟨l, p1, act1, args1⟩, ma, mc, aa, ac⟩ := x
  obtain ⟨⟨m, p2, act2, args2⟩, mb, md, ab, ad⟩ := y
  simp only [EnL.val] at *
  generalize args1.length = n1 at *
  generalize args2.length = n2 at *
  by_cases hp : p1 = p2
  rotate_left
  · obtain rfl : r = false := S1.out hp
    have f1 : (p1 == p2) = false := by simp [hp]
    have f2 : (p1 = p2) = False := by simp [hp]
    clear S1 S2 S3 hp HX HY
    go_enter Tryz.func146, Tryz.ntmps146
    go_wp2
    go_ret
    exact ⟨rfl, below2 _ _ _⟩
  subst hp
  by_cases hlen : l.length = m.length
  rotate_left
  · obtain rfl : r = false := S2.out (eqMs_len hlen)
    have f1 : ((l.length : Int) == (m.length : Int)) = false := by simp; omega
    have f2 : ((l.length : Int) = (m.length : Int)) = False := by simp; omega
    clear S1 S2 S3 hlen HX HY
    go_enter Tryz.func146, Tryz.ntmps146
    go_wp2
    go_ret
    exact ⟨rfl, below2 _ _ _⟩
  have HL := hide hlen
  rw [← hlen]
  clear hlen S1
  have K0 := hide (heap_past (.cells #[.slice mb l.length md, .int .i64 p1, .string act2, .slice ab n2 ad] 30) (heap_alloc_new w (.cells #[.slice ma l.length mc, .int .i64 p1, .string act1, .slice aa n1 ac] 30)))
  have K1 := hide (heap_snd w (.cells #[.slice ma l.length mc, .int .i64 p1, .string act1, .slice aa n1 ac] 30) #[.slice mb l.length md, .int .i64 p1, .string act2, .slice ab n2 ad] 30)
  have B2 := hide (below2 w (.cells #[.slice ma l.length mc, .int .i64 p1, .string act1, .slice aa n1 ac] 30) (.cells #[.slice mb l.length md, .int .i64 p1, .string act2, .slice ab n2 ad] 30))
  go_enter Tryz.func146, Tryz.ntmps146
  go_wp2
  generalize (w.alloc (.cells #[.slice ma l.length mc, .int .i64 p1, .string act1, .slice aa n1 ac] 30)).alloc (.cells #[.slice mb l.length md, .int .i64 p1, .string act2, .slice ab n2 ad] 30) = W2 at *
  go_loopw [5] (fun i wr => ∃ k : Nat, k ≤ l.length ∧ i = .int .i64 k ∧ (∀ j (hj : j < k) (h1 : j < l.length) (h2 : j < m.length), l[j] = m[j]) ∧ Below W2.heap.size W2 wr) (fun i _ => l.length - (intOf i).toNat)
  case atStart => exact ⟨0, by omega, rfl, fun j hj => absurd hj (by omega), Below.refl _ _⟩
  case round =>
    obtain ⟨k, hk, rfl, hn, hb⟩ := hrel
    have HN := hide hn
    have HW := hide hb
    obtain ⟨a0, -, -, -, -⟩ := at4 (heap_below hb K0.out)
    obtain ⟨b0, -, -, -, -⟩ := at4 (heap_below hb K1.out)
    clear hn hb
    by_cases hlt : k < l.length
    · have hlt2 : k < m.length := by have := HL.out; omega
      obtain ⟨p, off, rfl, hp, hcl⟩ := ((HX.out.below B2.out).below HW.out).some (by omega)
      obtain ⟨p', off', rfl, hp', hcl'⟩ := ((HY.out.below B2.out).below HW.out).some (by omega)
      obtain ⟨q0, q1, q2, q3, q4, q5, q6⟩ := hcl k hlt
      obtain ⟨r0, r1, r2, r3, r4, r5, r6⟩ := hcl' k hlt2
      have hlI : (k : Int) < (l.length : Int) := by omega
      have HXX : Hid (l[k] = m[k] → ∀ j (hj : j < k + 1) (h1 : j < l.length) (h2 : j < m.length), l[j] = m[j]) := fun ho j hj h1 h2 => by
        by_cases e : j = k
        · subst e; exact ho
        · exact HN.out j (by omega) h1 h2
      have HO : Hid (l[k] ≠ m[k] → r = false) := fun ho => S2.out (eqMs_at hlt hlt2 ho)
      clear hcl hcl' hp hp' S2 S3
      generalize l[k] = x at *
      generalize m[k] = y at *
      obtain ⟨⟨vw, vh, vl⟩, ⟨mw, mh, ml⟩, len⟩ := x
      obtain ⟨⟨yvw, yvh, yvl⟩, ⟨ymw, ymh, yml⟩, ylen⟩ := y
      simp only at q0 q1 q2 q3 q4 q5 q6 r0 r1 r2 r3 r4 r5 r6
      by_cases evw : vw = yvw
      rotate_left
      · have f1 : (vw == yvw) = false := by simp [evw]
        have f2 : (vw = yvw) = False := by simp [evw]
        have HF := hide (HO.out (by simp [evw]))
        clear HO HXX evw
        go_wp2
        go_quiet (fail)
        go_wp2
        go_ret
        exact ⟨by rw [HF.out]; rfl, below_drewN (bstep B2.out HW.out) _⟩
      subst evw
      by_cases evh : vh = yvh
      rotate_left
      · have f1 : (vh == yvh) = false := by simp [evh]
        have f2 : (vh = yvh) = False := by simp [evh]
        have HF := hide (HO.out (by simp [evh]))
        clear HO HXX evh
        go_wp2
        go_quiet (fail)
        go_wp2
        go_ret
        exact ⟨by rw [HF.out]; rfl, below_drewN (bstep B2.out HW.out) _⟩
      subst evh
      by_cases evl : vl = yvl
      rotate_left
      · have f1 : (vl == yvl) = false := by simp [evl]
        have f2 : (vl = yvl) = False := by simp [evl]
        have HF := hide (HO.out (by simp [evl]))
        clear HO HXX evl
        go_wp2
        go_quiet (fail)
        go_wp2
        go_ret
        exact ⟨by rw [HF.out]; rfl, below_drewN (bstep B2.out HW.out) _⟩
      subst evl
      by_cases emw : mw = ymw
      rotate_left
      · have f1 : (mw == ymw) = false := by simp [emw]
        have f2 : (mw = ymw) = False := by simp [emw]
        have HF := hide (HO.out (by simp [emw]))
        clear HO HXX emw
        go_wp2
        go_quiet (fail)
        go_wp2
        go_ret
        exact ⟨by rw [HF.out]; rfl, below_drewN (bstep B2.out HW.out) _⟩
      subst emw
      by_cases emh : mh = ymh
      rotate_left
      · have f1 : (mh == ymh) = false := by simp [emh]
        have f2 : (mh = ymh) = False := by simp [emh]
        have HF := hide (HO.out (by simp [emh]))
        clear HO HXX emh
        go_wp2
        go_quiet (fail)
        go_wp2
        go_ret
        exact ⟨by rw [HF.out]; rfl, below_drewN (bstep B2.out HW.out) _⟩
      subst emh
      by_cases eml : ml = yml
      rotate_left
      · have f1 : (ml == yml) = false := by simp [eml]
        have f2 : (ml = yml) = False := by simp [eml]
        have HF := hide (HO.out (by simp [eml]))
        clear HO HXX eml
        go_wp2
        go_quiet (fail)
        go_wp2
        go_ret
        exact ⟨by rw [HF.out]; rfl, below_drewN (bstep B2.out HW.out) _⟩
      subst eml
      by_cases elen : len = ylen
      rotate_left
      · have f1 : (len == ylen) = false := by simp [elen]
        have f2 : (len = ylen) = False := by simp [elen]
        have HF := hide (HO.out (by simp [elen]))
        clear HO HXX elen
        go_wp2
        go_quiet (fail)
        go_wp2
        go_ret
        exact ⟨by rw [HF.out]; rfl, below_drewN (bstep B2.out HW.out) _⟩
      subst elen
      have HT := hide (HXX.out rfl)
      have hM : l.length ≤ 1000000 := HM.out
      clear HO HXX
      go_wp2
      go_quiet (fail)
      go_wp2
      go_roundw
      case rel => exact ⟨k + 1, by omega, by go_num, HT.out, below_drewN HW.out _⟩
      case measure => simp [intOf]; omega
    · obtain rfl : k = l.length := by omega
      have HF := hide (S3.out (by first | trivial | rfl) (eqMs_all HL.out (fun j h1 h2 => HN.out j h1 h1 h2)))
      go_wp2
      go_ret
      exact ⟨by rw [HF.out]; rfl, bstep B2.out HW.out⟩
set_option maxRecDepth 100000 in
set_option maxHeartbeats 8000000 in
theorem refAt13_any (a : Option Addr) (cap : Nat) (l : List EnL) (y : EnL) (w : World) (hl : RdE w a l) (hy : EnR w y) (hn : l.length ≤ 1000000) :
    Calls Tryz.prog 34 #[.slice a l.length cap, y.val] w fun e w' => e = .returned (.int .i64 (hereI (ens l) y.e)) ∧ Below w.heap.size w w' := by
  have HR := hide hl
  have HY := hide hy
  have HE := hide (firstI_ens (fun x => sameP x y.e) l)
  unfold hereI
  rw [← HE.out]
  have HO : Hid (∀ (x : EnL) W, Below w.heap.size w W → EnR W x → Calls Tryz.prog 146 #[x.val, y.val] W fun e w' => e = .returned (.bool (sameP x.e y.e)) ∧ Below W.heap.size W w') := fun x W hb hx => refOne_any x y W hx (HY.out.below hb)
  clear hl hy HE HY
  obtain ⟨ye, ma, mc, aa, ac⟩ := y
  generalize hsp : (fun x : EnL => sameP x.e ye) = sp at *
  have HSP : Hid (∀ x : EnL, sameP x.e ye = sp x) := fun x => by rw [← hsp]
  clear hsp
  simp only [EnL.val] at *
  generalize ye.ms.length = n3 at *
  generalize ye.args.length = n4 at *
  have K0 := hide (heap_alloc_new w (.cells #[.slice ma n3 mc, .int .i64 ye.prio, .string ye.act, .slice aa n4 ac] 30))
  have B1 := hide (below1 w (.cells #[.slice ma n3 mc, .int .i64 ye.prio, .string ye.act, .slice aa n4 ac] 30))
  go_enter Tryz.func34, Tryz.ntmps34
  go_wp2
  generalize w.alloc (.cells #[.slice ma n3 mc, .int .i64 ye.prio, .string ye.act, .slice aa n4 ac] 30) = W1 at *
  go_loopw [5] (fun i wr => ∃ k : Nat, k ≤ l.length ∧ i = .int .i64 k ∧ (∀ j (hj : j < k) (hj' : j < l.length), sp l[j] = false) ∧ Below W1.heap.size W1 wr) (fun i _ => l.length - (intOf i).toNat)
  case atStart => exact ⟨0, by omega, rfl, fun j hj => absurd hj (by omega), Below.refl _ _⟩
  case round =>
    obtain ⟨k, hk, rfl, hnn, hb⟩ := hrel
    have HN := hide hnn
    have HW := hide hb
    have KW := hide (heap_below hb K0.out)
    clear hnn hb
    by_cases hlt : k < l.length
    · have hR := (HR.out.below B1.out).below HW.out
      obtain ⟨p, off, rfl, hp, hcl⟩ := hR.some (by omega)
      obtain ⟨q0, q1, q2, q3⟩ := hcl k hlt
      have HE := hide (hR.ok l[k] (List.getElem_mem hlt))
      have hlI : (k : Int) < (l.length : Int) := by omega
      have HSk := hide (HSP.out l[k])
      have HXX : Hid (sp l[k] = false → ∀ j (hj : j < k + 1) (hj' : j < l.length), sp l[j] = false) := fun ho j hj h1 => by
        by_cases e : j = k
        · subst e; exact ho
        · exact HN.out j (by omega) h1
      have HH : Hid (sp l[k] = true → firstI sp l = k) := fun ho => firstI_hit hlt ho (fun j hj => HN.out j hj (by omega))
      obtain ⟨a0, a1, a2, a3, -⟩ := at4 KW.out
      have HOk : Hid (∀ W, Below wr.heap.size wr W → _) := fun W hb => HO.out l[k] W (B1.out.trans ((HW.out.trans (hb.mono HW.out.size)).mono B1.out.size)) (HE.out.below hb)
      rw [HSk.out] at HOk
      clear hcl hp hR HN HSk HE HO KW
      generalize l[k] = x at *
      obtain ⟨⟨ms, prio, act, args⟩, xa, xc, xaa, xac⟩ := x
      simp only at *
      generalize sp ⟨⟨ms, prio, act, args⟩, xa, xc, xaa, xac⟩ = t at *
      cases t
      · have HT := hide (HXX.out rfl)
        clear HXX HH
        go_wp2
        go_region_with (go_at_call 146; refine (HOk.out _ (Below.refl _ _).drew).mono ?_; rintro e w7 ⟨rfl, hb7⟩; have B7 := hide (HW.out.trans (((Below.refl _ _).drew.trans hb7).mono HW.out.size)); clear hb7)
        all_goals
          go_wp2
          go_roundw
          case rel => exact ⟨k + 1, by omega, by go_num, HT.out, B7.out⟩
          case measure => simp [intOf]; omega
      · have HT := hide (HH.out rfl)
        clear HXX HH
        go_wp2
        go_region_with (go_at_call 146; refine (HOk.out _ (Below.refl _ _).drew).mono ?_; rintro e w7 ⟨rfl, hb7⟩; have B7 := hide (HW.out.trans (((Below.refl _ _).drew.trans hb7).mono HW.out.size)); clear hb7)
        all_goals
          go_wp2
          go_ret
          exact ⟨by rw [HT.out]; rfl, bstep B1.out B7.out⟩
    · obtain rfl : k = l.length := by omega
      have HT := hide (firstI_none (p := sp) (l := l) (fun j hj => HN.out j hj hj))
      go_wp2
      go_ret
      exact ⟨by rw [HT.out]; rfl, bstep B1.out HW.out⟩
end Go.Proofs.YteflnicgohjiiaaGreatDoor
