/- Pieces of the proof: MtJ, MtK. -/
import Derived.Test.YteflnicgohjiiaaGreatDoorM7
/- package match: may an entry be; Check. -/
namespace Go.Proofs.YteflnicgohjiiaaGreatDoor
open Go.RowKit

theorem kinds_lit : Pure 218 #[] (.agg #[.nilFunc, .nilFunc, .func (.func 233) #[] #[], .func (.func 234) #[] #[], .func (.func 235) #[] #[], .func (.func 237) #[] #[], .func (.func 238) #[] #[], .func (.func 240) #[] #[], .func (.func 242) #[] #[], .func (.func 244) #[] #[]]) := kinds_any
def kiO : Obj := .cells #[.nilFunc, .nilFunc, .func (.func 233) #[] #[], .func (.func 234) #[] #[], .func (.func 235) #[] #[], .func (.func 237) #[] #[], .func (.func 238) #[] #[], .func (.func 240) #[] #[], .func (.func 242) #[] #[], .func (.func 244) #[] #[]] 323
theorem kiB_new (w : World) : KiB (w.alloc kiO) w.heap.size := heap_alloc_new w _
theorem tab_row {t : Tb} (h : tabMay t = true) : t.ks.length ≤ 64 ∧ t.ws.length = t.ks.length ∧ ∀ i (hi : i < t.ks.length) (hi' : i < t.ws.length), kOk t.ks[i] t.ws[i] = true := by
  simp only [tabMay, Bool.and_eq_true, decide_eq_true_eq, beq_iff_eq] at h
  refine ⟨h.1.1, h.1.2.1, fun i hi hi' => ?_⟩
  cases e : kOk t.ks[i] t.ws[i]
  · have := rowsOk_no t.ks t.ws i hi hi' e
    rw [this] at h; simp at h
  · rfl
def mmsB (t : Tb) (ms : List Mx) : Bool := ms.length == t.ks.length && allI (mmB t) 0 ms
set_option maxRecDepth 100000 in
set_option maxHeartbeats 4000000 in
theorem matchesMayBe_any (x : TbL) (a : Option Addr) (cap : Nat) (l : List Mx) (w : World) (hx : TbR w x) (hm : tabMay x.t = true) (hr : RdX w a l) (hl : l.length ≤ 140737488355328) (hv : ∀ m ∈ l, MxR m) :
    Calls Tryz.prog 222 #[x.val, .slice a l.length cap] w fun e w' => e = .returned (.bool (mmsB x.t l)) ∧ Below w.heap.size w w' := by
  have hmf : ∀ (fn : Fn) (first cap : Array Value) (w : World), (Instr.makeFunc fn first cap).run Tryz.prog w = .ok (.func fn first cap) w := fun _ _ _ _ => rfl
  have HK : Hid (Pure _ _ _) := kinds_lit
  by_cases hlen : l.length = x.t.ks.length
  · have HE : Hid (∀ W tb rb, Below w.heap.size w W → TbB W tb x → KiB W rb → Calls Tryz.prog 221 #[.slice a l.length cap, .func (.func 245) #[] #[.pointer (some ⟨tb, 0, none⟩), .pointer (some ⟨rb, 0, none⟩)]] W fun e w' => e = .returned (.bool (allI (mmB x.t) 0 l)) ∧ Below W.heap.size W w') := fun W tb rb hb ht hk => by
      obtain ⟨r1, r2, r3⟩ := tab_row hm
      refine each_may (mmB x.t) tb rb a cap l W (hr.below hb) hl (fun i hi W' hb' => ?_)
      have h1 : i < x.t.ks.length := by omega
      have h2 : i < x.t.ws.length := by omega
      obtain ⟨k1, k2, -, -⟩ := kOk_yes (r3 i h1 h2)
      exact mayAt_any x tb rb i l[i] (hv _ (List.getElem_mem hi)) W' (hx.below (bstep hb hb')) (ht.below hb') (hk.below hb') h1 h2 k1 k2
    have E : mmsB x.t l = allI (mmB x.t) 0 l := by simp [mmsB, hlen]
    rw [E]
    have hl2 : ((l.length : Int) == (x.t.ks.length : Int)) = true := by simp [hlen]
    have hl3 : ((l.length : Int) = (x.t.ks.length : Int)) := by omega
    generalize allI (mmB x.t) 0 l = t at *
    have HT : Hid (∀ W b, TbB W b x ↔ W.heap[b]? = some (.cells #[.slice x.ka x.t.ks.length x.kc, .slice x.wa x.t.ws.length x.wc, .int .i64 x.t.size] 25 (0, 0))) := fun _ _ => Iff.rfl
    obtain ⟨⟨ks, ws, size⟩, ka, kc, wa, wc⟩ := x
    simp only [TbL.val] at *
    clear hx hm hr hv hl E hlen
    go_enter Tryz.func222, Tryz.ntmps222
    go_wp2_with fail
    refine (HK.out _).mono ?_
    rintro e w1 ⟨rfl, hb⟩
    have B1 := hide (bstep (below1 _ _) hb)
    have h3 := heap_below hb (heap_alloc_new _ _)
    have T1 := hide (heap_past kiO h3)
    obtain ⟨c0, -, -, -⟩ := at3 (heap_past kiO h3)
    unfold kiO at c0
    clear h3
    go_wp2_with fail
    refine (HE.out _ _ _ (bstep B1.out (below1 _ _)) T1.out (kiB_new _)).mono ?_
    rintro e w2 ⟨rfl, hb2⟩
    go_wp2
    go_ret
    exact ⟨by simp, bstep (bstep B1.out (below1 _ _)) hb2⟩
  · have E : mmsB x.t l = false := by simp [mmsB, hlen]
    rw [E]
    have hl2 : ((l.length : Int) == (x.t.ks.length : Int)) = false := by simp; omega
    have hl3 : ((l.length : Int) = (x.t.ks.length : Int)) = False := by simp; omega
    have hl4 : (l.length = x.t.ks.length) = False := by simp; omega
    obtain ⟨⟨ks, ws, size⟩, ka, kc, wa, wc⟩ := x
    simp only [TbL.val] at *
    clear hx hm hr hv hl E hlen
    go_enter Tryz.func222, Tryz.ntmps222
    go_wp2_with fail
    refine (HK.out _).mono ?_
    rintro e w1 ⟨rfl, hb⟩
    have B1 := hide (bstep (below1 _ _) hb)
    have h3 := heap_below hb (heap_alloc_new _ _)
    obtain ⟨c0, -, -, -⟩ := at3 (heap_past kiO h3)
    unfold kiO at c0
    clear h3
    go_wp2
    go_ret
    exact ⟨rfl, bstep B1.out (below1 _ _)⟩
/- An entry as it lies. -/
structure EnL where
  e : En
  ma : Option Addr
  mc : Nat
  aa : Option Addr
  ac : Nat
def EnL.val (x : EnL) : Value := .agg #[.slice x.ma x.e.ms.length x.mc, .int .i64 x.e.prio, .string x.e.act, .slice x.aa x.e.args.length x.ac]
structure EnR (W : World) (x : EnL) : Prop where
  ms : RdX W x.ma x.e.ms
  args : RdN W x.aa x.e.args
  mn : x.e.ms.length ≤ 1000000
  an : x.e.args.length ≤ 1000000
  mr : ∀ m ∈ x.e.ms, MxR m
  ar : ∀ b ∈ x.e.args, NbR b
  pr : i64R x.e.prio
  mz : x.ma = none → x.mc = 0
  az : x.aa = none → x.ac = 0
theorem EnR.below {W W' : World} {x : EnL} (h : EnR W x) (hb : Below W.heap.size W W') : EnR W' x := ⟨h.ms.below hb, h.args.below hb, h.mn, h.an, h.mr, h.ar, h.pr, h.mz, h.az⟩
def enMay (t : Tb) (e : En) : Bool := mmsB t e.ms && (prioB t e.prio && !(e.args.any (fun b => !b.ok)))
theorem at4 {W : World} {b : Nat} {x y z u : Value} {t : TypeId} (h : W.heap[b]? = some (.cells #[x, y, z, u] t (0, 0))) : W.cell? ⟨b, 0, none⟩ = some x ∧ W.cell? ⟨b, 1, none⟩ = some y ∧ W.cell? ⟨b, 2, none⟩ = some z ∧ W.cell? ⟨b, 3, none⟩ = some u ∧ ∀ o, W.frozen? ⟨b, o, none⟩ = false := by
  refine ⟨?_, ?_, ?_, ?_, fun o => ?_⟩
  all_goals first | (unfold World.cell?; simp only [h]; rfl) | (unfold World.frozen?; simp only [h]; simp)
set_option maxRecDepth 100000 in
set_option maxHeartbeats 4000000 in
theorem entryMayBe_any (x : TbL) (y : EnL) (w : World) (hx : TbR w x) (hm : tabMay x.t = true) (hy : EnR w y) :
    Calls Tryz.prog 138 #[x.val, y.val] w fun e w' => e = .returned (.bool (enMay x.t y.e)) ∧ Below w.heap.size w w' := by
  have HM : Hid (∀ W, Below w.heap.size w W → _) := fun W hb => matchesMayBe_any x y.ma y.mc y.e.ms W (hx.below hb) hm (hy.ms.below hb) (by have := hy.mn; omega) hy.mr
  have HP : Hid (∀ W, Below w.heap.size w W → _) := fun W hb => priority_any x y.e.prio W (hx.below hb)
  have HA : Hid (∀ W, Below w.heap.size w W → _) := fun W hb => containsBad_any y.aa y.ac y.e.args W (hy.args.below hb) (by have := hy.an; omega) hy.ar
  clear hx hm hy
  unfold enMay
  generalize mmsB x.t y.e.ms = t1 at *
  generalize prioB x.t y.e.prio = t2 at *
  generalize y.e.args.any (fun b => !b.ok) = t3 at *
  obtain ⟨⟨ks, ws, size⟩, ka, kc, wa, wc⟩ := x
  obtain ⟨⟨ms, prio, act, args⟩, ma, mc, aa, ac⟩ := y
  simp only [TbL.val, EnL.val] at *
  cases t1
  · go_enter Tryz.func138, Tryz.ntmps138
    go_wp2_with fail
    refine (HM.out _ (below2 _ _ _)).mono ?_
    rintro e w1 ⟨rfl, hb⟩
    go_wp2
    go_ret
    exact ⟨rfl, bstep (below2 _ _ _) hb⟩
  · cases t2
    · go_enter Tryz.func138, Tryz.ntmps138
      go_wp2_with fail
      refine (HM.out _ (below2 _ _ _)).mono ?_
      rintro e w1 ⟨rfl, hb⟩
      have B1 := hide (bstep (below2 _ _ _) hb)
      obtain ⟨a0, a1, a2, -⟩ := at3 (heap_below hb (heap_past _ (heap_alloc_new _ _)))
      obtain ⟨b0, b1, b2, b3, -⟩ := at4 (heap_below hb (heap_snd _ _ _ _))
      go_wp2_with fail
      refine (HP.out _ B1.out).mono ?_
      rintro e w2 ⟨rfl, hb2⟩
      go_wp2
      go_ret
      exact ⟨rfl, bstep B1.out hb2⟩
    · go_enter Tryz.func138, Tryz.ntmps138
      go_wp2_with fail
      refine (HM.out _ (below2 _ _ _)).mono ?_
      rintro e w1 ⟨rfl, hb⟩
      have B1 := hide (bstep (below2 _ _ _) hb)
      obtain ⟨a0, a1, a2, -⟩ := at3 (heap_below hb (heap_past _ (heap_alloc_new _ _)))
      have H4 := hide (heap_below hb (heap_snd _ _ _ _))
      obtain ⟨b0, b1, b2, b3, -⟩ := at4 H4.out
      go_wp2_with fail
      refine (HP.out _ B1.out).mono ?_
      rintro e w2 ⟨rfl, hb2⟩
      have B2 := hide (bstep B1.out hb2)
      obtain ⟨d0, d1, d2, d3, -⟩ := at4 (heap_below hb2 H4.out)
      go_wp2_with fail
      refine (HA.out _ B2.out).mono ?_
      rintro e w3 ⟨rfl, hb3⟩
      go_wp2
      go_ret
      exact ⟨by simp, bstep B2.out hb3⟩
def chkB (t : Tb) (e : En) : Bool := tabMay t && enMay t e
def chkI (t : Tb) (e : En) : Int := if chkB t e then 0 else 1
set_option maxHeartbeats 2000000 in
theorem check13_any (x : TbL) (y : EnL) (w : World) (hx : TbR w x) (hy : EnR w y) :
    Calls Tryz.prog 29 #[x.val, y.val] w fun e w' => e = .returned (.int .i64 (chkI x.t y.e)) ∧ Below w.heap.size w w' := by
  have HT : Hid (∀ W, Below w.heap.size w W → _) := fun W hb => tableMayBe_any x W (hx.below hb)
  unfold chkI chkB
  cases em : tabMay x.t
  · rw [em] at HT
    clear hx hy em
    obtain ⟨⟨ks, ws, size⟩, ka, kc, wa, wc⟩ := x
    obtain ⟨⟨ms, prio, act, args⟩, ma, mc, aa, ac⟩ := y
    simp only [TbL.val, EnL.val] at *
    go_enter Tryz.func29, Tryz.ntmps29
    go_wp2_with fail
    refine (HT.out _ (below2 _ _ _)).mono ?_
    rintro e w1 ⟨rfl, hb⟩
    go_wp2
    go_ret
    exact ⟨rfl, bstep (below2 _ _ _) hb⟩
  · rw [em] at HT
    have HE : Hid (∀ W, Below w.heap.size w W → _) := fun W hb => entryMayBe_any x y W (hx.below hb) em (hy.below hb)
    clear hx hy em
    generalize enMay x.t y.e = t at *
    obtain ⟨⟨ks, ws, size⟩, ka, kc, wa, wc⟩ := x
    obtain ⟨⟨ms, prio, act, args⟩, ma, mc, aa, ac⟩ := y
    simp only [TbL.val, EnL.val] at *
    cases t
    all_goals
      go_enter Tryz.func29, Tryz.ntmps29
      go_wp2_with fail
      refine (HT.out _ (below2 _ _ _)).mono ?_
      rintro e w1 ⟨rfl, hb⟩
      have B1 := hide (bstep (below2 _ _ _) hb)
      obtain ⟨a0, a1, a2, -⟩ := at3 (heap_below hb (heap_past _ (heap_alloc_new _ _)))
      obtain ⟨b0, b1, b2, b3, -⟩ := at4 (heap_below hb (heap_snd _ _ _ _))
      go_wp2_with fail
      refine (HE.out _ B1.out).mono ?_
      rintro e w2 ⟨rfl, hb2⟩
      go_wp2
      go_ret
      exact ⟨rfl, bstep B1.out hb2⟩
end Go.Proofs.YteflnicgohjiiaaGreatDoor
/- package match: two lists of matches, one against the other. -/
namespace Go.Proofs.YteflnicgohjiiaaGreatDoor
open Go.RowKit

theorem Nb.eq_iff (a b : Nb) : a.eq b = true ↔ a = b := by
  obtain ⟨a1, a2, a3⟩ := a
  obtain ⟨b1, b2, b3⟩ := b
  simp [Nb.eq]
theorem Mx.eq_iff (a b : Mx) : a.eq b = true ↔ a = b := by
  obtain ⟨a1, a2, a3⟩ := a
  obtain ⟨b1, b2, b3⟩ := b
  simp only [Mx.eq, Bool.and_eq_true, Nb.eq_iff, beq_iff_eq, Mx.mk.injEq]
def eqMs : List Mx → List Mx → Bool
  | [], [] => true
  | a :: l, b :: m => a.eq b && eqMs l m
  | _, _ => false
theorem eqMs_iff : ∀ (l m : List Mx), eqMs l m = true ↔ l = m
  | [], [] => by simp [eqMs]
  | [], b :: m => by simp [eqMs]
  | a :: l, [] => by simp [eqMs]
  | a :: l, b :: m => by simp only [eqMs, Bool.and_eq_true, Mx.eq_iff, eqMs_iff l m, List.cons.injEq]
theorem eqMs_len {l m : List Mx} (h : l.length ≠ m.length) : eqMs l m = false := by
  cases e : eqMs l m
  · rfl
  · rw [(eqMs_iff l m).1 e] at h; exact absurd rfl h
theorem eqMs_at {l m : List Mx} {k : Nat} (h : k < l.length) (h' : k < m.length) (hn : l[k] ≠ m[k]) : eqMs l m = false := by
  cases e : eqMs l m
  · rfl
  · have := (eqMs_iff l m).1 e; subst this; exact absurd rfl hn
theorem eqMs_all {l m : List Mx} (hl : l.length = m.length) (h : ∀ k (h : k < l.length) (h' : k < m.length), l[k] = m[k]) : eqMs l m = true := (eqMs_iff l m).2 (List.ext_getElem hl h)
set_option maxRecDepth 100000 in
set_option maxHeartbeats 8000000 in
theorem equal_any (a b : Option Addr) (ca cb : Nat) (l m : List Mx) (w : World) (hr : RdX w a l) (hr2 : RdX w b m) (hl : l.length ≤ 140737488355328) :
    Calls Tryz.prog 141 #[.slice a l.length ca, .slice b m.length cb] w fun e w' => e = .returned (.bool (eqMs l m)) ∧ Below w.heap.size w w' := by
  by_cases hlen : l.length = m.length
  · have hl2 : ((l.length : Int) == (m.length : Int)) = true := by simp [hlen]
    have HR := hide hr
    have HS := hide hr2
    have HL := hide hlen
    clear hr hr2
    rw [← hlen]
    clear hlen hl2
    go_enter Tryz.func141, Tryz.ntmps141
    go_wp2
    go_loopw [13] (fun i wr => ∃ k : Nat, k ≤ l.length ∧ i = .int .i64 k ∧ (∀ j (hj : j < k) (h1 : j < l.length) (h2 : j < m.length), l[j] = m[j]) ∧ Below w.heap.size w wr) (fun i _ => l.length - (intOf i).toNat)
    case atStart => exact ⟨0, by omega, rfl, fun j hj => absurd hj (by omega), Below.refl _ _⟩
    case round =>
      obtain ⟨k, hk, rfl, hn, hb⟩ := hrel
      have HN := hide hn
      have HW := hide hb
      clear hn hb
      by_cases hlt : k < l.length
      · have hlt2 : k < m.length := by have := HL.out; omega
        obtain ⟨p, off, rfl, hp, hcl⟩ := (HR.out.below HW.out).some (by omega)
        obtain ⟨p', off', rfl, hp', hcl'⟩ := (HS.out.below HW.out).some (by omega)
        obtain ⟨q0, q1, q2, q3, q4, q5, q6⟩ := hcl k hlt
        obtain ⟨r0, r1, r2, r3, r4, r5, r6⟩ := hcl' k hlt2
        have hlI : (k : Int) < (l.length : Int) := by omega
        have HX : Hid (l[k] = m[k] → ∀ j (hj : j < k + 1) (h1 : j < l.length) (h2 : j < m.length), l[j] = m[j]) := fun ho j hj h1 h2 => by
          by_cases e : j = k
          · subst e; exact ho
          · exact HN.out j (by omega) h1 h2
        have HO : Hid (l[k] ≠ m[k] → eqMs l m = false) := fun ho => eqMs_at hlt hlt2 ho
        clear hcl hcl' hp hp'
        generalize l[k] = x at *
        generalize m[k] = y at *
        obtain ⟨⟨vw, vh, vl⟩, ⟨mw, mh, ml⟩, len⟩ := x
        obtain ⟨⟨yvw, yvh, yvl⟩, ⟨ymw, ymh, yml⟩, ylen⟩ := y
        simp only at q0 q1 q2 q3 q4 q5 q6 r0 r1 r2 r3 r4 r5 r6
        by_cases evw : vw = yvw
        rotate_left
        · have f1 : (vw == yvw) = false := by simp [evw]
          have f2 : (vw = yvw) = False := by simp [evw]
          have HF := hide (HO.out (by simp [evw]))
          clear HO HX evw
          go_wp2
          go_quiet (fail)
          go_wp2
          go_ret
          exact ⟨by rw [HF.out]; rfl, below_drewN HW.out _⟩
        subst evw
        by_cases evh : vh = yvh
        rotate_left
        · have f1 : (vh == yvh) = false := by simp [evh]
          have f2 : (vh = yvh) = False := by simp [evh]
          have HF := hide (HO.out (by simp [evh]))
          clear HO HX evh
          go_wp2
          go_quiet (fail)
          go_wp2
          go_ret
          exact ⟨by rw [HF.out]; rfl, below_drewN HW.out _⟩
        subst evh
        by_cases evl : vl = yvl
        rotate_left
        · have f1 : (vl == yvl) = false := by simp [evl]
          have f2 : (vl = yvl) = False := by simp [evl]
          have HF := hide (HO.out (by simp [evl]))
          clear HO HX evl
          go_wp2
          go_quiet (fail)
          go_wp2
          go_ret
          exact ⟨by rw [HF.out]; rfl, below_drewN HW.out _⟩
        subst evl
        by_cases emw : mw = ymw
        rotate_left
        · have f1 : (mw == ymw) = false := by simp [emw]
          have f2 : (mw = ymw) = False := by simp [emw]
          have HF := hide (HO.out (by simp [emw]))
          clear HO HX emw
          go_wp2
          go_quiet (fail)
          go_wp2
          go_ret
          exact ⟨by rw [HF.out]; rfl, below_drewN HW.out _⟩
        subst emw
        by_cases emh : mh = ymh
        rotate_left
        · have f1 : (mh == ymh) = false := by simp [emh]
          have f2 : (mh = ymh) = False := by simp [emh]
          have HF := hide (HO.out (by simp [emh]))
          clear HO HX emh
          go_wp2
          go_quiet (fail)
          go_wp2
          go_ret
          exact ⟨by rw [HF.out]; rfl, below_drewN HW.out _⟩
        subst emh
        by_cases eml : ml = yml
        rotate_left
        · have f1 : (ml == yml) = false := by simp [eml]
          have f2 : (ml = yml) = False := by simp [eml]
          have HF := hide (HO.out (by simp [eml]))
          clear HO HX eml
          go_wp2
          go_quiet (fail)
          go_wp2
          go_ret
          exact ⟨by rw [HF.out]; rfl, below_drewN HW.out _⟩
        subst eml
        by_cases elen : len = ylen
        rotate_left
        · have f1 : (len == ylen) = false := by simp [elen]
          have f2 : (len = ylen) = False := by simp [elen]
          have HF := hide (HO.out (by simp [elen]))
          clear HO HX elen
          go_wp2
          go_quiet (fail)
          go_wp2
          go_ret
          exact ⟨by rw [HF.out]; rfl, below_drewN HW.out _⟩
        subst elen
        have HF := hide (HX.out rfl)
        clear HO HX
        go_wp2
        go_quiet (fail)
        go_wp2
        go_roundw
        case rel => exact ⟨k + 1, by omega, by go_num, HF.out, below_drewN HW.out _⟩
        case measure => simp [intOf]; omega
      · obtain rfl : k = l.length := by omega
        have HH := hide (eqMs_all HL.out (fun j h1 h2 => HN.out j h1 h1 h2))
        go_wp2
        go_ret
        exact ⟨by rw [HH.out]; rfl, HW.out⟩
  · have hl2 : ((l.length : Int) == (m.length : Int)) = false := by simp; omega
    have hl3 : ((l.length : Int) = (m.length : Int)) = False := by simp; omega
    have hl4 : (l.length = m.length) = False := by simp; omega
    have HE := hide (eqMs_len hlen)
    clear hlen hr hr2 hl
    go_enter Tryz.func141, Tryz.ntmps141
    go_wp2
    go_ret
    exact ⟨by rw [HE.out]; rfl, Below.refl _ _⟩
end Go.Proofs.YteflnicgohjiiaaGreatDoor
