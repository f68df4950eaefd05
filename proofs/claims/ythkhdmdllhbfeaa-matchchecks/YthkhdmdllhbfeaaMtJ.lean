/- package match: may an entry be; Check. -/
import Derived.Test.YthkhdmdllhbfeaaMtI
namespace Go.Proofs.Ythkhdmdllhbfeaa
open Go.RowKit

theorem kinds_lit : Pure 61 #[] (.agg #[.nilFunc, .nilFunc, .func (.func 72) #[] #[], .func (.func 73) #[] #[], .func (.func 74) #[] #[], .func (.func 76) #[] #[], .func (.func 77) #[] #[], .func (.func 79) #[] #[], .func (.func 81) #[] #[], .func (.func 83) #[] #[]]) := kinds_any
def kiO : Obj := .cells #[.nilFunc, .nilFunc, .func (.func 72) #[] #[], .func (.func 73) #[] #[], .func (.func 74) #[] #[], .func (.func 76) #[] #[], .func (.func 77) #[] #[], .func (.func 79) #[] #[], .func (.func 81) #[] #[], .func (.func 83) #[] #[]] 94
theorem kiB_new (w : World) : KiB (w.alloc kiO) w.heap.size := heap_alloc_new w _
theorem tab_row {t : Tb} (h : tabMay t = true) : t.ks.length ≤ 64 ∧ t.ws.length = t.ks.length ∧ ∀ i (hi : i < t.ks.length) (hi' : i < t.ws.length), kOk t.ks[i] t.ws[i] = true := by
  simp only [tabMay, Bool.and_eq_true, decide_eq_true_eq, beq_iff_eq] at h
  refine ⟨h.1.1, h.1.2.1, fun i hi hi' => ?_⟩
  cases e : kOk t.ks[i] t.ws[i]
  · have := rowsOk_no t.ks t.ws i hi hi' e
    rw [this] at h; simp at h
  · rfl
def mmsB (t : Tb) (ms : List Mx) : Bool := ms.length == t.ks.length && allI (mmB t) 0 ms
set_option maxRecDepth 100000 in
set_option maxHeartbeats 4000000 in
theorem matchesMayBe_any (x : TbL) (a : Option Addr) (cap : Nat) (l : List Mx) (w : World) (hx : TbR w x) (hm : tabMay x.t = true) (hr : RdX w a l) (hl : l.length ≤ 140737488355328) (hv : ∀ m ∈ l, MxR m) :
    Calls Try.prog 43 #[x.val, .slice a l.length cap] w fun e w' => e = .returned (.bool (mmsB x.t l)) ∧ Below w.heap.size w w' := by
  have hmf : ∀ (fn : Fn) (first cap : Array Value) (w : World), (Instr.makeFunc fn first cap).run Try.prog w = .ok (.func fn first cap) w := fun _ _ _ _ => rfl
  have HK : Hid (Pure _ _ _) := kinds_lit
  by_cases hlen : l.length = x.t.ks.length
  · have HE : Hid (∀ W tb rb, Below w.heap.size w W → TbB W tb x → KiB W rb → Calls Try.prog 64 #[.slice a l.length cap, .func (.func 65) #[] #[.pointer (some ⟨tb, 0, none⟩), .pointer (some ⟨rb, 0, none⟩)]] W fun e w' => e = .returned (.bool (allI (mmB x.t) 0 l)) ∧ Below W.heap.size W w') := fun W tb rb hb ht hk => by
      obtain ⟨r1, r2, r3⟩ := tab_row hm
      refine each_may (mmB x.t) tb rb a cap l W (hr.below hb) hl (fun i hi W' hb' => ?_)
      have h1 : i < x.t.ks.length := by omega
      have h2 : i < x.t.ws.length := by omega
      obtain ⟨k1, k2, -, -⟩ := kOk_yes (r3 i h1 h2)
      exact mayAt_any x tb rb i l[i] (hv _ (List.getElem_mem hi)) W' (hx.below (bstep hb hb')) (ht.below hb') (hk.below hb') h1 h2 k1 k2
    have E : mmsB x.t l = allI (mmB x.t) 0 l := by simp [mmsB, hlen]
    rw [E]
    have hl2 : ((l.length : Int) == (x.t.ks.length : Int)) = true := by simp [hlen]
    have hl3 : ((l.length : Int) = (x.t.ks.length : Int)) := by omega
    generalize allI (mmB x.t) 0 l = t at *
    have HT : Hid (∀ W b, TbB W b x ↔ W.heap[b]? = some (.cells #[.slice x.ka x.t.ks.length x.kc, .slice x.wa x.t.ws.length x.wc, .int .i64 x.t.size] 25 (0, 0))) := fun _ _ => Iff.rfl
    obtain ⟨⟨ks, ws, size⟩, ka, kc, wa, wc⟩ := x
    simp only [TbL.val] at *
    clear hx hm hr hv hl E hlen
    go_enter Try.func43, Try.ntmps43
    go_wp2_with fail
    refine (HK.out _).mono ?_
    rintro e w1 ⟨rfl, hb⟩
    have B1 := hide (bstep (below1 _ _) hb)
    have h3 := heap_below hb (heap_alloc_new _ _)
    have T1 := hide (heap_past kiO h3)
    obtain ⟨c0, -, -, -⟩ := at3 (heap_past kiO h3)
    unfold kiO at c0
    clear h3
    go_wp2_with fail
    refine (HE.out _ _ _ (bstep B1.out (below1 _ _)) T1.out (kiB_new _)).mono ?_
    rintro e w2 ⟨rfl, hb2⟩
    go_wp2
    go_ret
    exact ⟨by simp, bstep (bstep B1.out (below1 _ _)) hb2⟩
  · have E : mmsB x.t l = false := by simp [mmsB, hlen]
    rw [E]
    have hl2 : ((l.length : Int) == (x.t.ks.length : Int)) = false := by simp; omega
    have hl3 : ((l.length : Int) = (x.t.ks.length : Int)) = False := by simp; omega
    have hl4 : (l.length = x.t.ks.length) = False := by simp; omega
    obtain ⟨⟨ks, ws, size⟩, ka, kc, wa, wc⟩ := x
    simp only [TbL.val] at *
    clear hx hm hr hv hl E hlen
    go_enter Try.func43, Try.ntmps43
    go_wp2_with fail
    refine (HK.out _).mono ?_
    rintro e w1 ⟨rfl, hb⟩
    have B1 := hide (bstep (below1 _ _) hb)
    have h3 := heap_below hb (heap_alloc_new _ _)
    obtain ⟨c0, -, -, -⟩ := at3 (heap_past kiO h3)
    unfold kiO at c0
    clear h3
    go_wp2
    go_ret
    exact ⟨rfl, bstep B1.out (below1 _ _)⟩
/- An entry as it lies. -/
structure EnL where
  e : En
  ma : Option Addr
  mc : Nat
  aa : Option Addr
  ac : Nat
def EnL.val (x : EnL) : Value := .agg #[.slice x.ma x.e.ms.length x.mc, .int .i64 x.e.prio, .string x.e.act, .slice x.aa x.e.args.length x.ac]
structure EnR (W : World) (x : EnL) : Prop where
  ms : RdX W x.ma x.e.ms
  args : RdN W x.aa x.e.args
  mn : x.e.ms.length ≤ 1000000
  an : x.e.args.length ≤ 1000000
  mr : ∀ m ∈ x.e.ms, MxR m
  ar : ∀ b ∈ x.e.args, NbR b
  pr : i64R x.e.prio
  mz : x.ma = none → x.mc = 0
  az : x.aa = none → x.ac = 0
theorem EnR.below {W W' : World} {x : EnL} (h : EnR W x) (hb : Below W.heap.size W W') : EnR W' x := ⟨h.ms.below hb, h.args.below hb, h.mn, h.an, h.mr, h.ar, h.pr, h.mz, h.az⟩
def enMay (t : Tb) (e : En) : Bool := mmsB t e.ms && (prioB t e.prio && !(e.args.any (fun b => !b.ok)))
theorem at4 {W : World} {b : Nat} {x y z u : Value} {t : TypeId} (h : W.heap[b]? = some (.cells #[x, y, z, u] t (0, 0))) : W.cell? ⟨b, 0, none⟩ = some x ∧ W.cell? ⟨b, 1, none⟩ = some y ∧ W.cell? ⟨b, 2, none⟩ = some z ∧ W.cell? ⟨b, 3, none⟩ = some u ∧ ∀ o, W.frozen? ⟨b, o, none⟩ = false := by
  refine ⟨?_, ?_, ?_, ?_, fun o => ?_⟩
  all_goals first | (unfold World.cell?; simp only [h]; rfl) | (unfold World.frozen?; simp only [h]; simp)
set_option maxRecDepth 100000 in
set_option maxHeartbeats 4000000 in
theorem entryMayBe_any (x : TbL) (y : EnL) (w : World) (hx : TbR w x) (hm : tabMay x.t = true) (hy : EnR w y) :
    Calls Try.prog 25 #[x.val, y.val] w fun e w' => e = .returned (.bool (enMay x.t y.e)) ∧ Below w.heap.size w w' := by
  have HM : Hid (∀ W, Below w.heap.size w W → _) := fun W hb => matchesMayBe_any x y.ma y.mc y.e.ms W (hx.below hb) hm (hy.ms.below hb) (by have := hy.mn; omega) hy.mr
  have HP : Hid (∀ W, Below w.heap.size w W → _) := fun W hb => priority_any x y.e.prio W (hx.below hb)
  have HA : Hid (∀ W, Below w.heap.size w W → _) := fun W hb => containsBad_any y.aa y.ac y.e.args W (hy.args.below hb) (by have := hy.an; omega) hy.ar
  clear hx hm hy
  unfold enMay
  generalize mmsB x.t y.e.ms = t1 at *
  generalize prioB x.t y.e.prio = t2 at *
  generalize y.e.args.any (fun b => !b.ok) = t3 at *
  obtain ⟨⟨ks, ws, size⟩, ka, kc, wa, wc⟩ := x
  obtain ⟨⟨ms, prio, act, args⟩, ma, mc, aa, ac⟩ := y
  simp only [TbL.val, EnL.val] at *
  cases t1
  · go_enter Try.func25, Try.ntmps25
    go_wp2_with fail
    refine (HM.out _ (below2 _ _ _)).mono ?_
    rintro e w1 ⟨rfl, hb⟩
    go_wp2
    go_ret
    exact ⟨rfl, bstep (below2 _ _ _) hb⟩
  · cases t2
    · go_enter Try.func25, Try.ntmps25
      go_wp2_with fail
      refine (HM.out _ (below2 _ _ _)).mono ?_
      rintro e w1 ⟨rfl, hb⟩
      have B1 := hide (bstep (below2 _ _ _) hb)
      obtain ⟨a0, a1, a2, -⟩ := at3 (heap_below hb (heap_past _ (heap_alloc_new _ _)))
      obtain ⟨b0, b1, b2, b3, -⟩ := at4 (heap_below hb (heap_snd _ _ _ _))
      go_wp2_with fail
      refine (HP.out _ B1.out).mono ?_
      rintro e w2 ⟨rfl, hb2⟩
      go_wp2
      go_ret
      exact ⟨rfl, bstep B1.out hb2⟩
    · go_enter Try.func25, Try.ntmps25
      go_wp2_with fail
      refine (HM.out _ (below2 _ _ _)).mono ?_
      rintro e w1 ⟨rfl, hb⟩
      have B1 := hide (bstep (below2 _ _ _) hb)
      obtain ⟨a0, a1, a2, -⟩ := at3 (heap_below hb (heap_past _ (heap_alloc_new _ _)))
      have H4 := hide (heap_below hb (heap_snd _ _ _ _))
      obtain ⟨b0, b1, b2, b3, -⟩ := at4 H4.out
      go_wp2_with fail
      refine (HP.out _ B1.out).mono ?_
      rintro e w2 ⟨rfl, hb2⟩
      have B2 := hide (bstep B1.out hb2)
      obtain ⟨d0, d1, d2, d3, -⟩ := at4 (heap_below hb2 H4.out)
      go_wp2_with fail
      refine (HA.out _ B2.out).mono ?_
      rintro e w3 ⟨rfl, hb3⟩
      go_wp2
      go_ret
      exact ⟨by simp, bstep B2.out hb3⟩
def chkB (t : Tb) (e : En) : Bool := tabMay t && enMay t e
def chkI (t : Tb) (e : En) : Int := if chkB t e then 0 else 1
set_option maxHeartbeats 2000000 in
theorem check13_any (x : TbL) (y : EnL) (w : World) (hx : TbR w x) (hy : EnR w y) :
    Calls Try.prog 8 #[x.val, y.val] w fun e w' => e = .returned (.int .i64 (chkI x.t y.e)) ∧ Below w.heap.size w w' := by
  have HT : Hid (∀ W, Below w.heap.size w W → _) := fun W hb => tableMayBe_any x W (hx.below hb)
  unfold chkI chkB
  cases em : tabMay x.t
  · rw [em] at HT
    clear hx hy em
    obtain ⟨⟨ks, ws, size⟩, ka, kc, wa, wc⟩ := x
    obtain ⟨⟨ms, prio, act, args⟩, ma, mc, aa, ac⟩ := y
    simp only [TbL.val, EnL.val] at *
    go_enter Try.func8, Try.ntmps8
    go_wp2_with fail
    refine (HT.out _ (below2 _ _ _)).mono ?_
    rintro e w1 ⟨rfl, hb⟩
    go_wp2
    go_ret
    exact ⟨rfl, bstep (below2 _ _ _) hb⟩
  · rw [em] at HT
    have HE : Hid (∀ W, Below w.heap.size w W → _) := fun W hb => entryMayBe_any x y W (hx.below hb) em (hy.below hb)
    clear hx hy em
    generalize enMay x.t y.e = t at *
    obtain ⟨⟨ks, ws, size⟩, ka, kc, wa, wc⟩ := x
    obtain ⟨⟨ms, prio, act, args⟩, ma, mc, aa, ac⟩ := y
    simp only [TbL.val, EnL.val] at *
    cases t
    all_goals
      go_enter Try.func8, Try.ntmps8
      go_wp2_with fail
      refine (HT.out _ (below2 _ _ _)).mono ?_
      rintro e w1 ⟨rfl, hb⟩
      have B1 := hide (bstep (below2 _ _ _) hb)
      obtain ⟨a0, a1, a2, -⟩ := at3 (heap_below hb (heap_past _ (heap_alloc_new _ _)))
      obtain ⟨b0, b1, b2, b3, -⟩ := at4 (heap_below hb (heap_snd _ _ _ _))
      go_wp2_with fail
      refine (HE.out _ B1.out).mono ?_
      rintro e w2 ⟨rfl, hb2⟩
      go_wp2
      go_ret
      exact ⟨rfl, bstep B1.out hb2⟩
end Go.Proofs.Ythkhdmdllhbfeaa
