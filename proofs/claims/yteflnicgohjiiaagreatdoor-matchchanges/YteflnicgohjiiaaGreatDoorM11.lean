/- Pieces of the proof: MtO, MtP. -/
import Derived.Test.YteflnicgohjiiaaGreatDoorM10
/- package match: Insert. -/
namespace Go.Proofs.YteflnicgohjiiaaGreatDoor
open Go.RowKit

theorem Cp.rd {w W : World} {v : Value} {acc : List EnL} (h : Cp w W v acc) : ∃ a cap, v = .slice a acc.length cap ∧ RdE W a acc ∧ (a = none → cap = 0) ∧ acc.length ≤ cap ∧ ∀ q, a = some q → w.heap.size ≤ q.block := by
  rcases own_form h.own with ⟨hv, hn⟩ | ⟨g, cap, hv, hg, hlt, hc⟩
  · have h0 : acc = [] := List.length_eq_zero_iff.1 hn
    subst h0
    exact ⟨none, 0, hv, ⟨.inl rfl, fun x hx => absurd hx (by simp)⟩, fun _ => rfl, Nat.le_refl _, fun q e => by cases e⟩
  · refine ⟨_, cap, hv, ⟨.inr ⟨g, 0, rfl, hlt, fun i hi => ?_⟩, fun x hx => (h.ok x hx).1⟩, fun e => (by cases e), hc, fun q e => (by cases e; exact hg)⟩
    have key := own_cell en_len h.own hv i hi
    exact ⟨key 0 _ rfl, key 1 _ rfl, key 2 _ rfl, key 3 _ rfl⟩
theorem Cp.none {w W : World} (h : Below w.heap.size w W) : Cp w W (.slice none 0 0) [] := ⟨h, World.ownsRow_nil _ _ _ _, fun x hx => absurd hx (by simp)⟩
theorem own_lower {W : World} {B B' c n : Nat} {e : TypeId} {v : Value} {xs : List Value} (h : W.ownsRow B e c v n xs) (hb : B' ≤ B) : W.ownsRow B' e c v n xs := by
  refine ⟨h.1, ?_⟩
  rcases h.2 with h0 | ⟨gr, cap, cur, rfl, hg, rest⟩
  · exact .inl h0
  · exact .inr ⟨gr, cap, cur, rfl, Nat.le_trans hb hg, rest⟩
theorem Cp.from {w w0 W : World} {v : Value} {acc : List EnL} (h : Cp w W v acc) (hb : Below w0.heap.size w0 w) : Cp w0 W v acc := by
  refine ⟨bstep hb h.bl, ?_, h.ok⟩
  exact own_lower h.own hb.size
theorem ens_len (l : List EnL) : (ens l).length = l.length := by simp [ens]
theorem firstI_ens (p : En → Bool) (l : List EnL) : firstI (fun x : EnL => p x.e) l = firstI p (ens l) := by
  unfold firstI ens; rw [List.findIdx?_map]; rfl
def hereI (l : List En) (e : En) : Int := firstI (fun x => sameP x e) l
def insI (t : Tb) (l : List En) (e : En) : Int := if chkB t e then (if 0 ≤ hereI l e then 12 else if t.size ≤ l.length then 10 else 0) else 1
theorem two_lists {W : World} {a : Option Addr} {cap : Nat} {l : List EnL} {y : EnL} {c p : Nat} (hl : RdE W a l) (hy : EnR W y) (hc : EnB W c y) (hp : W.heap[p]? = some (.cells #[.slice a l.length cap, .slice (some ⟨c, 0, none⟩) 1 1] 26 (0, 0))) : Rd2 W p [⟨l, a, cap⟩, ⟨[y], some ⟨c, 0, none⟩, 1⟩] := by
  refine ⟨lt_heap hp, fun i hi => ?_, fun x hx => ?_⟩
  · rcases (by simp at hi; omega : i = 0 ∨ i = 1) with rfl | rfl
    · rw [cellA hp]; rfl
    · rw [cellA hp]; rfl
  · simp only [List.mem_cons, List.not_mem_nil, or_false] at hx
    rcases hx with rfl | rfl
    · exact hl
    · refine ⟨.inr ⟨c, 0, rfl, lt_heap hc, fun i hi => ?_⟩, fun x hx => ?_⟩
      · obtain rfl : i = 0 := by simp at hi; omega
        obtain ⟨h0, h1, h2, h3, -⟩ := at4 hc
        exact ⟨h0, h1, h2, h3⟩
      · have : x = y := by simpa using hx
        subst this; exact hy
set_option maxRecDepth 100000 in
set_option maxHeartbeats 4000000 in
theorem insert_any (x : TbL) (a : Option Addr) (cap : Nat) (l : List EnL) (y : EnL) (w : World) (hx : TbR w x) (hl : RdE w a l) (hy : EnR w y) (hn : l.length ≤ 900000) :
    Calls Tryz.prog 8 #[x.val, .slice a l.length cap, y.val] w fun e w' => ∃ v acc, e = .returned (.tuple #[v, .int .i64 (insI x.t (ens l) y.e)]) ∧ ens acc = (if insI x.t (ens l) y.e = 0 then ens l ++ [y.e] else []) ∧ Cp w w' v acc := by
  suffices H : ∀ Q : Ending → World → Prop, (∀ v acc W', ens acc = (if insI x.t (ens l) y.e = 0 then ens l ++ [y.e] else []) → Cp w W' v acc → Q (.returned (.tuple #[v, .int .i64 (insI x.t (ens l) y.e)])) W') → Calls Tryz.prog 8 #[x.val, .slice a l.length cap, y.val] w Q from H _ (fun v acc W' h1 h2 => ⟨v, acc, rfl, h1, h2⟩)
  intro Q hQ
  have HQ := hide hQ
  clear hQ
  have HC : Hid (∀ W, Below w.heap.size w W → _) := fun W hb => check13_any x y W (hx.below hb) (hy.below hb)
  have HP : Hid (∀ W, Below w.heap.size w W → _) := fun W hb => placeOf_any a cap l y W (hl.below hb) (by omega) (hy.below hb)
  have HL := hide hl
  have HY := hide hy
  have HN := hide hn
  unfold insI chkI at *
  have HH : Hid (firstI (fun x : EnL => sameP x.e y.e) l = hereI (ens l) y.e) := firstI_ens (fun x => sameP x y.e) l
  rw [HH.out] at HP
  have HS : Hid (-1 ≤ hereI (ens l) y.e ∧ hereI (ens l) y.e < 1000000) := by
    have := firstI_lt (fun x => sameP x y.e) (ens l)
    rw [ens_len] at this
    unfold hereI
    show _ ∧ _
    omega
  clear hx hl hy hn
  generalize hereI (ens l) y.e = r at *
  generalize chkB x.t y.e = t at *
  obtain ⟨⟨ks, ws, size⟩, ka, kc, wa, wc⟩ := x
  have HEN : Hid (∀ W b, EnB W b y ↔ W.heap[b]? = some (.cells #[.slice y.ma y.e.ms.length y.mc, .int .i64 y.e.prio, .string y.e.act, .slice y.aa y.e.args.length y.ac] 30 (0, 0))) := fun _ _ => Iff.rfl
  obtain ⟨⟨ms, prio, act, args⟩, ma, mc, aa, ac⟩ := y
  simp only [TbL.val, EnL.val] at *
  cases t
  · simp only [Bool.false_eq_true, if_false] at HC HQ
    go_enter Tryz.func8, Tryz.ntmps8
    go_wp2_with fail
    refine (HC.out _ (below2 _ _ _)).mono ?_
    rintro e w1 ⟨rfl, hb⟩
    go_wp2
    exact HQ.out _ [] _ rfl (Cp.none (bstep (below2 _ _ _) hb))
  · simp only [if_true] at HC HQ
    go_enter Tryz.func8, Tryz.ntmps8
    go_wp2_with fail
    refine (HC.out _ (below2 _ _ _)).mono ?_
    rintro e w1 ⟨rfl, hb⟩
    have B1 := hide (bstep (below2 _ _ _) hb)
    have T1 := hide (heap_below hb (heap_past _ (heap_alloc_new _ _)))
    have E1 := hide (heap_below hb (heap_snd _ _ _ _))
    obtain ⟨b0, b1, b2, b3, -⟩ := at4 E1.out
    clear hb
    go_wp2_with fail
    refine (HP.out _ B1.out).mono ?_
    rintro e w2 ⟨rfl, hb2⟩
    have B2 := hide (bstep B1.out hb2)
    obtain ⟨c0, c1, c2, -⟩ := at3 (heap_below hb2 T1.out)
    have E2 := hide (heap_below hb2 E1.out)
    obtain ⟨d0, d1, d2, d3, -⟩ := at4 E2.out
    clear hb2 b0 b1 b2 b3
    by_cases h1 : 0 ≤ r
    · have f1 : (r == -1) = false := by simp; omega
      have f2 : (r = -1) = False := by simp; omega
      rw [if_pos h1] at HQ
      clear HS
      go_wp2
      exact HQ.out _ [] _ rfl (Cp.none B2.out)
    · obtain rfl : r = -1 := by have := HS.out; omega
      rw [if_neg h1, ens_len] at HQ
      clear HS h1
      by_cases h2 : size ≤ l.length
      · have f1 : ((l.length : Int) ≥ size) = True := by simp; omega
        rw [if_pos h2] at HQ
        go_wp2
        exact HQ.out _ [] _ rfl (Cp.none B2.out)
      · have f1 : ((l.length : Int) ≥ size) = False := by simp; omega
        have f2 : (size ≤ (l.length : Int)) = False := by simp; omega
        rw [if_neg h2] at HQ
        clear h2
        have HE2 := hide (HL.out.below B2.out)
        have HY2 := hide (HY.out.below B2.out)
        have HR2 := hide (two_lists (W := (w2.alloc (.cells #[.slice ma ms.length mc, .int .i64 prio, .string act, .slice aa args.length ac] 30)).alloc (.cells #[.slice a l.length cap, .slice (some ⟨w2.heap.size, 0, none⟩) 1 1] 26)) (a := a) (cap := cap) (l := l) (y := ⟨⟨ms, prio, act, args⟩, ma, mc, aa, ac⟩) (c := w2.heap.size) (p := w2.heap.size + 1) (HE2.out.below (below2 _ _ _)) (HY2.out.below (below2 _ _ _)) (heap_past _ (heap_alloc_new _ _)) (heap_snd _ _ _ _))
        have HCC := hide (copied_any (w2.heap.size + 1) 2 _ _ HR2.out (by simp) (by have := HN.out; simp [allE, ens_len]; omega))
        simp only [List.length_cons, List.length_nil] at HCC
        go_wp2_with fail
        refine HCC.out.mono ?_
        rintro e w3 ⟨v, acc, rfl, hacc, hcp⟩
        have HAC := hide hacc
        have HCP := hide (hcp.from (bstep B2.out (below2 _ _ _)))
        clear hacc hcp
        go_wp2
        exact HQ.out _ acc _ (by rw [HAC.out]; simp [allE, ens]) HCP.out
end Go.Proofs.YteflnicgohjiiaaGreatDoor
/- package match: does a match match; how much an entry counts; are keys as wide. -/
namespace Go.Proofs.YteflnicgohjiiaaGreatDoor
open Go.RowKit

def mtB (t : Tb) (keys : List Nb) (i : Nat) (x : Mx) : Bool := wide x.v (keys.getD i nb0).w && matK (t.ks.getD i 0) x (keys.getD i nb0)
def NbS (W : World) (b : Nat) (a : Option Addr) (n cap : Nat) : Prop := W.heap[b]? = some (.cells #[.slice a n cap] 28 (0, 0))
theorem NbS.below {W W' : World} {b : Nat} {a : Option Addr} {n cap : Nat} (h : NbS W b a n cap) (hb : Below W.heap.size W W') : NbS W' b a n cap := heap_below hb h
theorem at1 {W : World} {b : Nat} {x : Value} {t : TypeId} (h : W.heap[b]? = some (.cells #[x] t (0, 0))) : W.cell? ⟨b, 0, none⟩ = some x ∧ ∀ o, W.frozen? ⟨b, o, none⟩ = false := by
  refine ⟨?_, fun o => ?_⟩
  · unfold World.cell?; simp only [h]; rfl
  · unfold World.frozen?; simp only [h]; simp
set_option maxRecDepth 100000 in
set_option maxHeartbeats 4000000 in
theorem matAt_any (x : TbL) (keys : List Nb) (a : Option Addr) (cap : Nat) (tb rb kb i : Nat) (m : Mx) (hm : MxR m) (w : World) (hx : TbR w x) (hkr : RdN w a keys) (hkn : ∀ b ∈ keys, NbR b) (ht : TbB w tb x) (hk : KiB w rb) (hs : NbS w kb a keys.length cap) (hi : i < x.t.ks.length) (hi' : i < keys.length) (k1 : 1 ≤ x.t.ks[i]) (k4 : x.t.ks[i] ≤ 4) :
    Calls Tryz.prog 219 #[.int .i64 i, m.val, .pointer (some ⟨kb, 0, none⟩), .pointer (some ⟨rb, 0, none⟩), .pointer (some ⟨tb, 0, none⟩)] w fun e w' => e = .returned (.bool (mtB x.t keys i m)) ∧ Below w.heap.size w w' := by
  have E : mtB x.t keys i m = (wide m.v keys[i].w && matK x.t.ks[i] m keys[i]) := by simp [mtB, hi, hi']
  rw [E]
  clear E
  have hwr := (hkn keys[i] (List.getElem_mem hi')).w
  have HW : Hid (Pure _ _ _) := isWide_any m.v keys[i].w hm.v
  have HM : Hid (Pure _ _ _) := matF_any x.t.ks[i] k1 k4 m keys[i] hm hwr.2
  have hlI : (i : Int) < (x.t.ks.length : Int) := by omega
  have hlJ : (i : Int) < (keys.length : Int) := by omega
  obtain ⟨p, off, ep, hp, hcl⟩ := hx.ks.some (by omega)
  obtain ⟨p', off', ep', hp', hcl'⟩ := hkr.some (by omega)
  have q0 := hcl i hi
  obtain ⟨q1, q2, q3⟩ := hcl' i hi'
  have KM := hide (kindsL_mat _ k1 k4)
  have HT := hide ht
  have HK := hide hk
  have HS := hide hs
  have hik : i < x.t.ks.length := hi
  have hiw : i < keys.length := hi'
  clear hcl hcl' hwr hm hx ht hk hkr hkn hs
  generalize x.t.ks[i] = k at *
  generalize keys[i] = key at *
  generalize hwd : wide m.v key.w = t1' at *
  generalize hmk : matK k m key = t2' at *
  clear hwd hmk hi hi'
  obtain ⟨⟨ks, ws, size⟩, ka, kc, wa, wc⟩ := x
  simp only at *
  subst ep ep'
  obtain ⟨⟨vw, vh, vl⟩, ⟨mw, mh, ml⟩, len⟩ := m
  obtain ⟨kw, kh, kl⟩ := key
  simp only [Mx.val, Nb.val] at *
  generalize hW1 : w.alloc (.cells #[.int .i64 vw, .int .u64 vh, .int .u64 vl, .int .i64 mw, .int .u64 mh, .int .u64 ml, .int .i64 len] 105) = W1
  have B1 : Below w.heap.size w W1 := hW1 ▸ below1 _ _
  have HB1 := hide B1
  obtain ⟨X, f, hX, hS, hcov⟩ := class_of (fun w' => Below W1.heap.size W1 w') W1.drew (Below.refl _ _).drew
  have HC0 : Hid (∃ x, W1.drew = f x) := hcov _ (Below.refl _ _).drew
  have HNX : Hid (∀ x w', Below (f x).heap.size (f x) w' → ∃ y, w' = f y) := fun x w' hb => hcov w' ((hS x).trans (hb.mono (hS x).size))
  have HSS := hide hS
  have HBX : Hid (∀ x, Below w.heap.size w (f x)) := fun x => bstep B1 (hS x)
  have hm7 : W1.heap[w.heap.size]? = some (.cells #[.int .i64 vw, .int .u64 vh, .int .u64 vl, .int .i64 mw, .int .u64 mh, .int .u64 ml, .int .i64 len] 105 (0, 0)) := hW1 ▸ heap_alloc_new _ _
  have t0 := fun x => (at7 (heap_below (hS x) hm7)).1
  have t1 := fun x => (at7 (heap_below (hS x) hm7)).2.1
  have t2 := fun x => (at7 (heap_below (hS x) hm7)).2.2.1
  have t3 := fun x => (at7 (heap_below (hS x) hm7)).2.2.2.1
  have t4 := fun x => (at7 (heap_below (hS x) hm7)).2.2.2.2.1
  have t5 := fun x => (at7 (heap_below (hS x) hm7)).2.2.2.2.2.1
  have t6 := fun x => (at7 (heap_below (hS x) hm7)).2.2.2.2.2.2
  have s0 := fun x => (at3 (heap_below (HBX.out x) HT.out)).1
  have s1 := fun x => (at1 (heap_below (HBX.out x) HS.out)).1
  have r0 := fun x => ((HBX.out x).cell (p := ⟨p, off + i, none⟩) hp).trans q0
  have r1 := fun x => ((HBX.out x).cell (p := ⟨p', off' + i * 3, none⟩) hp').trans q1
  have r2 := fun x => ((HBX.out x).cell (p := ⟨p', off' + i * 3 + 1, none⟩) hp').trans q2
  have r3 := fun x => ((HBX.out x).cell (p := ⟨p', off' + i * 3 + 2, none⟩) hp').trans q3
  have u0 := fun x => cellK (HK.out.below (HBX.out x)) KM.out
  simp only at s0 s1
  have HW1 := hide hW1
  clear hcov hS B1 hm7 q0 q1 q2 q3 hW1
  rcases (by omega : k = 1 ∨ k = 2 ∨ k = 3 ∨ k = 4) with rfl | rfl | rfl | rfl
  · have r0' : ∀ x, (f x).cell? ⟨p, off + i, none⟩ = some (.int .u8 1) := r0
    have u0' : ∀ x, (f x).cell? ⟨rb, 3, none⟩ = some (.func (.func 234) #[] #[]) := u0
    have HM' : Hid (Pure 234 #[.agg #[.int .i64 vw, .int .u64 vh, .int .u64 vl, .int .i64 mw, .int .u64 mh, .int .u64 ml, .int .i64 len], .agg #[.int .i64 kw, .int .u64 kh, .int .u64 kl]] (.bool t2')) := HM
    clear r0 u0 HM KM k1 k4
    cases t1'
    all_goals
      go_enter Tryz.func219, Tryz.ntmps219
      go_wp2
      rw [HW1.out]
      refine wp_region_class f (by kernel_rfl) (by kernel_rfl) HC0.out ?_
      repeat (first
        | go_big_quiet_skip
        | (go_big_quiet_want; go_big_quiet_op; first
            | go_big_quiet_on
            | (apply Exists.intro
               refine ⟨fun _ => ?_, ?_⟩
               · first
                  | (go_at_call 135; refine (HW.out _).mono ?_; rintro e' wn ⟨rfl, hb⟩; exact ⟨rfl, HNX.out _ _ hb⟩)
                  | (go_at_call 234; refine (HM'.out _).mono ?_; rintro e' wn ⟨rfl, hb⟩; exact ⟨rfl, HNX.out _ _ hb⟩)
               go_big_quiet_on)))
      refine wpQuiet_nil ?_
      rintro _ ⟨x, rfl⟩
      go_wp2
      go_ret
      exact ⟨rfl, HBX.out x⟩
  · have r0' : ∀ x, (f x).cell? ⟨p, off + i, none⟩ = some (.int .u8 2) := r0
    have u0' : ∀ x, (f x).cell? ⟨rb, 5, none⟩ = some (.func (.func 237) #[] #[]) := u0
    have HM' : Hid (Pure 237 #[.agg #[.int .i64 vw, .int .u64 vh, .int .u64 vl, .int .i64 mw, .int .u64 mh, .int .u64 ml, .int .i64 len], .agg #[.int .i64 kw, .int .u64 kh, .int .u64 kl]] (.bool t2')) := HM
    clear r0 u0 HM KM k1 k4
    cases t1'
    all_goals
      go_enter Tryz.func219, Tryz.ntmps219
      go_wp2
      rw [HW1.out]
      refine wp_region_class f (by kernel_rfl) (by kernel_rfl) HC0.out ?_
      repeat (first
        | go_big_quiet_skip
        | (go_big_quiet_want; go_big_quiet_op; first
            | go_big_quiet_on
            | (apply Exists.intro
               refine ⟨fun _ => ?_, ?_⟩
               · first
                  | (go_at_call 135; refine (HW.out _).mono ?_; rintro e' wn ⟨rfl, hb⟩; exact ⟨rfl, HNX.out _ _ hb⟩)
                  | (go_at_call 237; refine (HM'.out _).mono ?_; rintro e' wn ⟨rfl, hb⟩; exact ⟨rfl, HNX.out _ _ hb⟩)
               go_big_quiet_on)))
      refine wpQuiet_nil ?_
      rintro _ ⟨x, rfl⟩
      go_wp2
      go_ret
      exact ⟨rfl, HBX.out x⟩
  · have r0' : ∀ x, (f x).cell? ⟨p, off + i, none⟩ = some (.int .u8 3) := r0
    have u0' : ∀ x, (f x).cell? ⟨rb, 7, none⟩ = some (.func (.func 240) #[] #[]) := u0
    have HM' : Hid (Pure 240 #[.agg #[.int .i64 vw, .int .u64 vh, .int .u64 vl, .int .i64 mw, .int .u64 mh, .int .u64 ml, .int .i64 len], .agg #[.int .i64 kw, .int .u64 kh, .int .u64 kl]] (.bool t2')) := HM
    clear r0 u0 HM KM k1 k4
    cases t1'
    all_goals
      go_enter Tryz.func219, Tryz.ntmps219
      go_wp2
      rw [HW1.out]
      refine wp_region_class f (by kernel_rfl) (by kernel_rfl) HC0.out ?_
      repeat (first
        | go_big_quiet_skip
        | (go_big_quiet_want; go_big_quiet_op; first
            | go_big_quiet_on
            | (apply Exists.intro
               refine ⟨fun _ => ?_, ?_⟩
               · first
                  | (go_at_call 135; refine (HW.out _).mono ?_; rintro e' wn ⟨rfl, hb⟩; exact ⟨rfl, HNX.out _ _ hb⟩)
                  | (go_at_call 240; refine (HM'.out _).mono ?_; rintro e' wn ⟨rfl, hb⟩; exact ⟨rfl, HNX.out _ _ hb⟩)
               go_big_quiet_on)))
      refine wpQuiet_nil ?_
      rintro _ ⟨x, rfl⟩
      go_wp2
      go_ret
      exact ⟨rfl, HBX.out x⟩
  · have r0' : ∀ x, (f x).cell? ⟨p, off + i, none⟩ = some (.int .u8 4) := r0
    have u0' : ∀ x, (f x).cell? ⟨rb, 9, none⟩ = some (.func (.func 244) #[] #[]) := u0
    have HM' : Hid (Pure 244 #[.agg #[.int .i64 vw, .int .u64 vh, .int .u64 vl, .int .i64 mw, .int .u64 mh, .int .u64 ml, .int .i64 len], .agg #[.int .i64 kw, .int .u64 kh, .int .u64 kl]] (.bool t2')) := HM
    clear r0 u0 HM KM k1 k4
    cases t1'
    all_goals
      go_enter Tryz.func219, Tryz.ntmps219
      go_wp2
      rw [HW1.out]
      refine wp_region_class f (by kernel_rfl) (by kernel_rfl) HC0.out ?_
      repeat (first
        | go_big_quiet_skip
        | (go_big_quiet_want; go_big_quiet_op; first
            | go_big_quiet_on
            | (apply Exists.intro
               refine ⟨fun _ => ?_, ?_⟩
               · first
                  | (go_at_call 135; refine (HW.out _).mono ?_; rintro e' wn ⟨rfl, hb⟩; exact ⟨rfl, HNX.out _ _ hb⟩)
                  | (go_at_call 244; refine (HM'.out _).mono ?_; rintro e' wn ⟨rfl, hb⟩; exact ⟨rfl, HNX.out _ _ hb⟩)
               go_big_quiet_on)))
      refine wpQuiet_nil ?_
      rintro _ ⟨x, rfl⟩
      go_wp2
      go_ret
      exact ⟨rfl, HBX.out x⟩
set_option maxRecDepth 100000 in
set_option maxHeartbeats 4000000 in
theorem equalFunc_any (a b : Option Addr) (ca cb : Nat) (keys : List Nb) (ws : List Int) (w : World) (hr : RdN w a keys) (hz : RdZ w b ws) (hn : ∀ k ∈ keys, NbR k) (hl : keys.length ≤ 140737488355328) :
    Calls Tryz.prog 134 #[.slice a keys.length ca, .slice b ws.length cb, .func (.func 135) #[] #[]] w fun e w' => e = .returned (.bool (keys.length == ws.length && allI (fun i k => wide k (ws.getD i 0)) 0 keys)) ∧ Below w.heap.size w w' := by
  by_cases hlen : keys.length = ws.length
  · have hl2 : ((keys.length : Int) == (ws.length : Int)) = true := by simp [hlen]
    have HR := hide hr
    have HZ := hide hz
    have HL := hide hlen
    have HNB := hide hn
    have E : (keys.length == ws.length && allI (fun i k => wide k (ws.getD i 0)) 0 keys) = allI (fun i k => wide k (ws.getD i 0)) 0 keys := by simp [hlen]
    rw [E, ← hlen]
    clear hr hz hn hl2 hlen E
    generalize hP : (fun i k => wide k (ws.getD i 0)) = P at *
    have HP : Hid (∀ i k, P i k = wide k (ws.getD i 0)) := fun i k => by rw [← hP]
    clear hP
    go_enter Tryz.func134, Tryz.ntmps134
    go_wp2
    go_loopw [17] (fun i wr => ∃ k : Nat, k ≤ keys.length ∧ i = .int .i64 k ∧ (∀ j (hj : j < k) (hj' : j < keys.length), P j keys[j] = true) ∧ Below w.heap.size w wr) (fun i _ => keys.length - (intOf i).toNat)
    case atStart => exact ⟨0, by omega, rfl, fun j hj => absurd hj (by omega), Below.refl _ _⟩
    case round =>
      obtain ⟨k, hk, rfl, hn, hb⟩ := hrel
      have HN := hide hn
      have HW := hide hb
      clear hn hb
      by_cases hlt : k < keys.length
      · have hlt2 : k < ws.length := by have := HL.out; omega
        obtain ⟨p, off, rfl, hp, hcl⟩ := (HR.out.below HW.out).some (by omega)
        obtain ⟨p', off', rfl, hp', hcl'⟩ := (HZ.out.below HW.out).some (by omega)
        obtain ⟨q0, q1, q2⟩ := hcl k hlt
        have r0 : ∀ o, (wr.alloc o).cell? ⟨p', off' + k, none⟩ = some (.int .i64 ws[k]) := fun o => ((below1 wr o).cell (p := ⟨p', off' + k, none⟩) hp').trans (hcl' k hlt2)
        have hlI : (k : Int) < (keys.length : Int) := by omega
        have HC : Hid (Pure _ _ _) := isWide_any keys[k] ws[k] (HNB.out _ (List.getElem_mem hlt))
        have HX : Hid (P k keys[k] = true → ∀ j (hj : j < k + 1) (hj' : j < keys.length), P j keys[j] = true) := fun ho j hj hj' => by
          by_cases e : j = k
          · subst e; exact ho
          · exact HN.out j (by omega) hj'
        have HO : Hid (P k keys[k] = false → allI P 0 keys = false) := fun ho => allI_no keys 0 k hlt (by rw [Nat.zero_add]; exact ho)
        have HE : Hid (P k keys[k] = wide keys[k] ws[k]) := by show _ = _; rw [HP.out]; simp [hlt2]
        clear hcl hcl' hp hp'
        rw [HE.out] at HX HO
        clear HE
        generalize keys[k] = x at *
        generalize ws[k] = n at *
        generalize wide x n = t at *
        obtain ⟨xw, xh, xl⟩ := x
        simp only [Nb.val] at *
        cases t
        · go_wp2_with fail
          refine (HC.out _).mono ?_
          rintro e w1 ⟨rfl, hb⟩
          go_wp2
          go_ret
          exact ⟨by rw [HO.out (by first | rfl | trivial)]; rfl, bstep (bstep HW.out (below1 _ _)) hb⟩
        · go_wp2_with fail
          refine (HC.out _).mono ?_
          rintro e w1 ⟨rfl, hb⟩
          go_wp2
          go_roundw
          case rel => exact ⟨k + 1, by omega, by go_num, HX.out (by first | rfl | trivial), bstep (bstep HW.out (below1 _ _)) hb⟩
          case measure => simp [intOf]; omega
      · obtain rfl : k = keys.length := by omega
        have HH := hide (allI_yes (p := P) keys 0 (fun j hj => by rw [Nat.zero_add]; exact HN.out j hj hj))
        go_wp2
        go_ret
        exact ⟨by rw [HH.out]; rfl, HW.out⟩
  · have hl2 : ((keys.length : Int) == (ws.length : Int)) = false := by simp; omega
    have hl3 : ((keys.length : Int) = (ws.length : Int)) = False := by simp; omega
    have hl4 : (keys.length = ws.length) = False := by simp; omega
    have HE : Hid ((keys.length == ws.length && allI (fun i k => wide k (ws.getD i 0)) 0 keys) = false) := by show _ = _; simp [hlen]
    clear hlen hr hz hl hn
    go_enter Tryz.func134, Tryz.ntmps134
    go_wp2
    go_ret
    exact ⟨by rw [HE.out]; rfl, Below.refl _ _⟩
end Go.Proofs.YteflnicgohjiiaaGreatDoor
