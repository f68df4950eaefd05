/- Pieces of the proof: CoY, CoZ, CpA. -/
import Derived.Test.YtlipcmonlhdgfaaGreatM37
/- package code: cases, nodes. -/
namespace Go.Proofs.YtlipcmonlhdgfaaGreat
open Go.RowKit

theorem ent_isHead : ∀ args w, (callFunc 61 args).run Tryz.prog w = .ok (.enter 61 args) w := enters_of Tryz.func61 (by kernel_rfl) rfl
theorem ent_case1 : ∀ args w, (callFunc 144 args).run Tryz.prog w = .ok (.enter 144 args) w := enters_of Tryz.func144 (by kernel_rfl) rfl
def fitB (sl : List Int) (b : Nb) (s : Int) : Bool := b.ok && b.w == wid sl s
def jpB (c : CoL) (s : Int) (x : Jp) : Bool := fitB c.sl x.v s && (fitB c.sl x.m s && tgt x.to c.st.length)
set_option maxRecDepth 100000 in
set_option maxHeartbeats 4000000 in
theorem case1_any (c : CoL) (g jb nb : Nat) (rv : Value) (nd : NdL) (x : Jp) (w : World) (hj : Jd w g c rv) (hjb : Jb w jb g) (hnb : w.heap[nb]? = some (.cells nd.cells.toArray 79 (0, 0))) (hc : CoR w c) (hx : JpR x) : Calls Tryz.prog 144 #[.agg x.cells.toArray, .pointer (some ⟨jb, 0, none⟩), .pointer (some ⟨nb, 0, none⟩)] w fun ed w' => ed = .returned (.bool (jpB c nd.slot x)) ∧ Below w.heap.size w w' := by
  have H1 : Hid (∀ W, Below w.heap.size w W → _) := fun W hb => fits_any c g rv x.v nd.slot W hx.v (hj.below hb) (hc.sl.below hb)
  have H2 : Hid (∀ W, Below w.heap.size w W → _) := fun W hb => fits_any c g rv x.m nd.slot W hx.m (hj.below hb) (hc.sl.below hb)
  have H3 : Hid (∀ W, Below w.heap.size w W → _) := fun W hb => isTarget_any c g rv x.to W (hj.below hb) hc.st.ln
  have HJ : Hid (∀ W, Below w.heap.size w W → _) := fun W hb => (hjb.below hb).at
  have HN : Hid (∀ W, Below w.heap.size w W → W.cell? ⟨nb, 2, none⟩ = some (.int .i64 nd.slot)) := fun W hb => (cellA (heap_below hb hnb) 2).trans rfl
  unfold jpB fitB Jp.cells
  clear hj hjb hnb hc hx
  generalize (x.v.ok && x.v.w == wid c.sl nd.slot) = t1 at *
  generalize (x.m.ok && x.m.w == wid c.sl nd.slot) = t2 at *
  generalize tgt x.to c.st.length = t3 at *
  generalize nd.slot = slot at *
  obtain ⟨⟨vw, vh, vl⟩, ⟨mw, mh, ml⟩, jt⟩ := x
  simp only [Nb.val] at *
  have B0 := hide (below1 w (.cells #[.int .i64 vw, .int .u64 vh, .int .u64 vl, .int .i64 mw, .int .u64 mh, .int .u64 ml, .int .i64 jt] 129))
  have K0 := hide (heap_alloc_new w (.cells #[.int .i64 vw, .int .u64 vh, .int .u64 vl, .int .i64 mw, .int .u64 mh, .int .u64 ml, .int .i64 jt] 129))
  have j0 := HJ.out _ B0.out
  have n0 := HN.out _ B0.out
  go_enter Tryz.func144, Tryz.ntmps144
  go_wp2_with fail
  refine (H1.out _ B0.out).mono ?_
  rintro e w1 ⟨rfl, hb⟩
  have B1 := hide (bstep B0.out hb)
  have K1 := hide (heap_below hb K0.out)
  have j1 := HJ.out _ B1.out
  have n1 := HN.out _ B1.out
  have a3 := (cellA K1.out 3).trans rfl
  have a4 := (cellA K1.out 4).trans rfl
  have a5 := (cellA K1.out 5).trans rfl
  clear hb j0 n0
  cases t1
  · go_wp2
    go_ret
    exact ⟨rfl, B1.out⟩
  · go_wp2_with fail
    refine (H2.out _ B1.out).mono ?_
    rintro e w2 ⟨rfl, hb⟩
    have B2 := hide (bstep B1.out hb)
    have K2 := hide (heap_below hb K1.out)
    have j2 := HJ.out _ B2.out
    have a6 := (cellA K2.out 6).trans rfl
    clear hb j1 n1 a3 a4 a5
    cases t2
    · go_wp2
      go_ret
      exact ⟨rfl, B2.out⟩
    · go_wp2_with fail
      refine (H3.out _ B2.out).mono ?_
      rintro e w3 ⟨rfl, hb⟩
      have B3 := hide (bstep B2.out hb)
      clear hb
      go_wp2
      go_ret
      exact ⟨rfl, B3.out⟩
def csB (c : CoL) (x : NdL) : Bool := if x.slot = -1 then x.js.length == 0 else wtn x.slot c.sl.length && x.js.all (jpB c x.slot)
set_option maxRecDepth 100000 in
set_option maxHeartbeats 4000000 in
theorem casesMayBe_any (c : CoL) (g : Nat) (rv : Value) (x : NdL) (w : World) (hj : Jd w g c rv) (hc : CoR w c) (hx : NdR w x) : Calls Tryz.prog 121 #[.pointer (some ⟨g, 0, none⟩), .agg x.cells.toArray] w fun ed w' => ed = .returned (.bool (csB c x)) ∧ Below w.heap.size w w' := by
  have B0 := hide (below2 w (.cells #[.pointer (some ⟨g, 0, none⟩)] 67) (.cells x.cells.toArray 79))
  have KJ : Hid (Jb ((w.alloc (.cells #[.pointer (some ⟨g, 0, none⟩)] 67)).alloc (.cells x.cells.toArray 79)) w.heap.size g) := heap_past _ (heap_alloc_new w _)
  have KN := hide (heap_snd w (.cells #[.pointer (some ⟨g, 0, none⟩)] 67) x.cells.toArray 79)
  have H1 : Hid (∀ W, Below w.heap.size w W → _) := fun W hb => isSlot_any c g rv x.slot W (hj.below hb) hc.sl.ln
  have H2 : Hid (∀ W, Below _ _ W → _) := fun W (hb : Below ((w.alloc (.cells #[.pointer (some ⟨g, 0, none⟩)] 67)).alloc (.cells x.cells.toArray 79)).heap.size ((w.alloc (.cells #[.pointer (some ⟨g, 0, none⟩)] 67)).alloc (.cells x.cells.toArray 79)) W) => allJp 144 ent_case1 (.pointer (some ⟨w.heap.size, 0, none⟩)) (.pointer (some ⟨w.heap.size + 1, 0, none⟩)) (jpB c x.slot) x.ja x.jc x.js W (hx.js.rd.below (bstep B0.out hb)) hx.js.ln (fun z hz W' hb' => case1_any c g w.heap.size (w.heap.size + 1) rv x z W' (hj.below (bstep (bstep B0.out hb) hb')) ((KJ.out.below hb).below hb') (heap_below hb' (heap_below hb KN.out)) (hc.below (bstep (bstep B0.out hb) hb')) (hx.js.ok z hz))
  unfold csB NdL.cells at *
  generalize wtn x.slot c.sl.length = t1 at *
  generalize x.js.all (jpB c x.slot) = t2 at *
  clear hj hc hx
  obtain ⟨hs, ha, hc, cd, ca, cc, slot, js, ja, jc, to⟩ := x
  simp only at *
  have HL : Hid (((js.length : Int) = 0) = (js.length = 0)) := by show _ = _; simp
  generalize js.length = jn at *
  generalize hs.length = hn at *
  generalize cd.length = cn at *
  have q2 := (cellA KN.out 2).trans rfl
  have q3 := (cellA KN.out 3).trans rfl
  by_cases h : slot = -1
  · subst h
    rw [if_pos rfl]
    by_cases h0 : jn = 0
    · subst h0
      go_enter Tryz.func121, Tryz.ntmps121
      go_wp2
      go_ret
      exact ⟨rfl, B0.out⟩
    · have d0 : ((jn : Int) = 0) = False := by simp; omega
      have e0 : (jn == 0) = false := by simpa using h0
      go_enter Tryz.func121, Tryz.ntmps121
      go_wp2
      go_ret
      exact ⟨by simp [e0, h0], B0.out⟩
  · rw [if_neg h]
    have d : (slot = -1) = False := by simp [h]
    have d' : (slot == -1) = false := by simpa using h
    go_enter Tryz.func121, Tryz.ntmps121
    go_wp2_with fail
    refine (H1.out _ B0.out).mono ?_
    rintro e w1 ⟨rfl, hb⟩
    have HB := hide hb
    have B1 := hide (bstep B0.out hb)
    have q3' := (cellA (heap_below hb KN.out) 3).trans rfl
    clear hb q2 q3
    cases t1
    · go_wp2
      go_ret
      exact ⟨rfl, B1.out⟩
    · go_wp2_with fail
      refine (H2.out _ HB.out).mono ?_
      rintro e w2 ⟨rfl, hb⟩
      have B2 := hide (bstep B1.out hb)
      clear hb
      go_wp2
      go_ret
      exact ⟨rfl, B2.out⟩
def ndB (D : Int → Int → Int → Int → Int → Int × Int × Int × Int) (c : CoL) (x : NdL) : Bool := x.hs.all (fun z => wtn z c.hd.length) && (lsB D c 0 x.cd && (csB c x && tgt x.to c.st.length))
set_option maxRecDepth 100000 in
set_option maxHeartbeats 4000000 in
theorem nodeMayBe_any (D : Int → Int → Int → Int → Int → Int × Int × Int × Int) (hD : DoOk D) (c : CoL) (g jb : Nat) (rv : Value) (x : NdL) (w : World) (hj : Jd w g c rv) (hjb : Jb w jb g) (hr : RwR w rv g jb) (hc : CoR w c) (hx : NdR w x) : Calls Tryz.prog 88 #[.pointer (some ⟨g, 0, none⟩), .agg x.cells.toArray] w fun ed w' => ed = .returned (.bool (ndB D c x)) ∧ Below w.heap.size w w' := by
  have H1 : Hid (∀ W, Below w.heap.size w W → _) := fun W hb => allZb 61 ent_isHead (.pointer (some ⟨g, 0, none⟩)) (fun z => wtn z c.hd.length) x.ha x.hc x.hs W (hx.hs.rd.below hb) hx.hs.ln (fun z _ W' hb' => isHead_any c g rv z W' (hj.below (bstep hb hb')) hc.hd.ln)
  have H2 : Hid (∀ W, Below w.heap.size w W → _) := fun W hb => listMayBe_any D hD c g jb rv 0 x.ca x.cc x.cd W (hj.below hb) (hjb.below hb) (hr.below hb) (hc.below hb) (hx.cd.below hb)
  have H3 : Hid (∀ W, Below w.heap.size w W → _) := fun W hb => casesMayBe_any c g rv x W (hj.below hb) (hc.below hb) (hx.below hb)
  have H4 : Hid (∀ W, Below w.heap.size w W → _) := fun W hb => isTarget_any c g rv x.to W (hj.below hb) hc.st.ln
  have K0 := hide (heap_alloc_new w (.cells x.cells.toArray 79))
  have B0 := hide (below1 w (.cells x.cells.toArray 79))
  unfold ndB
  unfold NdL.cells at *
  generalize x.hs.all (fun z => wtn z c.hd.length) = t1 at *
  generalize lsB D c 0 x.cd = t2 at *
  generalize csB c x = t3 at *
  generalize tgt x.to c.st.length = t4 at *
  clear hj hjb hr hc hx
  obtain ⟨hs, ha, hc, cd, ca, cc, slot, js, ja, jc, to⟩ := x
  simp only at *
  generalize js.length = jn at *
  generalize hs.length = hn at *
  generalize cd.length = cn at *
  have q0 := (cellA K0.out 0).trans rfl
  go_enter Tryz.func88, Tryz.ntmps88
  go_wp2_with fail
  refine (H1.out _ B0.out).mono ?_
  rintro e w1 ⟨rfl, hb⟩
  have B1 := hide (bstep B0.out hb)
  have K1 := hide (heap_below hb K0.out)
  have q1 := (cellA K1.out 1).trans rfl
  clear hb q0
  cases t1
  · go_wp2
    go_ret
    exact ⟨rfl, B1.out⟩
  · go_wp2_with fail
    refine (H2.out _ B1.out).mono ?_
    rintro e w2 ⟨rfl, hb⟩
    have B2 := hide (bstep B1.out hb)
    have K2 := hide (heap_below hb K1.out)
    have r0 := (cellA K2.out 0).trans rfl
    have r1 := (cellA K2.out 1).trans rfl
    have r2 := (cellA K2.out 2).trans rfl
    have r3 := (cellA K2.out 3).trans rfl
    have r4 := (cellA K2.out 4).trans rfl
    clear hb q1
    cases t2
    · go_wp2
      go_ret
      exact ⟨rfl, B2.out⟩
    · go_wp2_with fail
      refine (H3.out _ B2.out).mono ?_
      rintro e w3 ⟨rfl, hb⟩
      have B3 := hide (bstep B2.out hb)
      have s4 := (cellA (heap_below hb K2.out) 4).trans rfl
      clear hb r0 r1 r2 r3 r4
      cases t3
      · go_wp2
        go_ret
        exact ⟨rfl, B3.out⟩
      · go_wp2_with fail
        refine (H4.out _ B3.out).mono ?_
        rintro e w4 ⟨rfl, hb⟩
        have B4 := hide (bstep B3.out hb)
        clear hb
        go_wp2
        go_ret
        exact ⟨rfl, B4.out⟩
end Go.Proofs.YtlipcmonlhdgfaaGreat
/- package code: lists that contain; keys. -/
namespace Go.Proofs.YtlipcmonlhdgfaaGreat
open Go.RowKit

theorem take_no {l : List Int} {z : Int} {k : Nat} (hk : k < l.length) (h : ∀ y ∈ l.take k, (y == z) = false) (h' : (l[k] == z) = false) : ∀ y ∈ l.take (k + 1), (y == z) = false := fun y hy => by
  rw [List.take_succ_eq_append_getElem hk] at hy
  rcases List.mem_append.1 hy with hy | hy
  · exact h y hy
  · rw [List.mem_singleton.1 hy]; exact h'
set_option maxRecDepth 100000 in
set_option maxHeartbeats 2000000 in
theorem index_any (a : Option Addr) (cap : Nat) (l : List Int) (z : Int) (w : World) (hr : RdZ w a l) (hl : l.length ≤ 1000000) : Calls Tryz.prog 184 #[.slice a l.length cap, .int .i64 z] w fun e w' => ∃ r : Int, e = .returned (.int .i64 r) ∧ decide (r ≥ 0) = l.contains z ∧ Below w.heap.size w w' := by
  have HR := hide hr
  clear hr
  go_enter Tryz.func184, Tryz.ntmps184
  go_wp2
  go_loopw [8] (fun i wr => ∃ k : Nat, k ≤ l.length ∧ i = .int .i64 k ∧ (∀ y ∈ l.take k, (y == z) = false) ∧ Below w.heap.size w wr) (fun i _ => l.length - (intOf i).toNat)
  case atStart => exact ⟨0, by omega, rfl, fun y h => by simp at h, Below.refl _ _⟩
  case round =>
    obtain ⟨k, hk, rfl, hp, hb⟩ := hrel
    have BB := hide hb
    have HP := hide hp
    clear hp
    by_cases hlt : k < l.length
    · have hkI : (k : Int) < (l.length : Int) := by omega
      obtain ⟨q, off, rfl, -, hc⟩ := (HR.out.below hb).some (by omega)
      have c0 := hc k hlt
      by_cases he : z = l[k]
      · have hm : l.contains z = true := by rw [he]; simp
        rw [← he] at c0
        have d0 : decide ((k : Int) ≥ 0) = true := by simp
        have HH := hide (d0.trans hm.symm)
        clear hc hb HR HP he hm d0
        go_wp2
        go_ret
        exact ⟨k, rfl, HH.out, BB.out⟩
      · have hne : (l[k] == z) = false := by simp; exact fun e => he e.symm
        have HY := hide (take_no hlt HP.out hne)
        have hd : (z = l[k]) = False := by simp [he]
        clear hc hb HR HP hne
        generalize l[k] = y at *
        go_wp2
        go_roundw
        case rel => exact ⟨k + 1, by omega, by go_num, HY.out, BB.out⟩
        case measure => simp [intOf]; omega
    · obtain rfl : k = l.length := by omega
      have hm : l.contains z = false := by
        rw [List.contains_eq_any_beq, List.any_eq_false]
        intro y hy
        have := HP.out y (by rw [List.take_length]; exact hy)
        simp only [beq_eq_false_iff_ne, ne_eq] at this
        simp; exact fun e => this e.symm
      clear HR HP hb
      go_wp2
      go_ret
      exact ⟨-1, rfl, by rw [hm]; rfl, BB.out⟩
theorem contains_any (a : Option Addr) (cap : Nat) (l : List Int) (z : Int) (w : World) (hr : RdZ w a l) (hl : l.length ≤ 1000000) : Calls Tryz.prog 147 #[.slice a l.length cap, .int .i64 z] w fun e w' => e = .returned (.bool (l.contains z)) ∧ Below w.heap.size w w' := by
  have HI := hide (index_any a cap l z w hr hl)
  clear hr
  go_enter Tryz.func147, Tryz.ntmps147
  go_wp2_with fail
  refine HI.out.mono ?_
  rintro e w1 ⟨r, rfl, hr, hb⟩
  have HR2 := hide hr
  clear hr
  go_wp2
  go_ret
  exact ⟨by rw [← HR2.out]; rfl, hb⟩
def eqN (p : Nb → Int → Bool) (a : List Nb) (b : List Int) : Bool := a.length == b.length && (a.zip b).all (fun z => p z.1 z.2)
theorem eqN_no {p : Nb → Int → Bool} {a : List Nb} {b : List Int} {k : Nat} (h1 : k < a.length) (h2 : k < b.length) (h : p a[k] b[k] = false) : eqN p a b = false := by
  unfold eqN
  rw [Bool.and_eq_false_iff]
  right
  have hk : k < (a.zip b).length := by rw [List.length_zip]; omega
  exact all_no (List.getElem_mem hk) (by rw [List.getElem_zip]; exact h)
theorem eqN_yes {p : Nb → Int → Bool} {a : List Nb} {b : List Int} (hl : a.length = b.length) (h : ∀ i (h1 : i < a.length) (h2 : i < b.length), p a[i] b[i] = true) : eqN p a b = true := by
  unfold eqN
  rw [Bool.and_eq_true]
  refine ⟨by simp [hl], all_yes (fun z hz => ?_)⟩
  obtain ⟨i, hi, rfl⟩ := List.getElem_of_mem hz
  rw [List.getElem_zip]
  rw [List.length_zip] at hi
  exact h i (by omega) (by omega)
set_option maxRecDepth 100000 in
set_option maxHeartbeats 4000000 in
theorem eqNb_any (N : Nat) (ent : ∀ args w, (callFunc N args).run Tryz.prog w = .ok (.enter N args) w) (u : Value) (p : Nb → Int → Bool) (a b : Option Addr) (ca cb : Nat) (l : List Nb) (m : List Int) (w : World) (h1 : RdN w a l) (h2 : RdZ w b m) (hl : l.length ≤ 1000000) (hm : m.length ≤ 1000000) (hF : ∀ y ∈ l, ∀ z W, Below w.heap.size w W → Calls Tryz.prog N #[u, y.val, .int .i64 z] W fun e w' => e = .returned (.bool (p y z)) ∧ Below W.heap.size W w') :
    Calls Tryz.prog 148 #[.slice a l.length ca, .slice b m.length cb, .func (.func N) #[u] #[]] w fun e w' => e = .returned (.bool (eqN p l m)) ∧ Below w.heap.size w w' := by
  have H1 := hide h1
  have H2 := hide h2
  have HF := hide hF
  clear h1 h2 hF
  by_cases hlm : l.length = m.length
  · have HE : Hid (l.length = m.length) := hlm
    have HYS : Hid ((∀ i (h1 : i < l.length) (h2 : i < m.length), p l[i] m[i] = true) → eqN p l m = true) := fun h => eqN_yes hlm h
    have HNO : Hid (∀ k (h1 : k < l.length) (h2 : k < m.length), p l[k] m[k] = false → eqN p l m = false) := fun k h1 h2 h => eqN_no h1 h2 h
    generalize eqN p l m = R at *
    rw [← hlm]
    have d0 : ((l.length : Int) = (l.length : Int)) = True := by simp
    clear hlm
    go_enter Tryz.func148, Tryz.ntmps148
    go_wp2
    go_loopw [17] (fun i wr => ∃ k : Nat, k ≤ l.length ∧ i = .int .i64 k ∧ (∀ i (h1 : i < l.length) (h2 : i < m.length), i < k → p l[i] m[i] = true) ∧ Below w.heap.size w wr) (fun i _ => l.length - (intOf i).toNat)
    case atStart => exact ⟨0, by omega, rfl, fun i _ _ h => by omega, Below.refl _ _⟩
    case round =>
      obtain ⟨k, hk, rfl, hp, hb⟩ := hrel
      have BB := hide hb
      have HP := hide hp
      clear hp
      by_cases hlt : k < l.length
      · have hkI : (k : Int) < (l.length : Int) := by omega
        have hlt2 : k < m.length := by have := HE.out; omega
        obtain ⟨q, off, rfl, -, hc⟩ := (H1.out.below hb).some (by omega)
        obtain ⟨q2, off2, rfl, hq2, hc2⟩ := (H2.out.below hb).some (by omega)
        obtain ⟨c0, c1, c2⟩ := hc k hlt
        have HC2 : Hid (∀ W, Below wr.heap.size wr W → W.cell? ⟨q2, off2 + k, none⟩ = some (.int .i64 m[k])) := fun W hb => (hb.cell (p := ⟨q2, _, none⟩) hq2).trans (hc2 k hlt2)
        have HC := hide (fun W hb => HF.out l[k] (List.getElem_mem hlt) m[k] W hb)
        have HN := hide (HNO.out k hlt hlt2)
        have HY : Hid (p l[k] m[k] = true → ∀ i (h1 : i < l.length) (h2 : i < m.length), i < k + 1 → p l[i] m[i] = true) := fun h i h1 h2 hi => by
          by_cases e : i = k
          · subst e; exact h
          · exact HP.out i h1 h2 (by omega)
        clear hc hc2 hb H1 H2 HF HNO HYS hq2
        generalize p l[k] m[k] = t at *
        generalize l[k] = y at *
        generalize m[k] = z at *
        obtain ⟨yw, yh, yl⟩ := y
        simp only [Nb.val] at *
        have B3 := hide (below1 wr (.cells #[.int .i64 yw, .int .u64 yh, .int .u64 yl] 56))
        have e0 := HC2.out _ B3.out
        go_wp2_with fail
        refine (HC.out _ (bstep BB.out B3.out)).mono ?_
        rintro e w1 ⟨rfl, hb1⟩
        have B1 := hide (bstep (bstep BB.out B3.out) hb1)
        clear hb1
        cases t
        · have hn := HN.out rfl
          clear HY HN
          go_wp2
          go_ret
          exact ⟨by rw [hn]; rfl, B1.out⟩
        · have HY2 := hide (HY.out rfl)
          clear HY HN
          go_wp2
          go_roundw
          case rel => exact ⟨k + 1, by omega, by go_num, HY2.out, B1.out⟩
          case measure => simp [intOf]; omega
      · obtain rfl : k = l.length := by omega
        have hy := HYS.out (fun i h1 h2 => HP.out i h1 h2 h1)
        go_wp2
        go_ret
        exact ⟨by rw [hy]; rfl, BB.out⟩
  · have hn : eqN p l m = false := by unfold eqN; simp [hlm]
    rw [hn]
    have d0 : ((l.length : Int) = (m.length : Int)) = False := by simp; omega
    clear hn H1 H2 HF
    go_enter Tryz.func148, Tryz.ntmps148
    go_wp2
    go_ret
    exact ⟨rfl, Below.refl _ _⟩
end Go.Proofs.YtlipcmonlhdgfaaGreat
/- package code: keys of a table. -/
namespace Go.Proofs.YtlipcmonlhdgfaaGreat
open Go.RowKit

theorem ent_kind : ∀ args w, (callFunc 146 args).run Tryz.prog w = .ok (.enter 146 args) w := enters_of Tryz.func146 (by kernel_rfl) rfl
def kdB (k : Int) : Bool := decide (1 ≤ k) && decide (k ≤ 4)
def pfN (l : List Int) : Nat := l.countP (fun k => k == 2)
theorem pfN_next {l : List Int} {k : Nat} (h : k < l.length) : pfN (l.take (k + 1)) = pfN (l.take k) + (if l[k] = 2 then 1 else 0) := by
  unfold pfN
  rw [List.take_succ_eq_append_getElem h, List.countP_append, List.countP_singleton]
  by_cases e : l[k] = 2
  · simp [e]
  · simp [e]
theorem pfN_le (l : List Int) (k : Nat) : pfN (l.take k) ≤ k := by
  unfold pfN
  refine Nat.le_trans List.countP_le_length ?_
  rw [List.length_take]; omega
def kyB (c : CoL) (x : TaL) : Bool := decide (x.ks.length ≤ 64) && (decide (x.kd.length = x.ks.length) && (x.ks.all (fun z => wtn z c.sl.length) && (x.kd.all kdB && decide (pfN x.kd ≤ 1))))
set_option maxRecDepth 100000 in
set_option maxHeartbeats 8000000 in
theorem keysMayBe_any (c : CoL) (g : Nat) (rv : Value) (x : TaL) (w : World) (hj : Jd w g c rv) (hc : CoR w c) (hx : TaR w x) : Calls Tryz.prog 123 #[.pointer (some ⟨g, 0, none⟩), .agg x.cells.toArray] w fun ed w' => ed = .returned (.bool (kyB c x)) ∧ Below w.heap.size w w' := by
  have H1 : Hid (∀ W, Below w.heap.size w W → _) := fun W hb => allZb 112 ent_isSlot (.pointer (some ⟨g, 0, none⟩)) (fun z => wtn z c.sl.length) x.ka x.kc x.ks W (hx.ks.rd.below hb) hx.ks.ln (fun z _ W' hb' => isSlot_any c g rv z W' (hj.below (bstep hb hb')) hc.sl.ln)
  have H2 : Hid (∀ W, Below w.heap.size w W → _) := fun W hb => allKd 146 ent_kind kdB x.da x.dc x.kd W (hx.kd.rd.below hb) hx.kd.ln (fun z _ W' _ => kindMay_any z W')
  have HR := hide hx.kd.rd
  have hln := hx.kd.ln
  have K0 := hide (heap_alloc_new w (.cells x.cells.toArray 41))
  have B0 := hide (below1 w (.cells x.cells.toArray 41))
  unfold kyB
  unfold TaL.cells at *
  generalize x.ks.all (fun z => wtn z c.sl.length) = t3 at *
  generalize x.kd.all kdB = t4 at *
  clear hj hc hx
  obtain ⟨name, ks, ka, kc, kd, da, dc, ats, aa, ac, df, gs, ga, gc, size, bf, ba, bc⟩ := x
  simp only at *
  generalize ks.length = kn at *
  generalize ats.length = an at *
  generalize gs.length = gn at *
  generalize bf.length = bn at *
  have q2 := (cellA K0.out 2).trans rfl
  obtain ⟨w0, hw0⟩ : ∃ w0, w0 = w.alloc (.cells #[.string name, .slice ka kn kc, .slice da kd.length dc, .slice aa an ac, .int .i64 df, .slice ga gn gc, .int .i64 size, .slice ba bn bc] 41) := ⟨_, rfl⟩
  have HW0 := hide hw0
  rw [← hw0] at K0 B0
  clear hw0
  go_enter Tryz.func123, Tryz.ntmps123
  go_wp2
  rw [← HW0.out]
  go_loopw [5, 11] (fun s i wr => ∃ k : Nat, k ≤ kd.length ∧ i = .int .i64 k ∧ s = .int .i64 ((pfN (kd.take k) : Nat) : Int) ∧ Below w0.heap.size w0 wr) (fun _ i _ => kd.length - (intOf i).toNat)
  case atStart => exact ⟨0, by omega, rfl, rfl, Below.refl _ _⟩
  case round =>
    obtain ⟨k, hk, rfl, rfl, hb⟩ := hrel
    have BB := hide hb
    by_cases hlt : k < kd.length
    · have hkI : (k : Int) < (kd.length : Int) := by omega
      obtain ⟨q, off, rfl, -, hcl⟩ := (HR.out.below (bstep B0.out hb)).some (by omega)
      have c0 := hcl k hlt 0 _ rfl
      rw [Nat.add_zero, Nat.mul_one] at c0
      have HP := hide (pfN_next hlt)
      have hpl := pfN_le kd k
      clear hcl hb HR
      generalize pfN (kd.take k) = pn at *
      generalize kd[k] = z at *
      by_cases e : z = 2
      · subst e
        have hw : IntKind.i64.wrap ((pn : Int) + 1) = ((pn + 1 : Nat) : Int) := by rw [IntKind.wrap_i64]; omega
        go_wp2
        go_roundw
        case rel => exact ⟨k + 1, by omega, by go_num, by rw [HP.out, if_pos rfl]; first | rfl | (go_num; done), BB.out⟩
        case measure => simp [intOf]; omega
      · have d : (z = 2) = False := by simp [e]
        go_wp2
        go_roundw
        case rel => exact ⟨k + 1, by omega, by go_num, by rw [HP.out, if_neg e]; rfl, BB.out⟩
        case measure => simp [intOf]; omega
    · obtain rfl : k = kd.length := by omega
      rw [List.take_length]
      have BW := hide (bstep B0.out hb)
      have KW := hide (heap_below hb K0.out)
      have s1 := (cellA KW.out 1).trans rfl
      have s2 := (cellA KW.out 2).trans rfl
      have hpl := pfN_le kd kd.length
      rw [List.take_length] at hpl
      clear hb HR q2
      by_cases h1 : kn ≤ 64
      · have d1' : ((kn : Int) ≤ 64) = True := by simp; omega
        by_cases h2 : kd.length = kn
        · have d2' : ((kd.length : Int) = (kn : Int)) = True := by simp; omega
          have HH2 := hide h2
          clear h2
          go_wp2_with fail
          refine (H1.out _ BW.out).mono ?_
          rintro e w1 ⟨rfl, hb⟩
          have B1 := hide (bstep BW.out hb)
          have s2' := (cellA (heap_below hb KW.out) 2).trans rfl
          clear hb s1 s2
          cases t3
          · go_wp2
            go_ret
            exact ⟨by simp, B1.out⟩
          · go_wp2_with fail
            refine (H2.out _ B1.out).mono ?_
            rintro e w2 ⟨rfl, hb⟩
            have B2 := hide (bstep B1.out hb)
            clear hb s2'
            cases t4
            · go_wp2
              go_ret
              exact ⟨by simp, B2.out⟩
            · by_cases h3 : pfN kd ≤ 1
              · have d3' : ((pfN kd : Int) ≤ 1) = True := by simp; omega
                go_wp2
                go_ret
                exact ⟨by simp [h1, HH2.out, h3], B2.out⟩
              · have d3' : ((pfN kd : Int) ≤ 1) = False := by simp; omega
                go_wp2
                go_ret
                exact ⟨by simp [h3], B2.out⟩
        · have d2' : ((kd.length : Int) = (kn : Int)) = False := by simp; omega
          go_wp2
          go_ret
          exact ⟨by simp [h2], BW.out⟩
      · have d1' : ((kn : Int) ≤ 64) = False := by simp; omega
        go_wp2
        go_ret
        exact ⟨by simp [h1], BW.out⟩
end Go.Proofs.YtlipcmonlhdgfaaGreat
