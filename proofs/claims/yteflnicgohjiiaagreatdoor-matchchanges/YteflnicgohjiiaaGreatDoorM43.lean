/- Pieces of the proof: MkB. -/
import Derived.Test.YteflnicgohjiiaaGreatDoorM41
import Derived.Test.YteflnicgohjiiaaGreatDoorM42
/- The document's own good (may a match be, of a kind, so wide?) and Check of an entry. -/
namespace Go.Proofs.YteflnicgohjiiaaGreatDoor
open Go.RowKit

theorem refOk_any (b : Nb) (hb : NbR b) : Pure 144 #[b.val] (.bool b.ok) := fun w =>
  refCheck_any b.w b.hi b.lo w hb.hi.1 hb.hi.2 hb.lo.1 hb.lo.2
theorem good_no (k : Nat) (n : Int) (x : Mx) (hx : MxR x) (h : wide x.v n = false) : Pure 143 #[.int .u8 (k : Int), .int .i64 n, x.val] (.bool false) := fun w => by
  have HC : Hid (Pure _ _ _) := refOk_any x.v hx.v
  unfold wide at h
  clear hx
  obtain ⟨⟨vw, vh, vl⟩, ⟨mw, mh, ml⟩, len⟩ := x
  simp only [Mx.val, Nb.val] at *
  generalize Nb.ok ⟨vw, vh, vl⟩ = t at *
  cases t
  · clear h
    go_enter Tryz.func143, Tryz.ntmps143
    go_wp2_with fail
    refine (HC.out _).mono ?_
    rintro e w1 ⟨rfl, hb⟩
    obtain ⟨p0, p1, p2, p3, p4, p5, p6⟩ := at7 (heap_below hb (heap_alloc_new _ _))
    go_wp2
    go_ret
    exact ⟨rfl, bstep (below1 _ _) hb⟩
  · rw [Bool.and_true] at h
    have h' : (vw = n) = False := by simpa using h
    go_enter Tryz.func143, Tryz.ntmps143
    go_wp2_with fail
    refine (HC.out _).mono ?_
    rintro e w1 ⟨rfl, hb⟩
    obtain ⟨p0, p1, p2, p3, p4, p5, p6⟩ := at7 (heap_below hb (heap_alloc_new _ _))
    go_wp2
    go_ret
    exact ⟨rfl, bstep (below1 _ _) hb⟩
set_option maxHeartbeats 2000000 in
theorem good1 (x : Mx) (hx : MxR x) (h : x.v.ok = true) : Pure 143 #[.int .u8 1, .int .i64 x.v.w, x.val] (.bool (mayK 1 x x.v.w)) := fun w => by
  have HC : Hid (Pure _ _ _) := refOk_any x.v hx.v
  rw [h] at HC
  clear hx h
  obtain ⟨⟨vw, vh, vl⟩, ⟨mw, mh, ml⟩, len⟩ := x
  simp only [mayK, Mx.val, Nb.val, Nb.eq, nb0] at *
  cases e1 : (mw == 0) <;> cases e2 : (mh == 0) <;> cases e3 : (ml == 0) <;> cases e4 : (len == 0)
  all_goals
    go_enter Tryz.func143, Tryz.ntmps143
    go_wp2_with fail
    refine (HC.out _).mono ?_
    rintro e w1 ⟨rfl, hb⟩
    obtain ⟨p0, p1, p2, p3, p4, p5, p6⟩ := at7 (heap_below hb (heap_alloc_new _ _))
    go_wp2
    go_ret
    exact ⟨rfl, bstep (below1 _ _) hb⟩
set_option maxHeartbeats 2000000 in
theorem good34_no (k : Int) (hk : k = 3 ∨ k = 4) (x : Mx) (hx : MxR x) (h : x.v.ok = true) (hn : (x.len == 0 && wide x.m x.v.w) = false) : Pure 143 #[.int .u8 k, .int .i64 x.v.w, x.val] (.bool false) := fun w => by
  have HC : Hid (Pure _ _ _) := refOk_any x.v hx.v
  have HM : Hid (Pure _ _ _) := refOk_any x.m hx.m
  rw [h] at HC
  unfold wide at hn
  clear hx h
  obtain ⟨⟨vw, vh, vl⟩, ⟨mw, mh, ml⟩, len⟩ := x
  simp only [Mx.val, Nb.val] at *
  generalize Nb.ok ⟨mw, mh, ml⟩ = t at *
  rcases hk with rfl | rfl
  all_goals
    by_cases e4 : len = 0
    · subst e4
      cases t
      · clear hn
        go_enter Tryz.func143, Tryz.ntmps143
        go_wp2_with fail
        refine (HC.out _).mono ?_
        rintro e w1 ⟨rfl, hb⟩
        have K := hide (heap_below hb (heap_alloc_new w _))
        have BB := hide (bstep (below1 _ _) hb)
        clear hb
        obtain ⟨p0, p1, p2, p3, p4, p5, p6⟩ := at7 K.out
        go_wp2_with fail
        refine (HM.out _).mono ?_
        rintro e w2 ⟨rfl, hb⟩
        obtain ⟨q0, q1, q2, q3, q4, q5, q6⟩ := at7 (heap_below hb K.out)
        go_wp2
        go_ret
        exact ⟨rfl, bstep BB.out hb⟩
      · have h1 : ¬ mw = vw := by simpa using hn
        have h' : (mw = vw) = False := by simpa using h1
        have h2 : (mw == vw) = false := by simpa using h1
        have h3 : (mw != vw) = true := by simpa using h1
        have h4 : decide (mw = vw) = false := by simpa using h1
        clear hn
        go_enter Tryz.func143, Tryz.ntmps143
        go_wp2_with fail
        refine (HC.out _).mono ?_
        rintro e w1 ⟨rfl, hb⟩
        have K := hide (heap_below hb (heap_alloc_new w _))
        have BB := hide (bstep (below1 _ _) hb)
        clear hb
        obtain ⟨p0, p1, p2, p3, p4, p5, p6⟩ := at7 K.out
        go_wp2_with fail
        refine (HM.out _).mono ?_
        rintro e w2 ⟨rfl, hb⟩
        clear p0 p1 p2 p3 p4 p5 p6
        obtain ⟨q0, q1, q2, q3, q4, q5, q6⟩ := at7 (heap_below hb K.out)
        go_wp2
        go_ret
        exact ⟨rfl, bstep BB.out hb⟩
    · have e4' : (len = 0) = False := by simpa using e4
      clear hn e4
      go_enter Tryz.func143, Tryz.ntmps143
      go_wp2_with fail
      refine (HC.out _).mono ?_
      rintro e w1 ⟨rfl, hb⟩
      obtain ⟨p0, p1, p2, p3, p4, p5, p6⟩ := at7 (heap_below hb (heap_alloc_new _ _))
      go_wp2
      go_ret
      exact ⟨rfl, bstep (below1 _ _) hb⟩
set_option maxHeartbeats 2000000 in
theorem good4_yes (x : Mx) (hx : MxR x) (h : x.v.ok = true) (hl : x.len = 0) (hm : x.m.ok = true) (hw : x.m.w = x.v.w) : Pure 143 #[.int .u8 4, .int .i64 x.v.w, x.val] (.bool (atmB x.v x.m)) := fun w => by
  have HC : Hid (Pure _ _ _) := refOk_any x.v hx.v
  have HM : Hid (Pure _ _ _) := refOk_any x.m hx.m
  have HB : Hid (Pure _ _ _) := refBelow_any x.v x.m
  rw [h] at HC
  rw [hm] at HM
  clear hx h hm
  generalize atmB x.v x.m = t at *
  obtain ⟨⟨vw, vh, vl⟩, ⟨mw, mh, ml⟩, len⟩ := x
  simp only [Mx.val, Nb.val] at *
  subst hl hw
  go_enter Tryz.func143, Tryz.ntmps143
  go_wp2_with fail
  refine (HC.out _).mono ?_
  rintro e w1 ⟨rfl, hb⟩
  have K := hide (heap_below hb (heap_alloc_new w _))
  have BB := hide (bstep (below1 _ _) hb)
  clear hb
  obtain ⟨p0, p1, p2, p3, p4, p5, p6⟩ := at7 K.out
  go_wp2_with fail
  refine (HM.out _).mono ?_
  rintro e w2 ⟨rfl, hb⟩
  clear p0 p1 p2 p3 p4 p5 p6
  replace K := hide (heap_below hb K.out)
  replace BB := hide (bstep BB.out hb)
  clear hb
  obtain ⟨q0, q1, q2, q3, q4, q5, q6⟩ := at7 K.out
  go_wp2_with fail
  refine (HB.out _).mono ?_
  rintro e w3 ⟨rfl, hb⟩
  go_wp2
  go_ret
  exact ⟨rfl, bstep BB.out hb⟩
set_option maxHeartbeats 2000000 in
theorem good3_yes (x : Mx) (hx : MxR x) (h : x.v.ok = true) (hl : x.len = 0) (hm : x.m.ok = true) (hw : x.m.w = x.v.w) : Pure 143 #[.int .u8 3, .int .i64 x.v.w, x.val] (.bool (covB x.m x.v)) := fun w => by
  have HC : Hid (Pure _ _ _) := refOk_any x.v hx.v
  have HM : Hid (Pure _ _ _) := refOk_any x.m hx.m
  rw [h] at HC
  rw [hm] at HM
  have e : covB x.m x.v = (bits .and .u64 x.v.hi x.m.hi == x.v.hi && bits .and .u64 x.v.lo x.m.lo == x.v.lo) := by
    unfold covB
    rw [word_cov _ _ hx.v.hi hx.m.hi, word_cov _ _ hx.v.lo hx.m.lo]
  rw [e]
  clear hx h hm e
  obtain ⟨⟨vw, vh, vl⟩, ⟨mw, mh, ml⟩, len⟩ := x
  simp only [Mx.val, Nb.val] at *
  subst hl hw
  cases e1 : (bits .and .u64 vh mh == vh) <;> cases e2 : (bits .and .u64 vl ml == vl)
  all_goals
    go_enter Tryz.func143, Tryz.ntmps143
    go_wp2_with fail
    refine (HC.out _).mono ?_
    rintro e w1 ⟨rfl, hb⟩
    have K := hide (heap_below hb (heap_alloc_new w _))
    have BB := hide (bstep (below1 _ _) hb)
    clear hb
    obtain ⟨p0, p1, p2, p3, p4, p5, p6⟩ := at7 K.out
    go_wp2_with fail
    refine (HM.out _).mono ?_
    rintro e w2 ⟨rfl, hb⟩
    clear p0 p1 p2 p3 p4 p5 p6
    replace K := hide (heap_below hb K.out)
    replace BB := hide (bstep BB.out hb)
    clear hb
    obtain ⟨q0, q1, q2, q3, q4, q5, q6⟩ := at7 K.out
    go_wp2
    go_ret
    exact ⟨rfl, BB.out⟩

set_option maxHeartbeats 2000000 in
theorem good2_no (x : Mx) (hx : MxR x) (h : x.v.ok = true) (hn : (x.m.eq nb0 && fromB 0 x.len x.v.w) = false) : Pure 143 #[.int .u8 2, .int .i64 x.v.w, x.val] (.bool false) := fun w => by
  have HC : Hid (Pure _ _ _) := refOk_any x.v hx.v
  rw [h] at HC
  clear hx h
  obtain ⟨⟨vw, vh, vl⟩, ⟨mw, mh, ml⟩, len⟩ := x
  simp only [Mx.val, Nb.val, Nb.eq, nb0] at *
  by_cases hz : (mw == 0 && (mh == 0 && ml == 0)) = true
  · rw [hz, Bool.true_and] at hn
    have e1 : mw = 0 := by simp at hz; exact hz.1
    have e2 : mh = 0 := by simp at hz; exact hz.2.1
    have e3 : ml = 0 := by simp at hz; exact hz.2.2
    subst e1 e2 e3
    clear hz
    by_cases h1 : len < 0
    · clear hn
      go_enter Tryz.func143, Tryz.ntmps143
      go_wp2_with fail
      refine (HC.out _).mono ?_
      rintro e w1 ⟨rfl, hb⟩
      obtain ⟨p0, p1, p2, p3, p4, p5, p6⟩ := at7 (heap_below hb (heap_alloc_new _ _))
      go_wp2
      go_ret
      exact ⟨rfl, bstep (below1 _ _) hb⟩
    · have h2 : vw < len := by simp [fromB] at hn; omega
      have h1' : decide (len < 0) = false := by simpa using h1
      clear hn
      go_enter Tryz.func143, Tryz.ntmps143
      go_wp2_with fail
      refine (HC.out _).mono ?_
      rintro e w1 ⟨rfl, hb⟩
      obtain ⟨p0, p1, p2, p3, p4, p5, p6⟩ := at7 (heap_below hb (heap_alloc_new _ _))
      go_wp2
      go_ret
      exact ⟨rfl, bstep (below1 _ _) hb⟩
  · have hz' : (mw == 0 && (mh == 0 && ml == 0)) = false := by simpa using hz
    clear hz hn
    cases e1 : (mw == 0) <;> cases e2 : (mh == 0) <;> cases e3 : (ml == 0)
    all_goals first
      | (rw [e1, e2, e3] at hz'; cases hz'; done)
      | (clear hz'
         go_enter Tryz.func143, Tryz.ntmps143
         go_wp2_with fail
         refine (HC.out _).mono ?_
         rintro e w1 ⟨rfl, hb⟩
         obtain ⟨p0, p1, p2, p3, p4, p5, p6⟩ := at7 (heap_below hb (heap_alloc_new _ _))
         go_wp2
         go_ret
         exact ⟨rfl, bstep (below1 _ _) hb⟩)
set_option maxHeartbeats 2000000 in
theorem good2_yes (v : Nb) (ln W : Nat) (hv : NbR v) (h : v.ok = true) (hw : v.w = W) (hl : ln ≤ W) : Pure 143 #[.int .u8 2, .int .i64 (W : Int), (⟨v, nb0, (ln : Int)⟩ : Mx).val] (.bool (covB (fstB v.w (ln : Int)) v)) := fun w => by
  have HC : Hid (Pure _ _ _) := refOk_any v hv
  rw [h] at HC
  have hok : 1 ≤ v.w ∧ v.w ≤ 128 := by
    have : mayBe v.w = true := by unfold Nb.ok okB at h; rw [Bool.and_eq_true] at h; exact h.1
    simpa [mayBe] using this
  have HF := hide (cov_iff hv h (ln : Int) (by omega) (by omega))
  have HT : Hid (∀ (w0 : World) (j : Nat), j < W → Calls Tryz.prog 226 #[v.val, .int .i64 (j : Int)] w0 fun e w' => ∃ t : Int, e = .returned (.int .u64 t) ∧ (t == 1) = bitB v.hi v.lo (W - 1 - j) ∧ Below w0.heap.size w0 w') := fun w0 j hj => by
    refine (refBit_any v j hv (by omega) (by omega) hok.2 w0).mono ?_
    rintro e w' ⟨rfl, hb⟩
    refine ⟨_, rfl, ?_, hb⟩
    have e1 : (v.w - 1 - (j : Int)).toNat = W - 1 - j := by omega
    rw [e1]
    unfold bitI
    by_cases h6 : 64 ≤ W - 1 - j
    · rw [if_pos h6]; exact bit_hi _ _ _ (by omega) hv.hi.1 hv.hi.2
    · rw [if_neg h6]; exact bit_lo _ _ _ (by omega) hv.lo.1 hv.lo.2
  have hW : W ≤ 128 := by omega
  rw [hw] at HF ⊢
  generalize covB (fstB (W : Int) (ln : Int)) v = t at *
  clear hv h hok
  obtain ⟨vw, vh, vl⟩ := v
  simp only [Mx.val, Nb.val, nb0] at *
  subst hw
  have a1 : ((W : Int) < (ln : Int)) = False := by simp; omega
  have a2 : ((ln : Int) < 0) = False := by simp
  generalize bitB vh vl = B at *
  go_enter Tryz.func143, Tryz.ntmps143
  go_wp2_with fail
  refine (HC.out _).mono ?_
  rintro e w1 ⟨rfl, hb⟩
  have K := hide (heap_below hb (heap_alloc_new w _))
  have BB := hide (bstep (below1 _ _) hb)
  clear hb HC
  obtain ⟨p0, p1, p2, p3, p4, p5, p6⟩ := at7 K.out
  go_wp2
  go_loopw [7] (fun i wr => ∃ j : Nat, ln ≤ j ∧ j ≤ W ∧ i = .int .i64 (j : Int) ∧ (∀ k : Nat, W ≤ k + j → k + ln < W → B k = false) ∧ wr.heap[w.heap.size]? = some (.cells #[.int .i64 W, .int .u64 vh, .int .u64 vl, .int .i64 0, .int .u64 0, .int .u64 0, .int .i64 ln] 105 (0, 0)) ∧ Below w.heap.size w wr) (fun i _ => W - (intOf i).toNat)
  case atStart => exact ⟨ln, Nat.le_refl _, hl, rfl, fun k h1 h2 => absurd h2 (by omega), K.out, BB.out⟩
  case round =>
    obtain ⟨j, hj0, hj1, rfl, hr, hK, hB⟩ := hrel
    have HR := hide hr
    have HK := hide hK
    have HB := hide hB
    clear hr hK hB K BB p0 p1 p2 p3 p4 p5 p6
    obtain ⟨p0, p1, p2, p3, p4, p5, p6⟩ := at7 HK.out
    by_cases hlt : j < W
    · have hlI : (j : Int) < (W : Int) := by omega
      have HS : Hid (B (W - 1 - j) = false → ∀ k : Nat, W ≤ k + (j + 1) → k + ln < W → B k = false) := fun h0 k h1 h2 => by
        by_cases h3 : W ≤ k + j
        · exact HR.out k h3 h2
        · have : k = W - 1 - j := by omega
          rw [this]; exact h0
      have HNo : Hid (B (W - 1 - j) = true → t = false) := fun h0 => by
        cases t
        · rfl
        · have := HF.out.1 rfl (W - 1 - j) (by omega)
          rw [h0] at this; cases this
      go_wp2_with fail
      refine (HT.out _ j hlt).mono ?_
      rintro e w2 ⟨z, rfl, hz, hb⟩
      generalize B (W - 1 - j) = b at *
      have BB := hide (bstep HB.out hb)
      have KK := hide (heap_below hb HK.out)
      clear hb p0 p1 p2 p3 p4 p5 p6
      cases b
      · have z1 : (z = 1) = False := by simpa using hz
        have HS2 := hide (HS.out rfl)
        clear HS HNo
        go_wp2
        go_roundw
        case rel => exact ⟨j + 1, by omega, by omega, by go_num, HS2.out, KK.out, BB.out⟩
        case measure => simp [intOf]; omega
      · have z1 : z = 1 := by simpa using hz
        subst z1
        obtain rfl := HNo.out rfl
        clear HNo HS HF
        go_wp2
        go_ret
        exact ⟨rfl, BB.out⟩
    · obtain rfl : j = W := by omega
      have ht : t = true := HF.out.2 (fun k hk => HR.out k (by omega) (by omega))
      subst ht
      go_wp2
      go_ret
      exact ⟨rfl, HB.out⟩
theorem good_any (k : Nat) (k1 : 1 ≤ k) (k4 : k ≤ 4) (n : Int) (x : Mx) (hx : MxR x) : Pure 143 #[.int .u8 (k : Int), .int .i64 n, x.val] (.bool (wide x.v n && mayK k x n)) := by
  cases hw : wide x.v n
  · exact good_no k n x hx hw
  · rw [Bool.true_and]
    have hw' := hw
    unfold wide at hw'
    rw [Bool.and_eq_true] at hw'
    obtain ⟨e, hok⟩ := hw'
    have e := eq_of_beq e
    subst e
    have hm : 1 ≤ x.v.w ∧ x.v.w ≤ 128 := by
      have : mayBe x.v.w = true := by unfold Nb.ok okB at hok; rw [Bool.and_eq_true] at hok; exact hok.1
      simpa [mayBe] using this
    obtain rfl | rfl | rfl | rfl : k = 1 ∨ k = 2 ∨ k = 3 ∨ k = 4 := by omega
    · exact good1 x hx hok
    · cases hf : (x.m.eq nb0 && fromB 0 x.len x.v.w)
      · have e : mayK 2 x x.v.w = false := by
          show (x.m.eq nb0 && (fromB 0 x.len x.v.w && covB (fstB x.v.w x.len) x.v)) = false
          rw [← Bool.and_assoc, hf]; rfl
        rw [e]
        exact good2_no x hx hok hf
      · have e : mayK 2 x x.v.w = covB (fstB x.v.w x.len) x.v := by
          show (x.m.eq nb0 && (fromB 0 x.len x.v.w && covB (fstB x.v.w x.len) x.v)) = _
          rw [← Bool.and_assoc, hf, Bool.true_and]
        rw [e]
        rw [Bool.and_eq_true] at hf
        obtain ⟨hz, hl⟩ := hf
        have hl' : 0 ≤ x.len ∧ x.len ≤ x.v.w := by simpa [fromB] using hl
        obtain ⟨v, ⟨mw, mh, ml⟩, len⟩ := x
        have hz' : mw = 0 ∧ mh = 0 ∧ ml = 0 := by simpa [Nb.eq, nb0] using hz
        obtain ⟨rfl, rfl, rfl⟩ := hz'
        simp only at *
        obtain ⟨ln, rfl⟩ := Int.eq_ofNat_of_zero_le hl'.1
        obtain ⟨W, hW⟩ := Int.eq_ofNat_of_zero_le (a := v.w) (by omega)
        have := good2_yes v ln W hx.v hok hW (by omega)
        rw [← hW] at this
        exact this
    · cases hf : (x.len == 0 && wide x.m x.v.w)
      · have e : mayK 3 x x.v.w = false := by
          show (wide x.m x.v.w && (covB x.m x.v && x.len == 0)) = false
          cases h1 : wide x.m x.v.w
          · rfl
          · rw [h1, Bool.and_true] at hf; rw [hf, Bool.and_false, Bool.and_false]
        rw [e]
        exact good34_no 3 (.inl rfl) x hx hok hf
      · rw [Bool.and_eq_true] at hf
        have e : mayK 3 x x.v.w = covB x.m x.v := by
          show (wide x.m x.v.w && (covB x.m x.v && x.len == 0)) = _
          rw [hf.1, hf.2, Bool.true_and, Bool.and_true]
        rw [e]
        have h2 := hf.2
        unfold wide at h2
        rw [Bool.and_eq_true] at h2
        exact good3_yes x hx hok (eq_of_beq hf.1) h2.2 (eq_of_beq h2.1)
    · cases hf : (x.len == 0 && wide x.m x.v.w)
      · have e : mayK 4 x x.v.w = false := by
          show (wide x.m x.v.w && (atmB x.v x.m && x.len == 0)) = false
          cases h1 : wide x.m x.v.w
          · rfl
          · rw [h1, Bool.and_true] at hf; rw [hf, Bool.and_false, Bool.and_false]
        rw [e]
        exact good34_no 4 (.inr rfl) x hx hok hf
      · rw [Bool.and_eq_true] at hf
        have e : mayK 4 x x.v.w = atmB x.v x.m := by
          show (wide x.m x.v.w && (atmB x.v x.m && x.len == 0)) = _
          rw [hf.1, hf.2, Bool.true_and, Bool.and_true]
        rw [e]
        have h2 := hf.2
        unfold wide at h2
        rw [Bool.and_eq_true] at h2
        exact good4_yes x hx hok (eq_of_beq hf.1) h2.2 (eq_of_beq h2.1)

theorem chk_no1 {t : Tb} {e : En} (h : tabMay t = false) : chkI t e = 1 := by unfold chkI chkB; rw [h]; rfl
theorem chk_no2 {t : Tb} {e : En} (h : e.ms.length ≠ t.ks.length) : chkI t e = 1 := by
  have h2 : (e.ms.length == t.ks.length) = false := by simpa using h
  unfold chkI chkB enMay mmsB
  rw [h2, Bool.false_and, Bool.false_and, Bool.and_false]; rfl
theorem chk_no3 {t : Tb} {e : En} (k : Nat) (hk : k < e.ms.length) (h : mmB t k e.ms[k] = false) : chkI t e = 1 := by
  have h2 : allI (mmB t) 0 e.ms = false := allI_no e.ms 0 k hk (by rw [Nat.zero_add]; exact h)
  unfold chkI chkB enMay mmsB
  rw [h2, Bool.and_false, Bool.false_and, Bool.and_false]; rfl
theorem chk_no4 {t : Tb} {e : En} (k : Nat) (hk : k < e.args.length) (h : e.args[k].ok = false) : chkI t e = 1 := by
  have h2 : e.args.any (fun b => !b.ok) = true := List.any_eq_true.2 ⟨_, List.getElem_mem hk, by rw [h]; rfl⟩
  unfold chkI chkB enMay
  rw [h2, Bool.not_true, Bool.and_false, Bool.and_false, Bool.and_false]; rfl
theorem chk_yes {t : Tb} {e : En} (h1 : tabMay t = true) (h2 : e.ms.length = t.ks.length) (h3 : ∀ k (hk : k < e.ms.length), mmB t k e.ms[k] = true) (h4 : ∀ k (hk : k < e.args.length), e.args[k].ok = true) : chkI t e = if prioB t e.prio then 0 else 1 := by
  have a1 : allI (mmB t) 0 e.ms = true := allI_yes e.ms 0 (fun k hk => by rw [Nat.zero_add]; exact h3 k hk)
  have a2 : e.args.any (fun b => !b.ok) = false := by
    rw [List.any_eq_false]
    intro x hx
    obtain ⟨k, hk, rfl⟩ := List.mem_iff_getElem.1 hx
    rw [h4 k hk]; simp
  have a3 : (e.ms.length == t.ks.length) = true := by simpa using h2
  unfold chkI chkB enMay mmsB
  rw [h1, a1, a2, a3, Bool.not_false, Bool.and_true, Bool.and_true, Bool.true_and, Bool.true_and]
theorem mmB_at {t : Tb} {k : Nat} {x : Mx} (h1 : k < t.ks.length) (h2 : k < t.ws.length) : mmB t k x = (wide x.v t.ws[k] && mayK t.ks[k] x t.ws[k]) := by simp [mmB, h1, h2]
set_option maxRecDepth 100000 in
set_option maxHeartbeats 8000000 in
theorem refCheck13_any (x : TbL) (y : EnL) (w : World) (hx : TbR w x) (hy : EnR w y) :
    Calls Tryz.prog 33 #[x.val, y.val] w fun e w' => e = .returned (.int .i64 (chkI x.t y.e)) ∧ Below w.heap.size w w' := by
  have HT : Hid (∀ W, Below w.heap.size w W → _) := fun W hb => refMay_any x W (hx.below hb)
  cases em : tabMay x.t
  · rw [chk_no1 em]
    rw [em] at HT
    clear hx hy em
    obtain ⟨⟨ks, ws, size⟩, ka, kc, wa, wc⟩ := x
    obtain ⟨⟨ms, prio, act, args⟩, ma, mc, aa, ac⟩ := y
    simp only [TbL.val, EnL.val] at *
    go_enter Tryz.func33, Tryz.ntmps33
    go_wp2_with fail
    refine (HT.out _ (below2 _ _ _)).mono ?_
    rintro e w1 ⟨rfl, hb⟩
    obtain ⟨a0, a1, a2, -⟩ := at3 (heap_below hb (heap_past _ (heap_alloc_new _ _)))
    obtain ⟨b0, b1, b2, b3, -⟩ := at4 (heap_below hb (heap_snd _ _ _ _))
    go_wp2
    go_ret
    exact ⟨rfl, bstep (below2 _ _ _) hb⟩
  rw [em] at HT
  by_cases hne : y.e.ms.length ≠ x.t.ks.length
  · rw [chk_no2 hne]
    clear hx hy em
    obtain ⟨⟨ks, ws, size⟩, ka, kc, wa, wc⟩ := x
    obtain ⟨⟨ms, prio, act, args⟩, ma, mc, aa, ac⟩ := y
    simp only [TbL.val, EnL.val] at *
    have d2 : ((ms.length : Int) == (ks.length : Int)) = false := by simp; omega
    have d3 : ((ms.length : Int) = (ks.length : Int)) = False := by simp; omega
    have d4 : (ms.length = ks.length) = False := by simp; omega
    clear hne
    go_enter Tryz.func33, Tryz.ntmps33
    go_wp2_with fail
    refine (HT.out _ (below2 _ _ _)).mono ?_
    rintro e w1 ⟨rfl, hb⟩
    obtain ⟨a0, a1, a2, -⟩ := at3 (heap_below hb (heap_past _ (heap_alloc_new _ _)))
    obtain ⟨b0, b1, b2, b3, -⟩ := at4 (heap_below hb (heap_snd _ _ _ _))
    go_wp2
    go_ret
    exact ⟨rfl, bstep (below2 _ _ _) hb⟩
  replace hne := Decidable.not_not.1 hne
  obtain ⟨_, hlw, hrow⟩ := tab_row em
  have HW : Hid (∀ W, Below w.heap.size w W → _) := fun W hb => refWeighs_any x W (hx.below hb)
  have HY := hide (chk_yes (t := x.t) (e := y.e) em hne)
  have HN3 := hide (chk_no3 (t := x.t) (e := y.e))
  have HN4 := hide (chk_no4 (t := x.t) (e := y.e))
  have HG : Hid (∀ k (h : k < y.e.ms.length) (h1 : k < x.t.ks.length) (h2 : k < x.t.ws.length), Pure 143 #[.int .u8 ((x.t.ks[k] : Nat) : Int), .int .i64 x.t.ws[k], y.e.ms[k].val] (.bool (mmB x.t k y.e.ms[k]))) := fun k h h1 h2 => by
    have hk := kOk_yes (hrow k h1 h2)
    rw [mmB_at h1 h2]
    exact good_any _ hk.1 hk.2.1 _ _ (hy.mr _ (List.getElem_mem h))
  have HO : Hid (∀ k (h : k < y.e.args.length), Pure 144 #[y.e.args[k].val] (.bool y.e.args[k].ok)) := fun k h => refOk_any _ (hy.ar _ (List.getElem_mem h))
  have HKS := hide hx.ks
  have HWS := hide hx.ws
  have HMS := hide hy.ms
  have HAS := hide hy.args
  have hml := hy.mn
  have hal := hy.an
  clear hx hy em hrow
  unfold prioB at HY
  generalize chkI x.t y.e = r at *
  generalize weighsB x.t = wg at *
  have HP : Hid (∀ k, y.e.ms.length = x.t.ks.length ∧ x.t.ws.length = x.t.ks.length ∧ (k < y.e.ms.length → k < x.t.ks.length ∧ k < x.t.ws.length)) := fun k => ⟨hne, hlw, fun h => by omega⟩
  generalize hmm : mmB x.t = mm at *
  clear hmm
  obtain ⟨⟨ks, ws, size⟩, ka, kc, wa, wc⟩ := x
  obtain ⟨⟨ms, prio, act, args⟩, ma, mc, aa, ac⟩ := y
  simp only [TbL.val, EnL.val] at *
  rw [hlw] at HT HW ⊢
  rw [← hne] at HT HW ⊢
  clear hne hlw
  obtain ⟨n, hn⟩ : ∃ n, ms.length = n := ⟨_, rfl⟩
  rw [hn] at HT HW hml ⊢
  have Hn := hide hn
  clear hn
  obtain ⟨na, hna⟩ : ∃ n, args.length = n := ⟨_, rfl⟩
  rw [hna] at hal ⊢
  have Hna := hide hna
  clear hna
  go_enter Tryz.func33, Tryz.ntmps33
  go_wp2_with fail
  refine (HT.out _ (below2 _ _ _)).mono ?_
  rintro e w1 ⟨rfl, hb⟩
  have KT := hide (heap_below hb (heap_past (.cells #[.slice ma n mc, .int .i64 prio, .string act, .slice aa na ac] 30) (heap_alloc_new w _)))
  have KE := hide (heap_below hb (heap_snd w _ _ _))
  have BB := hide (bstep (below2 _ _ _) hb)
  clear hb HT
  obtain ⟨a0, a1, a2, -⟩ := at3 KT.out
  obtain ⟨b0, b1, b2, b3, -⟩ := at4 KE.out
  go_wp2
  go_loopw [5] (fun i wr => ∃ k : Nat, k ≤ n ∧ i = .int .i64 k ∧ (∀ j (hj : j < ms.length), j < k → mm j ms[j] = true) ∧ Below w1.heap.size w1 wr) (fun i _ => n - (intOf i).toNat)
  case atStart => exact ⟨0, by omega, rfl, fun j _ h => absurd h (by omega), Below.refl _ _⟩
  case round =>
    obtain ⟨k, hk, rfl, hr, hbr⟩ := hrel
    have HR := hide hr
    have KT2 := hide (heap_below hbr KT.out)
    have KE2 := hide (heap_below hbr KE.out)
    have BW := hide (bstep BB.out hbr)
    have HB := hide hbr
    clear hr hbr a0 a1 a2 b0 b1 b2 b3
    obtain ⟨a0, a1, a2, -⟩ := at3 KT2.out
    obtain ⟨b0, b1, b2, b3, -⟩ := at4 KE2.out
    by_cases hlt : k < n
    · have h0 : k < ms.length := by have := Hn.out; omega
      obtain ⟨h1, h2⟩ := (HP.out k).2.2 h0
      have hg := HG.out k h0 h1 h2
      have HGG := hide hg
      obtain ⟨p, off, rfl, hp, hcl⟩ := RdA.some HKS.out (by omega)
      obtain ⟨p', off', rfl, hp', hcl'⟩ := HWS.out.some (by omega)
      obtain ⟨p'', off'', rfl, hp'', hcl''⟩ := HMS.out.some (by omega)
      have q0 := hcl k h1
      have q1 := hcl' k h2
      obtain ⟨c0, c1, c2, c3, c4, c5, c6⟩ := hcl'' k h0
      have HS : Hid (mm k ms[k] = true → ∀ j (hj : j < ms.length), j < k + 1 → mm j ms[j] = true) := fun h j hj hjk => by
        by_cases h3 : j < k
        · exact HR.out j hj h3
        · obtain rfl : j = k := by omega
          exact h
      have HN := hide (HN3.out k h0)
      clear hcl hcl' hcl'' hg HG HP HR HN3
      generalize ks[k] = c at *
      generalize ws[k] = d at *
      generalize hb0 : mm k ms[k] = b at *
      clear hb0
      generalize ms[k] = m at *
      obtain ⟨⟨vw, vh, vl⟩, ⟨mw, mh, ml⟩, len⟩ := m
      simp only [Mx.val] at HGG c0 c1 c2 c3 c4 c5 c6
      have hlI : (k : Int) < (n : Int) := by omega
      obtain ⟨X, f, hX, hS, hcov⟩ := class_of (fun w' => Below wr.heap.size wr w') wr.drew (Below.refl _ _).drew
      have HC0 : Hid (∃ x, wr.drew = f x) := hcov _ (Below.refl _ _).drew
      have HNX : Hid (∀ x w', Below (f x).heap.size (f x) w' → ∃ y, w' = f y) := fun x w' hb => hcov w' ((hS x).trans (hb.mono (hS x).size))
      have HSS := hide hS
      have HBX : Hid (∀ x, Below w.heap.size w (f x)) := fun x => bstep BW.out (hS x)
      have t0 := fun x => (at3 (heap_below (hS x) KT2.out)).1
      have t1 := fun x => (at3 (heap_below (hS x) KT2.out)).2.1
      have t2 := fun x => (at4 (heap_below (hS x) KE2.out)).1
      have r0 := fun x => ((HBX.out x).cell (p := ⟨p, off + k, none⟩) hp).trans q0
      have r1 := fun x => ((HBX.out x).cell (p := ⟨p', off' + k, none⟩) hp').trans q1
      have s0 := fun x => ((HBX.out x).cell (p := ⟨p'', off'' + k * 7, none⟩) hp'').trans c0
      have s1 := fun x => ((HBX.out x).cell (p := ⟨p'', off'' + k * 7 + 1, none⟩) hp'').trans c1
      have s2 := fun x => ((HBX.out x).cell (p := ⟨p'', off'' + k * 7 + 2, none⟩) hp'').trans c2
      have s3 := fun x => ((HBX.out x).cell (p := ⟨p'', off'' + k * 7 + 3, none⟩) hp'').trans c3
      have s4 := fun x => ((HBX.out x).cell (p := ⟨p'', off'' + k * 7 + 4, none⟩) hp'').trans c4
      have s5 := fun x => ((HBX.out x).cell (p := ⟨p'', off'' + k * 7 + 5, none⟩) hp'').trans c5
      have s6 := fun x => ((HBX.out x).cell (p := ⟨p'', off'' + k * 7 + 6, none⟩) hp'').trans c6
      clear hcov hS q0 q1 c0 c1 c2 c3 c4 c5 c6
      go_wp2
      refine wp_region_class f (by kernel_rfl) (by kernel_rfl) HC0.out ?_
      repeat (first
        | go_big_quiet_skip
        | (go_big_quiet_want; go_big_quiet_op; first
            | go_big_quiet_on
            | (apply Exists.intro
               refine ⟨fun _ => ?_, ?_⟩
               · (go_at_call 143; refine (HGG.out _).mono ?_; rintro e' wn ⟨rfl, hb⟩; exact ⟨rfl, HNX.out _ _ hb⟩)
               go_big_quiet_on)))
      refine wpQuiet_nil ?_
      rintro _ ⟨x, rfl⟩
      have HBY := hide (HB.out.trans ((HSS.out x).mono HB.out.size))
      have HBZ := hide (HBX.out x)
      clear t0 t1 t2 r0 r1 s0 s1 s2 s3 s4 s5 s6 HNX HC0 HBX HSS
      cases b
      · obtain rfl := HN.out rfl
        clear HN HS
        go_wp2
        go_ret
        exact ⟨rfl, HBZ.out⟩
      · have HS2 := hide (HS.out rfl)
        clear HN HS
        go_wp2
        go_roundw
        case rel => exact ⟨k + 1, by omega, by go_num, HS2.out, HBY.out⟩
        case measure => simp [intOf]; omega
    · obtain rfl : k = n := by omega
      have HY2 := hide (HY.out (fun j hj => HR.out j hj (by have := Hn.out; omega)))
      have W2 := hide (rfl : wr = wr)
      clear HY HG HN3 HR HKS HWS HMS HP HB BB KT KE W2
      go_wp2
      go_loopw [6] (fun i wq => ∃ k : Nat, k ≤ na ∧ i = .int .i64 k ∧ (∀ j (hj : j < args.length), j < k → args[j].ok = true) ∧ Below wr.heap.size wr wq) (fun i _ => na - (intOf i).toNat)
      case atStart => exact ⟨0, by omega, rfl, fun j _ h => absurd h (by omega), Below.refl _ _⟩
      case round =>
        obtain ⟨k, hk, rfl, hr, hbr⟩ := hrel
        have HR := hide hr
        have KT := hide (heap_below hbr KT2.out)
        have KE := hide (heap_below hbr KE2.out)
        have BB := hide (bstep BW.out hbr)
        have HB := hide hbr
        clear hr hbr a0 a1 a2 b0 b1 b2 b3
        obtain ⟨a0, a1, a2, -⟩ := at3 KT.out
        obtain ⟨b0, b1, b2, b3, -⟩ := at4 KE.out
        by_cases hlt : k < na
        · have h0 : k < args.length := by have := Hna.out; omega
          have hlI : (k : Int) < (na : Int) := by omega
          have hg := HO.out k h0
          have HGG := hide hg
          obtain ⟨p, off, rfl, hp, hcl⟩ := (HAS.out.below BB.out).some (by omega)
          obtain ⟨c0, c1, c2⟩ := hcl k h0
          have HS : Hid (args[k].ok = true → ∀ j (hj : j < args.length), j < k + 1 → args[j].ok = true) := fun h j hj hjk => by
            by_cases h3 : j < k
            · exact HR.out j hj h3
            · obtain rfl : j = k := by omega
              exact h
          have HN := hide (HN4.out k h0)
          clear hcl hg HO HR HN4
          generalize hb0 : args[k].ok = b at *
          clear hb0
          generalize args[k] = m at *
          obtain ⟨vw, vh, vl⟩ := m
          simp only [Nb.val] at HGG c0 c1 c2
          go_wp2_with fail
          refine (HGG.out _).mono ?_
          rintro e w3 ⟨rfl, hb⟩
          have HBY := hide (bstep HB.out hb)
          have HBZ := hide (bstep BB.out hb)
          clear hb c0 c1 c2
          cases b
          · obtain rfl := HN.out rfl
            clear HN HS
            go_wp2
            go_ret
            exact ⟨rfl, HBZ.out⟩
          · have HS2 := hide (HS.out rfl)
            clear HN HS
            go_wp2
            go_roundw
            case rel => exact ⟨k + 1, by omega, by go_num, HS2.out, HBY.out⟩
            case measure => simp [intOf]; omega
        · obtain rfl : k = na := by omega
          have HY3 := hide (HY2.out (fun j hj => HR.out j hj (by have := Hna.out; omega)))
          clear HY2 HO HN4 HR HAS HB
          go_wp2_with fail
          refine (HW.out _ BB.out).mono ?_
          rintro e w3 ⟨rfl, hb⟩
          replace KT := hide (heap_below hb KT.out)
          replace KE := hide (heap_below hb KE.out)
          replace BB := hide (bstep BB.out hb)
          clear hb a0 a1 a2 b0 b1 b2 b3
          obtain ⟨a0, a1, a2, -⟩ := at3 KT.out
          obtain ⟨b0, b1, b2, b3, -⟩ := at4 KE.out
          cases wg
          · go_wp2_with fail
            refine (HW.out _ BB.out).mono ?_
            rintro e w4 ⟨rfl, hb⟩
            replace KE := hide (heap_below hb KE.out)
            replace BB := hide (bstep BB.out hb)
            clear hb a0 a1 a2 b0 b1 b2 b3
            obtain ⟨b0, b1, b2, b3, -⟩ := at4 KE.out
            by_cases hz : prio = 0
            · subst hz
              go_wp2
              go_ret
              exact ⟨by rw [HY3.out]; rfl, BB.out⟩
            · have z1 : (prio == 0) = false := by simpa using hz
              have z2 : (prio = 0) = False := by simpa using hz
              go_wp2
              go_ret
              exact ⟨by rw [HY3.out]; simp [hz], BB.out⟩
          · by_cases l1 : 1 ≤ prio
            · have l1' : decide (prio ≥ 1) = true := by simpa using l1
              by_cases l2 : prio ≤ 2147483647
              · go_wp2
                go_ret
                exact ⟨by rw [HY3.out]; simp [fromB, l1, l2], BB.out⟩
              · have l2' : decide (prio ≤ 2147483647) = false := by simpa using l2
                go_wp2_with fail
                refine (HW.out _ BB.out).mono ?_
                rintro e w4 ⟨rfl, hb⟩
                replace KE := hide (heap_below hb KE.out)
                replace BB := hide (bstep BB.out hb)
                clear hb a0 a1 a2 b0 b1 b2 b3
                obtain ⟨b0, b1, b2, b3, -⟩ := at4 KE.out
                go_wp2
                go_ret
                exact ⟨by rw [HY3.out]; simp [fromB, l1, l2], BB.out⟩
            · have HFB : Hid (fromB 1 prio 2147483647 = false) := by
                show _ = _
                simp [fromB]
                intro h
                omega
              have l1' : decide (prio ≥ 1) = false := by simpa using l1
              have l1'' : decide (1 ≤ prio) = false := by simpa using l1
              go_wp2_with fail
              refine (HW.out _ BB.out).mono ?_
              rintro e w4 ⟨rfl, hb⟩
              replace KE := hide (heap_below hb KE.out)
              replace BB := hide (bstep BB.out hb)
              clear hb a0 a1 a2 b0 b1 b2 b3
              obtain ⟨b0, b1, b2, b3, -⟩ := at4 KE.out
              go_wp2
              go_ret
              exact ⟨by rw [HY3.out, HFB.out]; rfl, BB.out⟩
end Go.Proofs.YteflnicgohjiiaaGreatDoor
