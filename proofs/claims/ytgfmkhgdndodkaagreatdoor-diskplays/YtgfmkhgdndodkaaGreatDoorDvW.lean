/- pointsmanlaw04.DiskPlays: its walk. -/
import Derived.Test.YtgfmkhgdndodkaaGreatDoorDvX
import Derived.Deep.CutBlock
namespace Go.Proofs.YtgfmkhgdndodkaaGreatDoor
open Go.RowKit

set_option maxRecDepth 100000 in
set_option maxHeartbeats 8000000 in
theorem plays_any (room : Int) (a : Option Addr) (cap : Nat) (os : List Sop) (w : World) (hl : os.length ≤ 500) (hr : RdO w a os) : Calls Tryz.prog 3 #[.int .i64 room, .slice a os.length cap] w fun e w' => e = .returned (.bool true) ∧ Below w.heap.size w w' := by
  have d1 : decide ((os.length : Int) > 500) = false := by simp; omega
  have d2 : decide (500 < os.length) = false := by simp; omega
  have HS := hide (size_any a cap os w hl hr)
  have HR := hide hr
  clear hr
  go_enter Tryz.func3, Tryz.ntmps3
  go_wp2_with fail
  refine HS.out.mono ?_
  rintro e w1 ⟨⟨n, rfl, hn⟩, hw⟩
  have HN := hide hn
  subst hw
  clear hn HS
  by_cases hbig : 200000 < n
  · have d3 : ((n : Int) > 200000) = True := by simp; omega
    have d4 : (200000 < n) = True := by simp; omega
    clear HN
    go_wp2
    go_ret
    exact ⟨rfl, Below.refl _ _⟩
  have d3 : ((n : Int) > 200000) = False := by simp; omega
  have d4 : (200000 < n) = False := by simp; omega
  have HX := hide (HN.out (by omega))
  clear HN hbig
  go_wp2_with fail
  refine (dv_new room _).mono ?_
  rintro e w2 ⟨pd, rfl, hd, hb⟩
  have D2 := hide hd
  have B2 := hide hb
  obtain ⟨nd1, nd2⟩ := hd.nil
  clear hd hb
  go_wp2_with fail
  refine (rv_new room _).mono ?_
  rintro e w3 ⟨pr, rfl, hd, hb⟩
  obtain ⟨nr1, nr2⟩ := hd.nil
  have R3 := hide hd
  have B3 := hide hb
  have e1 := dsk_eql pd nd2 _ nd1
  have e2 := ref_eql pr nr2 _ nr1
  have hzero : (w3.alloc (.cells #[.int .i64 0, .slice none 0 0, .bool false, .nilFunc] 35)).cell? ⟨w3.heap.size, 0, none⟩ = some (.int .i64 0) := by
    have hh : (w3.alloc (.cells #[.int .i64 0, .slice none 0 0, .bool false, .nilFunc] 35)).heap[w3.heap.size]? = some (.cells #[.int .i64 0, .slice none 0 0, .bool false, .nilFunc] 35 (0, 0)) := heap_alloc_new w3 _
    unfold World.cell?; simp only [hh]; rfl
  have P0 := hide (PlV.start (t := 67) D2.out B2.out R3.out B3.out hzero)
  clear hd hb D2 B2 R3 B3 nd1 nd2 nr1 nr2 hzero
  generalize (s0 room).isNone = bn at *
  generalize cN room = cn at *
  go_wp2_with (refine wpList_storeZ rfl 67 _ _ rfl _ bk0 67 rfl rfl bk_size (two_alloc _ _ _ _) bk0_one ?_)
  clear e1 e2
  generalize s0 room = st0 at *
  generalize room.toNat = R at *
  generalize w2.heap.size = B' at *
  generalize w3.heap.size = gz at *
  obtain ⟨gb, hgb⟩ : ∃ gb, gb = gz + 1 := ⟨_, rfl⟩
  have HGB := hide hgb
  simp only [← hgb] at P0 ⊢
  obtain ⟨B, hB⟩ : ∃ B, B = w1.heap.size := ⟨_, rfl⟩
  rw [← hB] at P0
  clear hgb hB
  obtain ⟨w, hww⟩ : ∃ w, w = w1 := ⟨_, rfl⟩
  subst hww
  go_loopg [12] os.length (fun gk i wr => ∃ (k : Nat) (vd fd vr vb : Value) (s : Option Ds) (hs : List Hb), k + gk = os.length ∧ i = .int .i64 k ∧ hs.length ≤ k ∧ PlV w B B' gb gz R pd pr vd fd vr vb s hs wr)
  case atStart => exact ⟨0, _, _, _, _, _, [], by omega, rfl, Nat.le_refl _, P0.out⟩
  case round =>
    obtain ⟨k, vd, fd, vr, vb, s, hs, hk, rfl, hsk, hP⟩ := hrel
    have P1 := hide hP
    have HK := hide hk
    have HSK := hide hsk
    clear hP P0 hk hsk
    by_cases hlt : k < os.length
    · have hkI : (k : Int) < (os.length : Int) := by omega
      have dk : decide (k < os.length) = true := by simp; omega
      obtain ⟨p, off, rfl, hcl⟩ : ∃ p off, a = some ⟨p, off, none⟩ ∧ ∀ W', Below w.heap.size w W' → W'.cell? ⟨p, off + k * 3, none⟩ = some (.int .u8 (os[k].k : Nat)) ∧ W'.cell? ⟨p, off + k * 3 + 1, none⟩ = some (.int .i64 os[k].n) ∧ W'.cell? ⟨p, off + k * 3 + 2, none⟩ = some (.slice os[k].a os[k].xs.length os[k].cap) := by
        rcases HR.out.rd with e | ⟨p, off, e, hp, hc⟩
        · rw [e] at hlt; simp at hlt
        · refine ⟨p, off, e, fun W' hb => ?_⟩
          obtain ⟨h1, h2, h3⟩ := hc k hlt
          exact ⟨(hb.cell (p := ⟨p, _, none⟩) hp).trans h1, (hb.cell (p := ⟨p, _, none⟩) hp).trans h2, (hb.cell (p := ⟨p, _, none⟩) hp).trans h3⟩
      have HO := hide (fun W' (hb : Below w.heap.size w W') => (HR.out.below hb).ok _ (List.getElem_mem hlt))
      have HX1 := hide (HX.out _ (List.getElem_mem hlt))
      have hblw : Below w.heap.size w wr := Four.bl P1.out
      obtain ⟨q0, q1, q2⟩ := hcl wr hblw
      have BW := hide hblw
      clear hcl HR HX hblw
      generalize os[k] = o at *
      have hb1 : Below wr.heap.size wr (wr.alloc (.cells #[.int .u8 (o.k : Nat), .int .i64 o.n, .slice o.a o.xs.length o.cap] 69)) := (Below.refl _ _).alloc (Nat.le_refl _) _
      have B1 := hide hb1
      have HBX := hide (box3 wr (.int .u8 (o.k : Nat)) (.int .i64 o.n) (.slice o.a o.xs.length o.cap) 69)
      have HT := hide (twin_any o.a o.cap o.xs (wr.alloc (.cells #[.int .u8 (o.k : Nat), .int .i64 o.n, .slice o.a o.xs.length o.cap] 69)) (by have := HX1.out; omega) (HO.out _ (BW.out.trans (hb1.mono BW.out.size))).rd)
      clear hb1
      go_wp2_with fail
      refine HT.out.mono ?_
      rintro e w5 ⟨tb, tc, rfl, ht, htc, htg, hb5⟩
      have hA := P1.out.open B1.out hb5 HBX.out ht
      have A5 := hide hA
      obtain ⟨f0, f1, f2⟩ := hA.cells
      have HTG : Hid (tb ≠ gz ∧ tb ≠ wr.heap.size) := by
        have h1 := (World.ownsRow.lt ht tb rfl).1
        have h2 := (Four.k4 P1.out).lt (Four.c4 P1.out) rfl
        simp at h1
        exact ⟨by omega, by omega⟩
      have HTC := hide htc
      have HRD := hide (fun W' (hb : Below w.heap.size w W') => (HO.out W' hb).rd)
      have HLE := hide (HO.out w (Below.refl _ _))
      clear hA ht hb5 HT HBX B1 P1 q0 q1 q2 htc
      generalize wr.heap.size = go at *
      go_upto_block 2 with fail
      go_cut [15] from 48 to 188 (fun okv wx => okv = .bool true ∧ ∃ vd' fd' vr' s', Av4 w B B' gb gz go tb tc R pd pr vd' fd' s' vr' s' vb hs o (o.xs ++ [77]) wx)
      case first =>
        by_cases hk2 : o.k = 2
        · have n2 : ((o.k : Int) == 2) = true := by rw [hk2]; rfl
          have m2 : (o.k == 2) = true := by rw [hk2]; rfl
          clear hk2
          have HDA : Hid (∀ X vr' s', Av4 w B B' gb gz go tb tc R pd pr vd fd s vr' s' vb hs o (o.xs ++ [77]) X → Calls Tryz.prog 8 #[.pointer pd, .int .i64 o.n] X fun e X' => e = .returned (.int .i64 (lif (trS · o.n) s).1) ∧ ∃ vd' fd', Av4 w B B' gb gz go tb tc R pd pr vd' fd' (lif (trS · o.n) s).2 vr' s' vb hs o (o.xs ++ [77]) X') := fun X vr' s' h =>
            (dv_trim (Four.c1 h) o.n).mono (fun e X' hd => ⟨hd.1, Av4.d h hd.2⟩)
          have HRA : Hid (∀ X vd' fd' s', Av4 w B B' gb gz go tb tc R pd pr vd' fd' s' vr s vb hs o (o.xs ++ [77]) X → Calls Tryz.prog 9 #[.pointer pr, .int .i64 o.n] X fun e X' => e = .returned (.int .i64 (lif (trS · o.n) s).1) ∧ ∃ vr', Av4 w B B' gb gz go tb tc R pd pr vd' fd' s' vr' (lif (trS · o.n) s).2 vb hs o (o.xs ++ [77]) X') := fun X vd' fd' s' h =>
            (rv_trim (Four.c2 h) o.n).mono (fun e X' hd => ⟨hd.1, Av4.r h hd.2⟩)
          generalize lif (trS · o.n) s = RR at HDA HRA
          obtain ⟨rc, s2⟩ := RR
          simp only at HDA HRA
          have A5d := hide A5.out.drew
          go_wp2_with fail
          go_region_with (first
            | (go_at_call_of 8 pd; refine (HDA.out _ _ _ (by first | exact A7.out | exact A5d.out)).mono ?_; rintro e w6 ⟨rfl, vd6, fd6, hA6⟩; have A6 := hide hA6; obtain ⟨g0, g1, g2⟩ := hA6.cells; clear hA6)
            | (go_at_call 9; refine (HRA.out _ _ _ _ (by first | exact A6.out | exact A5d.out)).mono ?_; rintro e w7 ⟨rfl, vr7, hA7⟩; have A7 := hide hA7; obtain ⟨k0, k1, k2⟩ := hA7.cells; clear hA7)
            | (go_at_call_of 8 gz; refine (trim_not _ _ _ (by first | exact A7.out.z | exact A6.out.z)).mono ?_; rintro e w8 ⟨rfl, hw⟩; subst hw)
            | (go_at_call 8; refine (trim_not none _ _ (.inl rfl)).mono ?_; rintro e w9 ⟨rfl, hw⟩; subst hw))
          all_goals
            go_wp2_with fail
            go_meet
            case rel => first | exact ⟨rfl, _, _, _, s2, A7.out⟩ | exact ⟨rfl, _, _, _, s2, A6.out⟩
        have n2 : ((o.k : Int) == 2) = false := by simp; omega
        have m2 : (o.k == 2) = false := by simp; omega
        by_cases hk3 : o.k = 3
        · have n3 : ((o.k : Int) == 3) = true := by rw [hk3]; rfl
          have m3 : (o.k == 3) = true := by rw [hk3]; rfl
          clear hk2 hk3
          have HDA : Hid (∀ X vr' s', Av4 w B B' gb gz go tb tc R pd pr vd fd s vr' s' vb hs o (o.xs ++ [77]) X → Calls Tryz.prog 10 #[.pointer pd, .int .i64 o.n] X fun e X' => e = .returned (.int .i64 (lif (faS · o.n) s).1) ∧ ∃ vd' fd', Av4 w B B' gb gz go tb tc R pd pr vd' fd' (lif (faS · o.n) s).2 vr' s' vb hs o (o.xs ++ [77]) X') := fun X vr' s' h =>
            (dv_fail (Four.c1 h) o.n (by have := HLE.out.nb; omega)).mono (fun e X' hd => ⟨hd.1, Av4.d h hd.2⟩)
          have HRA : Hid (∀ X vd' fd' s', Av4 w B B' gb gz go tb tc R pd pr vd' fd' s' vr s vb hs o (o.xs ++ [77]) X → Calls Tryz.prog 11 #[.pointer pr, .int .i64 o.n] X fun e X' => e = .returned (.int .i64 (lif (faS · o.n) s).1) ∧ ∃ vr', Av4 w B B' gb gz go tb tc R pd pr vd' fd' s' vr' (lif (faS · o.n) s).2 vb hs o (o.xs ++ [77]) X') := fun X vd' fd' s' h =>
            (rv_fail (Four.c2 h) o.n).mono (fun e X' hd => ⟨hd.1, Av4.r h hd.2⟩)
          generalize lif (faS · o.n) s = RR at HDA HRA
          obtain ⟨rc, s2⟩ := RR
          simp only at HDA HRA
          have A5d := hide A5.out.drew
          go_wp2_with fail
          go_region_with (first
            | (go_at_call_of 10 pd; refine (HDA.out _ _ _ (by first | exact A7.out | exact A5d.out)).mono ?_; rintro e w6 ⟨rfl, vd6, fd6, hA6⟩; have A6 := hide hA6; obtain ⟨g0, g1, g2⟩ := hA6.cells; clear hA6)
            | (go_at_call 11; refine (HRA.out _ _ _ _ (by first | exact A6.out | exact A5d.out)).mono ?_; rintro e w7 ⟨rfl, vr7, hA7⟩; have A7 := hide hA7; obtain ⟨k0, k1, k2⟩ := hA7.cells; clear hA7)
            | (go_at_call_of 10 gz; refine (fail_not _ _ _ (by first | exact A7.out.z | exact A6.out.z)).mono ?_; rintro e w8 ⟨rfl, hw⟩; subst hw)
            | (go_at_call 10; refine (fail_not none _ _ (.inl rfl)).mono ?_; rintro e w9 ⟨rfl, hw⟩; subst hw))
          all_goals
            go_wp2_with fail
            go_meet
            case rel => first | exact ⟨rfl, _, _, _, s2, A7.out⟩ | exact ⟨rfl, _, _, _, s2, A6.out⟩
        have n3 : ((o.k : Int) == 3) = false := by simp; omega
        have m3 : (o.k == 3) = false := by simp; omega
        by_cases hk4 : o.k = 4
        · have n4 : ((o.k : Int) == 4) = true := by rw [hk4]; rfl
          have m4 : (o.k == 4) = true := by rw [hk4]; rfl
          clear hk2 hk3 hk4
          have HDA : Hid (∀ X vr' s', Av4 w B B' gb gz go tb tc R pd pr vd fd s vr' s' vb hs o (o.xs ++ [77]) X → Calls Tryz.prog 12 #[.pointer pd] X fun e X' => e = .returned (.int .i64 (lif (upS) s).1) ∧ ∃ vd' fd', Av4 w B B' gb gz go tb tc R pd pr vd' fd' (lif (upS) s).2 vr' s' vb hs o (o.xs ++ [77]) X') := fun X vr' s' h =>
            (dv_up (Four.c1 h)).mono (fun e X' hd => ⟨hd.1, Av4.d h hd.2⟩)
          have HRA : Hid (∀ X vd' fd' s', Av4 w B B' gb gz go tb tc R pd pr vd' fd' s' vr s vb hs o (o.xs ++ [77]) X → Calls Tryz.prog 13 #[.pointer pr] X fun e X' => e = .returned (.int .i64 (lif (upS) s).1) ∧ ∃ vr', Av4 w B B' gb gz go tb tc R pd pr vd' fd' s' vr' (lif (upS) s).2 vb hs o (o.xs ++ [77]) X') := fun X vd' fd' s' h =>
            (rv_up (Four.c2 h)).mono (fun e X' hd => ⟨hd.1, Av4.r h hd.2⟩)
          generalize lif (upS) s = RR at HDA HRA
          obtain ⟨rc, s2⟩ := RR
          simp only at HDA HRA
          go_wp2_with fail
          refine (HDA.out _ _ _ A5.out).mono ?_
          rintro e w6 ⟨rfl, vd6, fd6, hA6⟩
          have A6 := hide hA6
          clear hA6
          go_wp2_with fail
          refine (HRA.out _ _ _ _ A6.out).mono ?_
          rintro e w7 ⟨rfl, vr7, hA7⟩
          have A7 := hide hA7
          clear hA7
          go_wp2_with fail
          refine (up_not _ _ A7.out.z).mono ?_
          rintro e w8 ⟨rfl, hw⟩
          subst hw
          go_wp2_with fail
          refine (up_not none _ (.inl rfl)).mono ?_
          rintro e w9 ⟨rfl, hw⟩
          subst hw
          go_wp2_with fail
          go_meet
          case rel => exact ⟨rfl, _, _, _, s2, A7.out⟩
        · have n4 : ((o.k : Int) == 4) = false := by simp; omega
          have m4 : (o.k == 4) = false := by simp; omega
          clear hk2 hk3 hk4
          have HDA : Hid (∀ X vr' s', Av4 w B B' gb gz go tb tc R pd pr vd fd s vr' s' vb hs o (o.xs ++ [77]) X → Calls Tryz.prog 14 #[.pointer pd, .slice (some ⟨tb, 0, none⟩) o.xs.length tc] X fun e X' => e = .returned (.int .i64 (lif (apS R · o.xs) s).1) ∧ ∃ vd' fd', Av4 w B B' gb gz go tb tc R pd pr vd' fd' (lif (apS R · o.xs) s).2 vr' s' vb hs o (o.xs ++ [77]) X') := fun X vr' s' h =>
            (dv_append (Four.c1 h) (some ⟨tb, 0, none⟩) tc o.xs (by have := ((Four.c4 h).t.rd.2).pre o.xs.length; rw [List.take_left] at this; exact this) (by have := HTC.out; omega) (fun e => by cases e)).mono (fun e X' hd => ⟨hd.1, Av4.d h hd.2⟩)
          have HRA : Hid (∀ X vd' fd' s', Av4 w B B' gb gz go tb tc R pd pr vd' fd' s' vr s vb hs o (o.xs ++ [77]) X → Calls Tryz.prog 15 #[.pointer pr, .slice o.a o.xs.length o.cap] X fun e X' => e = .returned (.int .i64 (lif (apS R · o.xs) s).1) ∧ ∃ vr', Av4 w B B' gb gz go tb tc R pd pr vd' fd' s' vr' (lif (apS R · o.xs) s).2 vb hs o (o.xs ++ [77]) X') := fun X vd' fd' s' h =>
            (rv_append (Four.c2 h) o.a o.cap o.xs (HRD.out X (Four.bl h)) HLE.out.le HLE.out.nn).mono (fun e X' hd => ⟨hd.1, Av4.r h hd.2⟩)
          generalize lif (apS R · o.xs) s = RR at HDA HRA
          obtain ⟨rc, s2⟩ := RR
          simp only at HDA HRA
          have A5d := hide A5.out.drew
          go_wp2_with fail
          go_region_with (first
            | (go_at_call_of 14 pd; refine (HDA.out _ _ _ (by first | exact A7.out | exact A5d.out)).mono ?_; rintro e w6 ⟨rfl, vd6, fd6, hA6⟩; have A6 := hide hA6; obtain ⟨g0, g1, g2⟩ := hA6.cells; clear hA6)
            | (go_at_call 15; refine (HRA.out _ _ _ _ (by first | exact A6.out | exact A5d.out)).mono ?_; rintro e w7 ⟨rfl, vr7, hA7⟩; have A7 := hide hA7; obtain ⟨k0, k1, k2⟩ := hA7.cells; clear hA7)
            | (go_at_call_of 14 gz; refine (append_not _ _ _ (by first | exact A7.out.z | exact A6.out.z)).mono ?_; rintro e w8 ⟨rfl, hw⟩; subst hw)
            | (go_at_call 14; refine (append_not none _ _ (.inl rfl)).mono ?_; rintro e w9 ⟨rfl, hw⟩; subst hw))
          all_goals
            go_wp2_with fail
            go_meet
            case rel => first | exact ⟨rfl, _, _, _, s2, A7.out⟩ | exact ⟨rfl, _, _, _, s2, A6.out⟩
      case rest =>
        obtain ⟨rfl, vd', fd', vr', s', hA⟩ := hcut
        have A6 := hide hA
        obtain ⟨f0, f1, f2⟩ := hA.cells
        have hcm : tc ≤ 9223372036854775807 := by
          rcases (Four.c4 hA).t.2 with ⟨e, _⟩ | ⟨g', c', cur, e, _, _, _, h2, _⟩
          · cases e
          · injection e with _ _ e3; rw [e3]; unfold maxLen at h2; omega
        have HL := hide (left_yes tb tc o.a o.cap o.xs wc w.heap.size (by have := HX1.out; omega) (HRD.out wc (Four.bl hA)) HTC.out hcm (Four.c4 hA).t)
        clear hA A5 hcm
        go_wp2_with fail
        refine HL.out.mono ?_
        rintro e w7 ⟨rfl, hb7⟩
        have A7 := hide (A6.out.next hb7)
        clear hb7 HL A6 f0 f1 f2
        go_wp2_with fail
        refine (dv_down (Four.c1 A7.out)).mono ?_
        rintro e w8 ⟨rfl, hw⟩
        subst hw
        go_wp2_with fail
        refine (rv_down (Four.c2 A7.out)).mono ?_
        rintro e w9 ⟨rfl, hw⟩
        subst hw
        generalize dwn s' = db
        have hne : (db != db) = false := by cases db <;> rfl
        obtain ⟨gx, hgx⟩ : ∃ gx, gx = gk := ⟨_, rfl⟩
        subst hgx
        go_wp2
        go_loopg [16] o.xs.length (fun g2 j wi => ∃ (q : Nat) (ts : List Nat), q + g2 = o.xs.length ∧ j = .int .i64 q ∧ ts.length = o.xs.length + 1 ∧ Av4 w B B' gb gz go tb tc R pd pr vd' fd' s' vr' s' vb hs o ts wi)
        case atStart => exact ⟨0, o.xs ++ [77], by omega, rfl, by simp, A7.out⟩
        case round =>
          obtain ⟨q, ts, hq, rfl, hts, hA⟩ := hrel
          have A8 := hide hA
          have HQ := hide hq
          have HTS := hide hts
          have HNE := hide hne
          clear hq A7 hne
          by_cases hqt : q < o.xs.length
          · have hqI : (q : Int) < (o.xs.length : Int) := by omega
            have dq : decide (q < o.xs.length) = true := by simp; omega
            have hq9 : q < 100000000 := by have := HX1.out; omega
            have hc := own_cell8 (Four.c4 hA).t q (by omega)
            have hsf := Own8.soft (Four.c4 hA).t q
            generalize ts[q]'(by omega) = y at hc
            have AN := hide (A8.out.mark q 238 HTG.out.1 HTG.out.2)
            clear hA A8
            generalize o.xs.length = L at *
            go_wp2
            go_roundg (gk - 1)
            case measure => have := HQ.out; omega
            case rel => exact ⟨q + 1, _, by have := HQ.out; omega, by go_num, by rw [List.length_set]; exact HTS.out, AN.out⟩
          · have dq : decide (q < o.xs.length) = false := by simp; omega
            have hqI : ¬ ((q : Int) < (o.xs.length : Int)) := by omega
            have HBL := hide (Four.bl hA)
            have hmod : (k : Int).tmod 40 = ((k % 40 : Nat) : Int) := by rw [Int.tmod_eq_emod_of_nonneg (by omega)]; omega
            have HLB := hide (bys_len (Four.c1 hA))
            clear hA hts hqt
            by_cases h40 : k % 40 = 0
            · rw [h40] at hmod
              generalize o.xs.length = L at *
              go_wp2_with fail
              refine (dv_bytes (Four.c1 A8.out)).mono ?_
              rintro e w10 ⟨u10, rfl, ho10, hb10⟩
              obtain ⟨a10, c10', hu10, _, _, _⟩ := ho10.shape
              subst hu10
              have A10 := hide (A8.out.next hb10)
              have O10 := hide ho10
              clear ho10 hb10
              go_wp2_with fail
              refine (rv_bytes (Four.c2 A10.out)).mono ?_
              rintro e w11 ⟨u11, rfl, ho11, hb11⟩
              obtain ⟨a11, c11', hu11, _, _, _⟩ := ho11.shape
              subst hu11
              have A11 := hide (A10.out.next hb11)
              have HSB := hide (same_rd (bys s') (by have := HLB.out; omega) a10 a11 c10' c11' w11 (O10.out.below hb11).rd.2 ho11.rd.2)
              clear ho11 hb11 O10 A10
              go_wp2_with fail
              refine HSB.out.mono ?_
              rintro e w12 ⟨rfl, hb12⟩
              have A12 := hide (A11.out.next hb12)
              clear hb12 HSB A11
              by_cases h200 : k < 200
              · have h2I : (k : Int) < 200 := by omega
                have d200 : decide (k < 200) = true := by simp; omega
                go_wp2_with fail
                refine (dv_bytes (Four.c1 A12.out)).mono ?_
                rintro e w13 ⟨u13, rfl, ho13, hb13⟩
                have A13 := hide (A12.out.next hb13)
                have B13 := hide hb13
                have O13 := hide ho13
                have HNB : Hid (∀ b, u13.ownBlock = some b → w12.heap.size ≤ b) := fun b e => (World.ownsRow.lt ho13 b e).1
                clear ho13 hb13
                go_wp2_with fail
                refine (bytes_bok (Four.c3 A13.out) (by have := HSK.out; omega) (by have := HSK.out; omega) (ownsRow_lower O13.out (Four.bl A12.out).size) (by have := HLB.out; omega) (fun e => by have := HNB.out _ e; have := (Four.k3 A12.out).lt (Four.c3 A12.out) (.inl (.inl rfl)); omega) (fun b e1 e2 => by have := HNB.out _ e1; have := (Four.k3 A12.out).lt (Four.c3 A12.out) (.inl (.inr e2)); omega) (fun x hx b e1 e2 => by have := HNB.out _ e2; have := (Four.k3 A12.out).lt (Four.c3 A12.out) (.inr ⟨x, hx, e1⟩); omega)).mono ?_
                rintro e w14 ⟨rfl, vb14, hk14, hf14, hv14⟩
                have A14 := hide (A13.out.tell hk14 hf14 hv14 A12.out B13.out HNB.out)
                clear hk14 hf14 hv14 A13 A12 B13 O13
                go_wp2
                go_roundg (gx - 1)
                case measure => have := HK.out; omega
                case rel => exact ⟨k + 1, _, _, _, _, _, _, by have := HK.out; omega, by go_num, by rw [List.length_append, List.length_singleton]; have := HSK.out; omega, A14.out.close⟩
              · have h2I : ¬ ((k : Int) < 200) := by omega
                have d200 : decide (k < 200) = false := by simp; omega
                go_wp2
                go_roundg (gx - 1)
                case measure => have := HK.out; omega
                case rel => exact ⟨k + 1, _, _, _, _, _, _, by have := HK.out; omega, by go_num, by have := HSK.out; omega, A12.out.close⟩
            · have hm0 : (((k % 40 : Nat) : Int) == 0) = false := by simp; omega
              have hm1 : ¬ (((k % 40 : Nat) : Int) = 0) := by omega
              generalize ((k % 40 : Nat) : Int) = km at *
              generalize o.xs.length = L at *
              go_wp2
              go_roundg (gx - 1)
              case measure => have := HK.out; omega
              case rel => exact ⟨k + 1, _, _, _, _, _, _, by have := HK.out; omega, by go_num, by have := HSK.out; omega, A8.out.close⟩
    · have hkI : ¬ ((k : Int) < (os.length : Int)) := by omega
      have dk : decide (k < os.length) = false := by simp; omega
      have HLB := hide (bys_len (Four.c1 P1.out))
      clear HR HX
      go_wp2_with fail
      refine (apart_yes (Four.c3 P1.out)).mono ?_
      rintro e w5 ⟨rfl, hf5⟩
      have Q5 := hide (Four.step3 (C3' := fun _ => True) (F3' := fun _ => False) P1.out (W' := w5) ⟨hf5.os, hf5.tape, hf5.output, hf5.size, fun b hb hn => hf5.block b hb (fun e => hn (e.elim (fun e => .inr e) (fun e => .inl (.inr e))))⟩ ⟨fun _ _ _ => trivial, fun _ h => h.elim⟩ trivial (fun _ e => e.elim))
      clear hf5 P1
      go_wp2_with fail
      refine (dv_bytes (Four.c1 Q5.out)).mono ?_
      rintro e w6 ⟨u6, rfl, ho6, hb6⟩
      obtain ⟨a6, c6, hu6, _, _, _⟩ := ho6.shape
      subst hu6
      have Q6 := hide (Four.next Q5.out hb6)
      have O6 := hide ho6
      clear ho6 hb6 Q5
      go_wp2_with fail
      refine (rv_bytes (Four.c2 Q6.out)).mono ?_
      rintro e w7 ⟨u7, rfl, ho7, hb7⟩
      obtain ⟨a7, c7, hu7, _, _, _⟩ := ho7.shape
      subst hu7
      have Q7 := hide (Four.next Q6.out hb7)
      have HSB := hide (same_rd (bys s) (by have := HLB.out; omega) a6 a7 c6 c7 w7 (O6.out.below hb7).rd.2 ho7.rd.2)
      clear ho7 hb7 O6 Q6
      go_wp2_with fail
      refine HSB.out.mono ?_
      rintro e w8 ⟨rfl, hb8⟩
      have Q8 := hide (Four.next Q7.out hb8)
      have HZ : Hid (NoDk w8 (some ⟨gz, 0, none⟩)) := .inr ⟨gz, rfl, (Four.c4 Q8.out).c⟩
      clear hb8 HSB Q7
      go_wp2_with fail
      refine (bytes_not _ _ HZ.out).mono ?_
      rintro e w9 ⟨rfl, hw⟩
      subst hw
      go_wp2_with fail
      refine (bytes_not none _ (.inl rfl)).mono ?_
      rintro e w10 ⟨rfl, hw⟩
      subst hw
      go_wp2_with fail
      refine (down_not _ _ HZ.out).mono ?_
      rintro e w11 ⟨rfl, hw⟩
      subst hw
      go_wp2_with fail
      refine (down_not none _ (.inl rfl)).mono ?_
      rintro e w12 ⟨rfl, hw⟩
      subst hw
      go_wp2
      go_ret
      exact ⟨rfl, Four.bl Q8.out⟩
end Go.Proofs.YtgfmkhgdndodkaaGreatDoor
