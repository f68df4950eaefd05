/- pointsmanlaw05.JournalPlays: its walk. -/
import Derived.Test.YtannocdcohofbaaJPl
namespace Go.Proofs.Ytannocdcohofbaa
open Go.RowKit

theorem by_up {s : Option Ds} (h : byL s) : byL (lif upS s).2 := by cases s <;> exact h
theorem by_fa {s : Option Ds} (n : Int) (h : byL s) : byL (lif (faS · n) s).2 := by
  cases s with
  | none => exact h
  | some s =>
    show ∀ y ∈ (faS s n).2.xs, y < 256
    unfold faS
    split
    · exact h
    · split <;> exact h
theorem by_ap {s : Option Ds} (room : Nat) (ys : List Nat) (hy : ∀ y ∈ ys, y < 256) (h : byL s) : byL (lif (apS room · ys) s).2 := by
  cases s with
  | none => exact h
  | some s =>
    have h' : ∀ y ∈ s.xs, y < 256 := h
    show ∀ y ∈ (apS room s ys).2.xs, y < 256
    unfold apS
    split
    · exact h'
    · split
      · exact h'
      · split
        · intro y hm
          rcases List.mem_append.1 hm with k | k
          · exact h' y k
          · exact hy y k
        · intro y hm
          rcases List.mem_append.1 hm with k | k
          · exact h' y k
          · exact hy y (List.mem_of_mem_take k)
theorem by_ad {s : Option Ds} (room : Nat) (ys : List Nat) (hy : ∀ y ∈ ys, y < 256) (h : byL s) : byL (lif (adS room · ys) s).2 := by
  cases s with
  | none => exact h
  | some s =>
    show ∀ y ∈ (adS room s ys).2.xs, y < 256
    unfold adS
    split
    · exact by_ap (s := some s) room (frm ys) (frm_bytes ys hy) h
    · exact h
theorem by_op {s : Option Ds} (h : byL s) : byL (lif opS s).2 := by
  cases s with
  | none => exact h
  | some s =>
    have h' : ∀ y ∈ s.xs, y < 256 := h
    show ∀ y ∈ (opS s).2.xs, y < 256
    unfold opS
    split
    · exact h'
    · exact fun y hm => h' y (List.mem_of_mem_take hm)
theorem opL_ok (s : Option Ds) : ∀ r ∈ opL s, okR r := by
  cases s with
  | none => intro r hr; simp [opL] at hr
  | some s =>
    show ∀ r ∈ opR s, okR r
    unfold opR
    split
    · intro r hr; simp at hr
    · exact rd_ok _ s.xs (Nat.le_refl _)
theorem opL_len {s : Option Ds} (h : (bys s).length ≤ 16777216) : (opL s).length ≤ 16777216 := by
  cases s with
  | none => simp [opL]
  | some s =>
    show (opR s).length ≤ _
    unfold opR
    split
    · simp
    · have := its_length s.xs.length 0 s.xs
      unfold rd
      rw [List.length_map]
      have h' : s.xs.length ≤ 16777216 := h
      omega
theorem jplays_long (room : Int) (a : Option Addr) (n cap : Nat) (w : World) (h : 200 < n) : Calls Try.prog 3 #[.int .i64 room, .slice a n cap] w fun e w' => e = .returned (.bool true) ∧ Below w.heap.size w w' := by
  have d1 : ((n : Int) > 200) = True := eq_true (by omega)
  have d2 : (200 < n) = True := eq_true h
  go_enter Try.func3, Try.ntmps3
  go_wp2
  go_ret
  exact ⟨rfl, Below.refl _ _⟩
set_option maxRecDepth 100000 in
set_option maxHeartbeats 40000000 in
theorem jplays_yes (room : Int) (a : Option Addr) (cap : Nat) (os : List Sop) (w : World) (hl : os.length ≤ 200) (hr : RdO w a os) (hby : ∀ o ∈ os, ∀ y ∈ o.xs, y < 256) : Calls Try.prog 3 #[.int .i64 room, .slice a os.length cap] w fun e w' => e = .returned (.bool true) ∧ Below w.heap.size w w' := by
  have d1 : ((os.length : Int) > 200) = False := eq_false (by omega)
  have d2 : (200 < os.length) = False := eq_false (by omega)
  have HS := hide (size_any a cap os w (by omega) hr)
  have HR := hide hr
  have HBY := hide hby
  clear hr hby
  go_enter Try.func3, Try.ntmps3
  go_wp2_with fail
  refine HS.out.mono ?_
  rintro e w1 ⟨⟨n, rfl, _⟩, hw⟩
  subst hw
  by_cases hbig : 100000 < n
  · have d3 : ((n : Int) > 100000) = True := eq_true (by omega)
    have d4 : (100000 < n) = True := eq_true hbig
    go_wp2
    go_ret
    exact ⟨rfl, Below.refl _ _⟩
  have d3 : ((n : Int) > 100000) = False := eq_false (by omega)
  have d4 : (100000 < n) = False := eq_false hbig
  clear HS hbig
  go_wp2_with fail
  refine (dv_new room _).mono ?_
  rintro e w2 ⟨pd, c2, rfl, hd, hb2⟩
  have D2 := hide hd
  have B2 := hide hb2
  clear hd hb2
  go_wp2_with fail
  refine (rv_new room _).mono ?_
  rintro e w3 ⟨pr, c3, rfl, hrr, hb3⟩
  have hz : (w3.alloc (.cells #[.int .i64 0, .slice none 0 0, .bool false, .nilFunc] 35)).cell? ⟨w3.heap.size, 0, none⟩ = some (.int .i64 0) := by
    have hh : (w3.alloc (.cells #[.int .i64 0, .slice none 0 0, .bool false, .nilFunc] 35)).heap[w3.heap.size]? = some (.cells #[.int .i64 0, .slice none 0 0, .bool false, .nilFunc] 35 (0, 0)) := heap_alloc_new w3 _
    unfold World.cell?; simp only [hh]; rfl
  have P0 := hide (P4.start D2.out B2.out hrr hb3 _ hz)
  have Y0 := hide (s0_by room)
  clear hrr hb3 hz D2 B2
  generalize s0 room = st0 at *
  obtain ⟨B, hB⟩ : ∃ B, B = w1.heap.size := ⟨_, rfl⟩
  rw [← hB] at P0
  have HB0 := hide hB
  clear hB
  generalize w2.heap.size = B' at *
  generalize room.toNat = R at *
  obtain ⟨w, hww⟩ : ∃ w, w = w1 := ⟨_, rfl⟩
  subst hww
  go_wp2
  obtain ⟨gz, hgz⟩ : ∃ gz, gz = w3.heap.size := ⟨_, rfl⟩
  rw [← hgz] at P0 ⊢
  clear hgz
  go_loopw [10] (fun i wr => ∃ (k : Nat) (v f vr : Value) (s : Option Ds), k ≤ os.length ∧ i = .int .i64 k ∧ P4 w wr B B' pd pr R gz v f vr s s (fun _ => True) (fun _ => False) ∧ byL s) (fun i _ => os.length - (intOf i).toNat)
  case atStart => exact ⟨0, _, _, _, st0, by omega, rfl, P0.out, Y0.out⟩
  case round =>
    obtain ⟨k, v, f, vr, s, hk, rfl, hP, hy⟩ := hrel
    have P1 := hide hP
    have BY := hide hy
    clear hP hy P0 Y0
    by_cases hlt : k < os.length
    · have hkI : (k : Int) < (os.length : Int) := by omega
      obtain ⟨p, off, rfl, hp, hcl⟩ : ∃ p off, a = some ⟨p, off, none⟩ ∧ p < w.heap.size ∧ ∀ i (h : i < os.length), w.cell? ⟨p, off + i * 3, none⟩ = some (.int .u8 (os[i].k : Nat)) ∧ w.cell? ⟨p, off + i * 3 + 1, none⟩ = some (.int .i64 os[i].n) ∧ w.cell? ⟨p, off + i * 3 + 2, none⟩ = some (.slice os[i].a os[i].xs.length os[i].cap) := by
        rcases HR.out.rd with e | h
        · rw [e] at hlt; simp at hlt
        · exact h
      have hbl := Four.bl P1.out
      have q0 := (hbl.cell (p := ⟨p, off + k * 3, none⟩) hp).trans (hcl k hlt).1
      have q1 := (hbl.cell (p := ⟨p, off + k * 3 + 1, none⟩) hp).trans (hcl k hlt).2.1
      have q2 := (hbl.cell (p := ⟨p, off + k * 3 + 2, none⟩) hp).trans (hcl k hlt).2.2
      have HOK := hide (HR.out.ok _ (List.getElem_mem hlt))
      have HYB := hide (HBY.out _ (List.getElem_mem hlt))
      clear hcl hbl HR HBY
      generalize os[k] = o at *
      obtain ⟨x0, x1, x2, _⟩ := cells_new3 wr (.int .u8 (o.k : Nat)) (.int .i64 o.n) (.slice o.a o.xs.length o.cap) 37
      have A5 := hide (P1.out.put (C4 := OC wr.heap.size o) (F4 := fun b => b = wr.heap.size) ((Below.refl _ wr).alloc (Nat.le_refl _) (.cells #[.int .u8 (o.k : Nat), .int .i64 o.n, .slice o.a o.xs.length o.cap] 37)) (OC.comp _ _) ⟨x0, x1, x2⟩ (fun b hb => by rw [hb]; exact Nat.le_refl _))
      have HKB := hide HOK.out.kb
      clear x0 x1 x2 P1
      by_cases hk2 : o.k = 2
      · have hkk := hk2
        have n2 : ((o.k : Int) == 2) = true := by rw [hkk]; rfl
        have m2 : (o.k = 2) = True := eq_true hkk
        clear hkk hk2
        have f0 := (Four.c4 A5.out).1
        have f1 := (Four.c4 A5.out).2.1
        have f2 := (Four.c4 A5.out).2.2
        have A5d := hide (Four.next A5.out ((Below.refl _ _).drew))
        have HO1 := hide (dv_open (Four.c1 A5.out) BY.out)
        have BY9 := hide (by_op BY.out)
        have HLN := hide (opL_len (bys_len (Four.c1 A5.out)))
        have HOKL := hide (opL_ok s)
        have HRL := hide (fun b (k : RvF pr vr b) => (RvC.comp ..).lt (Four.c2 A5.out) k)
        have HO2 := hide (fun X v' f' S' (h : P4 w X B B' pd pr R gz v' f' vr S' s (OC wr.heap.size o) (fun b => b = wr.heap.size)) => rv_open (Four.c2 h) BY.out)
        obtain ⟨S9, hS9⟩ : ∃ S9, S9 = (lif opS s).2 := ⟨_, rfl⟩
        rw [← hS9] at HO1 HO2 BY9
        generalize (lif opS s).1 = cc at *
        generalize opL s = LL at *
        clear hS9
        go_wp2_with fail
        refine HO1.out.mono ?_
        rintro e w6 ⟨u6, rfl, ha6, hto⟩
        obtain ⟨us6, hrc6⟩ := ha6
        obtain ⟨v6, f6, hA6⟩ := P4.d A5.out hto
        have A6 := hide hA6
        have R6 := hide hrc6
        obtain ⟨a6, c6, hu6⟩ := hrc6.own.sl
        subst hu6
        clear hto hA6 hrc6
        go_wp2_with fail
        refine (HO2.out _ _ _ _ A6.out).mono ?_
        rintro e w7 ⟨u7, rfl, ha7, hto⟩
        obtain ⟨us7, hrc7⟩ := ha7
        have hfr : Fr (RvF pr vr) w6 w7 := by obtain ⟨_, _, h, _⟩ := hto; exact h
        have R67 := hide (R6.out.same (W' := w7) (fun b h1 h2 => hfr.block b h2 (fun e => by have := HRL.out b e; omega)))
        obtain ⟨vr7, hA7⟩ := P4.r A6.out hto
        have A7 := hide hA7
        have R7 := hide hrc7
        obtain ⟨a7, c7, hu7⟩ := hrc7.own.sl
        subst hu7
        clear hto hA7 hrc7 hfr R6
        have HZ := hide (open_not (some ⟨gz, 0, none⟩) w7 (.inr ⟨gz, rfl, Four.c3 A7.out⟩))
        go_wp2_with fail
        refine HZ.out.mono ?_
        rintro e w8 ⟨rfl, hb8⟩
        obtain ⟨a8, c8, l8, hu8, he8, hrl8⟩ := (R67.out.below hb8).rdl (fun r h => (HOKL.out r h).2)
        obtain ⟨b8, d8, m8, hv8, hf8, hrm8⟩ := (R7.out.below hb8).rdl (fun r h => (HOKL.out r h).2)
        rw [hu8, hv8]
        have hl8 : l8.length ≤ 1000000000 := by have := congrArg List.length he8; rw [recs_length] at this; have := HLN.out; omega
        have HSR := hide (same_recs l8 m8 (by rw [he8, hf8]) (fun r h => by rw [he8] at h; have := (HOKL.out r h).2; omega) hl8 a8 b8 c8 d8 w8 hrl8 hrm8)
        have A8 := hide (Four.next A7.out hb8)
        clear hu8 hv8 hrl8 hrm8 hb8 hl8 HZ
        go_wp2_with fail
        refine HSR.out.mono ?_
        rintro e w9 ⟨rfl, hb9⟩
        have A9 := hide (Four.next A8.out hb9)
        clear hb9
        have HD1 := hide (dv_down (Four.c1 A9.out))
        have HD2 := hide (rv_down (Four.c2 A9.out))
        cases hdw : dwn S9 with
        | true =>
          rw [hdw] at HD1 HD2
          go_wp2_with fail
          refine HD1.out.mono ?_
          rintro e wd ⟨rfl, hw⟩
          subst hw
          go_wp2_with fail
          refine HD2.out.mono ?_
          rintro e we ⟨rfl, hw⟩
          subst hw
          go_wp2
          go_roundw
          case rel => exact ⟨k + 1, _, _, _, S9, by omega, by go_num, P4.drop A9.out, BY9.out⟩
          case measure => simp [intOf]; omega
        | false =>
          rw [hdw] at HD1 HD2
          go_wp2_with fail
          refine HD1.out.mono ?_
          rintro e wd ⟨rfl, hw⟩
          subst hw
          go_wp2_with fail
          refine HD2.out.mono ?_
          rintro e we ⟨rfl, hw⟩
          subst hw
          go_wp2
          go_roundw
          case rel => exact ⟨k + 1, _, _, _, S9, by omega, by go_num, P4.drop A9.out, BY9.out⟩
          case measure => simp [intOf]; omega
      by_cases hk3 : o.k = 3
      · have hkk := hk3
        have n2 : ((o.k : Int) == 2) = false := beq_eq_false_iff_ne.2 (by omega)
        have m2 : (o.k = 2) = False := eq_false (by omega)
        have n3 : ((o.k : Int) == 3) = true := by rw [hkk]; rfl
        have m3 : (o.k = 3) = True := eq_true hkk
        clear hkk hk3 hk2
        have f0 := (Four.c4 A5.out).1
        have f1 := (Four.c4 A5.out).2.1
        have f2 := (Four.c4 A5.out).2.2
        have A5d := hide (Four.next A5.out ((Below.refl _ _).drew))
        have BY9 := hide (by_fa o.n BY.out)
        obtain ⟨S9, hS9⟩ : ∃ S9, S9 = (lif (faS · o.n) s).2 := ⟨_, rfl⟩
        rw [← hS9] at BY9
        have HDA : Hid (∀ X vr' t', P4 w X B B' pd pr R gz v f vr' s t' (OC wr.heap.size o) (fun b => b = wr.heap.size) → Calls Try.prog 13 #[.pointer pd, .int .i64 o.n] X fun e X' => e = .returned (.int .i64 (lif (faS · o.n) s).1) ∧ ∃ v' f', P4 w X' B B' pd pr R gz v' f' vr' S9 t' (OC wr.heap.size o) (fun b => b = wr.heap.size)) := fun X vr' t' h => (dv_fail (Four.c1 h) o.n HOK.out.nb).mono (fun e X' k => ⟨k.1, P4.d h (by rw [hS9]; exact k.2)⟩)
        have HRA : Hid (∀ X v' f' s', P4 w X B B' pd pr R gz v' f' vr s' s (OC wr.heap.size o) (fun b => b = wr.heap.size) → Calls Try.prog 14 #[.pointer pr, .int .i64 o.n] X fun e X' => e = .returned (.int .i64 (lif (faS · o.n) s).1) ∧ ∃ vr', P4 w X' B B' pd pr R gz v' f' vr' s' S9 (OC wr.heap.size o) (fun b => b = wr.heap.size)) := fun X v' f' s' h => (rv_fail (Four.c2 h) o.n).mono (fun e X' k => ⟨k.1, P4.r h (by rw [hS9]; exact k.2)⟩)
        generalize (lif (faS · o.n) s).1 = cc at HDA HRA
        clear hS9
        go_wp2_with fail
        go_region_with (first
          | (go_at_call 13; refine (HDA.out _ _ _ (by first | exact A7.out | exact A5d.out)).mono ?_; rintro e w6 ⟨rfl, v6, f6, hA⟩; have A6 := hide hA; obtain ⟨g0, g1, g2⟩ := Four.c4 hA; clear hA)
          | (go_at_call 14; refine (HRA.out _ _ _ _ (by first | exact A6.out | exact A5d.out)).mono ?_; rintro e w7 ⟨rfl, vr7, hA⟩; have A7 := hide hA; obtain ⟨k0, k1, k2⟩ := Four.c4 hA; clear hA))
        all_goals
          obtain ⟨v9, f9, vr9, hA9⟩ : ∃ v9 f9 vr9, P4 w _ B B' pd pr R gz v9 f9 vr9 S9 S9 (OC wr.heap.size o) (fun b => b = wr.heap.size) := by first | exact ⟨_, _, _, A7.out⟩ | exact ⟨_, _, _, A6.out⟩
          have A9 := hide hA9
          clear hA9
          have HD1 := hide (dv_down (Four.c1 A9.out))
          have HD2 := hide (rv_down (Four.c2 A9.out))
          cases hdw : dwn S9 with
          | true =>
            rw [hdw] at HD1 HD2
            go_wp2_with fail
            refine HD1.out.mono ?_
            rintro e wd ⟨rfl, hw⟩
            subst hw
            go_wp2_with fail
            refine HD2.out.mono ?_
            rintro e we ⟨rfl, hw⟩
            subst hw
            go_wp2
            go_roundw
            case rel => exact ⟨k + 1, _, _, _, S9, by omega, by go_num, P4.drop A9.out, BY9.out⟩
            case measure => simp [intOf]; omega
          | false =>
            rw [hdw] at HD1 HD2
            go_wp2_with fail
            refine HD1.out.mono ?_
            rintro e wd ⟨rfl, hw⟩
            subst hw
            go_wp2_with fail
            refine HD2.out.mono ?_
            rintro e we ⟨rfl, hw⟩
            subst hw
            go_wp2
            go_roundw
            case rel => exact ⟨k + 1, _, _, _, S9, by omega, by go_num, P4.drop A9.out, BY9.out⟩
            case measure => simp [intOf]; omega

      by_cases hk4 : o.k = 4
      · have hkk := hk4
        have n2 : ((o.k : Int) == 2) = false := beq_eq_false_iff_ne.2 (by omega)
        have m2 : (o.k = 2) = False := eq_false (by omega)
        have n3 : ((o.k : Int) == 3) = false := beq_eq_false_iff_ne.2 (by omega)
        have m3 : (o.k = 3) = False := eq_false (by omega)
        have n4 : ((o.k : Int) == 4) = true := by rw [hkk]; rfl
        have m4 : (o.k = 4) = True := eq_true hkk
        clear hkk hk4 hk3 hk2
        have f0 := (Four.c4 A5.out).1
        have f1 := (Four.c4 A5.out).2.1
        have f2 := (Four.c4 A5.out).2.2
        have A5d := hide (Four.next A5.out ((Below.refl _ _).drew))
        have HU1 := hide (dv_up (Four.c1 A5.out))
        have BY9 := hide (by_up BY.out)
        obtain ⟨S9, hS9⟩ : ∃ S9, S9 = (lif upS s).2 := ⟨_, rfl⟩
        have HU2 := hide (fun X v' f' (h : P4 w X B B' pd pr R gz v' f' vr S9 s (OC wr.heap.size o) (fun b => b = wr.heap.size)) => rv_up (Four.c2 h))
        rw [← hS9] at HU1 HU2 BY9
        generalize (lif upS s).1 = cc at *
        clear hS9
        go_wp2_with fail
        refine HU1.out.mono ?_
        rintro e w6 ⟨rfl, hto⟩
        obtain ⟨v6, f6, hA6⟩ := P4.d A5.out hto
        have A6 := hide hA6
        clear hto hA6
        go_wp2_with fail
        refine (HU2.out _ _ _ A6.out).mono ?_
        rintro e w7 ⟨rfl, hto⟩
        obtain ⟨vr7, hA7⟩ := P4.r A6.out hto
        have A9 := hide hA7
        clear hto hA7
        have HD1 := hide (dv_down (Four.c1 A9.out))
        have HD2 := hide (rv_down (Four.c2 A9.out))
        cases hdw : dwn S9 with
        | true =>
          rw [hdw] at HD1 HD2
          go_wp2_with fail
          refine HD1.out.mono ?_
          rintro e wd ⟨rfl, hw⟩
          subst hw
          go_wp2_with fail
          refine HD2.out.mono ?_
          rintro e we ⟨rfl, hw⟩
          subst hw
          go_wp2
          go_roundw
          case rel => exact ⟨k + 1, _, _, _, S9, by omega, by go_num, P4.drop A9.out, BY9.out⟩
          case measure => simp [intOf]; omega
        | false =>
          rw [hdw] at HD1 HD2
          go_wp2_with fail
          refine HD1.out.mono ?_
          rintro e wd ⟨rfl, hw⟩
          subst hw
          go_wp2_with fail
          refine HD2.out.mono ?_
          rintro e we ⟨rfl, hw⟩
          subst hw
          go_wp2
          go_roundw
          case rel => exact ⟨k + 1, _, _, _, S9, by omega, by go_num, P4.drop A9.out, BY9.out⟩
          case measure => simp [intOf]; omega
      by_cases hk5 : o.k = 5
      · have hkk := hk5
        have n2 : ((o.k : Int) == 2) = false := beq_eq_false_iff_ne.2 (by omega)
        have m2 : (o.k = 2) = False := eq_false (by omega)
        have n3 : ((o.k : Int) == 3) = false := beq_eq_false_iff_ne.2 (by omega)
        have m3 : (o.k = 3) = False := eq_false (by omega)
        have n4 : ((o.k : Int) == 4) = false := beq_eq_false_iff_ne.2 (by omega)
        have m4 : (o.k = 4) = False := eq_false (by omega)
        have n5 : ((o.k : Int) == 5) = true := by rw [hkk]; rfl
        have m5 : (o.k = 5) = True := eq_true hkk
        clear hkk hk5 hk4 hk3 hk2
        have f0 := (Four.c4 A5.out).1
        have f1 := (Four.c4 A5.out).2.1
        have f2 := (Four.c4 A5.out).2.2
        have A5d := hide (Four.next A5.out ((Below.refl _ _).drew))
        have BY9 := hide (by_ap R o.xs HYB.out BY.out)
        obtain ⟨S9, hS9⟩ : ∃ S9, S9 = (lif (apS R · o.xs) s).2 := ⟨_, rfl⟩
        rw [← hS9] at BY9
        have HDA : Hid (∀ X vr' t', P4 w X B B' pd pr R gz v f vr' s t' (OC wr.heap.size o) (fun b => b = wr.heap.size) → Calls Try.prog 17 #[.pointer pd, .slice o.a o.xs.length o.cap] X fun e X' => e = .returned (.int .i64 (lif (apS R · o.xs) s).1) ∧ ∃ v' f', P4 w X' B B' pd pr R gz v' f' vr' S9 t' (OC wr.heap.size o) (fun b => b = wr.heap.size)) := fun X vr' t' h => (dv_append (Four.c1 h) o.a o.cap o.xs (HOK.out.rd.below (Four.bl h)) HOK.out.le HOK.out.nn).mono (fun e X' k => ⟨k.1, P4.d h (by rw [hS9]; exact k.2)⟩)
        have HRA : Hid (∀ X v' f' s', P4 w X B B' pd pr R gz v' f' vr s' s (OC wr.heap.size o) (fun b => b = wr.heap.size) → Calls Try.prog 18 #[.pointer pr, .slice o.a o.xs.length o.cap] X fun e X' => e = .returned (.int .i64 (lif (apS R · o.xs) s).1) ∧ ∃ vr', P4 w X' B B' pd pr R gz v' f' vr' s' S9 (OC wr.heap.size o) (fun b => b = wr.heap.size)) := fun X v' f' s' h => (rv_append (Four.c2 h) o.a o.cap o.xs (HOK.out.rd.below (Four.bl h)) HOK.out.le HOK.out.nn).mono (fun e X' k => ⟨k.1, P4.r h (by rw [hS9]; exact k.2)⟩)
        generalize (lif (apS R · o.xs) s).1 = cc at HDA HRA
        clear hS9
        go_wp2_with fail
        go_region_with (first
          | (go_at_call 17; refine (HDA.out _ _ _ (by first | exact A7.out | exact A5d.out)).mono ?_; rintro e w6 ⟨rfl, v6, f6, hA⟩; have A6 := hide hA; obtain ⟨g0, g1, g2⟩ := Four.c4 hA; clear hA)
          | (go_at_call 18; refine (HRA.out _ _ _ _ (by first | exact A6.out | exact A5d.out)).mono ?_; rintro e w7 ⟨rfl, vr7, hA⟩; have A7 := hide hA; obtain ⟨k0, k1, k2⟩ := Four.c4 hA; clear hA))
        all_goals
          obtain ⟨v9, f9, vr9, hA9⟩ : ∃ v9 f9 vr9, P4 w _ B B' pd pr R gz v9 f9 vr9 S9 S9 (OC wr.heap.size o) (fun b => b = wr.heap.size) := by first | exact ⟨_, _, _, A7.out⟩ | exact ⟨_, _, _, A6.out⟩
          have A9 := hide hA9
          clear hA9
          have HD1 := hide (dv_down (Four.c1 A9.out))
          have HD2 := hide (rv_down (Four.c2 A9.out))
          cases hdw : dwn S9 with
          | true =>
            rw [hdw] at HD1 HD2
            go_wp2_with fail
            refine HD1.out.mono ?_
            rintro e wd ⟨rfl, hw⟩
            subst hw
            go_wp2_with fail
            refine HD2.out.mono ?_
            rintro e we ⟨rfl, hw⟩
            subst hw
            go_wp2
            go_roundw
            case rel => exact ⟨k + 1, _, _, _, S9, by omega, by go_num, P4.drop A9.out, BY9.out⟩
            case measure => simp [intOf]; omega
          | false =>
            rw [hdw] at HD1 HD2
            go_wp2_with fail
            refine HD1.out.mono ?_
            rintro e wd ⟨rfl, hw⟩
            subst hw
            go_wp2_with fail
            refine HD2.out.mono ?_
            rintro e we ⟨rfl, hw⟩
            subst hw
            go_wp2
            go_roundw
            case rel => exact ⟨k + 1, _, _, _, S9, by omega, by go_num, P4.drop A9.out, BY9.out⟩
            case measure => simp [intOf]; omega

      have n2 : ((o.k : Int) == 2) = false := beq_eq_false_iff_ne.2 (by omega)
      have m2 : (o.k = 2) = False := eq_false (by omega)
      have n3 : ((o.k : Int) == 3) = false := beq_eq_false_iff_ne.2 (by omega)
      have m3 : (o.k = 3) = False := eq_false (by omega)
      have n4 : ((o.k : Int) == 4) = false := beq_eq_false_iff_ne.2 (by omega)
      have m4 : (o.k = 4) = False := eq_false (by omega)
      have n5 : ((o.k : Int) == 5) = false := beq_eq_false_iff_ne.2 (by omega)
      have m5 : (o.k = 5) = False := eq_false (by omega)
      clear hk5 hk4 hk3 hk2
      have f0 := (Four.c4 A5.out).1
      have f1 := (Four.c4 A5.out).2.1
      have f2 := (Four.c4 A5.out).2.2
      have A5d := hide (Four.next A5.out ((Below.refl _ _).drew))
      have BY9 := hide (by_ad R o.xs HYB.out BY.out)
      obtain ⟨S9, hS9⟩ : ∃ S9, S9 = (lif (adS R · o.xs) s).2 := ⟨_, rfl⟩
      rw [← hS9] at BY9
      have HDA : Hid (∀ X vr' t', P4 w X B B' pd pr R gz v f vr' s t' (OC wr.heap.size o) (fun b => b = wr.heap.size) → Calls Try.prog 19 #[.pointer pd, .slice o.a o.xs.length o.cap] X fun e X' => e = .returned (.int .i64 (lif (adS R · o.xs) s).1) ∧ ∃ v' f', P4 w X' B B' pd pr R gz v' f' vr' S9 t' (OC wr.heap.size o) (fun b => b = wr.heap.size)) := fun X vr' t' h => (dv_add (Four.c1 h) o.a o.cap o.xs HYB.out HOK.out.ln (HOK.out.rd.below (Four.bl h))).mono (fun e X' k => ⟨k.1, P4.d h (by rw [hS9]; exact k.2)⟩)
      have HRA : Hid (∀ X v' f' s', P4 w X B B' pd pr R gz v' f' vr s' s (OC wr.heap.size o) (fun b => b = wr.heap.size) → Calls Try.prog 20 #[.pointer pr, .slice o.a o.xs.length o.cap] X fun e X' => e = .returned (.int .i64 (lif (adS R · o.xs) s).1) ∧ ∃ vr', P4 w X' B B' pd pr R gz v' f' vr' s' S9 (OC wr.heap.size o) (fun b => b = wr.heap.size)) := fun X v' f' s' h => (rv_add (Four.c2 h) o.a o.cap o.xs HYB.out (HOK.out.rd.below (Four.bl h))).mono (fun e X' k => ⟨k.1, P4.r h (by rw [hS9]; exact k.2)⟩)
      generalize (lif (adS R · o.xs) s).1 = cc at HDA HRA
      clear hS9
      have HZA := hide (fun X v' f' vr' s' t' (h : P4 w X B B' pd pr R gz v' f' vr' s' t' (OC wr.heap.size o) (fun b => b = wr.heap.size)) => add_not (some ⟨gz, 0, none⟩) (.slice o.a o.xs.length o.cap) X (.inr ⟨gz, rfl, Four.c3 h⟩))
      have HNA := hide (fun X => add_not none (.slice o.a o.xs.length o.cap) X (.inl rfl))
      go_wp2_with fail
      go_region_with (first
        | (go_at_call_of 19 pd; refine (HDA.out _ _ _ (by first | exact A7.out | exact A5d.out)).mono ?_; rintro e w6 ⟨rfl, v6, f6, hA⟩; have A6 := hide hA; obtain ⟨g0, g1, g2⟩ := Four.c4 hA; clear hA)
        | (go_at_call 20; refine (HRA.out _ _ _ _ (by first | exact A6.out | exact A5d.out)).mono ?_; rintro e w7 ⟨rfl, vr7, hA⟩; have A7 := hide hA; obtain ⟨k0, k1, k2⟩ := Four.c4 hA; clear hA)
        | (go_at_call_of 19 gz; refine (HZA.out _ _ _ _ _ _ (by first | exact A7.out | exact A6.out)).mono ?_; rintro e w8 ⟨rfl, hw8⟩; subst hw8)
        | (go_at_call 19; refine (HNA.out _).mono ?_; rintro e w8 ⟨rfl, hw8⟩; subst hw8))
      all_goals
        obtain ⟨v9, f9, vr9, hA9⟩ : ∃ v9 f9 vr9, P4 w _ B B' pd pr R gz v9 f9 vr9 S9 S9 (OC wr.heap.size o) (fun b => b = wr.heap.size) := by first | exact ⟨_, _, _, A7.out⟩ | exact ⟨_, _, _, A6.out⟩
        have A9 := hide hA9
        clear hA9
        have HD1 := hide (dv_down (Four.c1 A9.out))
        have HD2 := hide (rv_down (Four.c2 A9.out))
        cases hdw : dwn S9 with
        | true =>
          rw [hdw] at HD1 HD2
          go_wp2_with fail
          refine HD1.out.mono ?_
          rintro e wd ⟨rfl, hw⟩
          subst hw
          go_wp2_with fail
          refine HD2.out.mono ?_
          rintro e we ⟨rfl, hw⟩
          subst hw
          go_wp2
          go_roundw
          case rel => exact ⟨k + 1, _, _, _, S9, by omega, by go_num, P4.drop A9.out, BY9.out⟩
          case measure => simp [intOf]; omega
        | false =>
          rw [hdw] at HD1 HD2
          go_wp2_with fail
          refine HD1.out.mono ?_
          rintro e wd ⟨rfl, hw⟩
          subst hw
          go_wp2_with fail
          refine HD2.out.mono ?_
          rintro e we ⟨rfl, hw⟩
          subst hw
          go_wp2
          go_roundw
          case rel => exact ⟨k + 1, _, _, _, S9, by omega, by go_num, P4.drop A9.out, BY9.out⟩
          case measure => simp [intOf]; omega

    · have hlI : ((k : Int) < (os.length : Int)) = False := eq_false (by omega)
      have hlJ : (k < os.length) = False := eq_false (by omega)
      have HB1 := hide (dv_bytes (Four.c1 P1.out))
      have HBL := hide (bys_len (Four.c1 P1.out))
      clear HR HBY
      go_wp2_with fail
      refine HB1.out.mono ?_
      rintro e w5 ⟨u5, rfl, ho5, hb5⟩
      obtain ⟨a5, c5, rfl, _, _, _⟩ := ho5.shape
      have A5 := hide (Four.next P1.out hb5)
      have O5 := hide ho5
      have HB2 := hide (rv_bytes (Four.c2 A5.out))
      clear ho5 hb5 HB1
      go_wp2_with fail
      refine HB2.out.mono ?_
      rintro e w6 ⟨u6, rfl, ho6, hb6⟩
      obtain ⟨a6, c6, rfl, _, _, _⟩ := ho6.shape
      have HSB := hide (same_rd (bys s) (by have := HBL.out; omega) a5 a6 c5 c6 w6 (O5.out.below hb6).rd.2 ho6.rd.2)
      have A6 := hide (Four.next A5.out hb6)
      clear ho6 hb6 HB2
      go_wp2_with fail
      refine HSB.out.mono ?_
      rintro e w7 ⟨rfl, hb7⟩
      have A7 := hide (Four.next A6.out hb7)
      clear hb7
      go_wp2
      go_ret
      exact ⟨rfl, Four.bl A7.out⟩

end Go.Proofs.Ytannocdcohofbaa
