/- Pieces of the proof: PaPs, PaEv, PaAl, PaAv, PLw. -/
import Derived.Test.YtcfopkaomknmjaaGreatDoorM37
import Derived.Test.YtcfopkaomknmjaaGreatDoorM36
/- package parse: Parse, of every text. -/
namespace Go.Proofs.YtcfopkaomknmjaaGreatDoor
open Go.RowKit

theorem okL_toks {s : List UInt8} {xs : List (Wd × Nat)} (h : toks s = .ok xs) : OkL (xs ++ [endW xs]) := by
  have hg := (toks_good h).1
  have hll : (xs ++ [endW xs]).length = xs.length + 1 := by simp
  refine ⟨fun i hi => ?_, fun i hi he => ?_, fun i hi => ?_⟩
  · have hi' : i < xs.length := by omega
    rw [List.getElem_append_left hi']
    rcases hg _ (List.getElem_mem hi') with ⟨c, l, e, _⟩ | ⟨n, e, hn⟩ | ⟨n, v, e, _⟩ | ⟨j, _, e⟩ <;> rw [e]
    · exact ⟨by simp, fun h => by simp at h⟩
    · exact ⟨by simp, fun _ => by simp only; omega⟩
    · exact ⟨by simp, fun h => by simp at h⟩
    · exact ⟨by simp, fun h => by simp at h⟩
  · have hi' : i = xs.length := by omega
    subst hi'
    simp [endW]
  · by_cases hi' : i < xs.length
    · rw [List.getElem_append_left hi']
      rcases hg _ (List.getElem_mem hi') with ⟨c, l, e, _⟩ | ⟨n, e, hn⟩ | ⟨n, v, e, ho⟩ | ⟨j, _, e⟩ <;> rw [e]
      · simp
      · simp
      · unfold okN mayBe at ho
        simp at ho
        simp only
        omega
      · simp
    · have hi2 : i = xs.length := by omega
      subst hi2
      simp [endW]
def ParsePost (s : List UInt8) (w : World) (e : Ending) (w' : World) : Prop := Below w.heap.size w w' ∧ match parseL s with
  | .error x => e = .returned (.tuple #[.slice none 0 0, .int .i64 (x.1 : Int), .int .i64 (x.2 : Int)])
  | .ok ds => ∃ v, e = .returned (.tuple #[v, .int .i64 0, .int .i64 0]) ∧ ListR DeclR mkAgg 15 w' (Bn w w') v ds
/- The three results' cells, as they lie. -/
structure Res3 (w W : World) (a b c : Value) : Prop where
  bl : Below w.heap.size w W
  c2 : W.heap[w.heap.size]? = some (.cells #[a] 23 (0, 0))
  c3 : W.heap[w.heap.size + 1]? = some (.cells #[b] 3 (0, 0))
  c4 : W.heap[w.heap.size + 2]? = some (.cells #[c] 24 (0, 0))
theorem Res3.start (w : World) : Res3 w (((w.alloc (.cells #[.slice none 0 0] 23)).alloc (.cells #[.int .i64 0] 3)).alloc (.cells #[.int .i64 0] 24)) (.slice none 0 0) (.int .i64 0) (.int .i64 0) := by
  have s1 : ∀ (V : World) o, (V.alloc o).heap.size = V.heap.size + 1 := fun V o => World.size_alloc V o
  refine ⟨(((Below.refl _ _).alloc (Nat.le_refl _) _).alloc (by rw [s1]; omega) _).alloc (by rw [s1, s1]; omega) _, ?_, ?_, ?_⟩
  · rw [heap_alloc_old _ _ (by rw [s1, s1]; omega), heap_alloc_old _ _ (by rw [s1]; omega)]; exact heap_alloc_new w _
  · rw [heap_alloc_old _ _ (by rw [s1, s1]; omega)]
    have := heap_alloc_new (w.alloc (.cells #[.slice none 0 0] 23)) (.cells #[.int .i64 0] 3)
    rw [s1] at this; exact this
  · have := heap_alloc_new ((w.alloc (.cells #[.slice none 0 0] 23)).alloc (.cells #[.int .i64 0] 3)) (.cells #[.int .i64 0] 24)
    rw [s1, s1] at this; exact this
theorem Res3.next {w W W' : World} {a b c : Value} (h : Res3 w W a b c) (hb : Below W.heap.size W W') : Res3 w W' a b c :=
  ⟨h.bl.trans (hb.mono h.bl.size), (hb.block _ (Array.getElem?_eq_some_iff.1 h.c2).1).trans h.c2, (hb.block _ (Array.getElem?_eq_some_iff.1 h.c3).1).trans h.c3, (hb.block _ (Array.getElem?_eq_some_iff.1 h.c4).1).trans h.c4⟩
theorem Res3.nextB {w W W' : World} {a b c : Value} {B : Nat} (h : Res3 w W a b c) (hb : Below B W W') (hB : w.heap.size + 3 ≤ B) : Res3 w W' a b c :=
  ⟨h.bl.trans (hb.mono (by omega)), (hb.block _ (by omega)).trans h.c2, (hb.block _ (by omega)).trans h.c3, (hb.block _ (by omega)).trans h.c4⟩
theorem Res3.fr {w W W' : World} {a b c : Value} {p : Nat} (h : Res3 w W a b c) (hf : Fr (· = p) W W') (hp : w.heap.size + 3 ≤ p) : Res3 w W' a b c :=
  ⟨h.bl.trans (hf.below (fun b e => by have e' : b = p := e; omega) h.bl.size), (hf.block _ (Array.getElem?_eq_some_iff.1 h.c2).1 (fun e => by have e' : w.heap.size = p := e; omega)).trans h.c2, (hf.block _ (Array.getElem?_eq_some_iff.1 h.c3).1 (fun e => by have e' : w.heap.size + 1 = p := e; omega)).trans h.c3, (hf.block _ (Array.getElem?_eq_some_iff.1 h.c4).1 (fun e => by have e' : w.heap.size + 2 = p := e; omega)).trans h.c4⟩
theorem Res3.set2 {w W : World} {a b c : Value} (h : Res3 w W a b c) (x : Value) : Res3 w (W.setCell ⟨w.heap.size, 0, none⟩ x) x b c :=
  ⟨h.bl.setCell (Nat.le_refl _) _, heap_setCell_same h.c2 x, (heap_set_other (by omega)).trans h.c3, (heap_set_other (by omega)).trans h.c4⟩
theorem Res3.set3 {w W : World} {a b c : Value} (h : Res3 w W a b c) (x : Value) : Res3 w (W.setCell ⟨w.heap.size + 1, 0, none⟩ x) a x c :=
  ⟨h.bl.setCell (by simp) _, (heap_set_other (by omega)).trans h.c2, heap_setCell_same h.c3 x, (heap_set_other (by omega)).trans h.c4⟩
theorem Res3.set4 {w W : World} {a b c : Value} (h : Res3 w W a b c) (x : Value) : Res3 w (W.setCell ⟨w.heap.size + 2, 0, none⟩ x) a b x :=
  ⟨h.bl.setCell (by simp) _, (heap_set_other (by omega)).trans h.c2, (heap_set_other (by omega)).trans h.c3, heap_setCell_same h.c4 x⟩
set_option maxRecDepth 100000 in
set_option maxHeartbeats 4000000 in
theorem parse_lexErr {s : List UInt8} {T : ByteArray} {w : World} {ln er : Nat} (hp : parseL s = .error (ln, er)) (hne : er ≠ 0) (HW : ∀ W, Ls W → Calls Tryz.prog 9 #[.string T] W fun e w' => e = .returned (.tuple #[.slice none 0 0, .int .i64 (ln : Int), .int .i64 (er : Int)]) ∧ Below W.heap.size W w') (hLs : Ls w) :
    Calls Tryz.prog 8 #[.string T] w fun e w' => ParsePost s w e w' := by
  have hs0 := Res3.start w
  have HL0 := hide (hLs.below hs0.bl)
  have HS0 := hide hs0
  have HWk := hide (HW _ HL0.out)
  have HP := hide hp
  have h0 : ((er : Int) == 0) = false := beq_eq_false_iff_ne.2 (fun e => hne (by omega))
  have HE : Hid (∀ W, Res3 w W (.slice none 0 0) (.int .i64 (ln : Int)) (.int .i64 (er : Int)) → ParsePost s w (.returned (.tuple #[.slice none 0 0, .int .i64 (ln : Int), .int .i64 (er : Int)])) W) := fun W h => ⟨h.bl, by rw [hp]⟩
  generalize (ln : Int) = A at *
  generalize (er : Int) = E at *
  clear hs0 hLs HW hp hne
  go_enter_defers Tryz.func8, Tryz.ntmps8
  go_wp2_with fail
  refine HWk.out.mono ?_
  rintro e w1 ⟨rfl, hb⟩
  have S1 := hide (HS0.out.next hb)
  have S3 := hide ((S1.out.set3 (.int .i64 A)).set4 (.int .i64 E))
  have g3 := cellA S1.out.c3 0; have f3 := softA S1.out.c3 0
  have g4 := cellA S1.out.c4 0; have f4 := softA S1.out.c4 0
  have i2 := cellA S3.out.c2 0; have k2 := softA S3.out.c2 0
  have i3 := cellA S3.out.c3 0; have k3 := softA S3.out.c3 0
  have i4 := cellA S3.out.c4 0; have k4 := softA S3.out.c4 0
  clear hb
  go_wp2
  generalize (w1.setCell ⟨w.heap.size + 1, 0, none⟩ (.int .i64 A)).setCell ⟨w.heap.size + 1 + 1, 0, none⟩ (.int .i64 E) = w2 at *
  clear g3 f3 g4 f4 S1
  go_region
  all_goals
    go_wp2
    have SF := (((S3.out.set2 (.slice none 0 0)).set3 (.int .i64 A)).set4 (.int .i64 E)).next (Below.refl _ _).drew
    have q2 := cellA SF.c2 0; have q3 := cellA SF.c3 0; have q4 := cellA SF.c4 0
    exact ⟨.tuple #[.slice none 0 0, .int .i64 A, .int .i64 E], by simp [results, Tryz.results8, go_sem, q2, q3, q4], HE.out _ SF⟩
set_option maxRecDepth 100000 in
set_option maxHeartbeats 8000000 in
theorem parse_words {s : List UInt8} {T : ByteArray} {w : World} {xs : List (Wd × Nat)} {bt : Nat} (hl : s.length ≤ 65536) (ht : toks s = .ok xs) (hLs : Ls w) (hTw : Tws w bt)
    (HW : ∀ W, Ls W → Calls Tryz.prog 9 #[.string T] W fun e w' => ∃ v, e = .returned (.tuple #[v, .int .i64 0, .int .i64 0]) ∧ OwnW w' W.heap.size v xs ∧ xs.length ≤ 65536 ∧ Below W.heap.size W w') :
    Calls Tryz.prog 8 #[.string T] w fun e w' => ParsePost s w e w' := by
  have hmf : ∀ (fn : Fn) (first cap : Array Value) (w : World), (Instr.makeFunc fn first cap).run Tryz.prog w = .ok (.func fn first cap) w := fun _ _ _ _ => rfl
  have hs0 := Res3.start w
  have HS0 := hide hs0
  have HWk := hide (HW _ (hLs.below hs0.bl))
  have HL := hide (okL_toks ht)
  have HTw := hide hTw
  have HP : Hid (parseL s = match progA (xs ++ [endW xs]) 0 with
    | .error k => .error (lineP (xs ++ [endW xs]) k, 5)
    | .ok (ds, _) => if limT ds then .error (0, 3) else .ok ds) := by unfold Hid parseL; rw [if_neg (by omega), ht]; rfl
  have HE : Hid (∀ (x : Nat × Nat), parseL s = .error x → ∀ W, Res3 w W (.slice none 0 0) (.int .i64 (x.1 : Int)) (.int .i64 (x.2 : Int)) → ParsePost s w (.returned (.tuple #[.slice none 0 0, .int .i64 (x.1 : Int), .int .i64 (x.2 : Int)])) W) := fun x hx W h => ⟨h.bl, by rw [hx]⟩
  have HZ : Hid (w.heap.size + 3 ≤ (((w.alloc (.cells #[.slice none 0 0] 23)).alloc (.cells #[.int .i64 0] 3)).alloc (.cells #[.int .i64 0] 24)).heap.size) := by unfold Hid; rw [World.size_alloc, World.size_alloc, World.size_alloc]; omega
  clear hs0 hLs HW hTw hl ht
  go_enter_defers Tryz.func8, Tryz.ntmps8
  go_wp2_with fail
  refine HWk.out.mono ?_
  generalize (((w.alloc (.cells #[.slice none 0 0] 23)).alloc (.cells #[.int .i64 0] 3)).alloc (.cells #[.int .i64 0] 24)) = W0 at *
  rintro e w1 ⟨v, rfl, ho, hxl, hb⟩
  have S1 := hide (HS0.out.next hb)
  have S3 := hide ((S1.out.set3 (.int .i64 0)).set4 (.int .i64 0))
  have g3 := cellA S1.out.c3 0; have f3 := softA S1.out.c3 0
  have g4 := cellA S1.out.c4 0; have f4 := softA S1.out.c4 0
  have i4 := cellA S3.out.c4 0
  have hf34 : Fr (fun b => b = w.heap.size + 1 ∨ b = w.heap.size + 2) w1 ((w1.setCell ⟨w.heap.size + 1, 0, none⟩ (.int .i64 0)).setCell ⟨w.heap.size + 2, 0, none⟩ (.int .i64 0)) := ((Fr.refl _ w1).set _ _ (.inl rfl)).set _ _ (.inr rfl)
  have HO3 : Hid (OwnW ((w1.setCell ⟨w.heap.size + 1, 0, none⟩ (.int .i64 0)).setCell ⟨w.heap.size + 2, 0, none⟩ (.int .i64 0)) W0.heap.size v xs) := ownR_fr ho hf34 (fun b hb e => by have := (World.ownsRow.lt ho b hb).1; have := HZ.out; omega)
  have HZ3 : Hid (W0.heap.size ≤ ((w1.setCell ⟨w.heap.size + 1, 0, none⟩ (.int .i64 0)).setCell ⟨w.heap.size + 2, 0, none⟩ (.int .i64 0)).heap.size) := Nat.le_trans hb.size hf34.size
  have HXL := hide hxl
  have HRf := hide (readerOf_any HO3.out HZ3.out HXL.out)
  clear hb ho hf34 hxl HWk HS0 S1
  go_wp2_with fail
  refine HRf.out.mono ?_
  generalize ((w1.setCell ⟨w.heap.size + 1, 0, none⟩ (.int .i64 0)).setCell ⟨w.heap.size + 2, 0, none⟩ (.int .i64 0)) = X3 at *
  clear g3 f3 g4 f4 i4 HRf HO3
  rintro e w5 ⟨p, q, db, sb, rfl, hrp, hdb, hsb, hnd, hns, hpB, hqB, hdB, hsB, hbl⟩
  have S5 := hide (S3.out.nextB hbl HZ.out)
  have hB6 := (Below.refl w5.heap.size w5).alloc (Nat.le_refl _) (.cells #[.pointer (some ⟨p, 0, none⟩)] 53)
  have S6 := hide (S5.out.next hB6)
  have R6 := hide (hrp.next hB6).here
  have C6 := hide (heap_alloc_new w5 (.cells #[.pointer (some ⟨p, 0, none⟩)] 53))
  have HI6 : Hid (I0 bt p db sb (w5.alloc (.cells #[.pointer (some ⟨p, 0, none⟩)] 53))) := ⟨⟨HTw.out.fr (E := fun _ => False) (Fr.ofBelow S6.out.bl) (fun e => e) (fun e => e), by have := HTw.out.gl; have := HZ.out; omega, by have := HTw.out.bl; have := HZ.out; omega⟩, (hB6.block db (Array.getElem?_eq_some_iff.1 hdb).1).trans hdb, (hB6.block sb (Array.getElem?_eq_some_iff.1 hsb).1).trans hsb, hnd, hns⟩
  have HPp : Hid (w.heap.size + 3 ≤ p) := Nat.le_trans HZ.out hpB
  have HPl : Hid (p < w5.heap.size) := hrp.pl
  have HPg := hide (program_any HL.out _ 0 (Nat.zero_le _) R6.out HI6.out)
  have HZ5 : Hid (w.heap.size + 3 ≤ w5.heap.size) := Nat.le_trans HPp.out (Nat.le_of_lt hrp.pl)
  clear hrp hdb hsb hnd hns hpB hqB hdB hsB hbl hB6 S5 S3 HZ3
  go_wp2_with fail
  refine HPg.out.mono ?_
  rintro e w7 (⟨ds, k7, v7, h7, rfl, hv, hr⟩ | ⟨k7, h7, rfl, hr⟩)
  · obtain ⟨s7, n7, c7, rfl⟩ := ListR.form hv
    have S7 := hide (S6.out.fr hr.fr HPp.out)
    have S8 := hide (S7.out.set2 (.slice s7 n7 c7))
    have hz6 : w.heap.size < w5.heap.size := by have := HZ5.out; omega
    have hf8 : Fr (· = w.heap.size) w7 (w7.setCell ⟨w.heap.size, 0, none⟩ (.slice s7 n7 c7)) := (Fr.refl _ w7).set _ _ rfl
    have HL8 := hide ((ListR.ok declR_ok mkAgg 15).frame hv hf8.size (fun b hb hl => hf8.block b hl (fun e => by have e' : b = w.heap.size := e; have := hb.1; rw [World.size_alloc] at this; omega)))
    have HAb := hide (above_ok HL8.out (fun h => by have := h.2; simp [World.setCell] at this))
    have HB8 : Hid (∀ b, Bn (w5.alloc (.cells #[.pointer (some ⟨p, 0, none⟩)] 53)) w7 b → w.heap.size + 3 ≤ b ∧ b < w7.heap.size) := fun b hb => ⟨by have := hb.1; rw [World.size_alloc] at this; have := HZ5.out; omega, hb.2⟩
    have g2 := cellA S7.out.c2 0; have f2 := softA S7.out.c2 0
    have i2 := cellA S8.out.c2 0
    have H7 := hide h7
    have HV8 : Hid (w7.heap.size ≤ (w7.setCell ⟨w.heap.size, 0, none⟩ (.slice s7 n7 c7)).heap.size) := hf8.size
    clear hv hr h7 HPg hf8 hz6
    go_wp2_with fail
    refine HAb.out.mono ?_
    generalize w7.setCell ⟨w.heap.size, 0, none⟩ (.slice s7 n7 c7) = X8 at *
    rintro e w9 ⟨rfl, hb⟩
    have S9 := hide (S8.out.next hb)
    have HL9 := hide ((ListR.ok declR_ok mkAgg 15).frame HL8.out hb.size (fun b hb2 hl => hb.block b hl))
    have j2 := cellA S9.out.c2 0; have m2 := softA S9.out.c2 0
    have j3 := cellA S9.out.c3 0; have m3 := softA S9.out.c3 0
    have j4 := cellA S9.out.c4 0; have m4 := softA S9.out.c4 0
    have HV9 : Hid (w7.heap.size ≤ w9.heap.size) := Nat.le_trans HV8.out hb.size
    clear hb g2 f2 i2 HAb HL8
    cases hlim : limT ds with
    | true =>
      have HPe : Hid (parseL s = .error (0, 3)) := by unfold Hid; rw [HP.out, H7.out]; simp only; rw [hlim, if_pos rfl]
      clear hlim
      go_wp2
      refine leaves_cons (f := 16) (args := #[.pointer (some ⟨w5.heap.size, 0, none⟩), .pointer (some ⟨w.heap.size, 0, none⟩), .pointer (some ⟨w.heap.size + 1, 0, none⟩), .pointer (some ⟨w.heap.size + 1 + 1, 0, none⟩)]) (by simp) (by simp [go_sem]) ?_
      refine (pcatch_idle _ _ _ _ _).mono ?_
      rintro e u' w10 ⟨rfl, rfl, rfl⟩
      have SF := ((S9.out.set2 (.slice none 0 0)).set3 (.int .i64 0)).set4 (.int .i64 3)
      have q2 := cellA SF.c2 0; have q3 := cellA SF.c3 0; have q4 := cellA SF.c4 0
      exact ⟨.tuple #[.slice none 0 0, .int .i64 0, .int .i64 3], by simp [results, Tryz.results8, go_sem, q2, q3, q4], HE.out _ HPe.out _ SF⟩
    | false =>
      have HPe : Hid (parseL s = .ok ds) := by unfold Hid; rw [HP.out, H7.out]; simp only; rw [hlim, if_neg (by decide)]
      clear hlim
      go_wp2
      refine leaves_cons (f := 16) (args := #[.pointer (some ⟨w5.heap.size, 0, none⟩), .pointer (some ⟨w.heap.size, 0, none⟩), .pointer (some ⟨w.heap.size + 1, 0, none⟩), .pointer (some ⟨w.heap.size + 1 + 1, 0, none⟩)]) (by simp) (by simp [go_sem]) ?_
      refine (pcatch_idle _ _ _ _ _).mono ?_
      rintro e u' w10 ⟨rfl, rfl, rfl⟩
      have SF := ((S9.out.set2 (.slice s7 n7 c7)).set3 (.int .i64 0)).set4 (.int .i64 0)
      have q2 := cellA SF.c2 0; have q3 := cellA SF.c3 0; have q4 := cellA SF.c4 0
      have hfF : Fr (fun b => b = w.heap.size ∨ b = w.heap.size + 1 ∨ b = w.heap.size + 2) w9 (((w9.setCell ⟨w.heap.size, 0, none⟩ (.slice s7 n7 c7)).setCell ⟨w.heap.size + 1, 0, none⟩ (.int .i64 0)).setCell ⟨w.heap.size + 2, 0, none⟩ (.int .i64 0)) := (((Fr.refl _ w9).set _ _ (.inl rfl)).set _ _ (.inr (.inl rfl))).set _ _ (.inr (.inr rfl))
      have hLF := (ListR.ok declR_ok mkAgg 15).frame HL9.out hfF.size (fun b hb hl => hfF.block b hl (fun e => by have := (HB8.out b hb).1; omega))
      refine ⟨.tuple #[.slice s7 n7 c7, .int .i64 0, .int .i64 0], by simp [results, Tryz.results8, go_sem, q2, q3, q4], SF.bl, ?_⟩
      rw [HPe.out]
      exact ⟨_, rfl, (ListR.ok declR_ok mkAgg 15).mono hLF (fun b hb => ⟨by have := (HB8.out b hb).1; omega, Nat.lt_of_lt_of_le (HB8.out b hb).2 (Nat.le_trans HV9.out hfF.size)⟩)⟩
  · have S7 := hide (S6.out.fr hr.fr HPp.out)
    have C7 := hide ((hr.fr.block w5.heap.size (by rw [World.size_alloc]; omega) (fun e => by have e' : w5.heap.size = p := e; have := HPl.out; omega)).trans C6.out)
    have R7 := hide hr.here
    have HPe : Hid (parseL s = .error (lineP (xs ++ [endW xs]) k7, 5)) := by unfold Hid; rw [HP.out, h7]
    clear hr h7 HPg
    go_wp2
    refine leaves_cons (f := 16) (args := #[.pointer (some ⟨w5.heap.size, 0, none⟩), .pointer (some ⟨w.heap.size, 0, none⟩), .pointer (some ⟨w.heap.size + 1, 0, none⟩), .pointer (some ⟨w.heap.size + 1 + 1, 0, none⟩)]) (by simp) (by simp [go_sem]) ?_
    refine (pcatch_panic R7.out C7.out S7.out.c2 S7.out.c3 S7.out.c4 (by omega) (by omega) (by omega) []).mono ?_
    rintro e u' w10 ⟨rfl, rfl, w8, hb8, rfl⟩
    have S8 := S7.out.next hb8
    have SF := ((S8.set2 (.slice none 0 0)).set3 (.int .i64 (lineP (xs ++ [endW xs]) k7 : Int))).set4 (.int .i64 5)
    have q2 := cellA SF.c2 0; have q3 := cellA SF.c3 0; have q4 := cellA SF.c4 0
    exact ⟨.tuple #[.slice none 0 0, .int .i64 (lineP (xs ++ [endW xs]) k7 : Int), .int .i64 5], by simp [results, Tryz.results8, go_sem, q2, q3, q4], HE.out _ HPe.out _ SF⟩
/- Parse reads every text as the list program says. -/
theorem pparse_any (s : List UInt8) (w : World) {bt : Nat} (hLs : Ls w) (hTw : Tws w bt) (hmx : s.length ≤ 9223372036854775807) (T : ByteArray) (hT : T = txt s) : Calls Tryz.prog 8 #[.string T] w fun e w' => ParsePost s w e w' := by
  by_cases hl : s.length ≤ 65536
  · cases ht : toks s with
    | error k =>
      refine parse_lexErr (ln := k) (er := 4) (by unfold parseL; rw [if_neg (by omega), ht]) (by decide) (fun W hW => ?_) hLs
      subst hT
      refine (words_any s W hW hmx).mono ?_
      rintro e w' ⟨hb, ⟨h1, _⟩ | ⟨_, ⟨j, h1, h2⟩ | ⟨ys, v, h1, _⟩⟩⟩
      · omega
      · rw [ht] at h1; injection h1 with h1; subst h1; exact ⟨h2, hb⟩
      · rw [ht] at h1; cases h1
    | ok xs =>
      refine parse_words hl ht hLs hTw (fun W hW => ?_)
      subst hT
      refine (words_any s W hW hmx).mono ?_
      rintro e w' ⟨hb, ⟨h1, _⟩ | ⟨_, ⟨j, h1, h2⟩ | ⟨ys, v, h1, h2, h3, h4⟩⟩⟩
      · omega
      · rw [ht] at h1; cases h1
      · rw [ht] at h1; injection h1 with h1; subst h1; exact ⟨v, h4, h3, h2, hb⟩
  · refine parse_lexErr (ln := 0) (er := 3) (by unfold parseL; rw [if_pos (by omega)]) (by decide) (fun W hW => ?_) hLs
    subst hT
    refine (words_any s W hW hmx).mono ?_
    rintro e w' ⟨hb, ⟨_, h2⟩ | ⟨h1, _⟩⟩
    · exact ⟨h2, hb⟩
    · omega
end Go.Proofs.YtcfopkaomknmjaaGreatDoor
/- package parse: what some texts are read as. -/
namespace Go.Proofs.YtcfopkaomknmjaaGreatDoor
open Go.RowKit

/- An expression's argument. -/
def arg (x : Ex) (i : Nat) : Ex := x.args.getD i ⟨0, 0, 0, [], [], 0, 0, 0, []⟩
def txA : List UInt8 := [97, 99, 116, 105, 111, 110, 32, 102, 40, 112, 32, 56, 41, 32, 123, 32, 104, 46, 97, 32, 61, 32, 126, 112, 91, 51, 58, 48, 93, 32, 43, 43, 32, 99, 97, 115, 116, 32, 52, 40, 104, 46, 98, 41, 32, 43, 32, 56, 119, 49, 59, 32, 125]
def chkA (r : PRes) : Bool := match r with
  | .ok [d] => d.kind == 7 && d.name == [102] && (match d.body with
    | [s] => (match s.args with
      | [x] => x.op == 5 && x.args.length == 2 && (arg x 0).op == 14 && (arg x 0).args.length == 2 && (arg (arg x 0) 0).op == 11 && (arg (arg x 0) 0).args.length == 1 && (arg (arg (arg x 0) 0) 0).op == 15 && (arg x 1).w == 8 && (arg x 1).v == 1
      | _ => false)
    | _ => false)
  | _ => false
set_option maxRecDepth 100000 in
theorem chkA_yes : chkA (parseL txA) = true := by kernel_rfl
end Go.Proofs.YtcfopkaomknmjaaGreatDoor
/- The law's own: alive. -/
namespace Go.Proofs.YtcfopkaomknmjaaGreatDoor
open Go.RowKit

theorem item {α : Type} {rep : Rep α} {K : Nat} {W : World} {X : Nat → Prop} {v : Value} {l : List α} (h : ListR rep mkAgg K W X v l) (hK : 0 < K) (hl : l ≠ []) : ∃ b c, v = .slice (some ⟨b, 0, none⟩) l.length c ∧ b < W.heap.size ∧ ∀ j (hj : j < l.length), ∃ cs, cs.length = K ∧ rep W X (mkAgg cs) l[j] ∧ ∀ i (hi : i < cs.length), W.cell? ⟨b, j * K + i, none⟩ = some cs[i] := by
  obtain ⟨s, c, rfl, _, h | ⟨b, rfl, _, hb, h2⟩⟩ := list_items h hK
  · exact absurd h hl
  · exact ⟨b, c, rfl, hb, h2⟩
theorem ex_cells {W : World} {X : Nat → Prop} {cs : List Value} {x : Ex} (h : ExR W X (mkAgg cs) x) : ∃ va, cs = exC x va ∧ ListR ExR mkAgg 10 W X va x.args := by
  obtain ⟨va, e, h2⟩ := h.open
  unfold mkAgg at e
  injection e with e
  have := congrArg Array.toList e
  exact ⟨va, by simpa using this, h2⟩
theorem sm_cells {W : World} {X : Nat → Prop} {cs : List Value} {x : Sm} (h : SmR W X (mkAgg cs) x) : ∃ va vb ve, cs = smC x va vb ve ∧ ListR ExR mkAgg 10 W X va x.args := by
  obtain ⟨va, vb, ve, e, h2, _⟩ := h.open
  unfold mkAgg at e
  injection e with e
  have := congrArg Array.toList e
  exact ⟨va, vb, ve, by simpa using this, h2⟩
theorem dc_cells {W : World} {X : Nat → Prop} {cs : List Value} {x : Dc} (h : DeclR W X (mkAgg cs) x) : ∃ vf vs vk va vg vb ve, cs = dcC x vf vs vk va vg vb ve ∧ ListR SmR mkAgg 9 W X vb x.body := by
  obtain ⟨vf, vs, vk, va, vg, vb, ve, e, h2⟩ := h
  unfold mkAgg at e
  injection e with e
  have := congrArg Array.toList e
  exact ⟨vf, vs, vk, va, vg, vb, ve, by simpa using this, h2.b⟩
/- An expression of a list, as it lies. -/
structure ExAt (W : World) (b o : Nat) (x : Ex) (va : Value) : Prop where
  c : ∀ i (hi : i < (exC x va).length), W.cell? ⟨b, o + i, none⟩ = some (exC x va)[i]
  l : b < W.heap.size
theorem exs_at {W : World} {X : Nat → Prop} {v : Value} {l : List Ex} (h : ListR ExR mkAgg 10 W X v l) (hl : l ≠ []) : ∃ b c, v = .slice (some ⟨b, 0, none⟩) l.length c ∧ ∀ j (hj : j < l.length), ∃ va, ExAt W b (j * 10) l[j] va ∧ ListR ExR mkAgg 10 W X va l[j].args := by
  obtain ⟨b, c, e, hb, h2⟩ := item h (by decide) hl
  refine ⟨b, c, e, fun j hj => ?_⟩
  obtain ⟨cs, _, h3, h4⟩ := h2 j hj
  obtain ⟨va, rfl, h5⟩ := ex_cells h3
  exact ⟨va, ⟨h4, hb⟩, h5⟩
theorem ExAt.next {W W' : World} {b o : Nat} {x : Ex} {va : Value} (h : ExAt W b o x va) (hb : Below W.heap.size W W') : ExAt W' b o x va := ⟨fun i hi => (hb.cell h.l).trans (h.c i hi), Nat.lt_of_lt_of_le h.l hb.size⟩
/- A program of one declaration, one statement, one expression. -/
structure Tree1 (W : World) (X : Nat → Prop) (v : Value) (d : Dc) (s : Sm) (x : Ex) (b1 b2 b3 c1 c2 c3 : Nat) (va : Value) : Prop where
  v1 : v = .slice (some ⟨b1, 0, none⟩) 1 c1
  k : W.cell? ⟨b1, 0, none⟩ = some (.int .u8 (d.kind : Int))
  n : W.cell? ⟨b1, 1, none⟩ = some (.string (txt d.name))
  bd : W.cell? ⟨b1, 12, none⟩ = some (.slice (some ⟨b2, 0, none⟩) 1 c2)
  ag : W.cell? ⟨b2, 5, none⟩ = some (.slice (some ⟨b3, 0, none⟩) 1 c3)
  l1 : b1 < W.heap.size
  l2 : b2 < W.heap.size
  ex : ExAt W b3 0 x va
  argl : ListR ExR mkAgg 10 W X va x.args
theorem tree1 {W : World} {X : Nat → Prop} {v : Value} {d : Dc} {s : Sm} {x : Ex} (h : ListR DeclR mkAgg 15 W X v [d]) (hs : d.body = [s]) (hx : s.args = [x]) : ∃ b1 b2 b3 c1 c2 c3 va, Tree1 W X v d s x b1 b2 b3 c1 c2 c3 va := by
  obtain ⟨b1, c1, e1, hb1, h1⟩ := item h (by decide) (by simp)
  obtain ⟨cs, hc, hd, hcells⟩ := h1 0 (by simp)
  obtain ⟨vf, vs, vk, va0, vg, vb, ve, rfl, hbody⟩ := dc_cells hd
  have hd0 : ([d] : List Dc)[0] = d := rfl
  rw [hd0] at hcells hbody
  rw [hs] at hbody
  obtain ⟨b2, c2, e2, hb2, h2⟩ := item hbody (by decide) (by simp)
  obtain ⟨cs2, hc2, hd2, hcells2⟩ := h2 0 (by simp)
  obtain ⟨va1, vb1, ve1, rfl, hargs⟩ := sm_cells hd2
  have hs0 : ([s] : List Sm)[0] = s := rfl
  rw [hs0] at hcells2 hargs
  rw [hx] at hargs
  obtain ⟨b3, c3, e3, h3⟩ := exs_at hargs (by simp)
  obtain ⟨va, h4, h5⟩ := h3 0 (by simp)
  refine ⟨b1, b2, b3, c1, c2, c3, va, e1, ?_, ?_, ?_, ?_, hb1, hb2, ?_, h5⟩
  · have := hcells 0 (by simp [dcC]); simpa [dcC] using this
  · have := hcells 1 (by simp [dcC]); simpa [dcC] using this
  · have := hcells 12 (by simp [dcC]); simpa [dcC, e2] using this
  · have := hcells2 5 (by simp [smC]); simpa [smC, e3] using this
  · simpa using h4
theorem chkA_open {r : PRes} (h : chkA r = true) : ∃ d s x y z, r = .ok [d] ∧ d.kind = 7 ∧ d.name = [102] ∧ d.body = [s] ∧ s.args = [x] ∧ x.op = 5 ∧ x.args = [y, z] ∧ y.op = 14 ∧ z.w = 8 ∧ z.v = 1 ∧ ∃ y0 y1 y00, y.args = [y0, y1] ∧ y0.op = 11 ∧ y0.args = [y00] ∧ y00.op = 15 := by
  unfold chkA at h
  split at h
  · rename_i d
    simp only [Bool.and_eq_true, beq_iff_eq] at h
    obtain ⟨⟨hk, hn⟩, h⟩ := h
    split at h
    · rename_i s hs
      split at h
      · rename_i x hx
        simp only [Bool.and_eq_true, beq_iff_eq] at h
        obtain ⟨⟨⟨⟨⟨⟨⟨⟨h1, h2⟩, h3⟩, h4⟩, h5⟩, h6⟩, h7⟩, h8⟩, h9⟩ := h
        match hxa : x.args, h2 with
        | [y, z], _ =>
          have ey : arg x 0 = y := by unfold arg; rw [hxa]; rfl
          have ez : arg x 1 = z := by unfold arg; rw [hxa]; rfl
          rw [ey] at h3 h4 h5 h6 h7
          rw [ez] at h8 h9
          match hya : y.args, h4 with
          | [y0, y1], _ =>
            have e0 : arg y 0 = y0 := by unfold arg; rw [hya]; rfl
            rw [e0] at h5 h6 h7
            match hy0 : y0.args, h6 with
            | [y00], _ =>
              have e00 : arg y0 0 = y00 := by unfold arg; rw [hy0]; rfl
              rw [e00] at h7
              exact ⟨d, s, x, y, z, rfl, hk, hn, hs, hx, h1, hxa, h3, h8, h9, y0, y1, y00, hya, h5, hy0, h7⟩
      · cases h
    · cases h
  · cases h
def txB : List UInt8 := [99, 111, 110, 116, 114, 111, 108, 32, 123, 10, 100, 114, 111, 112, 59]
def txC : List UInt8 := [99, 111, 110, 116, 114, 111, 108, 32, 123, 32, 97, 32, 61, 61, 32, 98, 32, 61, 61, 32, 99, 59, 32, 125]
set_option maxRecDepth 100000 in
theorem txB_is : parseL txB = .error (1, 5) := by kernel_rfl
set_option maxRecDepth 100000 in
theorem txC_is : parseL txC = .error (0, 5) := by kernel_rfl
/- The ten cells of an expression, seen in a later world, or with one block more. -/
theorem ExAt.at {W : World} {b o : Nat} {x : Ex} {va : Value} (h : ExAt W b o x va) : W.cell? ⟨b, o, none⟩ = some (.int .u8 (x.op : Int)) ∧ W.cell? ⟨b, o + 1, none⟩ = some (.int .i64 (x.w : Int)) ∧ W.cell? ⟨b, o + 2, none⟩ = some (.int .u64 (wHi x.v)) ∧ W.cell? ⟨b, o + 3, none⟩ = some (.int .u64 (wLo x.v)) ∧ W.cell? ⟨b, o + 4, none⟩ = some (.string (txt x.name)) ∧ W.cell? ⟨b, o + 5, none⟩ = some (.string (txt x.field)) ∧ W.cell? ⟨b, o + 6, none⟩ = some (.int .i64 (x.n : Int)) ∧ W.cell? ⟨b, o + 7, none⟩ = some (.int .i64 (x.m : Int)) ∧ W.cell? ⟨b, o + 8, none⟩ = some va ∧ W.cell? ⟨b, o + 9, none⟩ = some (.int .i64 (x.line : Int)) :=
  ⟨h.c 0 (by simp [exC]), h.c 1 (by simp [exC]), h.c 2 (by simp [exC]), h.c 3 (by simp [exC]), h.c 4 (by simp [exC]), h.c 5 (by simp [exC]), h.c 6 (by simp [exC]), h.c 7 (by simp [exC]), h.c 8 (by simp [exC]), h.c 9 (by simp [exC])⟩
theorem ExAt.alloc {W : World} {b o : Nat} {x : Ex} {va : Value} (h : ExAt W b o x va) (ob : Obj) : ExAt (W.alloc ob) b o x va := h.next ((Below.refl _ _).alloc (Nat.le_refl _) _)
theorem Tws.below {W W' : World} {bt : Nat} (h : Tws W bt) (hb : Below W.heap.size W W') : Tws W' bt := h.fr (E := fun _ => False) (Fr.ofBelow hb) (fun e => e) (fun e => e)
theorem Tree1.next {W W' : World} {X : Nat → Prop} {v : Value} {d : Dc} {s : Sm} {x : Ex} {b1 b2 b3 c1 c2 c3 : Nat} {va : Value} (h : Tree1 W X v d s x b1 b2 b3 c1 c2 c3 va) (hb : Below W.heap.size W W') : Tree1 W' X v d s x b1 b2 b3 c1 c2 c3 va :=
  ⟨h.v1, (hb.cell h.l1).trans h.k, (hb.cell h.l1).trans h.n, (hb.cell h.l1).trans h.bd, (hb.cell h.l2).trans h.ag, Nat.lt_of_lt_of_le h.l1 hb.size, Nat.lt_of_lt_of_le h.l2 hb.size, h.ex.next hb, (ListR.ok exRep_ok mkAgg 10).frame h.argl hb.size (fun b _ hl => hb.block b hl)⟩
end Go.Proofs.YtcfopkaomknmjaaGreatDoor
/- The law's own: alive, walked. -/
namespace Go.Proofs.YtcfopkaomknmjaaGreatDoor
open Go.RowKit

theorem parse_err {s : List UInt8} {x : Nat × Nat} (h : parseL s = .error x) (hl : s.length ≤ 65536) (T : ByteArray) (hT : T = txt s) (W : World) {bt : Nat} (hLs : Ls W) (hTw : Tws W bt) : Calls Tryz.prog 8 #[.string T] W fun e w' => e = .returned (.tuple #[.slice none 0 0, .int .i64 (x.1 : Int), .int .i64 (x.2 : Int)]) ∧ Below W.heap.size W w' := by
  refine (pparse_any s W hLs hTw (by omega) T hT).mono ?_
  rintro e w' ⟨hb, hm⟩
  rw [h] at hm
  exact ⟨hm, hb⟩
theorem parse_ok {s : List UInt8} {ds : List Dc} (h : parseL s = .ok ds) (hl : s.length ≤ 65536) (T : ByteArray) (hT : T = txt s) (W : World) {bt : Nat} (hLs : Ls W) (hTw : Tws W bt) : Calls Tryz.prog 8 #[.string T] W fun e w' => ∃ v, e = .returned (.tuple #[v, .int .i64 0, .int .i64 0]) ∧ ListR DeclR mkAgg 15 w' (Bn W w') v ds ∧ Below W.heap.size W w' := by
  refine (pparse_any s W hLs hTw (by omega) T hT).mono ?_
  rintro e w' ⟨hb, hm⟩
  rw [h] at hm
  obtain ⟨v, h1, h2⟩ := hm
  exact ⟨v, h1, h2, hb⟩
set_option maxRecDepth 100000 in
set_option maxHeartbeats 8000000 in
theorem alive8_any (w : World) {bt : Nat} (hLs : Ls w) (hTw : Tws w bt) : Calls Tryz.prog 10 #[] w fun e w' => e = .returned (.bool true) ∧ Below w.heap.size w w' := by
  obtain ⟨d, s, x, y, z, hp, hk, hn, hs, hx, hop, hxa, hy, hzw, hzv, y0, y1, y00, hya, hy0, hy0a, hy00⟩ := chkA_open chkA_yes
  have HA := hide (parse_ok hp (by decide) ⟨#[97, 99, 116, 105, 111, 110, 32, 102, 40, 112, 32, 56, 41, 32, 123, 32, 104, 46, 97, 32, 61, 32, 126, 112, 91, 51, 58, 48, 93, 32, 43, 43, 32, 99, 97, 115, 116, 32, 52, 40, 104, 46, 98, 41, 32, 43, 32, 56, 119, 49, 59, 32, 125]⟩ rfl w hLs hTw)
  have HB := hide (fun W (hb : Below w.heap.size w W) => parse_err txB_is (by decide) ⟨#[99, 111, 110, 116, 114, 111, 108, 32, 123, 10, 100, 114, 111, 112, 59]⟩ rfl W (hLs.below hb) (hTw.below hb))
  have HC := hide (fun W (hb : Below w.heap.size w W) => parse_err txC_is (by decide) ⟨#[99, 111, 110, 116, 114, 111, 108, 32, 123, 32, 97, 32, 61, 61, 32, 98, 32, 61, 61, 32, 99, 59, 32, 125]⟩ rfl W (hLs.below hb) (hTw.below hb))
  have HT : Hid (∀ W X v, ListR DeclR mkAgg 15 W X v [d] → ∃ b1 b2 b3 c1 c2 c3 va, Tree1 W X v d s x b1 b2 b3 c1 c2 c3 va) := fun W X v h => tree1 h hs hx
  have hz0 : wHi z.v = 0 := by rw [hzv]; unfold wHi; simp
  have hz1 : wLo z.v = 1 := by rw [hzv]; unfold wLo; simp
  have HF : Hid ((d.kind : Int) = 7 ∧ txt d.name = ⟨#[102]⟩ ∧ (x.op : Int) = 5 ∧ (y.op : Int) = 14 ∧ (z.w : Int) = 8 ∧ (y0.op : Int) = 11 ∧ (y00.op : Int) = 15 ∧ wHi z.v = 0 ∧ wLo z.v = 1) := ⟨by rw [hk]; rfl, by rw [hn]; rfl, by rw [hop]; rfl, by rw [hy]; rfl, by rw [hzw]; rfl, by rw [hy0]; rfl, by rw [hy00]; rfl, hz0, hz1⟩
  have HAr : Hid (x.args = [y, z] ∧ y.args = [y0, y1] ∧ y0.args = [y00]) := ⟨hxa, hya, hy0a⟩
  clear hp hk hn hs hx hop hxa hy hzw hzv hya hy0 hy0a hy00 hz0 hz1 hLs hTw
  go_enter Tryz.func10, Tryz.ntmps10
  go_wp2_with fail
  refine HA.out.mono ?_
  rintro e w1 ⟨v, rfl, hv, hb1⟩
  obtain ⟨b1, b2, b3, c1, c2, c3, va, t1⟩ := HT.out _ _ _ hv
  have T1 := hide t1
  obtain rfl := t1.v1
  have B1 := hide hb1
  clear t1 hv hb1 HA HT
  go_wp2_with fail
  refine (HB.out _ B1.out).mono ?_
  rintro e w2 ⟨rfl, hb2⟩
  have B2 := hide (B1.out.trans (hb2.mono B1.out.size))
  have T2 := hide (T1.out.next hb2)
  clear hb2 T1 HB B1
  go_wp2_with fail
  refine (HC.out _ B2.out).mono ?_
  rintro e w3 ⟨rfl, hb3⟩
  have B3 := hide (B2.out.trans (hb3.mono B2.out.size))
  have t3 := T2.out.next hb3
  have T3 := hide t3
  obtain ⟨hxa, hya, hy0a⟩ := HAr.out
  have hal := t3.argl
  rw [hxa] at hal
  obtain ⟨b4, c4, rfl, h4⟩ := exs_at hal (by simp)
  obtain ⟨vy, ey, hyl⟩ := h4 0 (by simp)
  obtain ⟨vz, ez, _⟩ := h4 1 (by simp)
  have hyl2 : ListR ExR mkAgg 10 w3 (Bn w w1) vy y.args := hyl
  rw [hya] at hyl2
  obtain ⟨b5, c5, rfl, h5⟩ := exs_at hyl2 (by simp)
  obtain ⟨vy0, ey0, hy0l⟩ := h5 0 (by simp)
  have hy0l2 : ListR ExR mkAgg 10 w3 (Bn w w1) vy0 y0.args := hy0l
  rw [hy0a] at hy0l2
  obtain ⟨b6, c6, rfl, h6⟩ := exs_at hy0l2 (by simp)
  obtain ⟨vy00, ey00, _⟩ := h6 0 (by simp)
  obtain ⟨f1, f2, f3, f4, f5, f6, f7, f8, f9⟩ := HF.out
  obtain ⟨e0, e1, e2, e3, e4, e5, e6, e7, e8, e9⟩ := t3.ex.at
  have gk := t3.k; have gn := t3.n; have gb := t3.bd; have ga := t3.ag
  have AY : ∀ o, (w3.alloc o).cell? ⟨b4, 0, none⟩ = some (.int .u8 14) ∧ (w3.alloc o).cell? ⟨b4, 8, none⟩ = some (.slice (some ⟨b5, 0, none⟩) 2 c5) := fun o => by
    have := (ey.alloc o).at
    simp only [Nat.zero_mul, Nat.zero_add] at this
    exact ⟨by rw [this.1]; exact congrArg (fun t => some (Value.int .u8 t)) f4, this.2.2.2.2.2.2.2.2.1⟩
  have AZ : ∀ o, (w3.alloc o).cell? ⟨b4, 11, none⟩ = some (.int .i64 8) ∧ (w3.alloc o).cell? ⟨b4, 12, none⟩ = some (.int .u64 0) ∧ (w3.alloc o).cell? ⟨b4, 13, none⟩ = some (.int .u64 1) := fun o => by
    have := (ez.alloc o).at
    exact ⟨by have h := this.2.1; rw [h]; exact congrArg (fun t => some (Value.int .i64 t)) f5, by have h := this.2.2.1; rw [h]; exact congrArg (fun t => some (Value.int .u64 t)) f8, by have h := this.2.2.2.1; rw [h]; exact congrArg (fun t => some (Value.int .u64 t)) f9⟩
  have AY0 : ∀ o, (w3.alloc o).cell? ⟨b5, 0, none⟩ = some (.int .u8 11) ∧ (w3.alloc o).cell? ⟨b5, 8, none⟩ = some (.slice (some ⟨b6, 0, none⟩) 1 c6) := fun o => by
    have := (ey0.alloc o).at
    simp only [Nat.zero_mul, Nat.zero_add] at this
    exact ⟨by rw [this.1]; exact congrArg (fun t => some (Value.int .u8 t)) f6, this.2.2.2.2.2.2.2.2.1⟩
  have AY00 : ∀ o, (w3.alloc o).cell? ⟨b6, 0, none⟩ = some (.int .u8 15) := fun o => by
    have := (ey00.alloc o).at
    simp only [Nat.zero_mul, Nat.zero_add] at this
    rw [this.1]; exact congrArg (fun t => some (Value.int .u8 t)) f7
  rw [f1] at gk
  rw [f2] at gn
  rw [f3] at e0
  obtain ⟨AY1, AY2⟩ : (∀ o, (w3.alloc o).cell? ⟨b4, 0, none⟩ = some (.int .u8 14)) ∧ (∀ o, (w3.alloc o).cell? ⟨b4, 8, none⟩ = some (.slice (some ⟨b5, 0, none⟩) 2 c5)) := ⟨fun o => (AY o).1, fun o => (AY o).2⟩
  obtain ⟨AZ1, AZ2, AZ3⟩ : (∀ o, (w3.alloc o).cell? ⟨b4, 11, none⟩ = some (.int .i64 8)) ∧ (∀ o, (w3.alloc o).cell? ⟨b4, 12, none⟩ = some (.int .u64 0)) ∧ (∀ o, (w3.alloc o).cell? ⟨b4, 13, none⟩ = some (.int .u64 1)) := ⟨fun o => (AZ o).1, fun o => (AZ o).2.1, fun o => (AZ o).2.2⟩
  obtain ⟨AW1, AW2⟩ : (∀ o, (w3.alloc o).cell? ⟨b5, 0, none⟩ = some (.int .u8 11)) ∧ (∀ o, (w3.alloc o).cell? ⟨b5, 8, none⟩ = some (.slice (some ⟨b6, 0, none⟩) 1 c6)) := ⟨fun o => (AY0 o).1, fun o => (AY0 o).2⟩
  have hlen : (x.args.length : Int) = 2 := by rw [hxa]; rfl
  simp only [List.length_cons, List.length_nil] at *
  generalize (x.w : Int) = n1 at *
  generalize wHi x.v = n2 at *
  generalize wLo x.v = n3 at *
  generalize txt x.name = t4 at *
  generalize txt x.field = t5 at *
  generalize (x.n : Int) = n6 at *
  generalize (x.m : Int) = n7 at *
  generalize (x.line : Int) = n9 at *
  clear t3 hb3 hal h4 h5 h6 ey ez hyl hyl2 hy0l hy0l2 ey0 ey00 f1 f2 f3 f4 f5 f6 f7 f8 f9 hxa hya hy0a AY AZ AY0 HC T2 HF HAr hlen
  go_wp2
  go_ret
  exact ⟨rfl, B3.out.alloc B3.out.size _⟩
end Go.Proofs.YtcfopkaomknmjaaGreatDoor
/- ParseLines, walked. -/
namespace Go.Proofs.YtcfopkaomknmjaaGreatDoor
open Go.RowKit

theorem catL (a b : List UInt8) : txt a ++ txt b = txt (a ++ b) := by
  apply ByteArray.ext
  rw [ByteArray.data_append]
  unfold txt
  simp
theorem parse_mg (s : List UInt8) (hl : s.length ≤ 9223372036854775807) (T : ByteArray) (hT : T = txt s) (W : World) {bt : Nat} (hLs : Ls W) (hTw : Tws W bt) : Calls Tryz.prog 8 #[.string T] W fun e w' => ∃ v, e = .returned (.tuple #[v, .int .i64 ((resE (parseL s)).1 : Int), .int .i64 ((resE (parseL s)).2 : Int)]) ∧ Below W.heap.size W w' := by
  refine (pparse_any s W hLs hTw hl T hT).mono ?_
  rintro e w' ⟨hb, h⟩
  cases hp : parseL s with
  | error x => rw [hp] at h; exact ⟨_, h, hb⟩
  | ok ds => rw [hp] at h; obtain ⟨v, h, _⟩ := h; exact ⟨v, h, hb⟩
set_option maxHeartbeats 4000000 in
set_option maxRecDepth 100000 in
theorem lines_no (s : List UInt8) (w : World) {bt : Nat} (hLs : Ls w) (hTw : Tws w bt) (hs : s.length ≤ 9223372036854775807) (h : 65536 < s.length ∨ ∃ k, toks s = .error k) :
    Calls Tryz.prog 5 #[.string (txt s)] w fun e w' => e = .returned (.bool true) ∧ Below w.heap.size w w' := by
  have HA := hide (fun W (hb : Below w.heap.size w W) => alive8_any W (hLs.below hb) (hTw.below hb))
  have HW : Hid (Calls Tryz.prog 9 #[.string (txt s)] w fun e w' => ∃ k c : Nat, e = .returned (.tuple #[.slice none 0 0, .int .i64 (k : Int), .int .i64 (c : Int)]) ∧ ((c : Int) == 0) = false ∧ Below w.heap.size w w') := by
    refine (words_any s w hLs hs).mono ?_
    rintro e w' ⟨hb, ⟨_, h1⟩ | ⟨h0, ⟨k, _, h1⟩ | ⟨ys, v, h1, _⟩⟩⟩
    · exact ⟨0, 3, h1, rfl, hb⟩
    · exact ⟨k, 4, h1, rfl, hb⟩
    · rcases h with h | ⟨k, h⟩
      · omega
      · rw [h] at h1; cases h1
  clear hLs hTw h
  generalize txt s = T at *
  go_enter Tryz.func5, Tryz.ntmps5
  go_wp2_with fail
  refine HW.out.mono ?_
  rintro e w1 ⟨k, c, rfl, hc, hb⟩
  have B1 := hide hb
  clear hb
  have hc' : ¬ ((c : Int) = 0) := by simpa using hc
  clear hc
  go_wp2_with fail
  refine (HA.out _ B1.out).mono ?_
  rintro e w2 ⟨rfl, hb⟩
  have B2 := hide (B1.out.trans (hb.mono B1.out.size))
  clear hb
  go_wp2_with fail
  refine (HA.out _ B2.out).mono ?_
  rintro e w3 ⟨rfl, hb⟩
  have B3 := hide (B2.out.trans (hb.mono B2.out.size))
  clear hb
  go_wp2
  go_ret
  exact ⟨rfl, B3.out⟩
set_option maxHeartbeats 4000000 in
set_option maxRecDepth 100000 in
theorem lines_out (s : List UInt8) (xs : List (Wd × Nat)) (w : World) {bt : Nat} (hLs : Ls w) (hTw : Tws w bt) (hs : s.length ≤ 65536) (h : toks s = .ok xs) (hc : xs.length = 0 ∨ 1500 < xs.length ∨ 20000 < s.length) :
    Calls Tryz.prog 5 #[.string (txt s)] w fun e w' => e = .returned (.bool true) ∧ Below w.heap.size w w' := by
  have HA := hide (fun W (hb : Below w.heap.size w W) => alive8_any W (hLs.below hb) (hTw.below hb))
  have HW := hide (words_ok h hs (txt s) rfl w hLs)
  have hTs : (txt s).size = s.length := txt_size s
  have HC := hide hc
  clear hLs hTw h hc
  generalize txt s = T at *
  generalize hn : xs.length = n at *
  go_enter Tryz.func5, Tryz.ntmps5
  go_wp2_with fail
  refine HW.out.mono ?_
  rintro e w1 ⟨v1, rfl, ho1, hl1, hb⟩
  have B1 := hide hb
  obtain ⟨ad1, cap1, rfl⟩ := ho1.shape
  rw [hn]
  clear hb ho1 hn
  go_wp2_with fail
  refine (HA.out _ B1.out).mono ?_
  rintro e w2 ⟨rfl, hb⟩
  have B2 := hide (B1.out.trans (hb.mono B1.out.size))
  clear hb
  have fin : ∀ W, Below w.heap.size w W → Calls Tryz.prog 10 #[] W fun e w' => e = .returned (.bool true) ∧ Below w.heap.size w w' := fun W hW => (HA.out W hW).mono fun e w' ⟨h1, h2⟩ => ⟨h1, hW.trans (h2.mono hW.size)⟩
  have FIN := hide fin
  clear fin HA
  rcases HC.out with h0 | h0 | h0
  · subst h0
    go_wp2_with fail
    refine (FIN.out _ B2.out).mono ?_
    rintro e w3 ⟨rfl, hb⟩
    have B3 := hide hb
    clear hb
    go_wp2
    go_ret
    exact ⟨rfl, B3.out⟩
  · have i1 : ¬ ((n : Int) = 0) := by omega
    have i2 : (1500 : Int) < (n : Int) := by omega
    go_wp2_with fail
    refine (FIN.out _ B2.out).mono ?_
    rintro e w3 ⟨rfl, hb⟩
    have B3 := hide hb
    clear hb
    go_wp2
    go_ret
    exact ⟨rfl, B3.out⟩
  · by_cases j1 : n = 0
    · subst j1
      go_wp2_with fail
      refine (FIN.out _ B2.out).mono ?_
      rintro e w3 ⟨rfl, hb⟩
      have B3 := hide hb
      clear hb
      go_wp2
      go_ret
      exact ⟨rfl, B3.out⟩
    · have i1 : ¬ ((n : Int) = 0) := by omega
      by_cases j2 : 1500 < n
      · have i2 : (1500 : Int) < (n : Int) := by omega
        go_wp2_with fail
        refine (FIN.out _ B2.out).mono ?_
        rintro e w3 ⟨rfl, hb⟩
        have B3 := hide hb
        clear hb
        go_wp2
        go_ret
        exact ⟨rfl, B3.out⟩
      · have i2 : ¬ (1500 : Int) < (n : Int) := by omega
        have i3 : (20000 : Int) < (T.size : Int) := by omega
        go_wp2_with fail
        refine (FIN.out _ B2.out).mono ?_
        rintro e w3 ⟨rfl, hb⟩
        have B3 := hide hb
        clear hb
        go_wp2
        go_ret
        exact ⟨rfl, B3.out⟩
end Go.Proofs.YtcfopkaomknmjaaGreatDoor
