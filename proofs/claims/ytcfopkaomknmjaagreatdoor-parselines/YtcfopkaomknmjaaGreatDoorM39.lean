/- Pieces of the proof: PLx. -/
import Derived.Test.YtcfopkaomknmjaaGreatDoorM38
/- ParseLines, walked: where the law holds all of it. -/
namespace Go.Proofs.YtcfopkaomknmjaaGreatDoor
open Go.RowKit

theorem ahT_len {ws : List Wd} (hg : ∀ y ∈ ws, Good y) : (ahT ws).length ≤ 256 * ws.length := by
  induction ws with
  | nil => simp [ahT]
  | cons y ws ih =>
    have h1 := good_len (hg y (by simp))
    have h2 := ih fun z hz => hg z (by simp [hz])
    have e : ahT (y :: ws) = toldW y ++ 10 :: ahT ws := by unfold ahT; simp
    rw [e, List.length_append, List.length_cons, List.length_cons]
    omega
theorem ahT_take_le (ws : List Wd) (i : Nat) : (ahT (ws.take i)).length ≤ (ahT ws).length := by
  have e := congrArg (fun l => (ahT l).length) (List.take_append_drop i ws)
  rw [← e]
  unfold ahT
  simp only [List.map_append, List.flatten_append, List.length_append]
  omega
theorem ahT_next {ws : List Wd} {j : Nat} (h : j < ws.length) {A : ByteArray} (hA : A = txt (ahT (ws.take j))) : (A ++ txt (toldW ws[j])) ++ (⟨#[10]⟩ : ByteArray) = txt (ahT (ws.take (j + 1))) := by
  rw [List.take_succ_eq_append_getElem h, ahT_snoc, hA, show (⟨#[10]⟩ : ByteArray) = txt [10] from rfl, catL, catL]
/- What the law asks of the texts ahead, in plain words. -/
structure Ahd (ws : List Wd) (n : Nat) : Prop where
  lt : n < ws.length
  at_ : ∀ i, i ≤ n → (resE (parseL (ahT (ws.take i)))).2 = 5 → (resE (parseL (ahT (ws.take i)))).1 = i - 1
  last : n + 1 < ws.length → resE (parseL (ahT (ws.take (n + 1) ++ [rbW]))) = (n, 5)
theorem ahd_of {ws : List Wd} (hg : ∀ y ∈ ws, Good y) (hl : (ahT ws).length ≤ 65536) {k : Nat} (hk : progA (Lx (num 0 ws)) 0 = .error k) (hkl : k ≤ ws.length) (h0 : 0 < ws.length) : Ahd ws (min k (ws.length - 1)) where
  lt := by omega
  at_ := fun i hi h5 => pl_ahead hg hk (by omega) (Nat.le_trans (ahT_take_le ws i) hl) hkl h5
  last := fun h => by
    have e : min k (ws.length - 1) = k := by omega
    rw [e] at h ⊢
    exact pl_last hg hk h hl
def WholeF (n : Nat) (ws : List Wd) (eW : Nat) : Prop := ((ahT ws).length ≤ 65536 → eW ≠ 3 → (resE (parseL (ahT ws))).2 = eW ∧ ((eW = 0 ∧ (resE (parseL (ahT ws))).1 = 0) ∨ (eW = 5 ∧ Ahd ws (resE (parseL (ahT ws))).1))) ∧ ws.length = n
theorem plw_of {s : List UInt8} {xs : List (Wd × Nat)} (hs : s.length ≤ 65536) (ht : toks s = .ok xs) (h0 : 0 < xs.length) : WholeF xs.length (xs.map (·.1)) (resE (parseL s)).2 := by
  have hg : ∀ y ∈ xs.map (·.1), Good y := by
    intro y hy
    obtain ⟨x, hx, rfl⟩ := List.mem_map.1 hy
    exact (toks_good ht).1 x hx
  refine ⟨fun hl h3 => ?_, List.length_map ..⟩
  obtain ⟨h1, h2⟩ := pl_whole hs ht hg hl h0 h3
  refine ⟨h1, ?_⟩
  rcases h2 with h2 | ⟨h5, k, hk, hp, hm⟩
  · exact .inl h2
  · refine .inr ⟨h5, ?_⟩
    rw [hm]
    have := ahd_of hg hl hp (by rw [List.length_map]; exact hk) (by rw [List.length_map]; exact h0)
    rw [List.length_map] at this
    exact this
set_option maxHeartbeats 8000000 in
set_option maxRecDepth 100000 in
theorem lines_in (s : List UInt8) (xs : List (Wd × Nat)) (w : World) {bt : Nat} (hLs : Ls w) (hTw : Tws w bt) (hs : s.length ≤ 20000) (h : toks s = .ok xs) (h0 : 0 < xs.length) (hx : xs.length ≤ 1500) :
    Calls Tryz.prog 5 #[.string (txt s)] w fun e w' => e = .returned (.bool true) ∧ Below w.heap.size w w' := by
  have HA := hide (fun W (hb : Below w.heap.size w W) => alive8_any W (hLs.below hb) (hTw.below hb))
  have HW := hide (words_ok h (by omega) (txt s) rfl w hLs)
  have HP0 := hide (fun W (hb : Below w.heap.size w W) => parse_mg s (by omega) (txt s) rfl W (hLs.below hb) (hTw.below hb))
  have HP := hide (fun (t : List UInt8) (T : ByteArray) W (hb : Below w.heap.size w W) (hl : t.length ≤ 9223372036854775807) (hT : T = txt t) => parse_mg t hl T hT W (hLs.below hb) (hTw.below hb))
  have HT := hide (fun (x : Wd) (ln : Nat) W (hb : Below w.heap.size w W) (hg : Good x) => told_any x ln W (hLs.below hb) hg)
  have HF := hide (plw_of (by omega) h h0)
  have HG := hide (toks_good h).1
  have hTs : (txt s).size = s.length := txt_size s
  obtain ⟨n, hn⟩ : ∃ n, xs.length = n := ⟨_, rfl⟩
  have HN0 := hide hn
  rw [hn] at h0 hx HF
  clear hLs hTw h hn
  generalize (resE (parseL s)).2 = eW at *
  generalize (resE (parseL s)).1 = mW at *
  generalize txt s = T at *
  have i1 : ((n : Int) == 0) = false := by rw [beq_eq_false_iff_ne]; omega
  have i2 : ¬ (1500 : Int) < (n : Int) := by omega
  have i3 : ¬ (20000 : Int) < (T.size : Int) := by omega
  clear hTs hs
  go_enter Tryz.func5, Tryz.ntmps5
  go_wp2_with fail
  refine HW.out.mono ?_
  rintro e w1 ⟨v1, rfl, ho1, hl1, hb⟩
  have B1 := hide hb
  have S1 := hide ho1.sl
  obtain ⟨ad1, cap1, rfl⟩ := ho1.shape
  rw [HN0.out] at S1 ⊢
  clear hb ho1 hl1 HW
  go_wp2_with fail
  refine (HA.out _ B1.out).mono ?_
  rintro e w2 ⟨rfl, hb⟩
  have B2 := hide (B1.out.trans (hb.mono B1.out.size))
  have S2 := hide (S1.out.keep hb)
  clear hb S1 B1
  go_wp2_with fail
  refine (HP0.out _ B2.out).mono ?_
  rintro e w3 ⟨v3, rfl, hb⟩
  have B3 := hide (B2.out.trans (hb.mono B2.out.size))
  have S3 := hide (S2.out.keep hb)
  clear hb S2 B2 HP0 HA
  go_wp2
  go_loopw [9, 10] (fun vs vi wr => ∃ (j : Nat) (A : ByteArray), vs = .string A ∧ vi = .int .i64 (j : Int) ∧ j ≤ n ∧ A.size ≤ 256 * j ∧ Hid (A = txt (ahT ((xs.map (·.1)).take j))) ∧ Hid (Below w3.heap.size w3 wr)) (fun _ vi _ => n - (intOf vi).toNat)
  case atStart => exact ⟨0, _, rfl, rfl, by omega, by decide, rfl, Below.refl _ _⟩
  case round =>
    obtain ⟨j, A, rfl, rfl, hj, hAz, HAj, HB⟩ := hrel
    by_cases hltn : j < n
    · have hlt : j < xs.length := by rw [HN0.out]; exact hltn
      have hltI : (j : Int) < (n : Int) := by omega
      have hR : ∃ g, ad1 = some ⟨g, 0, none⟩ ∧ RdG wr g xs := by
        rcases S3.out.keep HB.out with ⟨_, e⟩ | ⟨g, c, e, hr⟩
        · rw [e] at hlt; simp at hlt
        · injection e with e1; exact ⟨g, e1, hr⟩
      obtain ⟨g, rfl, hr⟩ := hR
      have c0 := hr.2 j hlt 0 _ rfl; have c1 := hr.2 j hlt 1 _ rfl; have c2 := hr.2 j hlt 2 _ rfl; have c3 := hr.2 j hlt 3 _ rfl; have c4 := hr.2 j hlt 4 _ rfl; have c5 := hr.2 j hlt 5 _ rfl
      rw [Nat.add_zero] at c0
      have HGx := hide (HG.out _ (List.getElem_mem hlt))
      have HN : Hid ((A ++ txt (toldW xs[j].1)) ++ (⟨#[10]⟩ : ByteArray) = txt (ahT ((xs.map (·.1)).take (j + 1)))) := by
        have := ahT_next (ws := xs.map (·.1)) (j := j) (by rw [List.length_map]; exact hlt) HAj.out
        rw [List.getElem_map] at this
        exact this
      have hTl : (txt (toldW xs[j].1)).size ≤ 255 := by rw [txt_size]; exact good_len HGx.out
      clear hr HAj
      generalize xs[j] = xj at *
      obtain ⟨x, ln⟩ := xj
      dsimp only at c0 c1 c2 c3 c4 c5 HN hTl
      have HTx := hide (fun W hb => HT.out x ln W hb HGx.out)
      generalize txt (toldW x) = D at *
      have z1 : ¬ 9223372036854775807 < A.size + D.size := by omega
      have z2 : ¬ 9223372036854775807 < A.size + D.size + 1 := by omega
      have hNz : ((A ++ D) ++ (⟨#[10]⟩ : ByteArray)).size ≤ 256 * (j + 1) := by
        rw [ByteArray.size_append, ByteArray.size_append]
        show A.size + D.size + 1 ≤ _
        omega
      go_wp2_with fail
      refine (HTx.out _ (B3.out.trans (HB.out.mono B3.out.size))).mono ?_
      rintro e w5 ⟨rfl, hb⟩
      have HB5 := hide (HB.out.trans (hb.mono HB.out.size))
      clear hb
      go_wp2
      exact ⟨⟨j + 1, _, rfl, by congr 1, by omega, hNz, HN, HB5⟩, by simp [intOf]; omega⟩
    · have hltI : ¬ (j : Int) < (n : Int) := by omega
      obtain rfl : j = n := by omega
      have HAz : Hid (A = txt (ahT (xs.map (·.1)))) := by
        have := HAj.out
        rw [List.take_of_length_le (by rw [List.length_map, HN0.out]; exact Nat.le_refl _)] at this
        exact this
      have hAs : A.size = (ahT (xs.map (·.1))).length := by rw [HAz.out, txt_size]
      have BR := hide (B3.out.trans (HB.out.mono B3.out.size))
      have SR := hide (S3.out.keep HB.out)
      clear HAj HB S3 B3 hltn hj
      have HL0 := hide HF.out.2
      by_cases hbig : 65536 < A.size
      · have ib : (65536 : Int) < (A.size : Int) := by omega
        clear hAs
        go_wp2
        go_ret
        exact ⟨rfl, BR.out⟩
      · have ib : ¬ (65536 : Int) < (A.size : Int) := by omega
        by_cases h3 : eW = 3
        · subst h3
          rw [show ((3 : Nat) : Int) = 3 from rfl]
          clear hAs
          go_wp2
          go_ret
          exact ⟨rfl, BR.out⟩
        · have i4 : ((eW : Int) == 3) = false := by rw [beq_eq_false_iff_ne]; omega
          obtain ⟨q1, q2⟩ := HF.out.1 (by omega) h3
          have HPt := hide (fun W hb => HP.out (ahT (xs.map (·.1))) A W hb (by omega) HAz.out)
          generalize (resE (parseL (ahT (xs.map (·.1))))).1 = m at *
          generalize (resE (parseL (ahT (xs.map (·.1))))).2 = f at *
          have Q1 := hide q1
          have Q2 := hide q2
          clear q1 q2 hAs HAz HF
          go_wp2_with fail
          refine (HPt.out _ BR.out).mono ?_
          rintro e w6 ⟨v6, rfl, hb⟩
          have B6 := hide (BR.out.trans (hb.mono BR.out.size))
          have S6 := hide (SR.out.keep hb)
          clear hb BR SR HPt
          have q1 := Q1.out
          subst q1
          rcases Q2.out with ⟨e0, em⟩ | ⟨e5, QA⟩
          · subst e0 em
            rw [show ((0 : Nat) : Int) = 0 from rfl]
            have i5 : ¬ (j : Int) ≤ 0 := by omega
            go_wp2
            go_ret
            exact ⟨rfl, B6.out⟩
          · subst e5
            rw [show ((5 : Nat) : Int) = 5 from rfl]
            have hmn : m < j := by have := QA.lt; rw [HL0.out] at this; exact this
            have i5 : ¬ (j : Int) ≤ (m : Int) := by omega
            have HQ := hide QA
            clear QA Q1 Q2 i4 h3
            have hdm : decide (j ≤ m) = false := decide_eq_false (by omega)
            go_wp2
            clear hdm
            go_loopw [14, 15] (fun vs vi wr2 => ∃ (i : Nat) (A : ByteArray), vs = .string A ∧ vi = .int .i64 (i : Int) ∧ i ≤ m + 1 ∧ A.size ≤ 256 * i ∧ Hid (A = txt (ahT ((xs.map (·.1)).take i))) ∧ Hid (Below w6.heap.size w6 wr2)) (fun _ vi _ => m + 1 - (intOf vi).toNat)
            case atStart => exact ⟨0, _, rfl, rfl, by omega, by decide, rfl, Below.refl _ _⟩
            case round =>
              obtain ⟨i, C, rfl, rfl, hi, hCz, HC, HB⟩ := hrel
              have BB := hide (B6.out.trans (HB.out.mono B6.out.size))
              by_cases him : i ≤ m
              · have hiI : (i : Int) ≤ (m : Int) := by omega
                have hlt : i < xs.length := by rw [HN0.out]; omega
                have HPi := hide (fun W hb => HP.out (ahT ((xs.map (·.1)).take i)) C W hb (by rw [← txt_size, ← HC.out]; omega) HC.out)
                have HQi := hide (HQ.out.at_ i him)
                generalize (resE (parseL (ahT ((xs.map (·.1)).take i)))).1 = mi at *
                generalize (resE (parseL (ahT ((xs.map (·.1)).take i)))).2 = gi at *
                go_wp2_with fail
                refine (HPi.out _ BB.out).mono ?_
                rintro e w7 ⟨v7, rfl, hb⟩
                have B7 := hide (HB.out.trans (hb.mono HB.out.size))
                have BB7 := hide (BB.out.trans (hb.mono BB.out.size))
                clear hb HB BB HPi
                have hR : ∃ g, ad1 = some ⟨g, 0, none⟩ ∧ RdG w7 g xs := by
                  rcases S6.out.keep B7.out with ⟨_, e⟩ | ⟨g, c, e, hr⟩
                  · rw [e] at hlt; simp at hlt
                  · injection e with e1; exact ⟨g, e1, hr⟩
                obtain ⟨g, rfl, hr⟩ := hR
                have c0 := hr.2 i hlt 0 _ rfl; have c1 := hr.2 i hlt 1 _ rfl; have c2 := hr.2 i hlt 2 _ rfl; have c3 := hr.2 i hlt 3 _ rfl; have c4 := hr.2 i hlt 4 _ rfl; have c5 := hr.2 i hlt 5 _ rfl
                rw [Nat.add_zero] at c0
                have HGx := hide (HG.out _ (List.getElem_mem hlt))
                have HN : Hid ((C ++ txt (toldW xs[i].1)) ++ (⟨#[10]⟩ : ByteArray) = txt (ahT ((xs.map (·.1)).take (i + 1)))) := by
                  have := ahT_next (ws := xs.map (·.1)) (j := i) (by rw [List.length_map]; exact hlt) HC.out
                  rw [List.getElem_map] at this
                  exact this
                have hTl : (txt (toldW xs[i].1)).size ≤ 255 := by rw [txt_size]; exact good_len HGx.out
                clear hr HC
                generalize xs[i] = xj at *
                obtain ⟨x, ln⟩ := xj
                dsimp only at c0 c1 c2 c3 c4 c5 HN hTl
                have HTx := hide (fun W hb => HT.out x ln W hb HGx.out)
                generalize txt (toldW x) = D at *
                have z1 : ¬ 9223372036854775807 < C.size + D.size := by omega
                have z2 : ¬ 9223372036854775807 < C.size + D.size + 1 := by omega
                have hNz : ((C ++ D) ++ (⟨#[10]⟩ : ByteArray)).size ≤ 256 * (i + 1) := by
                  rw [ByteArray.size_append, ByteArray.size_append]
                  show C.size + D.size + 1 ≤ _
                  omega
                have hjI : (i : Int) < (j : Int) := by omega
                by_cases g5 : gi = 5
                · have hmi := HQi.out g5
                  subst g5 hmi
                  rw [show ((5 : Nat) : Int) = 5 from rfl]
                  by_cases hi0 : i = 0
                  · subst hi0
                    go_wp2_with fail
                    refine (HTx.out _ BB7.out).mono ?_
                    rintro e w8 ⟨rfl, hb⟩
                    have HB8 := hide (B7.out.trans (hb.mono B7.out.size))
                    clear hb
                    go_wp2
                    exact ⟨⟨0 + 1, _, rfl, by congr 1, by omega, hNz, HN, HB8⟩, by simp [intOf]⟩
                  · have e1 : ((i - 1 : Nat) : Int) = (i : Int) - 1 := by omega
                    rw [e1]
                    have hmx : max ((i : Int) - 1) 0 = (i : Int) - 1 := by omega
                    clear e1
                    go_wp2_with fail
                    refine (HTx.out _ BB7.out).mono ?_
                    rintro e w8 ⟨rfl, hb⟩
                    have HB8 := hide (B7.out.trans (hb.mono B7.out.size))
                    clear hb
                    go_wp2
                    exact ⟨⟨i + 1, _, rfl, by congr 1, by omega, hNz, HN, HB8⟩, by simp [intOf]; omega⟩
                · have i6 : ((gi : Int) == 5) = false := by rw [beq_eq_false_iff_ne]; omega
                  go_wp2_with fail
                  refine (HTx.out _ BB7.out).mono ?_
                  rintro e w8 ⟨rfl, hb⟩
                  have HB8 := hide (B7.out.trans (hb.mono B7.out.size))
                  clear hb
                  go_wp2
                  exact ⟨⟨i + 1, _, rfl, by congr 1, by omega, hNz, HN, HB8⟩, by simp [intOf]; omega⟩
              · have hiI : ¬ (i : Int) ≤ (m : Int) := by omega
                obtain rfl : i = m + 1 := by omega
                have HE : Hid (C ++ (⟨#[93, 10]⟩ : ByteArray) = txt (ahT ((xs.map (·.1)).take (m + 1) ++ [rbW]))) := by
                  unfold Hid
                  rw [HC.out, show (⟨#[93, 10]⟩ : ByteArray) = txt ([93] ++ [10]) from rfl, catL, ahT_snoc, List.append_assoc]
                  rfl
                have HEl : Hid ((ahT ((xs.map (·.1)).take (m + 1) ++ [rbW])).length ≤ 9223372036854775807) := by
                  unfold Hid
                  rw [← txt_size, ← HE.out, ByteArray.size_append]
                  show C.size + 2 ≤ _
                  omega
                have z1 : ¬ 9223372036854775807 < C.size + 2 := by omega
                have HPe := hide (fun W hb => HP.out (ahT ((xs.map (·.1)).take (m + 1) ++ [rbW])) _ W hb HEl.out HE.out)
                have HQl := hide HQ.out.last
                rw [HL0.out] at HQl
                generalize resE (parseL (ahT ((xs.map (·.1)).take (m + 1) ++ [rbW]))) = R at *
                obtain ⟨r1, r2⟩ := R
                clear him HC HE HEl
                go_wp2_with fail
                refine (HPe.out _ BB.out).mono ?_
                rintro e w7 ⟨v7, rfl, hb⟩
                have B7 := hide (BB.out.trans (hb.mono BB.out.size))
                clear hb HPe
                by_cases hme : m + 1 < j
                · have hr := HQl.out hme
                  injection hr with hr1 hr2
                  subst hr1 hr2
                  rw [show ((5 : Nat) : Int) = 5 from rfl]
                  have i7 : ((r1 : Int) == (j : Int) - 1) = false := by rw [beq_eq_false_iff_ne]; omega
                  go_wp2
                  go_ret
                  exact ⟨rfl, B7.out⟩
                · have i7 : (j : Int) - 1 = (m : Int) := by omega
                  go_wp2
                  go_ret
                  exact ⟨rfl, B7.out⟩
theorem lines_any (s : List UInt8) (w : World) {bt : Nat} (hLs : Ls w) (hTw : Tws w bt) (hs : s.length ≤ 9223372036854775807) :
    Calls Tryz.prog 5 #[.string (txt s)] w fun e w' => e = .returned (.bool true) ∧ Below w.heap.size w w' := by
  by_cases hb : 65536 < s.length
  · exact lines_no s w hLs hTw hs (.inl hb)
  · cases h : toks s with
    | error k => exact lines_no s w hLs hTw hs (.inr ⟨k, h⟩)
    | ok xs =>
      by_cases hc : xs.length = 0 ∨ 1500 < xs.length ∨ 20000 < s.length
      · exact lines_out s xs w hLs hTw (by omega) h hc
      · exact lines_in s xs w hLs hTw (by omega) h (by omega) (by omega)
end Go.Proofs.YtcfopkaomknmjaaGreatDoor
