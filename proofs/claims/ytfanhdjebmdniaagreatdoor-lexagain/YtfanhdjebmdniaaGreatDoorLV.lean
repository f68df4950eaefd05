/- LexJoins: where both texts have words. -/
import Derived.Test.YtfanhdjebmdniaaGreatDoorLU
namespace Go.Proofs.YtfanhdjebmdniaaGreatDoor
open Go.RowKit

theorem wcs_len (L : List (Wd × Nat)) : (wcs L).length = L.length * 6 := by
  induction L with
  | nil => rfl
  | cons x L ih => rw [wcs, List.map_cons, List.flatten_cons, List.length_append, wcl_len]; rw [wcs] at ih; rw [ih, List.length_cons]; omega
theorem wcs_set : ∀ (L : List (Wd × Nat)) (k n : Nat) (hk : k < L.length), (wcs L).set (k * 6 + 5) (.int .i64 (n : Int)) = wcs (L.set k (L[k].1, n))
  | [], k, n, hk => by simp at hk
  | x :: L, 0, n, _ => by simp [wcs, wcl]
  | x :: L, k + 1, n, hk => by
    have ih := wcs_set L k n (by simpa using hk)
    have e : ∀ M : List (Wd × Nat), wcs (x :: M) = wcl x ++ wcs M := fun M => by simp [wcs]
    rw [List.set_cons_succ, e, e, List.set_append, if_neg (by rw [wcl_len]; omega), wcl_len, show (k + 1) * 6 + 5 - 6 = k * 6 + 5 by omega, ih]
    simp
theorem OwnW.set {W : World} {B g : Nat} {v : Value} {L : List (Wd × Nat)} (h : OwnW W B v L) (hg : v.ownBlock = some g) (k n : Nat) (hk : k < L.length) :
    OwnW (W.setCell ⟨g, k * 6 + 5, none⟩ (.int .i64 (n : Int))) B v (L.set k (L[k].1, n)) := by
  obtain ⟨hl, ⟨h0, _⟩ | ⟨g', cap, cur, hv, h1, hh, h2, h3, h4, h5⟩⟩ := h
  · rw [h0] at hg; cases hg
  · subst hv
    have hgg : g' = g := by injection hg
    subst hgg
    unfold OwnW
    rw [List.length_set]
    refine ⟨by rw [wcs_len, List.length_set], .inr ⟨g', cap, cur.setIfInBounds (k * 6 + 5) (.int .i64 (n : Int)), rfl, h1, ?_, h2, h3, by simpa using h4, ?_⟩⟩
    · have hlt := (Array.getElem?_eq_some_iff.1 hh).1
      simp [World.setCell, Array.getElem?_modify, hh]
    · rw [Array.toList_setIfInBounds, List.take_set, h5, wcs_set L k n hk]
theorem OwnW.aside {W : World} {B : Nat} {v : Value} {xs : List (Wd × Nat)} (h : OwnW W B v xs) (p : Addr) (u : Value) (hp : ∀ g, v.ownBlock = some g → g ≠ p.block) : OwnW (W.setCell p u) B v xs := by
  obtain ⟨hl, h0 | ⟨g, cap, cur, hv, hb, hh, r⟩⟩ := h
  · exact ⟨hl, .inl h0⟩
  · exact ⟨hl, .inr ⟨g, cap, cur, hv, hb, (Below.heap_setCell _ _ _ _ (hp g (by rw [hv]; rfl))).trans hh, r⟩⟩
theorem OwnW.at {W : World} {B n cap : Nat} {ad : Option Addr} {L : List (Wd × Nat)} (h : OwnW W B (.slice ad n cap) L) (hk : 0 < L.length) : ∃ g, ad = .some ⟨g, 0, none⟩ ∧ n = L.length := by
  obtain ⟨hl, ⟨_, h0⟩ | ⟨g, cap', cur, hv, _⟩⟩ := h
  · omega
  · injection hv with e1 e2
    exact ⟨g, e1, e2⟩
theorem OwnW.cellAt {W : World} {B n g cap : Nat} {L : List (Wd × Nat)} (h : OwnW W B (.slice (.some ⟨g, 0, none⟩) n cap) L) (k : Nat) (hk : k < L.length) : W.cell? ⟨g, k * 6 + 5, none⟩ = .some (.int .i64 (L[k].2 : Int)) ∧ W.frozen? ⟨g, k * 6 + 5, none⟩ = false := by
  have e : n = L.length := by
    obtain ⟨g', _, e⟩ := h.at (by omega); exact e
  subst e
  refine ⟨(World.ownsRow.cellAt h _ (by omega)).trans ?_, World.ownsRow.frozenAt h _⟩
  rw [wcs_get L k 5 hk (by omega)]
  rfl
theorem wcs_one (L : List (Wd × Nat)) : ∀ u ∈ wcs L, u.oneCell' = true := by
  intro u hu
  unfold wcs at hu
  rw [List.mem_flatten] at hu
  obtain ⟨l, hl, hu⟩ := hu
  rw [List.mem_map] at hl
  obtain ⟨x, _, rfl⟩ := hl
  exact wcl_one x u hu
theorem wcs_app (L M : List (Wd × Nat)) : wcs (L ++ M) = wcs L ++ wcs M := by simp [wcs]
/- 'append(v, x...)', both words of one's own. -/
theorem wpList_appW {w : World} {ops : Array Oper} {rest : List Oper} {o : Oper} {a : Act} {Q : Exit → Act → World → Prop} (hgd : o.guard = none) (s x : Operand) (ho : o.op = .call { callee := .builtin .append, args := #[s, x], argTypes := #[22, 22] })
    (B B2 : Nat) (v vx : Value) (xs L : List (Wd × Nat)) (hs : a.eval s = v) (hown : OwnW w B v xs) (hx : a.eval x = vx) (hr : OwnW w B2 vx L)
    (hl : xs.length + L.length ≤ 1000000000) (hB : B ≤ w.heap.size)
    (h : ∀ v' w', OwnW w' B v' (xs ++ L) → w.grownBy w' v.ownBlock → wpList Tryz.prog ops Q rest (a.put o.dst v') w') :
    wpList Tryz.prog ops Q (o :: rest) a w := by
  obtain ⟨i0, hi0, hz0, hz1, hz2⟩ := info_parts infoW
  have hr' := hr
  obtain ⟨hlL, ⟨rfl, h0⟩ | ⟨g, cap, cur, rfl, hb, hh, r⟩⟩ := hr
  · refine wpList_append_own_none hgd s x 22 ho B 68 i0 6 Tryz.underlying22 hi0 v xs.length (wcs xs) hs hown hx ?_
    have e : L = [] := List.length_eq_zero_iff.1 h0
    exact h v w (by rw [e, List.append_nil]; exact hown) (World.grownBy.refl _ _)
  · refine wpList_append_own_at w hgd s x 22 ho B 68 i0 (.agg z6) 6 56 Tryz.underlying22 hi0 hz0 hz1 hz2 rfl (by decide) v xs.length (wcs xs) hs hown ⟨g, 0, none⟩ L.length cap (wcs L) hx hlL (World.ownsRow.cells hr' rfl) (wcs_one L) (by unfold maxLen; omega) (by omega) hB ?_
    intro v' w' h1 h2 _ h4
    refine h v' w' ?_ h2
    unfold OwnW
    rw [List.length_append, wcs_app]
    exact h1
theorem OwnW.ne {W W' : World} {B p : Nat} {v : Value} {xs : List (Wd × Nat)} (h : OwnW W B v xs) (hf : FrP p W W') (hp : ∀ g, v.ownBlock = some g → g ≠ p) : OwnW W' B v xs := by
  obtain ⟨hl, h0 | ⟨g, cap, cur, hv, hb, hh, r⟩⟩ := h
  · exact ⟨hl, .inl h0⟩
  · exact ⟨hl, .inr ⟨g, cap, cur, hv, hb, (hf.block g (Array.getElem?_eq_some_iff.1 hh).1 (hp g (by rw [hv]; rfl))).trans hh, r⟩⟩
theorem OwnW.frE {W W' : World} {B : Nat} {E : Nat → Prop} {v : Value} {xs : List (Wd × Nat)} (h : OwnW W B v xs) (hf : Fr E W W') (hp : ∀ g, B ≤ g → ¬ E g) : OwnW W' B v xs := by
  obtain ⟨hl, h0 | ⟨g, cap, cur, hv, hb, hh, r⟩⟩ := h
  · exact ⟨hl, .inl h0⟩
  · exact ⟨hl, .inr ⟨g, cap, cur, hv, hb, (hf.block g (Array.getElem?_eq_some_iff.1 hh).1 (hp g hb)).trans hh, r⟩⟩
theorem OwnW.shape {W : World} {B : Nat} {v : Value} {xs : List (Wd × Nat)} (h : OwnW W B v xs) : ∃ ad cap, v = .slice ad xs.length cap := by
  obtain ⟨hl, ⟨rfl, h0⟩ | ⟨g, cap, cur, hv, _⟩⟩ := h
  · exact ⟨none, 0, by rw [h0]⟩
  · exact ⟨_, _, hv⟩
def shf (d : Nat) (ys : List (Wd × Nat)) : List (Wd × Nat) := ys.map fun x => (x.1, x.2 + d)
/- as many as k of them are shifted. -/
def Part (d k : Nat) (ys L : List (Wd × Nat)) : Prop := L.length = ys.length ∧ ∀ i (h : i < L.length) (h' : i < ys.length), L[i] = if i < k then (ys[i].1, ys[i].2 + d) else ys[i]
theorem Part.zero (d : Nat) (ys : List (Wd × Nat)) : Part d 0 ys ys := ⟨rfl, fun i h h' => by rw [if_neg (by omega)]⟩
theorem Part.step {d k : Nat} {ys L : List (Wd × Nat)} (h : Part d k ys L) (hk : k < L.length) : Part d (k + 1) ys (L.set k (L[k].1, L[k].2 + d)) := by
  refine ⟨by rw [List.length_set]; exact h.1, fun i h1 h2 => ?_⟩
  rw [List.length_set] at h1
  have hi := h.2 i h1 h2
  have hkk := h.2 k hk (by rw [← h.1]; exact hk)
  rw [if_neg (by omega)] at hkk
  rw [List.getElem_set]
  by_cases e : k = i
  · subst e
    rw [if_pos rfl, if_pos (by omega), hkk]
  · rw [if_neg e, hi]
    by_cases e2 : i < k
    · rw [if_pos e2, if_pos (by omega)]
    · rw [if_neg e2, if_neg (by omega)]
theorem Part.done {d : Nat} {ys L : List (Wd × Nat)} (h : Part d ys.length ys L) : L = shf d ys := by
  refine List.ext_getElem (by simp [shf]; exact h.1) fun i h1 h2 => ?_
  have hi : i < ys.length := by rw [← h.1]; exact h1
  rw [h.2 i h1 hi, if_pos hi]
  simp [shf]
theorem ok_len {s : List UInt8} {xs : List (Wd × Nat)} (h : toks s = .ok xs) : ∀ x ∈ xs, x.2 ≤ s.length := by
  have key : ∀ (m : Nat) (r : List UInt8) (n : Nat) (xs : List (Wd × Nat)), r.length = m → tk r n = .ok xs → ∀ x ∈ xs, x.2 ≤ n + c10 r := by
    intro m
    induction m using Nat.strongRecOn with
    | _ m ih =>
      intro r n xs hm h x hx
      by_cases h0 : r = []
      · rw [h0, tk_nil] at h; cases h; cases hx
      · cases hw : wdA r with
        | mk o r' =>
          cases o with
          | none => rw [tk_none h0 hw] at h; cases h
          | some y =>
            have hless := wdA_less hw
            have hsk := skip_le r'
            have hc := skip_c10 r'
            have hcc := wdA_c10 r
            rw [hw] at hcc
            simp only at hcc
            rw [tk_some h0 hw] at h
            cases ht : tk (skip r') (n + c10 r' - c10 (skip r')) with
            | error k => rw [ht] at h; cases h
            | ok ws =>
              rw [ht] at h
              cases h
              rcases List.mem_cons.1 hx with rfl | hx
              · show n ≤ _; omega
              · have := ih _ (by omega) _ _ _ rfl ht x hx
                omega
  intro x hx
  have h1 := key _ _ _ _ rfl h x hx
  have h2 := skip_c10 s
  have h3 := c10_le s
  omega
set_option maxHeartbeats 2000000 in
set_option maxRecDepth 100000 in
theorem joins_ok (a b : List UInt8) (xs ys : List (Wd × Nat)) (w : World) (hL : Ls w) (hab : a.length + b.length ≤ 65535) (h1 : toks a = .ok xs) (h2 : toks b = .ok ys) :
    Calls Tryz.prog 6 #[.string (txt a), .string (txt b)] w fun e w' => e = .returned (.bool true) ∧ Below w.heap.size w w' := by
  have HA : Hid (∀ W, Ls W → _) := fun W h => alive7 W h
  have HW1 : Hid (∀ W, Ls W → _) := fun W h => words_ok h1 (by omega) (txt a) rfl W h
  have HW2 : Hid (∀ W, Ls W → _) := fun W h => words_ok h2 (by omega) (txt b) rfl W h
  have h3 : toks (a ++ 10 :: b) = .ok (xs ++ shf (c10 a + 1) ys) := by rw [toks_join, h1, h2]; rfl
  have HW3 : Hid (∀ T W, T = txt (a ++ 10 :: b) → Ls W → _) := fun T W hT h => words_ok h3 (by simp; omega) T hT W h
  have HCat : Hid (txt a ++ txt [10] ++ txt b = txt (a ++ 10 :: b)) := by unfold Hid; rw [cat_txt, cat_txt]; simp
  have HL := hide hL
  obtain ⟨A, hA⟩ : ∃ A, A = txt a := ⟨_, rfl⟩
  have hAz : A.size = a.length := by rw [hA, txt_size]
  have HZ := hide hAz
  have hBz := txt_size b
  rw [← hA] at HW1 HCat ⊢
  have n1 : ¬ ((65535 : Int) < (A.size : Int)) := by omega
  have n2 : ¬ ((65535 : Int) < ((txt b).size : Int)) := by omega
  have n3 : ¬ ((65535 : Int) < (A.size : Int) + ((txt b).size : Int)) := by omega
  have hs1 : ¬ 9223372036854775807 < A.size + 1 := by omega
  have hs2 : ¬ 9223372036854775807 < A.size + 1 + (txt b).size := by omega
  have hAm : A.size ≤ 65535 := by omega
  have HG : Hid (∀ (j : Nat) (h : j < A.size) (h' : j < a.length), A[j] = a[j]) := fun j h h' => by subst hA; simp [txt, ByteArray.getElem_eq_getElem_data]
  have hln := ok_len h2
  have HLN : Hid (∀ x ∈ ys, x.2 ≤ 65536) := fun x hx => Nat.le_trans (hln x hx) (by omega)
  have hca : c10 a ≤ 65535 := by have := c10_le a; omega
  obtain ⟨i0, hi0, hz0, hz1, hz2⟩ := info_parts infoW
  obtain ⟨D, hD⟩ : ∃ D, D = c10 a + 1 := ⟨_, rfl⟩
  rw [← hD] at HW3
  have HD := hide hD
  have HCA := hide hca
  clear hL h1 h2 h3 hA hAz hBz hln hca hD
  generalize txt b = B at *
  go_enter Tryz.func6, Tryz.ntmps6
  go_wp2_with fail
  refine (HA.out _ HL.out).mono ?_
  rintro e w1 ⟨rfl, hb⟩
  have B1 := hide hb
  clear hb
  go_wp2_with fail
  refine (HW1.out _ (HL.out.below B1.out)).mono ?_
  rintro e w2 ⟨v1, rfl, ho1, hl1, hb⟩
  have B2 := hide (B1.out.trans (hb.mono B1.out.size))
  have S12 : Hid (w1.heap.size ≤ w2.heap.size) := hb.size
  have G1 : Hid (∀ g, v1.ownBlock = some g → g < w2.heap.size) := fun g hg => (ho1.block hg).2
  have O1 := hide ho1
  clear hb ho1
  go_wp2_with fail
  refine (HW2.out _ (HL.out.below B2.out)).mono ?_
  rintro e w3 ⟨v2, rfl, ho2, hl2, hb⟩
  have B3 := hide (B2.out.trans (hb.mono B2.out.size))
  have S23 : Hid (w2.heap.size ≤ w3.heap.size) := hb.size
  have G2 : Hid (∀ g, v2.ownBlock = some g → w2.heap.size ≤ g ∧ g < w3.heap.size) := fun g hg => ho2.block hg
  replace O1 := hide (O1.out.keep hb)
  have O2 := hide ho2
  clear hb ho2
  go_wp2_with fail
  refine (HW3.out _ _ (by rw [← HCat.out]; rfl) (HL.out.below B3.out)).mono ?_
  rintro e w4 ⟨v3, rfl, ho3, hl3, hb⟩
  have B4 := hide (B3.out.trans (hb.mono B3.out.size))
  have S34 : Hid (w3.heap.size ≤ w4.heap.size) := hb.size
  replace O1 := hide (O1.out.keep hb)
  replace O2 := hide (O2.out.keep hb)
  have O3 := hide ho3
  clear hb ho3
  obtain ⟨ad1, cap1, rfl⟩ := O1.out.shape
  obtain ⟨ad2, cap2, rfl⟩ := O2.out.shape
  obtain ⟨ad3, cap3, rfl⟩ := O3.out.shape
  have hl3' : (xs ++ shf D ys).length = xs.length + ys.length := by simp [shf]
  have HLL := hide hl3'
  rw [hl3'] at O3 hl3 ⊢
  clear hl3'
  go_wp2
  go_loop [14, 15] (fun vl vi => ∃ (j n : Nat), vl = .int .i64 (n : Int) ∧ vi = .int .i64 (j : Int) ∧ j ≤ A.size ∧ n ≤ j + 1 ∧ Hid (n = 1 + c10 (a.take j))) (fun _ vi => A.size - (intOf vi).toNat)
  case atStart => exact ⟨0, 1, rfl, rfl, by omega, by omega, by simp [Hid, c10]⟩
  case round =>
    obtain ⟨j, n, rfl, rfl, hj, hn, HC⟩ := hrel
    by_cases hlt : j < A.size
    · have hI : (j : Int) < (A.size : Int) := by omega
      have hltl : j < a.length := by rw [← HZ.out]; exact hlt
      have hg := HG.out j hlt hltl
      have hst := c10_step hltl
      by_cases h10 : (((A[j]).toNat : Nat) : Int) = 10
      · have e : a[j] = 10 := by rw [← hg]; exact UInt8.toNat_inj.1 (by rw [show (10 : UInt8).toNat = 10 from rfl]; omega)
        have HC2 : Hid (n + 1 = 1 + c10 (a.take (j + 1))) := by unfold Hid; rw [hst, if_pos e, HC.out]; omega
        clear HC hg hst e
        go_wp2
        exact ⟨⟨j + 1, n + 1, by congr 1, by congr 1, by omega, by omega, HC2⟩, by simp [intOf]; omega⟩
      · have e : ¬ a[j] = 10 := by rw [← hg]; intro e; rw [e] at h10; exact h10 rfl
        have HC2 : Hid (n = 1 + c10 (a.take (j + 1))) := by unfold Hid; rw [hst, if_neg e, HC.out]; omega
        clear HC hg hst e
        go_wp2
        exact ⟨⟨j + 1, n, rfl, by congr 1, by omega, by omega, HC2⟩, by simp [intOf]; omega⟩
    · have hI : ¬ ((j : Int) < (A.size : Int)) := by omega
      have hnD : n = D := by
        have h1 := HC.out
        rw [List.take_of_length_le (by rw [← HZ.out]; omega)] at h1
        have := HD.out
        omega
      subst hnD
      have hnb : n ≤ 65536 := by omega
      clear HC hn
      go_wp2
      have HI0 := hide hi0
      have HS4 : Hid (w1.heap.size ≤ w4.heap.size) := Nat.le_trans S12.out (Nat.le_trans S23.out S34.out)
      have HBw : Hid (w.heap.size ≤ w1.heap.size) := B1.out.size
      clear hi0 hz0 hz1 hz2 HW3 HD
      go_loopw [16] (fun vi wr => ∃ (k : Nat) (L : List (Wd × Nat)), vi = .int .i64 (k : Int) ∧ k ≤ ys.length ∧ Hid (Part n k ys L) ∧ Hid (OwnW wr w2.heap.size (.slice ad2 ys.length cap2) L) ∧ Hid (OwnW wr w1.heap.size (.slice ad1 xs.length cap1) xs) ∧ Hid (OwnW wr w3.heap.size (.slice ad3 (xs.length + ys.length) cap3) (xs ++ shf n ys)) ∧ Hid (Below w.heap.size w wr) ∧ Hid (wr.heap.size = w4.heap.size)) (fun vi _ => ys.length - (intOf vi).toNat)
      case atStart => exact ⟨0, ys, rfl, by omega, Part.zero _ _, O2, O1, O3, B4, rfl⟩
      case round =>
        obtain ⟨k, L, rfl, hk, HP, P2, P1, P3, HB, HZw⟩ := hrel
        clear O1 O2 O3
        by_cases hlt2 : k < ys.length
        · have hkI : (k : Int) < (ys.length : Int) := by omega
          have hkL : k < L.length := by rw [HP.out.1]; exact hlt2
          obtain ⟨g, rfl, _⟩ := P2.out.at (by omega)
          obtain ⟨hc, hfz⟩ := P2.out.cellAt k hkL
          have hLk : L[k].2 ≤ 65536 := by
            rw [HP.out.2 k hkL hlt2, if_neg (by omega)]
            exact HLN.out _ (List.getElem_mem _)
          have HX := hide (HP.out.step hkL)
          have HQ := hide (P2.out.set (g := g) rfl k (L[k].2 + n) hkL)
          have hG2 := G2.out g rfl
          have Q1 := hide (P1.out.aside ⟨g, k * 6 + 5, none⟩ (.int .i64 ((L[k].2 + n : Nat) : Int)) (fun gg e => by have := G1.out gg e; show gg ≠ g; omega))
          have Q3 := hide (P3.out.aside ⟨g, k * 6 + 5, none⟩ (.int .i64 ((L[k].2 + n : Nat) : Int)) (fun gg e => by have := (P3.out.block e).1; show gg ≠ g; omega))
          have QB := hide (HB.out.setCell (p := ⟨g, k * 6 + 5, none⟩) (by have := HBw.out; have := S12.out; show w.heap.size ≤ g; omega) (.int .i64 ((L[k].2 + n : Nat) : Int)))
          clear HP P2 P1 P3 HB
          have hgw : g < wr.heap.size := by rw [HZw.out]; have := S34.out; omega
          clear hG2
          revert HX HQ
          generalize L.set k (L[k].1, L[k].2 + n) = L2
          intro HX HQ
          generalize L[k].2 = ln at *
          go_wp2
          have ec : ((ln : Int) + (n : Int)) = ((ln + n : Nat) : Int) := by omega
          rw [ec]
          refine ⟨⟨k + 1, L2, by congr 1, by omega, HX, HQ, Q1, Q3, QB, ?_⟩, by simp [intOf]; omega⟩
          unfold Hid
          rw [← HZw.out]
          simp [World.setCell]
        · have hkI : ¬ ((k : Int) < (ys.length : Int)) := by omega
          obtain rfl : k = ys.length := by omega
          have hLs := HP.out.done
          subst hLs
          clear HP
          go_wp2_with (at_builtin; refine wpList_appW rfl _ _ rfl w1.heap.size w2.heap.size _ _ xs (shf n ys) rfl P1.out rfl P2.out (by simp [shf]; omega) (by show _ ≤ wr.heap.size; rw [HZw.out]; exact HS4.out) ?_; intro v' w5 ho' hg')
          have HO := hide ho'
          have hfr : Fr (fun b => b < w2.heap.size) wr w5 := Fr.grown hg' (fun r e => G1.out r e)
          have P3' := hide (P3.out.frE hfr (fun g hg => by have := S23.out; omega))
          have HB5 := hide (HB.out.grown hg' (by show _ ≤ wr.heap.size; exact HB.out.size) (fun r e => by have := (P1.out.block e).1; have := HBw.out; omega))
          clear ho' hg' hfr
          go_wp2_with fail
          refine (sameW_yes _ _ _ _ (by rw [HLL.out]; omega) P3'.out.sl HO.out.sl).mono ?_
          rintro e w6 ⟨rfl, hb⟩
          have HB6 := hide (HB5.out.trans (hb.mono HB5.out.size))
          clear hb
          go_wp2
          go_ret
          exact ⟨rfl, HB6.out⟩
end Go.Proofs.YtfanhdjebmdniaaGreatDoor
