/- Pieces of the proof: BnA. -/
import Derived.Test.YtbemfjdloeipmaaGreatDoorM34
import Derived.Test.YtbemfjdloeipmaaGreatDoorM35
import Derived.Test.YtbemfjdloeipmaaGreatDoorM36
import Derived.Test.YtbemfjdloeipmaaGreatDoorM38
import Derived.Test.YtbemfjdloeipmaaGreatDoorM39
/- Apart of a Book that was told lists of ints and lists of numbers. -/
namespace Go.Proofs.YtbemfjdloeipmaaGreatDoor
open Go.RowKit

/- A Book in whose lists no memory is shared. -/
structure BokN (W : World) (B g : Nat) (vi : Value) (is : List Hc) (vn : Value) (ns : List Hc) : Prop where
  bi : GB 113 1 W B g vi is
  bn : GB 132 6 W B g vn ns
  cz : ∀ o, 1 ≤ o → o ≤ 30 → o ≠ 1 → o ≠ 6 → W.cell? ⟨g, o, none⟩ = some (.slice none 0 0)
  si : SepC g vi is
  sn : SepC g vn ns
  oi : ∀ x ∈ is, ∃ xs, W.ownsRow B 3 1 x.v x.n xs
  on : ∀ x ∈ ns, ∃ xs, W.ownsRow B 29 3 x.v x.n xs
  li : ∀ x ∈ is, x.n ≤ 100000000 ∧ x.m < 1000000000 ∧ ∃ a n c, x.vl = .slice a n c
  ln : ∀ x ∈ ns, x.n ≤ 100000000 ∧ x.m < 1000000000 ∧ ∃ a n c, x.vl = .slice a n c
  ni : is.length ≤ 1000000
  nn : ns.length ≤ 1000000
/- Blocks of the two kinds are others, by their types. -/
theorem BokN.x {W : World} {B g : Nat} {vi vn : Value} {is ns : List Hc} (h : BokN W B g vi is vn ns) : ∀ b, GEc is vi b → ¬ GEc ns vn b := fun b h1 h2 => by
  have k1 : ∃ e c, W.heap[b]? = some (.cells c e (0, 0)) ∧ (e = 3 ∨ e = 113) := by
    rcases h1 with ⟨x, hx, e⟩ | e
    · obtain ⟨xs, ho⟩ := h.oi x hx; obtain ⟨c, hc⟩ := row_ty ho e; exact ⟨_, c, hc, .inl rfl⟩
    · obtain ⟨c, hc⟩ := row_ty h.bi.row e; exact ⟨_, c, hc, .inr rfl⟩
  have k2 : ∃ e c, W.heap[b]? = some (.cells c e (0, 0)) ∧ (e = 29 ∨ e = 132) := by
    rcases h2 with ⟨x, hx, e⟩ | e
    · obtain ⟨xs, ho⟩ := h.on x hx; obtain ⟨c, hc⟩ := row_ty ho e; exact ⟨_, c, hc, .inl rfl⟩
    · obtain ⟨c, hc⟩ := row_ty h.bn.row e; exact ⟨_, c, hc, .inr rfl⟩
  obtain ⟨e1, c1, q1, r1⟩ := k1
  obtain ⟨e2, c2, q2, r2⟩ := k2
  have e := ty_ne q1 q2
  rcases r1 with rfl | rfl <;> rcases r2 with rfl | rfl <;> exact absurd e (by decide)
/- What grew of one kind stands while the other one grows. -/
theorem GrC.move {ht o et c : Nat} {mk : Nat → List Value} (hmk : ∀ m, (mk m).length = c) {W wr w' : World} {B g : Nat} {vb : Value} {hs ks : List Hc} {E : Nat → Prop} (h : GrC ht o et c mk W wr B g vb hs ks ks.length) (hf : Fr E wr w') (h1 : ¬ E g) (h2 : ∀ b, LEc hs b → ¬ E b) (h3 : ∀ b cur, wr.heap[b]? = some (.cells cur et (0, 0)) → ¬ E b) (h4 : ∀ b, vb.ownBlock = some b → ¬ E b) : GrC ht o et c mk w' w' B g vb hs ks ks.length := by
  refine ⟨h.bk.fr hf h1 h4, h.sep, h.lim, fun j hj hk => ?_, fun j hj hk => by omega, Fr.refl _ _, h.le⟩
  obtain ⟨d1, d2, d3⟩ := h.dn j hj hk
  refine ⟨owR_fr d1 hf (fun b hb => ?_), d2.fr (hmk _) hf (fun b hb => h2 b (h.le b ⟨_, List.getElem_mem hj, hb⟩)), d3⟩
  obtain ⟨cur, hc⟩ := row_ty d1 hb
  exact h3 b cur hc
set_option maxRecDepth 100000 in
set_option maxHeartbeats 8000000 in
theorem apartN_yes {W : World} {B g : Nat} {vi vn : Value} {is ns : List Hc} (h : BokN W B g vi is vn ns) : Calls Tryz.prog 18 #[.pointer (some ⟨g, 0, none⟩)] W fun e W' => e = .returned (.bool true) ∧ Fr (fun b => GEc is vi b ∨ GEc ns vn b) W W' := by
  have HB := hide h
  have HX := hide h.x
  have NI : Hid (¬ GEc is vi g) := fun e => by
    rcases e with e | e
    · exact h.si.nE.1 e
    · exact h.bi.ne e
  have NN : Hid (¬ GEc ns vn g) := fun e => by
    rcases e with e | e
    · exact h.sn.nE.1 e
    · exact h.bn.ne e
  have Z1 := hide h.cz
  clear h
  go_enter Tryz.func18, Tryz.ntmps18
  go_wp2_with fail
  refine (fillInt_any ⟨HB.out.bi, fun j hj hk => by omega, fun j hj _ => HB.out.oi _ (List.getElem_mem hj), Fr.refl _ _⟩ HB.out.si HB.out.li HB.out.ni).mono ?_
  rintro e W1 ⟨rfl, hF⟩
  have F1 := hide hF
  have Z2 : Hid (∀ o, 1 ≤ o → o ≤ 30 → o ≠ 1 → o ≠ 6 → W1.cell? ⟨g, o, none⟩ = some (.slice none 0 0)) := fun o h1 h2 h3 h4 => hF.fr.cell (Z1.out o h1 h2 h3 h4) (fun e => NI.out (.inl e))
  have Q1 : Hid (FlNumber W1 W1 B g vn ns 0) := ⟨HB.out.bn.fr hF.fr (fun e => NI.out (.inl e)) (fun b hb e => HX.out b (.inl e) (.inr hb)), fun j hj hk => by omega, fun j hj _ => by
    obtain ⟨xs, ho⟩ := HB.out.on _ (List.getElem_mem hj)
    exact ⟨xs, owR_fr ho hF.fr (fun b hb e => HX.out b (.inl e) (.inl ⟨_, List.getElem_mem hj, hb⟩))⟩, Fr.refl _ _⟩
  have R1 := hide hF.fr
  clear hF Z1
  go_wp2_with fail
  refine (fillByte_no g _ (Z2.out 2 (by decide) (by decide) (by decide) (by decide))).mono ?_
  rintro e w1 ⟨rfl, hw⟩
  subst w1
  go_wp2_with fail
  refine (fillKind_no g _ (Z2.out 3 (by decide) (by decide) (by decide) (by decide))).mono ?_
  rintro e w1 ⟨rfl, hw⟩
  subst w1
  go_wp2_with fail
  refine (fillText_no g _ (Z2.out 4 (by decide) (by decide) (by decide) (by decide))).mono ?_
  rintro e w1 ⟨rfl, hw⟩
  subst w1
  go_wp2_with fail
  refine (fillBlob_no g _ (Z2.out 5 (by decide) (by decide) (by decide) (by decide))).mono ?_
  rintro e w1 ⟨rfl, hw⟩
  subst w1
  go_wp2_with fail
  refine (fillNumber_any Q1.out HB.out.sn HB.out.ln HB.out.nn).mono ?_
  rintro e W2 ⟨rfl, hF⟩
  have Q2 := hide hF
  have R2 := hide hF.fr
  have G2 : Hid (GrInt W2 W2 B g vi is is 0) := ⟨F1.out.bk.fr hF.fr (fun e => NN.out (.inl e)) (fun b hb e => HX.out b (.inr hb) (.inl e)), HB.out.si, HB.out.li, fun j _ hj => by omega, fun j hj _ => owR_fr (F1.out.dn j hj hj) hF.fr (fun b hb e => HX.out b (.inl ⟨_, List.getElem_mem hj, hb⟩) (.inl e)), Fr.refl _ _, fun b hb => hb⟩
  have Z3 : Hid (∀ o, 1 ≤ o → o ≤ 30 → o ≠ 1 → o ≠ 6 → W2.cell? ⟨g, o, none⟩ = some (.slice none 0 0)) := fun o h1 h2 h3 h4 => hF.fr.cell (Z2.out o h1 h2 h3 h4) (fun e => NN.out (.inl e))
  clear hF Q1 F1 Z2
  go_wp2_with fail
  refine (fillWord_no g _ (Z3.out 7 (by decide) (by decide) (by decide) (by decide))).mono ?_
  rintro e w1 ⟨rfl, hw⟩
  subst w1
  go_wp2_with fail
  refine (fillField_no g _ (Z3.out 8 (by decide) (by decide) (by decide) (by decide))).mono ?_
  rintro e w1 ⟨rfl, hw⟩
  subst w1
  go_wp2_with fail
  refine (fillMatch_no g _ (Z3.out 9 (by decide) (by decide) (by decide) (by decide))).mono ?_
  rintro e w1 ⟨rfl, hw⟩
  subst w1
  go_wp2_with fail
  refine (fillArr_no g _ (Z3.out 10 (by decide) (by decide) (by decide) (by decide))).mono ?_
  rintro e w1 ⟨rfl, hw⟩
  subst w1
  go_wp2_with fail
  refine (fillCase_no g _ (Z3.out 11 (by decide) (by decide) (by decide) (by decide))).mono ?_
  rintro e w1 ⟨rfl, hw⟩
  subst w1
  go_wp2_with fail
  refine (fillJump_no g _ (Z3.out 12 (by decide) (by decide) (by decide) (by decide))).mono ?_
  rintro e w1 ⟨rfl, hw⟩
  subst w1
  go_wp2_with fail
  refine (fillExpr_no g _ (Z3.out 13 (by decide) (by decide) (by decide) (by decide))).mono ?_
  rintro e w1 ⟨rfl, hw⟩
  subst w1
  go_wp2_with fail
  refine (fillStmt_no g _ (Z3.out 14 (by decide) (by decide) (by decide) (by decide))).mono ?_
  rintro e w1 ⟨rfl, hw⟩
  subst w1
  go_wp2_with fail
  refine (fillState_no g _ (Z3.out 15 (by decide) (by decide) (by decide) (by decide))).mono ?_
  rintro e w1 ⟨rfl, hw⟩
  subst w1
  go_wp2_with fail
  refine (fillKey_no g _ (Z3.out 16 (by decide) (by decide) (by decide) (by decide))).mono ?_
  rintro e w1 ⟨rfl, hw⟩
  subst w1
  go_wp2_with fail
  refine (fillDecl_no g _ (Z3.out 17 (by decide) (by decide) (by decide) (by decide))).mono ?_
  rintro e w1 ⟨rfl, hw⟩
  subst w1
  go_wp2_with fail
  refine (fillEntry_no g _ (Z3.out 18 (by decide) (by decide) (by decide) (by decide))).mono ?_
  rintro e w1 ⟨rfl, hw⟩
  subst w1
  go_wp2_with fail
  refine (fillGroup_no g _ (Z3.out 19 (by decide) (by decide) (by decide) (by decide))).mono ?_
  rintro e w1 ⟨rfl, hw⟩
  subst w1
  go_wp2_with fail
  refine (fillHead_no g _ (Z3.out 20 (by decide) (by decide) (by decide) (by decide))).mono ?_
  rintro e w1 ⟨rfl, hw⟩
  subst w1
  go_wp2_with fail
  refine (fillNode_no g _ (Z3.out 21 (by decide) (by decide) (by decide) (by decide))).mono ?_
  rintro e w1 ⟨rfl, hw⟩
  subst w1
  go_wp2_with fail
  refine (fillAct_no g _ (Z3.out 22 (by decide) (by decide) (by decide) (by decide))).mono ?_
  rintro e w1 ⟨rfl, hw⟩
  subst w1
  go_wp2_with fail
  refine (fillTable_no g _ (Z3.out 23 (by decide) (by decide) (by decide) (by decide))).mono ?_
  rintro e w1 ⟨rfl, hw⟩
  subst w1
  go_wp2_with fail
  refine (fillIns_no g _ (Z3.out 24 (by decide) (by decide) (by decide) (by decide))).mono ?_
  rintro e w1 ⟨rfl, hw⟩
  subst w1
  go_wp2_with fail
  refine (fillEffect_no g _ (Z3.out 25 (by decide) (by decide) (by decide) (by decide))).mono ?_
  rintro e w1 ⟨rfl, hw⟩
  subst w1
  go_wp2_with fail
  refine (fillUpdate_no g _ (Z3.out 26 (by decide) (by decide) (by decide) (by decide))).mono ?_
  rintro e w1 ⟨rfl, hw⟩
  subst w1
  go_wp2_with fail
  refine (fillEvent_no g _ (Z3.out 27 (by decide) (by decide) (by decide) (by decide))).mono ?_
  rintro e w1 ⟨rfl, hw⟩
  subst w1
  go_wp2_with fail
  refine (fillOut_no g _ (Z3.out 28 (by decide) (by decide) (by decide) (by decide))).mono ?_
  rintro e w1 ⟨rfl, hw⟩
  subst w1
  go_wp2_with fail
  refine (fillRow_no g _ (Z3.out 29 (by decide) (by decide) (by decide) (by decide))).mono ?_
  rintro e w1 ⟨rfl, hw⟩
  subst w1
  go_wp2_with fail
  refine (fillArray_no g _ (Z3.out 30 (by decide) (by decide) (by decide) (by decide))).mono ?_
  rintro e w1 ⟨rfl, hw⟩
  subst w1
  go_wp2_with fail
  refine (growInt_any G2.out HB.out.ni).mono ?_
  rintro e W3 ⟨rfl, ks, hkl, hG⟩
  have G3 := hide hG
  have R3 := hide hG.fr
  have Z4 : Hid (∀ o, 1 ≤ o → o ≤ 30 → o ≠ 1 → o ≠ 6 → W3.cell? ⟨g, o, none⟩ = some (.slice none 0 0)) := fun o h1 h2 h3 h4 => hG.fr.cell (Z3.out o h1 h2 h3 h4) NI.out
  have NK : Hid (ks.length ≤ 1000000) := by have := HB.out.ni; show _ ≤ _; omega
  have Q3 : Hid (GrNumber W3 W3 B g vn ns ns 0) := ⟨Q2.out.bk.fr hG.fr NI.out (fun b hb e => HX.out b e (.inr hb)), HB.out.sn, HB.out.ln, fun j hj hk => by omega, fun j hj _ => owR_fr (Q2.out.dn j hj hj) hG.fr (fun b hb e => HX.out b e (.inl ⟨_, List.getElem_mem hj, hb⟩)), Fr.refl _ _, fun b hb => hb⟩
  clear hG hkl G2 Q2 Z3
  go_wp2_with fail
  refine (growByte_no g _ (Z4.out 2 (by decide) (by decide) (by decide) (by decide))).mono ?_
  rintro e w1 ⟨rfl, hw⟩
  subst w1
  go_wp2_with fail
  refine (growKind_no g _ (Z4.out 3 (by decide) (by decide) (by decide) (by decide))).mono ?_
  rintro e w1 ⟨rfl, hw⟩
  subst w1
  go_wp2_with fail
  refine (growText_no g _ (Z4.out 4 (by decide) (by decide) (by decide) (by decide))).mono ?_
  rintro e w1 ⟨rfl, hw⟩
  subst w1
  go_wp2_with fail
  refine (growBlob_no g _ (Z4.out 5 (by decide) (by decide) (by decide) (by decide))).mono ?_
  rintro e w1 ⟨rfl, hw⟩
  subst w1
  go_wp2_with fail
  refine (growNumber_any Q3.out HB.out.nn).mono ?_
  rintro e W4 ⟨rfl, kq, hkl, hG⟩
  have Q4 := hide hG
  have R4 := hide hG.fr
  have NQK : Hid (kq.length ≤ 1000000) := by have := HB.out.nn; show _ ≤ _; omega
  have G4 : Hid (GrInt W4 W4 B g vi is ks ks.length) := G3.out.move mkInt_len hG.fr NN.out (fun b hb => HX.out b (.inl hb)) (fun b cur hh e => by
    rcases e with ⟨x, hx, e⟩ | e
    · obtain ⟨j, hj, rfl⟩ := List.getElem_of_mem hx
      obtain ⟨c2, e2⟩ := row_ty (Q3.out.td j hj (Nat.zero_le _)) e; exact absurd (ty_ne hh e2) (by decide)
    · obtain ⟨c2, e2⟩ := row_ty Q3.out.bk.row e; exact absurd (ty_ne hh e2) (by decide)) (fun b hb => HX.out b (.inr hb))
  have Z5 : Hid (∀ o, 1 ≤ o → o ≤ 30 → o ≠ 1 → o ≠ 6 → W4.cell? ⟨g, o, none⟩ = some (.slice none 0 0)) := fun o h1 h2 h3 h4 => hG.fr.cell (Z4.out o h1 h2 h3 h4) NN.out
  clear hG hkl G3 Q3 Z4
  go_wp2_with fail
  refine (growWord_no g _ (Z5.out 7 (by decide) (by decide) (by decide) (by decide))).mono ?_
  rintro e w1 ⟨rfl, hw⟩
  subst w1
  go_wp2_with fail
  refine (growField_no g _ (Z5.out 8 (by decide) (by decide) (by decide) (by decide))).mono ?_
  rintro e w1 ⟨rfl, hw⟩
  subst w1
  go_wp2_with fail
  refine (growMatch_no g _ (Z5.out 9 (by decide) (by decide) (by decide) (by decide))).mono ?_
  rintro e w1 ⟨rfl, hw⟩
  subst w1
  go_wp2_with fail
  refine (growArr_no g _ (Z5.out 10 (by decide) (by decide) (by decide) (by decide))).mono ?_
  rintro e w1 ⟨rfl, hw⟩
  subst w1
  go_wp2_with fail
  refine (growCase_no g _ (Z5.out 11 (by decide) (by decide) (by decide) (by decide))).mono ?_
  rintro e w1 ⟨rfl, hw⟩
  subst w1
  go_wp2_with fail
  refine (growJump_no g _ (Z5.out 12 (by decide) (by decide) (by decide) (by decide))).mono ?_
  rintro e w1 ⟨rfl, hw⟩
  subst w1
  go_wp2_with fail
  refine (growExpr_no g _ (Z5.out 13 (by decide) (by decide) (by decide) (by decide))).mono ?_
  rintro e w1 ⟨rfl, hw⟩
  subst w1
  go_wp2_with fail
  refine (growStmt_no g _ (Z5.out 14 (by decide) (by decide) (by decide) (by decide))).mono ?_
  rintro e w1 ⟨rfl, hw⟩
  subst w1
  go_wp2_with fail
  refine (growState_no g _ (Z5.out 15 (by decide) (by decide) (by decide) (by decide))).mono ?_
  rintro e w1 ⟨rfl, hw⟩
  subst w1
  go_wp2_with fail
  refine (growKey_no g _ (Z5.out 16 (by decide) (by decide) (by decide) (by decide))).mono ?_
  rintro e w1 ⟨rfl, hw⟩
  subst w1
  go_wp2_with fail
  refine (growDecl_no g _ (Z5.out 17 (by decide) (by decide) (by decide) (by decide))).mono ?_
  rintro e w1 ⟨rfl, hw⟩
  subst w1
  go_wp2_with fail
  refine (growEntry_no g _ (Z5.out 18 (by decide) (by decide) (by decide) (by decide))).mono ?_
  rintro e w1 ⟨rfl, hw⟩
  subst w1
  go_wp2_with fail
  refine (growGroup_no g _ (Z5.out 19 (by decide) (by decide) (by decide) (by decide))).mono ?_
  rintro e w1 ⟨rfl, hw⟩
  subst w1
  go_wp2_with fail
  refine (growHead_no g _ (Z5.out 20 (by decide) (by decide) (by decide) (by decide))).mono ?_
  rintro e w1 ⟨rfl, hw⟩
  subst w1
  go_wp2_with fail
  refine (growNode_no g _ (Z5.out 21 (by decide) (by decide) (by decide) (by decide))).mono ?_
  rintro e w1 ⟨rfl, hw⟩
  subst w1
  go_wp2_with fail
  refine (growAct_no g _ (Z5.out 22 (by decide) (by decide) (by decide) (by decide))).mono ?_
  rintro e w1 ⟨rfl, hw⟩
  subst w1
  go_wp2_with fail
  refine (growTable_no g _ (Z5.out 23 (by decide) (by decide) (by decide) (by decide))).mono ?_
  rintro e w1 ⟨rfl, hw⟩
  subst w1
  go_wp2_with fail
  refine (growIns_no g _ (Z5.out 24 (by decide) (by decide) (by decide) (by decide))).mono ?_
  rintro e w1 ⟨rfl, hw⟩
  subst w1
  go_wp2_with fail
  refine (growEffect_no g _ (Z5.out 25 (by decide) (by decide) (by decide) (by decide))).mono ?_
  rintro e w1 ⟨rfl, hw⟩
  subst w1
  go_wp2_with fail
  refine (growUpdate_no g _ (Z5.out 26 (by decide) (by decide) (by decide) (by decide))).mono ?_
  rintro e w1 ⟨rfl, hw⟩
  subst w1
  go_wp2_with fail
  refine (growEvent_no g _ (Z5.out 27 (by decide) (by decide) (by decide) (by decide))).mono ?_
  rintro e w1 ⟨rfl, hw⟩
  subst w1
  go_wp2_with fail
  refine (growOut_no g _ (Z5.out 28 (by decide) (by decide) (by decide) (by decide))).mono ?_
  rintro e w1 ⟨rfl, hw⟩
  subst w1
  go_wp2_with fail
  refine (growRow_no g _ (Z5.out 29 (by decide) (by decide) (by decide) (by decide))).mono ?_
  rintro e w1 ⟨rfl, hw⟩
  subst w1
  go_wp2_with fail
  refine (growArray_no g _ (Z5.out 30 (by decide) (by decide) (by decide) (by decide))).mono ?_
  rintro e w1 ⟨rfl, hw⟩
  subst w1
  go_wp2_with fail
  refine (lookInt_any G4.out NK.out).mono ?_
  rintro e W5 ⟨rfl, hb⟩
  have Z6 : Hid (∀ o, 1 ≤ o → o ≤ 30 → o ≠ 1 → o ≠ 6 → W5.cell? ⟨g, o, none⟩ = some (.slice none 0 0)) := fun o h1 h2 h3 h4 => (Fr.ofBelow (E := fun _ => False) hb).cell (Z5.out o h1 h2 h3 h4) (fun e => e)
  have Q5 := hide (Q4.out.next mkNumber_len hb)
  have R5 := hide hb
  clear hb G4 Q4 Z5
  go_wp2_with fail
  refine (lookByte_no g _ (Z6.out 2 (by decide) (by decide) (by decide) (by decide))).mono ?_
  rintro e w1 ⟨rfl, hw⟩
  subst w1
  go_wp2_with fail
  refine (lookKind_no g _ (Z6.out 3 (by decide) (by decide) (by decide) (by decide))).mono ?_
  rintro e w1 ⟨rfl, hw⟩
  subst w1
  go_wp2_with fail
  refine (lookText_no g _ (Z6.out 4 (by decide) (by decide) (by decide) (by decide))).mono ?_
  rintro e w1 ⟨rfl, hw⟩
  subst w1
  go_wp2_with fail
  refine (lookBlob_no g _ (Z6.out 5 (by decide) (by decide) (by decide) (by decide))).mono ?_
  rintro e w1 ⟨rfl, hw⟩
  subst w1
  go_wp2_with fail
  refine (lookNumber_any Q5.out NQK.out).mono ?_
  rintro e W6 ⟨rfl, hb⟩
  have Z7 : Hid (∀ o, 1 ≤ o → o ≤ 30 → o ≠ 1 → o ≠ 6 → W6.cell? ⟨g, o, none⟩ = some (.slice none 0 0)) := fun o h1 h2 h3 h4 => (Fr.ofBelow (E := fun _ => False) hb).cell (Z6.out o h1 h2 h3 h4) (fun e => e)
  have R6 : Hid (Fr (fun b => GEc is vi b ∨ GEc ns vn b) W W6) := by
    have a1 : Fr (fun b => GEc is vi b ∨ GEc ns vn b) W W1 := ⟨R1.out.os, R1.out.tape, R1.out.output, R1.out.size, fun b h1 h2 => R1.out.block b h1 (fun e => h2 (.inl (.inl e)))⟩
    have a2 := a1.trans R2.out (fun b _ e => .inr (.inl e))
    have a3 := a2.trans R3.out (fun b _ e => .inl e)
    have a4 := a3.trans R4.out (fun b _ e => .inr e)
    have a5 := a4.trans (E' := fun _ => False) (Fr.ofBelow R5.out) (fun _ _ e => e.elim)
    exact a5.trans (E' := fun _ => False) (Fr.ofBelow hb) (fun _ _ e => e.elim)
  clear hb Q5 Z6 R1 R2 R3 R4 R5
  go_wp2_with fail
  refine (lookWord_no g _ (Z7.out 7 (by decide) (by decide) (by decide) (by decide))).mono ?_
  rintro e w1 ⟨rfl, hw⟩
  subst w1
  go_wp2_with fail
  refine (lookField_no g _ (Z7.out 8 (by decide) (by decide) (by decide) (by decide))).mono ?_
  rintro e w1 ⟨rfl, hw⟩
  subst w1
  go_wp2_with fail
  refine (lookMatch_no g _ (Z7.out 9 (by decide) (by decide) (by decide) (by decide))).mono ?_
  rintro e w1 ⟨rfl, hw⟩
  subst w1
  go_wp2_with fail
  refine (lookArr_no g _ (Z7.out 10 (by decide) (by decide) (by decide) (by decide))).mono ?_
  rintro e w1 ⟨rfl, hw⟩
  subst w1
  go_wp2_with fail
  refine (lookCase_no g _ (Z7.out 11 (by decide) (by decide) (by decide) (by decide))).mono ?_
  rintro e w1 ⟨rfl, hw⟩
  subst w1
  go_wp2_with fail
  refine (lookJump_no g _ (Z7.out 12 (by decide) (by decide) (by decide) (by decide))).mono ?_
  rintro e w1 ⟨rfl, hw⟩
  subst w1
  go_wp2_with fail
  refine (lookExpr_no g _ (Z7.out 13 (by decide) (by decide) (by decide) (by decide))).mono ?_
  rintro e w1 ⟨rfl, hw⟩
  subst w1
  go_wp2_with fail
  refine (lookStmt_no g _ (Z7.out 14 (by decide) (by decide) (by decide) (by decide))).mono ?_
  rintro e w1 ⟨rfl, hw⟩
  subst w1
  go_wp2_with fail
  refine (lookState_no g _ (Z7.out 15 (by decide) (by decide) (by decide) (by decide))).mono ?_
  rintro e w1 ⟨rfl, hw⟩
  subst w1
  go_wp2_with fail
  refine (lookKey_no g _ (Z7.out 16 (by decide) (by decide) (by decide) (by decide))).mono ?_
  rintro e w1 ⟨rfl, hw⟩
  subst w1
  go_wp2_with fail
  refine (lookDecl_no g _ (Z7.out 17 (by decide) (by decide) (by decide) (by decide))).mono ?_
  rintro e w1 ⟨rfl, hw⟩
  subst w1
  go_wp2_with fail
  refine (lookEntry_no g _ (Z7.out 18 (by decide) (by decide) (by decide) (by decide))).mono ?_
  rintro e w1 ⟨rfl, hw⟩
  subst w1
  go_wp2_with fail
  refine (lookGroup_no g _ (Z7.out 19 (by decide) (by decide) (by decide) (by decide))).mono ?_
  rintro e w1 ⟨rfl, hw⟩
  subst w1
  go_wp2_with fail
  refine (lookHead_no g _ (Z7.out 20 (by decide) (by decide) (by decide) (by decide))).mono ?_
  rintro e w1 ⟨rfl, hw⟩
  subst w1
  go_wp2_with fail
  refine (lookNode_no g _ (Z7.out 21 (by decide) (by decide) (by decide) (by decide))).mono ?_
  rintro e w1 ⟨rfl, hw⟩
  subst w1
  go_wp2_with fail
  refine (lookAct_no g _ (Z7.out 22 (by decide) (by decide) (by decide) (by decide))).mono ?_
  rintro e w1 ⟨rfl, hw⟩
  subst w1
  go_wp2_with fail
  refine (lookTable_no g _ (Z7.out 23 (by decide) (by decide) (by decide) (by decide))).mono ?_
  rintro e w1 ⟨rfl, hw⟩
  subst w1
  go_wp2_with fail
  refine (lookIns_no g _ (Z7.out 24 (by decide) (by decide) (by decide) (by decide))).mono ?_
  rintro e w1 ⟨rfl, hw⟩
  subst w1
  go_wp2_with fail
  refine (lookEffect_no g _ (Z7.out 25 (by decide) (by decide) (by decide) (by decide))).mono ?_
  rintro e w1 ⟨rfl, hw⟩
  subst w1
  go_wp2_with fail
  refine (lookUpdate_no g _ (Z7.out 26 (by decide) (by decide) (by decide) (by decide))).mono ?_
  rintro e w1 ⟨rfl, hw⟩
  subst w1
  go_wp2_with fail
  refine (lookEvent_no g _ (Z7.out 27 (by decide) (by decide) (by decide) (by decide))).mono ?_
  rintro e w1 ⟨rfl, hw⟩
  subst w1
  go_wp2_with fail
  refine (lookOut_no g _ (Z7.out 28 (by decide) (by decide) (by decide) (by decide))).mono ?_
  rintro e w1 ⟨rfl, hw⟩
  subst w1
  go_wp2_with fail
  refine (lookRow_no g _ (Z7.out 29 (by decide) (by decide) (by decide) (by decide))).mono ?_
  rintro e w1 ⟨rfl, hw⟩
  subst w1
  go_wp2_with fail
  refine (lookArray_no g _ (Z7.out 30 (by decide) (by decide) (by decide) (by decide))).mono ?_
  rintro e w1 ⟨rfl, hw⟩
  subst w1
  go_wp2
  go_ret
  exact ⟨rfl, R6.out⟩
end Go.Proofs.YtbemfjdloeipmaaGreatDoor
