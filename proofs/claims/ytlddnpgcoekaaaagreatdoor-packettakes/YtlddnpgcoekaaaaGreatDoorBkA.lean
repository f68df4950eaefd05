/- Apart of a Book that was told lists of bytes alone. -/
import Derived.Test.YtlddnpgcoekaaaaGreatDoorBkE
import Derived.Test.YtlddnpgcoekaaaaGreatDoorBkL
namespace Go.Proofs.YtlddnpgcoekaaaaGreatDoor
open Go.RowKit

/- A Book in whose lists no memory is shared. -/
structure Bok (W : World) (B g : Nat) (vb : Value) (n : Nat) (hs : List Hb) : Prop where
  bk : Bk W B g vb n hs
  sep : Sep g vb hs
  ow : ∀ x ∈ hs, Own8 W B x.v x.xs
  lim : ∀ x ∈ hs, x.xs.length ≤ 100000000 ∧ x.m < 1000000000 ∧ ∃ a n c, x.vl = .slice a n c
  nn : hs.length ≤ 1000000
theorem Bok.fl {W : World} {B g n : Nat} {vb : Value} {hs : List Hb} (h : Bok W B g vb n hs) : Fl W W B g vb n hs 0 := ⟨h.bk, fun j hj => by rw [if_neg (by omega)]; exact h.ow _ (List.getElem_mem hj), Fr.refl _ _⟩
theorem Fl.gr {W W1 : World} {B g n : Nat} {vb : Value} {hs : List Hb} (f : Fl W W1 B g vb n hs hs.length) (h : Bok W B g vb n hs) : Gr W1 W1 B g vb n hs hs 0 :=
  ⟨f.bk, h.sep, h.lim, fun j _ hj => by omega, fun j hj _ => by have := f.ow j hj; rw [if_pos hj] at this; exact this, Fr.refl _ _, fun b hb => hb⟩
theorem apart_fr {W W1 W2 W3 : World} {hs : List Hb} {vb : Value} (h1 : Fr (LE hs) W W1) (h2 : Fr (GE hs vb) W1 W2) (h3 : Below W2.heap.size W2 W3) : Fr (GE hs vb) W W3 := by
  have h0 : Fr (GE hs vb) W W1 := ⟨h1.os, h1.tape, h1.output, h1.size, fun b hb hn => h1.block b hb (fun e => hn (.inl e))⟩
  exact (h0.trans h2 (fun _ _ e => e)).trans (E' := fun _ => False) (Fr.ofBelow h3) (fun _ _ e => e.elim)
set_option maxRecDepth 100000 in
set_option maxHeartbeats 4000000 in
theorem apart_yes {W : World} {B g n : Nat} {vb : Value} {hs : List Hb} (h : Bok W B g vb n hs) : Calls Tryz.prog 18 #[.pointer (some ⟨g, 0, none⟩)] W fun e W' => e = .returned (.bool true) ∧ Fr (GE hs vb) W W' := by
  have HB := hide h
  have Z1 := hide h.bk.cz
  clear h
  go_enter Tryz.func18, Tryz.ntmps18
  go_wp2_with fail
  refine (fillInt_no g _ (Z1.out 1 (by decide) (by decide) (by decide))).mono ?_
  rintro e w1 ⟨rfl, hw⟩
  subst hw
  go_wp2_with fail
  refine (fillByte_any HB.out.fl HB.out.sep HB.out.lim HB.out.nn).mono ?_
  rintro e W1 ⟨rfl, hF⟩
  have F1 := hide hF
  have G0 := hide (hF.gr HB.out)
  have NN := hide HB.out.nn
  have Z2 := hide hF.bk.cz
  have FR1 := hide hF.fr
  clear hF F1 HB Z1
  go_wp2_with fail
  refine (fillKind_no g _ (Z2.out 3 (by decide) (by decide) (by decide))).mono ?_
  rintro e w1 ⟨rfl, hw⟩
  subst hw
  go_wp2_with fail
  refine (fillText_no g _ (Z2.out 4 (by decide) (by decide) (by decide))).mono ?_
  rintro e w1 ⟨rfl, hw⟩
  subst hw
  go_wp2_with fail
  refine (fillBlob_no g _ (Z2.out 5 (by decide) (by decide) (by decide))).mono ?_
  rintro e w1 ⟨rfl, hw⟩
  subst hw
  go_wp2_with fail
  refine (fillNumber_no g _ (Z2.out 6 (by decide) (by decide) (by decide))).mono ?_
  rintro e w1 ⟨rfl, hw⟩
  subst hw
  go_wp2_with fail
  refine (fillWord_no g _ (Z2.out 7 (by decide) (by decide) (by decide))).mono ?_
  rintro e w1 ⟨rfl, hw⟩
  subst hw
  go_wp2_with fail
  refine (fillField_no g _ (Z2.out 8 (by decide) (by decide) (by decide))).mono ?_
  rintro e w1 ⟨rfl, hw⟩
  subst hw
  go_wp2_with fail
  refine (fillMatch_no g _ (Z2.out 9 (by decide) (by decide) (by decide))).mono ?_
  rintro e w1 ⟨rfl, hw⟩
  subst hw
  go_wp2_with fail
  refine (fillArr_no g _ (Z2.out 10 (by decide) (by decide) (by decide))).mono ?_
  rintro e w1 ⟨rfl, hw⟩
  subst hw
  go_wp2_with fail
  refine (fillCase_no g _ (Z2.out 11 (by decide) (by decide) (by decide))).mono ?_
  rintro e w1 ⟨rfl, hw⟩
  subst hw
  go_wp2_with fail
  refine (fillJump_no g _ (Z2.out 12 (by decide) (by decide) (by decide))).mono ?_
  rintro e w1 ⟨rfl, hw⟩
  subst hw
  go_wp2_with fail
  refine (fillExpr_no g _ (Z2.out 13 (by decide) (by decide) (by decide))).mono ?_
  rintro e w1 ⟨rfl, hw⟩
  subst hw
  go_wp2_with fail
  refine (fillStmt_no g _ (Z2.out 14 (by decide) (by decide) (by decide))).mono ?_
  rintro e w1 ⟨rfl, hw⟩
  subst hw
  go_wp2_with fail
  refine (fillState_no g _ (Z2.out 15 (by decide) (by decide) (by decide))).mono ?_
  rintro e w1 ⟨rfl, hw⟩
  subst hw
  go_wp2_with fail
  refine (fillKey_no g _ (Z2.out 16 (by decide) (by decide) (by decide))).mono ?_
  rintro e w1 ⟨rfl, hw⟩
  subst hw
  go_wp2_with fail
  refine (fillDecl_no g _ (Z2.out 17 (by decide) (by decide) (by decide))).mono ?_
  rintro e w1 ⟨rfl, hw⟩
  subst hw
  go_wp2_with fail
  refine (fillEntry_no g _ (Z2.out 18 (by decide) (by decide) (by decide))).mono ?_
  rintro e w1 ⟨rfl, hw⟩
  subst hw
  go_wp2_with fail
  refine (fillGroup_no g _ (Z2.out 19 (by decide) (by decide) (by decide))).mono ?_
  rintro e w1 ⟨rfl, hw⟩
  subst hw
  go_wp2_with fail
  refine (fillHead_no g _ (Z2.out 20 (by decide) (by decide) (by decide))).mono ?_
  rintro e w1 ⟨rfl, hw⟩
  subst hw
  go_wp2_with fail
  refine (fillNode_no g _ (Z2.out 21 (by decide) (by decide) (by decide))).mono ?_
  rintro e w1 ⟨rfl, hw⟩
  subst hw
  go_wp2_with fail
  refine (fillAct_no g _ (Z2.out 22 (by decide) (by decide) (by decide))).mono ?_
  rintro e w1 ⟨rfl, hw⟩
  subst hw
  go_wp2_with fail
  refine (fillTable_no g _ (Z2.out 23 (by decide) (by decide) (by decide))).mono ?_
  rintro e w1 ⟨rfl, hw⟩
  subst hw
  go_wp2_with fail
  refine (fillIns_no g _ (Z2.out 24 (by decide) (by decide) (by decide))).mono ?_
  rintro e w1 ⟨rfl, hw⟩
  subst hw
  go_wp2_with fail
  refine (fillEffect_no g _ (Z2.out 25 (by decide) (by decide) (by decide))).mono ?_
  rintro e w1 ⟨rfl, hw⟩
  subst hw
  go_wp2_with fail
  refine (fillUpdate_no g _ (Z2.out 26 (by decide) (by decide) (by decide))).mono ?_
  rintro e w1 ⟨rfl, hw⟩
  subst hw
  go_wp2_with fail
  refine (fillEvent_no g _ (Z2.out 27 (by decide) (by decide) (by decide))).mono ?_
  rintro e w1 ⟨rfl, hw⟩
  subst hw
  go_wp2_with fail
  refine (fillOut_no g _ (Z2.out 28 (by decide) (by decide) (by decide))).mono ?_
  rintro e w1 ⟨rfl, hw⟩
  subst hw
  go_wp2_with fail
  refine (fillRow_no g _ (Z2.out 29 (by decide) (by decide) (by decide))).mono ?_
  rintro e w1 ⟨rfl, hw⟩
  subst hw
  go_wp2_with fail
  refine (fillArray_no g _ (Z2.out 30 (by decide) (by decide) (by decide))).mono ?_
  rintro e w1 ⟨rfl, hw⟩
  subst hw
  go_wp2_with fail
  refine (growInt_no g _ (Z2.out 1 (by decide) (by decide) (by decide))).mono ?_
  rintro e w1 ⟨rfl, hw⟩
  subst hw
  go_wp2_with fail
  refine (growByte_any G0.out NN.out).mono ?_
  rintro e W2 ⟨rfl, ks, hl, hG⟩
  have G1 := hide hG
  have NK : Hid (ks.length ≤ 1000000) := by have := NN.out; show _ ≤ _; omega
  have Z3 := hide hG.bk.cz
  have FR2 := hide hG.fr
  clear hG hl G0 Z2
  go_wp2_with fail
  refine (growKind_no g _ (Z3.out 3 (by decide) (by decide) (by decide))).mono ?_
  rintro e w1 ⟨rfl, hw⟩
  subst hw
  go_wp2_with fail
  refine (growText_no g _ (Z3.out 4 (by decide) (by decide) (by decide))).mono ?_
  rintro e w1 ⟨rfl, hw⟩
  subst hw
  go_wp2_with fail
  refine (growBlob_no g _ (Z3.out 5 (by decide) (by decide) (by decide))).mono ?_
  rintro e w1 ⟨rfl, hw⟩
  subst hw
  go_wp2_with fail
  refine (growNumber_no g _ (Z3.out 6 (by decide) (by decide) (by decide))).mono ?_
  rintro e w1 ⟨rfl, hw⟩
  subst hw
  go_wp2_with fail
  refine (growWord_no g _ (Z3.out 7 (by decide) (by decide) (by decide))).mono ?_
  rintro e w1 ⟨rfl, hw⟩
  subst hw
  go_wp2_with fail
  refine (growField_no g _ (Z3.out 8 (by decide) (by decide) (by decide))).mono ?_
  rintro e w1 ⟨rfl, hw⟩
  subst hw
  go_wp2_with fail
  refine (growMatch_no g _ (Z3.out 9 (by decide) (by decide) (by decide))).mono ?_
  rintro e w1 ⟨rfl, hw⟩
  subst hw
  go_wp2_with fail
  refine (growArr_no g _ (Z3.out 10 (by decide) (by decide) (by decide))).mono ?_
  rintro e w1 ⟨rfl, hw⟩
  subst hw
  go_wp2_with fail
  refine (growCase_no g _ (Z3.out 11 (by decide) (by decide) (by decide))).mono ?_
  rintro e w1 ⟨rfl, hw⟩
  subst hw
  go_wp2_with fail
  refine (growJump_no g _ (Z3.out 12 (by decide) (by decide) (by decide))).mono ?_
  rintro e w1 ⟨rfl, hw⟩
  subst hw
  go_wp2_with fail
  refine (growExpr_no g _ (Z3.out 13 (by decide) (by decide) (by decide))).mono ?_
  rintro e w1 ⟨rfl, hw⟩
  subst hw
  go_wp2_with fail
  refine (growStmt_no g _ (Z3.out 14 (by decide) (by decide) (by decide))).mono ?_
  rintro e w1 ⟨rfl, hw⟩
  subst hw
  go_wp2_with fail
  refine (growState_no g _ (Z3.out 15 (by decide) (by decide) (by decide))).mono ?_
  rintro e w1 ⟨rfl, hw⟩
  subst hw
  go_wp2_with fail
  refine (growKey_no g _ (Z3.out 16 (by decide) (by decide) (by decide))).mono ?_
  rintro e w1 ⟨rfl, hw⟩
  subst hw
  go_wp2_with fail
  refine (growDecl_no g _ (Z3.out 17 (by decide) (by decide) (by decide))).mono ?_
  rintro e w1 ⟨rfl, hw⟩
  subst hw
  go_wp2_with fail
  refine (growEntry_no g _ (Z3.out 18 (by decide) (by decide) (by decide))).mono ?_
  rintro e w1 ⟨rfl, hw⟩
  subst hw
  go_wp2_with fail
  refine (growGroup_no g _ (Z3.out 19 (by decide) (by decide) (by decide))).mono ?_
  rintro e w1 ⟨rfl, hw⟩
  subst hw
  go_wp2_with fail
  refine (growHead_no g _ (Z3.out 20 (by decide) (by decide) (by decide))).mono ?_
  rintro e w1 ⟨rfl, hw⟩
  subst hw
  go_wp2_with fail
  refine (growNode_no g _ (Z3.out 21 (by decide) (by decide) (by decide))).mono ?_
  rintro e w1 ⟨rfl, hw⟩
  subst hw
  go_wp2_with fail
  refine (growAct_no g _ (Z3.out 22 (by decide) (by decide) (by decide))).mono ?_
  rintro e w1 ⟨rfl, hw⟩
  subst hw
  go_wp2_with fail
  refine (growTable_no g _ (Z3.out 23 (by decide) (by decide) (by decide))).mono ?_
  rintro e w1 ⟨rfl, hw⟩
  subst hw
  go_wp2_with fail
  refine (growIns_no g _ (Z3.out 24 (by decide) (by decide) (by decide))).mono ?_
  rintro e w1 ⟨rfl, hw⟩
  subst hw
  go_wp2_with fail
  refine (growEffect_no g _ (Z3.out 25 (by decide) (by decide) (by decide))).mono ?_
  rintro e w1 ⟨rfl, hw⟩
  subst hw
  go_wp2_with fail
  refine (growUpdate_no g _ (Z3.out 26 (by decide) (by decide) (by decide))).mono ?_
  rintro e w1 ⟨rfl, hw⟩
  subst hw
  go_wp2_with fail
  refine (growEvent_no g _ (Z3.out 27 (by decide) (by decide) (by decide))).mono ?_
  rintro e w1 ⟨rfl, hw⟩
  subst hw
  go_wp2_with fail
  refine (growOut_no g _ (Z3.out 28 (by decide) (by decide) (by decide))).mono ?_
  rintro e w1 ⟨rfl, hw⟩
  subst hw
  go_wp2_with fail
  refine (growRow_no g _ (Z3.out 29 (by decide) (by decide) (by decide))).mono ?_
  rintro e w1 ⟨rfl, hw⟩
  subst hw
  go_wp2_with fail
  refine (growArray_no g _ (Z3.out 30 (by decide) (by decide) (by decide))).mono ?_
  rintro e w1 ⟨rfl, hw⟩
  subst hw
  go_wp2_with fail
  refine (lookInt_no g _ (Z3.out 1 (by decide) (by decide) (by decide))).mono ?_
  rintro e w1 ⟨rfl, hw⟩
  subst hw
  go_wp2_with fail
  refine (lookByte_any G1.out NK.out).mono ?_
  rintro e W3 ⟨rfl, hb⟩
  have Z4 := hide (G1.out.bk.next hb).cz
  have FR3 := hide (apart_fr FR1.out FR2.out hb)
  clear hb FR1 FR2 G1 Z3
  go_wp2_with fail
  refine (lookKind_no g _ (Z4.out 3 (by decide) (by decide) (by decide))).mono ?_
  rintro e w1 ⟨rfl, hw⟩
  subst hw
  go_wp2_with fail
  refine (lookText_no g _ (Z4.out 4 (by decide) (by decide) (by decide))).mono ?_
  rintro e w1 ⟨rfl, hw⟩
  subst hw
  go_wp2_with fail
  refine (lookBlob_no g _ (Z4.out 5 (by decide) (by decide) (by decide))).mono ?_
  rintro e w1 ⟨rfl, hw⟩
  subst hw
  go_wp2_with fail
  refine (lookNumber_no g _ (Z4.out 6 (by decide) (by decide) (by decide))).mono ?_
  rintro e w1 ⟨rfl, hw⟩
  subst hw
  go_wp2_with fail
  refine (lookWord_no g _ (Z4.out 7 (by decide) (by decide) (by decide))).mono ?_
  rintro e w1 ⟨rfl, hw⟩
  subst hw
  go_wp2_with fail
  refine (lookField_no g _ (Z4.out 8 (by decide) (by decide) (by decide))).mono ?_
  rintro e w1 ⟨rfl, hw⟩
  subst hw
  go_wp2_with fail
  refine (lookMatch_no g _ (Z4.out 9 (by decide) (by decide) (by decide))).mono ?_
  rintro e w1 ⟨rfl, hw⟩
  subst hw
  go_wp2_with fail
  refine (lookArr_no g _ (Z4.out 10 (by decide) (by decide) (by decide))).mono ?_
  rintro e w1 ⟨rfl, hw⟩
  subst hw
  go_wp2_with fail
  refine (lookCase_no g _ (Z4.out 11 (by decide) (by decide) (by decide))).mono ?_
  rintro e w1 ⟨rfl, hw⟩
  subst hw
  go_wp2_with fail
  refine (lookJump_no g _ (Z4.out 12 (by decide) (by decide) (by decide))).mono ?_
  rintro e w1 ⟨rfl, hw⟩
  subst hw
  go_wp2_with fail
  refine (lookExpr_no g _ (Z4.out 13 (by decide) (by decide) (by decide))).mono ?_
  rintro e w1 ⟨rfl, hw⟩
  subst hw
  go_wp2_with fail
  refine (lookStmt_no g _ (Z4.out 14 (by decide) (by decide) (by decide))).mono ?_
  rintro e w1 ⟨rfl, hw⟩
  subst hw
  go_wp2_with fail
  refine (lookState_no g _ (Z4.out 15 (by decide) (by decide) (by decide))).mono ?_
  rintro e w1 ⟨rfl, hw⟩
  subst hw
  go_wp2_with fail
  refine (lookKey_no g _ (Z4.out 16 (by decide) (by decide) (by decide))).mono ?_
  rintro e w1 ⟨rfl, hw⟩
  subst hw
  go_wp2_with fail
  refine (lookDecl_no g _ (Z4.out 17 (by decide) (by decide) (by decide))).mono ?_
  rintro e w1 ⟨rfl, hw⟩
  subst hw
  go_wp2_with fail
  refine (lookEntry_no g _ (Z4.out 18 (by decide) (by decide) (by decide))).mono ?_
  rintro e w1 ⟨rfl, hw⟩
  subst hw
  go_wp2_with fail
  refine (lookGroup_no g _ (Z4.out 19 (by decide) (by decide) (by decide))).mono ?_
  rintro e w1 ⟨rfl, hw⟩
  subst hw
  go_wp2_with fail
  refine (lookHead_no g _ (Z4.out 20 (by decide) (by decide) (by decide))).mono ?_
  rintro e w1 ⟨rfl, hw⟩
  subst hw
  go_wp2_with fail
  refine (lookNode_no g _ (Z4.out 21 (by decide) (by decide) (by decide))).mono ?_
  rintro e w1 ⟨rfl, hw⟩
  subst hw
  go_wp2_with fail
  refine (lookAct_no g _ (Z4.out 22 (by decide) (by decide) (by decide))).mono ?_
  rintro e w1 ⟨rfl, hw⟩
  subst hw
  go_wp2_with fail
  refine (lookTable_no g _ (Z4.out 23 (by decide) (by decide) (by decide))).mono ?_
  rintro e w1 ⟨rfl, hw⟩
  subst hw
  go_wp2_with fail
  refine (lookIns_no g _ (Z4.out 24 (by decide) (by decide) (by decide))).mono ?_
  rintro e w1 ⟨rfl, hw⟩
  subst hw
  go_wp2_with fail
  refine (lookEffect_no g _ (Z4.out 25 (by decide) (by decide) (by decide))).mono ?_
  rintro e w1 ⟨rfl, hw⟩
  subst hw
  go_wp2_with fail
  refine (lookUpdate_no g _ (Z4.out 26 (by decide) (by decide) (by decide))).mono ?_
  rintro e w1 ⟨rfl, hw⟩
  subst hw
  go_wp2_with fail
  refine (lookEvent_no g _ (Z4.out 27 (by decide) (by decide) (by decide))).mono ?_
  rintro e w1 ⟨rfl, hw⟩
  subst hw
  go_wp2_with fail
  refine (lookOut_no g _ (Z4.out 28 (by decide) (by decide) (by decide))).mono ?_
  rintro e w1 ⟨rfl, hw⟩
  subst hw
  go_wp2_with fail
  refine (lookRow_no g _ (Z4.out 29 (by decide) (by decide) (by decide))).mono ?_
  rintro e w1 ⟨rfl, hw⟩
  subst hw
  go_wp2_with fail
  refine (lookArray_no g _ (Z4.out 30 (by decide) (by decide) (by decide))).mono ?_
  rintro e w1 ⟨rfl, hw⟩
  subst hw
  go_wp2
  go_ret
  exact ⟨rfl, FR3.out⟩
end Go.Proofs.YtlddnpgcoekaaaaGreatDoor
