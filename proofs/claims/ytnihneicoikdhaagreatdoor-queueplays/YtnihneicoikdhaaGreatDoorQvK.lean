/- A Book of bytes alone. -/
import Derived.Test.YtnihneicoikdhaaGreatDoorBgR
import Derived.Test.YtnihneicoikdhaaGreatDoorBgE
import Derived.Test.YtnihneicoikdhaaGreatDoorBgFb
import Derived.Test.YtnihneicoikdhaaGreatDoorBgLb
import Derived.Test.YtnihneicoikdhaaGreatDoorBgPb
namespace Go.Proofs.YtnihneicoikdhaaGreatDoor
open Go.RowKit

def htQ (o : Nat) : Nat := if o = 2 then 130 else 2000000 + o
def etQ (o : Nat) : Nat := if o = 2 then 5 else 1000000 + o
def cQ (o : Nat) : Nat := if o = 2 then 1 else 0
def mkQ (o m : Nat) : List Value := if o = 2 then mkByte m else []
def KQ (o : Nat) : Kd := ⟨htQ o, etQ o, cQ o, mkQ o⟩
def lvQ (o : Nat) : Bool := o == 2
theorem kQ_ok : KdOk KQ := by
  refine ⟨fun o _ m => ?_, fun i j h1 h2 hne => ?_, fun i j h1 h2 hne => ?_, fun i j h1 h2 => ?_⟩
  · show (mkQ o m).length = cQ o
    unfold mkQ cQ; repeat' split
    all_goals rfl
  · show etQ i ≠ etQ j
    obtain ⟨_, _⟩ := h1
    obtain ⟨_, _⟩ := h2
    unfold etQ; repeat' split
    all_goals omega
  · show htQ i ≠ htQ j
    obtain ⟨_, _⟩ := h1
    obtain ⟨_, _⟩ := h2
    unfold htQ; repeat' split
    all_goals omega
  · show etQ i ≠ htQ j
    obtain ⟨_, _⟩ := h1
    obtain ⟨_, _⟩ := h2
    unfold etQ htQ; repeat' split
    all_goals omega
theorem kQ_out {t : Nat} (h1 : t ≠ 5) (h2 : t ≠ 130) (h3 : t < 1000000) : OutK KQ t := fun o _ => by
  constructor
  · show t ≠ etQ o
    unfold etQ; split
    · exact h1
    · omega
  · show t ≠ htQ o
    unfold htQ; split
    · exact h2
    · omega
theorem keepQ : KeepOk (KQ 2) 14 2 := Bytes_ok _ rfl
theorem bookQ {w : World} : BookOk KQ lvQ w w.heap.size where
  f1 := fillOk_no fillInt_no
  f2 := fun _ _ _ _ _ _ h s l n => fillByte_any h s l n
  f3 := fillOk_no fillKind_no
  f4 := fillOk_no fillText_no
  f5 := fillOk_no fillBlob_no
  f6 := fillOk_no fillNumber_no
  f7 := fillOk_no fillWord_no
  f8 := fillOk_no fillField_no
  f9 := fillOk_no fillMatch_no
  f10 := fillOk_no fillArr_no
  f11 := fillOk_no fillCase_no
  f12 := fillOk_no fillJump_no
  f13 := fillOk_no fillExpr_no
  f14 := fillOk_no fillStmt_no
  f15 := fillOk_no fillState_no
  f16 := fillOk_no fillKey_no
  f17 := fillOk_no fillDecl_no
  f18 := fillOk_no fillEntry_no
  f19 := fillOk_no fillGroup_no
  f20 := fillOk_no fillHead_no
  f21 := fillOk_no fillNode_no
  f22 := fillOk_no fillAct_no
  f23 := fillOk_no fillTable_no
  f24 := fillOk_no fillIns_no
  f25 := fillOk_no fillEffect_no
  f26 := fillOk_no fillUpdate_no
  f27 := fillOk_no fillEvent_no
  f28 := fillOk_no fillOut_no
  f29 := fillOk_no fillRow_no
  f30 := fillOk_no fillArray_no
  g1 := growOk_no growInt_no
  g2 := fun _ _ _ _ _ _ h n => growByte_any h n
  g3 := growOk_no growKind_no
  g4 := growOk_no growText_no
  g5 := growOk_no growBlob_no
  g6 := growOk_no growNumber_no
  g7 := growOk_no growWord_no
  g8 := growOk_no growField_no
  g9 := growOk_no growMatch_no
  g10 := growOk_no growArr_no
  g11 := growOk_no growCase_no
  g12 := growOk_no growJump_no
  g13 := growOk_no growExpr_no
  g14 := growOk_no growStmt_no
  g15 := growOk_no growState_no
  g16 := growOk_no growKey_no
  g17 := growOk_no growDecl_no
  g18 := growOk_no growEntry_no
  g19 := growOk_no growGroup_no
  g20 := growOk_no growHead_no
  g21 := growOk_no growNode_no
  g22 := growOk_no growAct_no
  g23 := growOk_no growTable_no
  g24 := growOk_no growIns_no
  g25 := growOk_no growEffect_no
  g26 := growOk_no growUpdate_no
  g27 := growOk_no growEvent_no
  g28 := growOk_no growOut_no
  g29 := growOk_no growRow_no
  g30 := growOk_no growArray_no
  l1 := lookOk_no lookInt_no
  l2 := fun _ _ _ _ _ _ _ h n => lookByte_any h n
  l3 := lookOk_no lookKind_no
  l4 := lookOk_no lookText_no
  l5 := lookOk_no lookBlob_no
  l6 := lookOk_no lookNumber_no
  l7 := lookOk_no lookWord_no
  l8 := lookOk_no lookField_no
  l9 := lookOk_no lookMatch_no
  l10 := lookOk_no lookArr_no
  l11 := lookOk_no lookCase_no
  l12 := lookOk_no lookJump_no
  l13 := lookOk_no lookExpr_no
  l14 := lookOk_no lookStmt_no
  l15 := lookOk_no lookState_no
  l16 := lookOk_no lookKey_no
  l17 := lookOk_no lookDecl_no
  l18 := lookOk_no lookEntry_no
  l19 := lookOk_no lookGroup_no
  l20 := lookOk_no lookHead_no
  l21 := lookOk_no lookNode_no
  l22 := lookOk_no lookAct_no
  l23 := lookOk_no lookTable_no
  l24 := lookOk_no lookIns_no
  l25 := lookOk_no lookEffect_no
  l26 := lookOk_no lookUpdate_no
  l27 := lookOk_no lookEvent_no
  l28 := lookOk_no lookOut_no
  l29 := lookOk_no lookRow_no
  l30 := lookOk_no lookArray_no
end Go.Proofs.YtnihneicoikdhaaGreatDoor
