/- Pieces of the proof: QxK, QxE. -/
import Derived.Test.YtclhmggnkhnnlaaGreatDoorM36
import Derived.Test.YtclhmggnkhnnlaaGreatDoorM37
import Derived.Test.YtclhmggnkhnnlaaGreatDoorM38
import Derived.Test.YtclhmggnkhnnlaaGreatDoorM40
import Derived.Test.YtclhmggnkhnnlaaGreatDoorM41
import Derived.Test.YtclhmggnkhnnlaaGreatDoorM42
import Derived.Test.YtclhmggnkhnnlaaGreatDoorM43
import Derived.Test.YtclhmggnkhnnlaaGreatDoorM45
import Derived.Test.YtclhmggnkhnnlaaGreatDoorM16
/- A Book of bytes, numbers and effects. -/
namespace Go.Proofs.YtclhmggnkhnnlaaGreatDoor
open Go.RowKit

def htX (o : Nat) : Nat := if o = 2 then 129 else if o = 6 then 147 else if o = 25 then 260 else 2000000 + o
def etX (o : Nat) : Nat := if o = 2 then 5 else if o = 6 then 92 else if o = 25 then 95 else 1000000 + o
def cX (o : Nat) : Nat := if o = 2 then 1 else if o = 6 then 3 else if o = 25 then 10 else 0
def mkX (o m : Nat) : List Value := if o = 2 then mkByte m else if o = 6 then mkNumber m else if o = 25 then mkEffect m else []
def KX (o : Nat) : Kd := ⟨htX o, etX o, cX o, mkX o⟩
def lvX (o : Nat) : Bool := o == 2 || o == 6 || o == 25
theorem kX_ok : KdOk KX := by
  refine ⟨fun o _ m => ?_, fun i j h1 h2 hne => ?_, fun i j h1 h2 hne => ?_, fun i j h1 h2 => ?_⟩
  · show (mkX o m).length = cX o
    unfold mkX cX; repeat' split
    all_goals rfl
  · show etX i ≠ etX j
    obtain ⟨_, _⟩ := h1
    obtain ⟨_, _⟩ := h2
    unfold etX; repeat' split
    all_goals omega
  · show htX i ≠ htX j
    obtain ⟨_, _⟩ := h1
    obtain ⟨_, _⟩ := h2
    unfold htX; repeat' split
    all_goals omega
  · show etX i ≠ htX j
    obtain ⟨_, _⟩ := h1
    obtain ⟨_, _⟩ := h2
    unfold etX htX; repeat' split
    all_goals omega
theorem keepXb : KeepOk (KX 2) 14 2 := Bytes_ok _ rfl
theorem keepXn : KeepOk (KX 6) 204 6 := Numbers_ok _ rfl
theorem keepXe : KeepOk (KX 25) 140 25 := fun _ _ _ _ _ _ hb c0 hl hn a m c => keepEffect_bk hb c0 hl hn a m c
theorem bookX {w : World} : BookOk KX lvX w w.heap.size where
  f1 := fillOk_no fillInt_no
  f2 := fun _ _ _ _ _ _ h s l n => fillByte_any h s l n
  f3 := fillOk_no fillKind_no
  f4 := fillOk_no fillText_no
  f5 := fillOk_no fillBlob_no
  f6 := fun _ _ _ _ _ _ h s l n => fillNumber_any h s l n
  f7 := fillOk_no fillWord_no
  f8 := fillOk_no fillField_no
  f9 := fillOk_no fillMatch_no
  f10 := fillOk_no fillArr_no
  f11 := fillOk_no fillCase_no
  f12 := fillOk_no fillJump_no
  f13 := fillOk_no fillExpr_no
  f14 := fillOk_no fillStmt_no
  f15 := fillOk_no fillState_no
  f16 := fillOk_no fillKey_no
  f17 := fillOk_no fillDecl_no
  f18 := fillOk_no fillEntry_no
  f19 := fillOk_no fillGroup_no
  f20 := fillOk_no fillHead_no
  f21 := fillOk_no fillNode_no
  f22 := fillOk_no fillAct_no
  f23 := fillOk_no fillTable_no
  f24 := fillOk_no fillIns_no
  f25 := fun _ _ _ _ _ _ h s l n => fillEffect_any h s l n
  f26 := fillOk_no fillUpdate_no
  f27 := fillOk_no fillEvent_no
  f28 := fillOk_no fillOut_no
  f29 := fillOk_no fillRow_no
  f30 := fillOk_no fillArray_no
  g1 := growOk_no growInt_no
  g2 := fun _ _ _ _ _ _ h n => growByte_any h n
  g3 := growOk_no growKind_no
  g4 := growOk_no growText_no
  g5 := growOk_no growBlob_no
  g6 := fun _ _ _ _ _ _ h n => growNumber_any h n
  g7 := growOk_no growWord_no
  g8 := growOk_no growField_no
  g9 := growOk_no growMatch_no
  g10 := growOk_no growArr_no
  g11 := growOk_no growCase_no
  g12 := growOk_no growJump_no
  g13 := growOk_no growExpr_no
  g14 := growOk_no growStmt_no
  g15 := growOk_no growState_no
  g16 := growOk_no growKey_no
  g17 := growOk_no growDecl_no
  g18 := growOk_no growEntry_no
  g19 := growOk_no growGroup_no
  g20 := growOk_no growHead_no
  g21 := growOk_no growNode_no
  g22 := growOk_no growAct_no
  g23 := growOk_no growTable_no
  g24 := growOk_no growIns_no
  g25 := fun _ _ _ _ _ _ h n => growEffect_any h n
  g26 := growOk_no growUpdate_no
  g27 := growOk_no growEvent_no
  g28 := growOk_no growOut_no
  g29 := growOk_no growRow_no
  g30 := growOk_no growArray_no
  l1 := lookOk_no lookInt_no
  l2 := fun _ _ _ _ _ _ _ h n => lookByte_any h n
  l3 := lookOk_no lookKind_no
  l4 := lookOk_no lookText_no
  l5 := lookOk_no lookBlob_no
  l6 := fun _ _ _ _ _ _ _ h n => lookNumber_any h n
  l7 := lookOk_no lookWord_no
  l8 := lookOk_no lookField_no
  l9 := lookOk_no lookMatch_no
  l10 := lookOk_no lookArr_no
  l11 := lookOk_no lookCase_no
  l12 := lookOk_no lookJump_no
  l13 := lookOk_no lookExpr_no
  l14 := lookOk_no lookStmt_no
  l15 := lookOk_no lookState_no
  l16 := lookOk_no lookKey_no
  l17 := lookOk_no lookDecl_no
  l18 := lookOk_no lookEntry_no
  l19 := lookOk_no lookGroup_no
  l20 := lookOk_no lookHead_no
  l21 := lookOk_no lookNode_no
  l22 := lookOk_no lookAct_no
  l23 := lookOk_no lookTable_no
  l24 := lookOk_no lookIns_no
  l25 := fun _ _ _ _ _ _ _ h n => lookEffect_any h n
  l26 := lookOk_no lookUpdate_no
  l27 := lookOk_no lookEvent_no
  l28 := lookOk_no lookOut_no
  l29 := lookOk_no lookRow_no
  l30 := lookOk_no lookArray_no
theorem oobX (o : Nat) (h : lvX o = true) : OoB o := by
  unfold lvX at h
  simp at h
  constructor <;> omega
end Go.Proofs.YtclhmggnkhnnlaaGreatDoor
/- Effect, Effects, Pass of a Book. -/
namespace Go.Proofs.YtclhmggnkhnnlaaGreatDoor
open Go.RowKit

def toldF (z : Ef) : Nat × Value × Nat := (6, .slice z.da z.dn z.dc, z.dn)
def toldFs (v : Value) (zs : List Ef) : List (Nat × Value × Nat) := zs.map toldF ++ [(25, v, zs.length)]
theorem BoG.effect {w Wg W : World} {n : Nat} {v : Nat → Value} {hs : Nat → List Hc} {us : List (Nat × Value × Nat)} (z : Ef) (h : BoG KX lvX w Wg W n v hs (toldF z :: us)) (hn : n < 800000) :
    Calls Tryz.prog 139 #[.pointer (some ⟨Wg.heap.size, 0, none⟩), .agg z.cells.toArray] W fun e W' => e = .returned (.tuple #[]) ∧ ∃ v' hs', BoG KX lvX w Wg W' (n + 1) v' hs' us := by
  have H1 := h.next (below1 W (.cells z.cells.toArray 95))
  have c6 : (W.alloc (.cells z.cells.toArray 95)).cell? ⟨W.heap.size, 6, none⟩ = some (.slice z.da z.dn z.dc) := cellA (heap_alloc_new W _) 6
  have HN := hide (H1.tell kX_ok keepXn (by omega))
  clear h H1
  simp only [toldF] at HN
  generalize z.cells.toArray = cs at *
  generalize z.da = da at *
  generalize z.dn = dn at *
  generalize z.dc = dc at *
  generalize hg : Wg.heap.size = g at *
  have HG := hide hg
  clear hg
  go_enter Tryz.func139, Tryz.ntmps139
  go_wp2_with fail
  refine HN.out.mono ?_
  rintro e W1 ⟨rfl, v1, hs1, h2, -, -⟩
  have H2 := hide h2
  clear h2 HN
  go_wp2
  go_end0
  exact ⟨rfl, _, _, H2.out⟩
set_option maxRecDepth 100000 in
set_option maxHeartbeats 2000000 in
theorem BoG.effects {w Wg W : World} {n : Nat} {v : Nat → Value} {hs : Nat → List Hc} {us : List (Nat × Value × Nat)} (a : Option Addr) (cap : Nat) (zs : List Ef) (hr : RdG Ef.cells 10 Wg a zs) (h : BoG KX lvX w Wg W n v hs (toldFs (.slice a zs.length cap) zs ++ us)) (hn : n + zs.length < 700000) :
    Calls Tryz.prog 33 #[.pointer (some ⟨Wg.heap.size, 0, none⟩), .slice a zs.length cap] W fun e W' => e = .returned (.tuple #[]) ∧ ∃ v' hs', BoG KX lvX w Wg W' (n + zs.length + 1) v' hs' us := by
  have HR := hide hr
  have H0 : Hid (∃ v hs, BoG KX lvX w Wg W (n + 0) v hs ((zs.drop 0).map toldF ++ (25, .slice a zs.length cap, zs.length) :: us)) := ⟨v, hs, by rw [List.drop_zero, Nat.add_zero]; simpa [toldFs] using h⟩
  have HE : Hid (∀ W n (z : Ef) us, n < 800000 → (∃ v hs, BoG KX lvX w Wg W n v hs (toldF z :: us)) → Calls Tryz.prog 139 #[.pointer (some ⟨Wg.heap.size, 0, none⟩), .agg z.cells.toArray] W fun e W' => e = .returned (.tuple #[]) ∧ ∃ v' hs', BoG KX lvX w Wg W' (n + 1) v' hs' us) := fun W n z us hn ⟨v, hs, h⟩ => h.effect z hn
  have HK : Hid (∀ W n u us, n < 800000 → u.1 = 25 → (∃ v hs, BoG KX lvX w Wg W n v hs (u :: us)) → Calls Tryz.prog 140 #[.pointer (some ⟨Wg.heap.size, 0, none⟩), u.2.1] W fun e W' => e = .returned (.tuple #[]) ∧ ∃ v' hs', BoG KX lvX w Wg W' (n + 1) v' hs' us) := fun W n u us hn hu ⟨v, hs, h⟩ => by
    refine (h.tell kX_ok (by rw [hu]; exact keepXe) (by omega)).mono ?_
    rintro e W' ⟨rfl, v', hs', h', -, -⟩
    exact ⟨rfl, v', hs', h'⟩
  have HFG : Hid (∀ W n us, (∃ v hs, BoG KX lvX w Wg W n v hs us) → Below Wg.heap.size Wg W) := fun W n us ⟨v, hs, h⟩ => h.fg
  have HNN := hide hn
  clear h hr hn
  generalize hB : (fun W n us => ∃ v hs, BoG KX lvX w Wg W n v hs us) = BB at *
  have eB : ∀ W n us, (∃ v hs, BoG KX lvX w Wg W n v hs us) = BB W n us := fun W n us => by rw [← hB]
  simp only [eB] at *
  clear hB eB
  generalize hg : Wg.heap.size = g at *
  have HGG := hide hg
  clear hg
  go_enter Tryz.func33, Tryz.ntmps33
  go_wp2
  go_loopw [4] (fun i wr => ∃ k : Nat, k ≤ zs.length ∧ i = .int .i64 k ∧ BB wr (n + k) ((zs.drop k).map toldF ++ (25, .slice a zs.length cap, zs.length) :: us)) (fun i _ => zs.length - (intOf i).toNat)
  case atStart => exact ⟨0, by omega, rfl, H0.out⟩
  case round =>
    obtain ⟨k, hk, rfl, hb⟩ := hrel
    have HB := hide hb
    have hzl : zs.length < 700000 := by have := HNN.out; omega
    clear hb H0
    by_cases hlt : k < zs.length
    · have hkI : (k : Int) < (zs.length : Int) := by omega
      have hR := HR.out.below (HGG.out.symm ▸ HFG.out _ _ _ HB.out)
      obtain ⟨p, off, rfl, _, hc⟩ := hR.get (by omega)
      have HC := hide (hc k hlt)
      have HD : Hid ((zs.drop k).map toldF = toldF zs[k] :: (zs.drop (k + 1)).map toldF) := by show _ = _; rw [List.drop_eq_getElem_cons hlt, List.map_cons]
      rw [HD.out, List.cons_append] at HB
      have HT := hide (HE.out _ _ _ _ (by have := HNN.out; omega) HB.out)
      have HL : Hid (zs[k].cells.length = 10) := rfl
      clear hc hR HD HB HR HE HK HFG
      generalize zs[k].cells = cs at *
      generalize toldF zs[k] = tk at *
      go_wp2_with (first
        | (refine wpList_loadW rfl 95 _ rfl p (off + k * 10) cs rfl aggEf (by rw [HL.out]; exact szEf) HC.out ?_)
        | (go_at_call 139; refine HT.out.mono ?_; rintro e w1 ⟨rfl, h1⟩; have H1 := hide h1; clear h1))
      go_roundw
      case rel => exact ⟨k + 1, by omega, by go_num, H1.out⟩
      case measure => simp [intOf]; omega
    · obtain rfl : k = zs.length := by omega
      have HX := hide (HK.out wr (n + zs.length) (25, .slice a zs.length cap, zs.length) us (by have := HNN.out; omega) rfl (by have := HB.out; rw [List.drop_length] at this; exact this))
      have dk : decide (zs.length < zs.length) = false := by simp
      clear HB HR HE HK HFG
      simp only at HX
      go_wp2_with fail
      refine HX.out.mono ?_
      rintro e w1 ⟨rfl, h1⟩
      have H1 := hide h1
      clear h1
      go_wp2
      go_end0
      exact ⟨rfl, H1.out⟩
set_option maxHeartbeats 1000000 in
theorem BoG.pass {w Wg W : World} {n : Nat} {v : Nat → Value} {hs : Nat → List Hc} {us : List (Nat × Value × Nat)} (z : Ps) (hr : RdG Ef.cells 10 Wg z.ea z.es) (h : BoG KX lvX w Wg W n v hs ((2, .slice z.pa z.xs.length z.pc, z.xs.length) :: (toldFs (.slice z.ea z.es.length z.ec) z.es ++ us))) (hn : n + z.es.length < 600000) :
    Calls Tryz.prog 13 #[.pointer (some ⟨Wg.heap.size, 0, none⟩), .agg z.cells.toArray] W fun e W' => e = .returned (.tuple #[]) ∧ ∃ v' hs', BoG KX lvX w Wg W' (n + 1 + z.es.length + 1) v' hs' us := by
  have H1 := h.next (below1 W (.cells z.cells.toArray 27))
  have HBX := hide (heap_alloc_new W (.cells z.cells.toArray 27))
  have c1 : (W.alloc (.cells z.cells.toArray 27)).cell? ⟨W.heap.size, 1, none⟩ = some (.slice z.pa z.xs.length z.pc) := cellA HBX.out 1
  have H5 : Hid (z.cells.toArray[5]? = some (.slice z.ea z.es.length z.ec)) := rfl
  have HG := hide h.BW
  have HV : Hid (∀ b, (v 2).ownBlock = some b → b < W.heap.size) := fun b hb => ((h.bo.bk 2 ⟨by decide, by decide⟩).vlt b hb).2
  have HM := hide (H1.tell kX_ok keepXb (by omega))
  have HS : Hid (∀ W' v' hs', BoG KX lvX w Wg W' (n + 1) v' hs' (toldFs (.slice z.ea z.es.length z.ec) z.es ++ us) → _) := fun W' v' hs' h' => BoG.effects z.ea z.ec z.es hr h' (by omega)
  clear h H1 hr hn
  generalize toldFs (.slice z.ea z.es.length z.ec) z.es = tl at *
  generalize z.cells.toArray = cs at *
  generalize z.es.length = n2 at *
  generalize z.xs.length = n1 at *
  generalize z.pa = pa at *
  generalize z.pc = pc at *
  generalize z.ea = ea at *
  generalize z.ec = ec at *
  generalize hg : Wg.heap.size = g at *
  have HGG := hide hg
  clear hg
  go_enter Tryz.func13, Tryz.ntmps13
  go_wp2_with fail
  refine HM.out.mono ?_
  rintro e W1 ⟨rfl, v1, hs1, h2, -, hf⟩
  have k := (hf.block W.heap.size (by simp) (fun e => by
    rcases e with e | e
    · have := HG.out; omega
    · have := HV.out _ e; omega)).trans HBX.out
  have c5 := (cellA k 5).trans H5.out
  have HN := hide (HS.out _ _ _ h2)
  clear h2 hf k HM HS c1
  go_wp2_with fail
  refine HN.out.mono ?_
  rintro e W2 ⟨rfl, v2, hs2, h3⟩
  have H3 := hide h3
  clear h3 HN
  go_wp2
  go_end0
  exact ⟨rfl, _, _, H3.out⟩
end Go.Proofs.YtclhmggnkhnnlaaGreatDoor
