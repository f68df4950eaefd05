/- Pieces of the proof: BeK, BeQ, TwN. -/
import Derived.Test.YteflnicgohjiiaaGreatDoorM24
import Derived.Test.YteflnicgohjiiaaGreatDoorM25
import Derived.Test.YteflnicgohjiiaaGreatDoorM26
import Derived.Test.YteflnicgohjiiaaGreatDoorM27
import Derived.Test.YteflnicgohjiiaaGreatDoorM28
import Derived.Test.YteflnicgohjiiaaGreatDoorM29
import Derived.Test.YteflnicgohjiiaaGreatDoorM30
import Derived.Test.YteflnicgohjiiaaGreatDoorM31
import Derived.Test.YteflnicgohjiiaaGreatDoorM11
import Derived.Test.YteflnicgohjiiaaGreatDoorM16
import Derived.Maps.AppendAt
/- A Book of numbers, matches and entries. -/
namespace Go.Proofs.YteflnicgohjiiaaGreatDoor
open Go.RowKit

def htM (o : Nat) : Nat := if o = 6 then 141 else if o = 9 then 157 else if o = 18 then 121 else 2000000 + o
def etM (o : Nat) : Nat := if o = 6 then 86 else if o = 9 then 105 else if o = 18 then 30 else 1000000 + o
def cM (o : Nat) : Nat := if o = 6 then 3 else if o = 9 then 7 else if o = 18 then 4 else 0
def mkM (o m : Nat) : List Value := if o = 6 then mkNumber m else if o = 9 then mkMatch m else if o = 18 then mkEntry sW m else []
def KM (o : Nat) : Kd := ⟨htM o, etM o, cM o, mkM o⟩
def lvM (o : Nat) : Bool := o == 6 || o == 9 || o == 18
theorem kM_ok : KdOk KM := by
  refine ⟨fun o _ m => ?_, fun i j h1 h2 hne => ?_, fun i j h1 h2 hne => ?_, fun i j h1 h2 => ?_⟩
  · show (mkM o m).length = cM o
    unfold mkM cM; repeat' split
    all_goals rfl
  · show etM i ≠ etM j
    obtain ⟨_, _⟩ := h1
    obtain ⟨_, _⟩ := h2
    unfold etM; repeat' split
    all_goals omega
  · show htM i ≠ htM j
    obtain ⟨_, _⟩ := h1
    obtain ⟨_, _⟩ := h2
    unfold htM; repeat' split
    all_goals omega
  · show etM i ≠ htM j
    obtain ⟨_, _⟩ := h1
    obtain ⟨_, _⟩ := h2
    unfold etM htM; repeat' split
    all_goals omega
theorem bookM {w : World} (hL : Lp w) : BookOk KM lvM w w.heap.size where
  f1 := fillOk_no fillInt_no
  f2 := fillOk_no fillByte_no
  f3 := fillOk_no fillKind_no
  f4 := fillOk_no fillText_no
  f5 := fillOk_no fillBlob_no
  f6 := fun _ _ _ _ _ _ h s l n => fillNumber_any h s l n
  f7 := fillOk_no fillWord_no
  f8 := fillOk_no fillField_no
  f9 := fun _ _ _ _ _ _ h s l n => fillMatch_any h s l n
  f10 := fillOk_no fillArr_no
  f11 := fillOk_no fillCase_no
  f12 := fillOk_no fillJump_no
  f13 := fillOk_no fillExpr_no
  f14 := fillOk_no fillStmt_no
  f15 := fillOk_no fillState_no
  f16 := fillOk_no fillKey_no
  f17 := fillOk_no fillDecl_no
  f18 := fun _ _ _ _ bl _ h s l n => fillEntry_any (marksE hL) (Nat.le_refl _) bl h s l n
  f19 := fillOk_no fillGroup_no
  f20 := fillOk_no fillHead_no
  f21 := fillOk_no fillNode_no
  f22 := fillOk_no fillAct_no
  f23 := fillOk_no fillTable_no
  f24 := fillOk_no fillIns_no
  f25 := fillOk_no fillEffect_no
  f26 := fillOk_no fillUpdate_no
  f27 := fillOk_no fillEvent_no
  f28 := fillOk_no fillOut_no
  f29 := fillOk_no fillRow_no
  f30 := fillOk_no fillArray_no
  g1 := growOk_no growInt_no
  g2 := growOk_no growByte_no
  g3 := growOk_no growKind_no
  g4 := growOk_no growText_no
  g5 := growOk_no growBlob_no
  g6 := fun _ _ _ _ _ _ h n => growNumber_any h n
  g7 := growOk_no growWord_no
  g8 := growOk_no growField_no
  g9 := fun _ _ _ _ _ _ h n => growMatch_any h n
  g10 := growOk_no growArr_no
  g11 := growOk_no growCase_no
  g12 := growOk_no growJump_no
  g13 := growOk_no growExpr_no
  g14 := growOk_no growStmt_no
  g15 := growOk_no growState_no
  g16 := growOk_no growKey_no
  g17 := growOk_no growDecl_no
  g18 := fun _ _ _ _ bl _ h n => growEntry_any (marksE hL) (Nat.le_refl _) bl h n
  g19 := growOk_no growGroup_no
  g20 := growOk_no growHead_no
  g21 := growOk_no growNode_no
  g22 := growOk_no growAct_no
  g23 := growOk_no growTable_no
  g24 := growOk_no growIns_no
  g25 := growOk_no growEffect_no
  g26 := growOk_no growUpdate_no
  g27 := growOk_no growEvent_no
  g28 := growOk_no growOut_no
  g29 := growOk_no growRow_no
  g30 := growOk_no growArray_no
  l1 := lookOk_no lookInt_no
  l2 := lookOk_no lookByte_no
  l3 := lookOk_no lookKind_no
  l4 := lookOk_no lookText_no
  l5 := lookOk_no lookBlob_no
  l6 := fun _ _ _ _ _ _ _ h n => lookNumber_any h n
  l7 := lookOk_no lookWord_no
  l8 := lookOk_no lookField_no
  l9 := fun _ _ _ _ _ _ _ h n => lookMatch_any h n
  l10 := lookOk_no lookArr_no
  l11 := lookOk_no lookCase_no
  l12 := lookOk_no lookJump_no
  l13 := lookOk_no lookExpr_no
  l14 := lookOk_no lookStmt_no
  l15 := lookOk_no lookState_no
  l16 := lookOk_no lookKey_no
  l17 := lookOk_no lookDecl_no
  l18 := fun _ _ _ _ _ bl _ h n => lookEntry_any (isMarkE hL) (Nat.le_refl _) bl h n
  l19 := lookOk_no lookGroup_no
  l20 := lookOk_no lookHead_no
  l21 := lookOk_no lookNode_no
  l22 := lookOk_no lookAct_no
  l23 := lookOk_no lookTable_no
  l24 := lookOk_no lookIns_no
  l25 := lookOk_no lookEffect_no
  l26 := lookOk_no lookUpdate_no
  l27 := lookOk_no lookEvent_no
  l28 := lookOk_no lookOut_no
  l29 := lookOk_no lookRow_no
  l30 := lookOk_no lookArray_no
end Go.Proofs.YteflnicgohjiiaaGreatDoor
/- Entry, Entries of a Book. -/
namespace Go.Proofs.YteflnicgohjiiaaGreatDoor
open Go.RowKit

def toldE (z : EnL) : List (Nat × Value × Nat) := [(9, .slice z.ma z.e.ms.length z.mc, z.e.ms.length), (6, .slice z.aa z.e.args.length z.ac, z.e.args.length)]
set_option maxRecDepth 100000 in
set_option maxHeartbeats 1000000 in
theorem BoG.entry {w Wg W : World} {n : Nat} {v : Nat → Value} {hs : Nat → List Hc} {us : List (Nat × Value × Nat)} (z : EnL) (h : BoG KM lvM w Wg W n v hs (toldE z ++ us)) (hn : n < 800000) :
    Calls Tryz.prog 19 #[.pointer (some ⟨Wg.heap.size, 0, none⟩), z.val] W fun e W' => e = .returned (.tuple #[]) ∧ ∃ v' hs', BoG KM lvM w Wg W' (n + 2) v' hs' us := by
  have H1 := hide (h.next (below1 W (.cells #[.slice z.ma z.e.ms.length z.mc, .int .i64 z.e.prio, .string z.e.act, .slice z.aa z.e.args.length z.ac] 30)))
  have HG := hide h.BW
  have HV := hide (h.bo.bk 9 ⟨by decide, by decide⟩).vlt
  clear h
  obtain ⟨⟨ms, prio, act, args⟩, ma, mc, aa, ac⟩ := z
  simp only [EnL.val, toldE, List.cons_append, List.nil_append] at *
  generalize ms.length = n1 at *
  generalize args.length = n2 at *
  have HM := hide (H1.out.tell kM_ok (Matches_ok (KM 9) rfl) (by omega))
  clear H1
  generalize hg : Wg.heap.size = g at *
  have HGG := hide hg
  clear hg
  go_enter Tryz.func19, Tryz.ntmps19
  go_wp2_with fail
  refine HM.out.mono ?_
  rintro e W1 ⟨rfl, v1, hs1, h2, -, hf⟩
  have k := (hf.block W.heap.size (by simp) (fun e => by
    rcases e with e | e
    · have := HG.out; omega
    · have := (HV.out _ e).2; omega)).trans (heap_alloc_new W _)
  obtain ⟨p0, p1, p2, p3, -⟩ := at4 k
  have HN := hide (h2.tell kM_ok (Numbers_ok (KM 6) rfl) (by omega))
  rw [HGG.out] at HN
  clear h2 hf k HM
  go_wp2_with fail
  refine HN.out.mono ?_
  rintro e W2 ⟨rfl, v2, hs2, h3, -, -⟩
  have H3 := hide h3
  clear h3 HN
  go_wp2
  go_end0
  exact ⟨rfl, _, _, H3.out⟩
theorem keepE_ok : KeepOk (KM 18) 38 18 := fun _ _ _ _ _ _ hb c0 hl hn a m c => keepEntry_bk hb c0 hl hn a m c
/- The lists of a list of entries, in the order in which they are told. -/
def toldEs (v : Value) (zs : List EnL) : List (Nat × Value × Nat) := zs.flatMap toldE ++ [(18, v, zs.length)]
set_option maxRecDepth 100000 in
set_option maxHeartbeats 2000000 in
theorem BoG.entries {w Wg W : World} {n : Nat} {v : Nat → Value} {hs : Nat → List Hc} {us : List (Nat × Value × Nat)} (a : Option Addr) (cap : Nat) (zs : List EnL) (hr : RdE Wg a zs) (h : BoG KM lvM w Wg W n v hs (toldEs (.slice a zs.length cap) zs ++ us)) (hn : n + 2 * zs.length < 700000) :
    Calls Tryz.prog 18 #[.pointer (some ⟨Wg.heap.size, 0, none⟩), .slice a zs.length cap] W fun e W' => e = .returned (.tuple #[]) ∧ ∃ v' hs', BoG KM lvM w Wg W' (n + 2 * zs.length + 1) v' hs' us := by
  have HR := hide hr
  have H0 : Hid (∃ v hs, BoG KM lvM w Wg W (n + 2 * 0) v hs ((zs.drop 0).flatMap toldE ++ (18, .slice a zs.length cap, zs.length) :: us)) := ⟨v, hs, by rw [List.drop_zero, Nat.mul_zero, Nat.add_zero]; simpa [toldEs] using h⟩
  have HE : Hid (∀ W n (z : EnL) us, n < 800000 → (∃ v hs, BoG KM lvM w Wg W n v hs (toldE z ++ us)) → Calls Tryz.prog 19 #[.pointer (some ⟨Wg.heap.size, 0, none⟩), z.val] W fun e W' => e = .returned (.tuple #[]) ∧ ∃ v' hs', BoG KM lvM w Wg W' (n + 2) v' hs' us) := fun W n z us hn ⟨v, hs, h⟩ => h.entry z hn
  have HK : Hid (∀ W n u us, n < 800000 → u.1 = 18 → (∃ v hs, BoG KM lvM w Wg W n v hs (u :: us)) → Calls Tryz.prog 38 #[.pointer (some ⟨Wg.heap.size, 0, none⟩), u.2.1] W fun e W' => e = .returned (.tuple #[]) ∧ ∃ v' hs', BoG KM lvM w Wg W' (n + 1) v' hs' us) := fun W n u us hn hu ⟨v, hs, h⟩ => by
    refine (h.tell kM_ok (by rw [hu]; exact keepE_ok) (by omega)).mono ?_
    rintro e W' ⟨rfl, v', hs', h', -, -⟩
    exact ⟨rfl, v', hs', h'⟩
  have HFG : Hid (∀ W n us, (∃ v hs, BoG KM lvM w Wg W n v hs us) → Below Wg.heap.size Wg W) := fun W n us ⟨v, hs, h⟩ => h.fg
  have HNN := hide hn
  clear h hr hn
  generalize hB : (fun W n us => ∃ v hs, BoG KM lvM w Wg W n v hs us) = BB at *
  have eB : ∀ W n us, (∃ v hs, BoG KM lvM w Wg W n v hs us) = BB W n us := fun W n us => by rw [← hB]
  simp only [eB] at *
  clear hB eB
  generalize hg : Wg.heap.size = g at *
  have HGG := hide hg
  clear hg
  go_enter Tryz.func18, Tryz.ntmps18
  go_wp2
  go_loopw [4] (fun i wr => ∃ k : Nat, k ≤ zs.length ∧ i = .int .i64 k ∧ BB wr (n + 2 * k) ((zs.drop k).flatMap toldE ++ (18, .slice a zs.length cap, zs.length) :: us)) (fun i _ => zs.length - (intOf i).toNat)
  case atStart => exact ⟨0, by omega, rfl, H0.out⟩
  case round =>
    obtain ⟨k, hk, rfl, hb⟩ := hrel
    have HB := hide hb
    have hzl : zs.length < 700000 := by have := HNN.out; omega
    clear hb H0
    by_cases hlt : k < zs.length
    · have hkI : (k : Int) < (zs.length : Int) := by omega
      have hR := HR.out.below (HGG.out.symm ▸ HFG.out _ _ _ HB.out)
      obtain ⟨p, off, rfl, _, hc⟩ := hR.some (by omega)
      obtain ⟨c0, c1, c2, c3⟩ := hc k hlt
      have HD : Hid ((zs.drop k).flatMap toldE = toldE zs[k] ++ (zs.drop (k + 1)).flatMap toldE) := by show _ = _; rw [List.drop_eq_getElem_cons hlt, List.flatMap_cons]
      rw [HD.out, List.append_assoc] at HB
      have HT := hide (HE.out _ _ _ _ (by have := HNN.out; omega) HB.out)
      clear hc hR HD HB
      generalize zs[k] = x at *
      obtain ⟨⟨ms, prio, act, args⟩, ma, mc, aa, ac⟩ := x
      simp only [EnL.val] at c0 c1 c2 c3 HT
      go_wp2_with (go_at_call 19; refine HT.out.mono ?_; rintro e w1 ⟨rfl, h1⟩; have H1 := hide h1; clear h1)
      go_roundw
      case rel => exact ⟨k + 1, by omega, by go_num, H1.out⟩
      case measure => simp [intOf]; omega
    · obtain rfl : k = zs.length := by omega
      have HX := hide (HK.out wr (n + 2 * zs.length) (18, .slice a zs.length cap, zs.length) us (by have := HNN.out; omega) rfl (by have := HB.out; rw [List.drop_length] at this; exact this))
      have dk : decide (zs.length < zs.length) = false := by simp
      clear HB HR
      simp only at HX
      go_wp2_with fail
      refine HX.out.mono ?_
      rintro e w1 ⟨rfl, h1⟩
      have H1 := hide h1
      clear h1
      go_wp2
      go_end0
      exact ⟨rfl, H1.out⟩
end Go.Proofs.YteflnicgohjiiaaGreatDoor
/- TwinNumbers, LeftNumbers, TwinInts, LeftInts, with rows of one's own handed on (cut out of MkF). -/
namespace Go.Proofs.YteflnicgohjiiaaGreatDoor
open Go.RowKit

theorem cells_newD (w : World) (cs : List Value) (t : TypeId) : ∀ j u, cs[j]? = some u → (w.alloc (.cells cs.toArray t)).cell? ((⟨w.heap.size, 0, none⟩ : Addr).add j) = some u := by
  intro j u hj
  rw [add8, Nat.zero_add]
  simp [hj]
theorem own_allocD {W : World} {B c n : Nat} {e : TypeId} {v : Value} {xs : List Value} (h : W.ownsRow B e c v n xs) (o : Obj) : (W.alloc o).ownsRow B e c v n xs := h.alloc o
theorem below_ownD {B c n : Nat} {e : TypeId} {w a b : World} {v : Value} {xs : List Value} (h : Below B w a) (ho : a.ownsRow B e c v n xs) (g : a.grownBy b v.ownBlock) (hB : B ≤ a.heap.size) : Below B w b := h.grown g hB (fun k e => (World.ownsRow.lt ho k e).1)
theorem own_someD {W : World} {B c n : Nat} {e : TypeId} {v : Value} {xs : List Value} (h : W.ownsRow B e c v n xs) (hx : 0 < n) : ∃ g cap, v = .slice (some ⟨g, 0, none⟩) n cap ∧ n ≤ cap ∧ B ≤ g ∧ g < W.heap.size ∧ cap ≤ maxLen := by
  rcases h.2 with ⟨_, hn⟩ | ⟨g, cap, cur, hv, hg, hcur, h1, h2, _⟩
  · omega
  · exact ⟨g, cap, hv, h1, hg, (Array.getElem?_eq_some_iff.1 hcur).1, h2⟩
theorem own_cut {W : World} {B c n m g cap : Nat} {e : TypeId} {xs ys : List Value} (h : W.ownsRow B e c (.slice (some ⟨g, 0, none⟩) (n + m) cap) (n + m) (xs ++ ys)) (hx : xs.length = n * c) : W.ownsRow B e c (.slice (some ⟨g, 0, none⟩) n cap) n xs := by
  refine ⟨hx, .inr ?_⟩
  rcases h.2 with ⟨h1, _⟩ | ⟨g', cap', cur, h1, h2, h3, h4, h5, h6, h7⟩
  · cases h1
  · injection h1 with e1 e2 e3
    injection e1 with e1
    injection e1 with e1
    subst e1 e3
    refine ⟨g, cap, cur, rfl, h2, h3, by omega, h5, h6, ?_⟩
    have h8 := congrArg (List.take (n * c)) h7
    rw [List.take_take, Nat.min_eq_left (Nat.mul_le_mul_right _ (by omega)), ← hx, List.take_left] at h8
    rw [← hx]; exact h8
theorem info_dN : (Tryz.prog.info? 86).map (fun i => (i.zero, i.size, i.bytes)) = some (some (.agg #[.int .i64 0, .int .u64 0, .int .u64 0]), 3, 24) := by kernel_rfl
set_option maxRecDepth 100000 in
set_option maxHeartbeats 4000000 in
theorem twinN_any (a : Option Addr) (cap : Nat) (L : List Nb) (w : World) (hl : L.length ≤ 1000000) (hr : RdN w a L) :
    Calls Tryz.prog 28 #[.slice a L.length cap] w fun e w' => ∃ g c, e = .returned (.slice (some ⟨g, 0, none⟩) L.length c) ∧ RdN w' (some ⟨g, 0, none⟩) (L ++ [(⟨77, 0, 0⟩ : Nb)]) ∧ L.length + 1 ≤ c ∧ c ≤ maxLen ∧ (w.heap.size ≤ g ∧ g < w'.heap.size) ∧ Below w.heap.size w w' ∧ w'.ownsRow w.heap.size 86 3 (.slice (some ⟨g, 0, none⟩) L.length c) L.length (flat Nb.cells L) := by
  have HR := hide hr
  obtain ⟨i0, hi0, hz0, hz1, hz2⟩ := info_parts info_dN
  clear hr
  go_enter Tryz.func28, Tryz.ntmps28
  go_wp2_with (first
    | (refine wpList_make_own _ rfl _ _ 28 rfl w.heap.size 86 i0 (.agg #[.int .i64 0, .int .u64 0, .int .u64 0]) 3 Tryz.underlying28 hi0 hz0 hz1 .i64 .i64 _ (L.length + 1) rfl rfl (by simp) (by rw [hz2]; omega) (by unfold maxLen; omega) (Nat.le_refl _) ?_; intro w1 O1 G1; have OO1 : Hid (w1.ownsRow w.heap.size 86 3 (.slice (some ⟨w.heap.size, 0, none⟩) 0 (L.length + 1)) 0 (flat Nb.cells [])) := O1; have B1 := hide ((Below.refl _ w).grown G1 (Nat.le_refl _) (fun k e => by cases e)); clear O1 G1))
  go_loopw [3, 4] (fun t i wr => ∃ (k : Nat) (v : Value), k ≤ L.length ∧ i = .int .i64 k ∧ t = v ∧ wr.ownsRow w.heap.size 86 3 v k (flat Nb.cells (L.take k)) ∧ Below w.heap.size w wr) (fun _ i _ => L.length - (intOf i).toNat)
  case atStart => exact ⟨0, _, by omega, rfl, rfl, OO1.out, B1.out⟩
  case round =>
    obtain ⟨k, v, hk, rfl, rfl, ho, hb⟩ := hrel
    have OO := hide ho; have BB := hide hb
    clear ho hb OO1 B1
    by_cases hlt : k < L.length
    · have R1 := HR.out.below BB.out
      obtain ⟨b, off, rfl, _, hc⟩ := R1.some (by omega)
      obtain ⟨c0, c1, c2⟩ := hc k hlt
      have hkI : (k : Int) < (L.length : Int) := by omega
      have HT := hide (List.take_succ_eq_append_getElem hlt)
      clear hc R1 HR
      generalize L[k] = x at *
      obtain ⟨n, h, l⟩ := x
      dsimp only at c0 c1 c2
      go_wp2_with (first
        | (at_builtin; refine wpList_append_own_at _ rfl _ _ 28 rfl w.heap.size 86 i0 (.agg #[.int .i64 0, .int .u64 0, .int .u64 0]) 3 24 Tryz.underlying28 hi0 hz0 hz1 hz2 rfl (by decide) _ k (flat Nb.cells (L.take k)) rfl (own_allocD OO.out _) ⟨wr.heap.size, 0, none⟩ 1 1 [.int .i64 n, .int .u64 h, .int .u64 l] rfl rfl (cells_newD _ _ _) (by simp [Value.oneCell']) (by unfold maxLen; omega) (by omega) (by have := BB.out.size; simp; omega) ?_; intro v7 w7 O7 G7 _ K7; have OO7 : Hid (w7.ownsRow w.heap.size 86 3 v7 (k + 1) (flat Nb.cells (L.take (k + 1)))) := by { show World.ownsRow _ _ _ _ _ _ _; rw [HT.out, flat_append]; exact O7 }; have B7 := hide (below_ownD (BB.out.alloc BB.out.size _) (own_allocD OO.out _) G7 (by have := BB.out.size; simp; omega)); clear O7 G7 K7))
      go_roundw
      case rel => exact ⟨k + 1, v7, by omega, by go_num, rfl, OO7.out, B7.out⟩
      case measure => simp [intOf]; omega
    · obtain rfl : k = L.length := by omega
      rw [List.take_length] at OO
      go_wp2_with (at_builtin; (refine wpList_append_own_at _ rfl _ _ 28 rfl w.heap.size 86 i0 (.agg #[.int .i64 0, .int .u64 0, .int .u64 0]) 3 24 Tryz.underlying28 hi0 hz0 hz1 hz2 rfl (by decide) _ L.length (flat Nb.cells L) rfl (own_allocD OO.out _) ⟨wr.heap.size, 0, none⟩ 1 1 [.int .i64 77, .int .u64 0, .int .u64 0] rfl rfl (cells_newD _ _ _) (by simp [Value.oneCell']) (by unfold maxLen; omega) (by omega) (by have := BB.out.size; simp; omega) ?_; intro v7 w7 O7 G7 _ K7; have O8 : w7.ownsRow w.heap.size 86 3 v7 (L.length + 1) (flat Nb.cells (L ++ [(⟨77, 0, 0⟩ : Nb)])) := by { rw [flat_append]; exact O7 }; have B7 := hide (below_ownD (BB.out.alloc BB.out.size _) (own_allocD OO.out _) G7 (by have := BB.out.size; simp; omega)); obtain ⟨g, c, rfl, hgc, hgB, hgl, hcm⟩ := own_someD O8 (by omega); have OO7 := hide O8; clear O7 O8 G7 K7))
      go_ret
      exact ⟨g, c, rfl, (rdN_own OO7.out).2.1, hgc, hcm, ⟨hgB, hgl⟩, B7.out, own_cut (m := 1) (by have := OO7.out; rw [flat_append] at this; exact this) (flat_length nb_len L)⟩
theorem rdN_block {W W' : World} {g : Nat} {L : List Nb} (h : RdN W (some ⟨g, 0, none⟩) L) (hb : W'.heap[g]? = W.heap[g]?) (hg : g < W'.heap.size) : RdN W' (some ⟨g, 0, none⟩) L := by
  rcases h with h | ⟨p, off, e, hp, hc⟩
  · exact .inl h
  · cases e
    have key : ∀ o v, W.cell? ⟨g, o, none⟩ = some v → W'.cell? ⟨g, o, none⟩ = some v := fun o v hv => (World.cell?_of_block (w := W) (a := ⟨g, o, none⟩) hb).trans hv
    refine .inr ⟨g, 0, rfl, hg, fun i hi => ?_⟩
    obtain ⟨h0, h1, h2⟩ := hc i hi
    exact ⟨key _ _ h0, key _ _ h1, key _ _ h2⟩
theorem rdN_take {W : World} {a : Option Addr} {L M : List Nb} (h : RdN W a (L ++ M)) : RdN W a L := by
  rcases h with h | ⟨p, off, rfl, hp, hc⟩
  · exact .inl (List.append_eq_nil_iff.1 h).1
  · refine .inr ⟨p, off, rfl, hp, fun i hi => ?_⟩
    have := hc i (by simp; omega)
    rw [List.getElem_append_left hi] at this
    exact this
set_option maxRecDepth 100000 in
set_option maxHeartbeats 4000000 in
theorem leftN_yes (g c : Nat) (a : Option Addr) (cap : Nat) (L : List Nb) (w : World) (hl : L.length ≤ 1000000) (hr : RdN w a L) (hc : L.length + 1 ≤ c) (hcm : c ≤ 9223372036854775807) (ho : RdN w (some ⟨g, 0, none⟩) (L ++ [(⟨77, 0, 0⟩ : Nb)])) :
    Calls Tryz.prog 37 #[.slice (some ⟨g, 0, none⟩) L.length c, .slice a L.length cap] w fun e w' => e = .returned (.bool true) ∧ Below w.heap.size w w' := by
  have HC := hide (rdN_take ho)
  have HR := hide hr
  have hcI : decide ((c : Int) ≤ (L.length : Int)) = false := by simp; omega
  have HO := hide ho
  have hlI : (L.length : Int) + 1 ≤ (c : Int) := by omega
  clear hr ho
  go_enter Tryz.func37, Tryz.ntmps37
  go_wp2
  go_loopw [5] (fun i wr => ∃ k : Nat, k ≤ L.length ∧ i = .int .i64 k ∧ Below w.heap.size w wr) (fun i _ => L.length - (intOf i).toNat)
  case atStart => exact ⟨0, by omega, rfl, Below.refl _ _⟩
  case round =>
    obtain ⟨k, hk, rfl, hnx⟩ := hrel
    have HN := hide hnx
    by_cases hlt : k < L.length
    · obtain ⟨p, off, rfl, _, hcl⟩ := (HR.out.below hnx).some (by omega)
      obtain ⟨g', o', eg, _, hcw⟩ := (HC.out.below hnx).some (by omega)
      cases eg
      obtain ⟨h0, h1, h2⟩ := hcw k hlt
      obtain ⟨k0, k1, k2⟩ := hcl k hlt
      rw [Nat.zero_add] at h0 h1 h2
      have hkI : (k : Int) < (L.length : Int) := by omega
      clear hcl hcw HR HC HO hnx
      generalize L[k].w = x0 at *
      generalize L[k].hi = x1 at *
      generalize L[k].lo = x2 at *
      go_wp2
      go_region
      all_goals
        go_wp2
        go_roundw
        case rel => exact ⟨k + 1, by omega, by go_num, HN.out.drew⟩
        case measure => simp [intOf]; omega
    · obtain rfl : k = L.length := by omega
      obtain ⟨g', o', eg, _, hcw⟩ := (HO.out.below hnx).some (by simp)
      cases eg
      have hlast := hcw L.length (by simp)
      rw [List.getElem_append_right (Nat.le_refl _)] at hlast
      simp only [Nat.sub_self, List.getElem_singleton, Nat.zero_add] at hlast
      obtain ⟨t0, t1, t2⟩ := hlast
      clear HR HC HO hnx hcw
      go_wp2
      go_ret
      exact ⟨rfl, HN.out.alloc HN.out.size _⟩
end Go.Proofs.YteflnicgohjiiaaGreatDoor
