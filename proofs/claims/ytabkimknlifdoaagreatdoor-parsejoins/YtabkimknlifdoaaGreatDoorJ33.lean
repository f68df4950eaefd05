/- Pieces of the proof: PaKn, PaDe, PLa. -/
import Derived.Test.YtabkimknlifdoaaGreatDoorJ17
import Derived.Test.YtabkimknlifdoaaGreatDoorJ18
import Derived.Test.YtabkimknlifdoaaGreatDoorJ19
import Derived.Test.YtabkimknlifdoaaGreatDoorJ20
import Derived.Test.YtabkimknlifdoaaGreatDoorJ21
import Derived.Test.YtabkimknlifdoaaGreatDoorJ22
import Derived.Test.YtabkimknlifdoaaGreatDoorJ23
import Derived.Test.YtabkimknlifdoaaGreatDoorJ24
import Derived.Test.YtabkimknlifdoaaGreatDoorJ25
import Derived.Test.YtabkimknlifdoaaGreatDoorJ26
import Derived.Test.YtabkimknlifdoaaGreatDoorJ27
import Derived.Test.YtabkimknlifdoaaGreatDoorJ28
import Derived.Test.YtabkimknlifdoaaGreatDoorJ30
import Derived.Test.YtabkimknlifdoaaGreatDoorJ31
import Derived.Test.YtabkimknlifdoaaGreatDoorJ32
namespace Go.Proofs.YtabkimknlifdoaaGreatDoor
open Go.RowKit
theorem goes_untilF {α:Type} {en:List UInt8} {f:Pf α} (h:Stays f):∀ g,Goes (untilF en f g)
 | 0=>fun L k x k1 e=>by rw [untilF] at e;cases e
 | g+1=>fun L k x k1 e=>by
  rw [untilF] at e
  split at e
  ·cases e;omega
  ·split at e
   ·cases e
   ·rename_i y k2 e2
    split at e
    ·cases e
    ·rename_i xs k3 e3
     have:=h _ _ _ _ e2
     have:=goes_untilF h g _ _ _ _ e3
     cases e;omega
theorem goes_until {α:Type} {en:List UInt8} {f:Pf α} (h:Stays f):Goes (untilP en f):=fun L k x k1 e=>goes_untilF h _ L k x k1 e
theorem goes_rows {α:Type} {en:List UInt8} {f:Pf α} (h:Stays f):Goes (rowsP en f):=goes_until (stays_bind h fun _=>stays_bind (stays_pass _) fun _=>stays_ret _)
theorem stays_ifP {α:Type} {l:List UInt8} {a b:Pf α} (ha:Stays a) (hb:Stays b):Stays (ifP l a b):=fun L k x k1 e=>by
 unfold ifP at e
 split at e
 ·have:=ha _ _ _ _ e;omega
 ·exact hb _ _ _ _ e
theorem goes_field:Goes fieldP:=goes_bind nameP_goes fun _=>stays_bind wholeP_goes.stays fun _=>stays_ret _
theorem stays_kind:Stays kkP:=stays_ifP (stays_ret _) (stays_ifP (stays_ret _) (stays_ifP (stays_ret _) (stays_bind (stays_pass _) fun _=>stays_ret _)))
theorem goes_key {ex:Pf Ex} (h:Goes ex):Goes (keyP ex):=goes_bind h fun _=>stays_bind stays_kind fun _=>stays_ret _
theorem goes_case:Goes caseP:=goes_bind goes_lit fun _=>stays_ifP (stays_bind goes_lit.stays fun _=>stays_bind (stays_pass _) fun _=>stays_bind nameP_goes.stays fun _=>stays_ret _) (stays_bind (stays_pass _) fun _=>stays_bind nameP_goes.stays fun _=>stays_ret _)
theorem stays_whF {α:Type} {sep:List UInt8} {f:Pf α} (h:Stays f):∀ g,Stays (whF sep f g)
 | 0=>fun L k x k1 e=>by rw [whF] at e;cases e
 | g+1=>fun L k x k1 e=>by
  rw [whF] at e
  simp only at e
  split at e
  ·split at e
   ·cases e
   ·rename_i y k2 e2
    split at e
    ·cases e
    ·rename_i xs k3 e3
     have:=h _ _ _ _ e2
     have:=stays_whF h g _ _ _ _ e3
     cases e;omega
  ·cases e;exact Nat.le_refl _
theorem stays_whP {α:Type} {sep:List UInt8} {f:Pf α} (h:Stays f):Stays (whP sep f):=fun L k x k1 e=>stays_whF h _ L k x k1 e
theorem goes_state {ex:Pf Ex} {cp:Pf (List Ck)} (hx:Stays ex) (hc:Stays cp):Goes (stateP ex cp):=fun L k x k1 e =>
 goes_bind nameP_goes (fun _=>stays_bind (stays_pass _) fun _=>stays_bind (stays_whP (closed_goes nameP_goes).stays) fun _=>stays_ifP (stays_bind hx fun _=>stays_bind (stays_pass _) fun _=>stays_bind hc fun _=>stays_bind (closed_goes nameP_goes).stays fun _=>stays_bind (stays_pass _) fun _=>stays_bind (stays_pass _) fun _=>stays_ret _) (stays_bind (stays_pass _) fun _=>stays_bind (closed_goes nameP_goes).stays fun _=>stays_bind (stays_pass _) fun _=>stays_ret _)) L k x k1 e
theorem stays_sm2 {α:Type} {f:Pf α} (h:Stays f):∀ g,Stays (sm2F f g)
 | 0=>fun L k x k1 e=>by rw [sm2F] at e;cases e
 | g+1=>fun L k x k1 e=>by
  rw [sm2F] at e
  simp only at e
  split at e
  ·split at e
   ·cases e
   ·rename_i y k2 e2
    split at e
    ·cases e
    ·rename_i xs k3 e3
     have:=h _ _ _ _ e2
     have:=stays_sm2 h g _ _ _ _ e3
     cases e;omega
  ·cases e;exact Nat.le_refl _
theorem goes_some2 {α:Type} {f:Pf α} (h:Goes f):Goes (some2P f):=fun L k x k1 e=>by
 unfold some2P at e
 split at e
 ·cases e
 ·rename_i y k2 e2
  cases hs:sm2F f (L.length+1 - k2) L k2 with
  | error e3=>rw [hs] at e;cases e
  | ok z =>
   obtain ⟨zs,k3⟩:=z
   have:=stays_sm2 h.stays _ L k2 zs k3 hs
   have:=h _ _ _ _ e2
   rw [hs] at e
   simp only [preL] at e
   cases e;omega
theorem goes_brack {α:Type} {so:Pf (List α)} (h:Stays so):Goes (brackP so):=goes_bind (goes_pass _ _) fun _=>stays_ifP (stays_ret _) (stays_bind h fun _=>stays_bind (stays_pass _) fun _=>stays_ret _)
theorem goes_exprP:Goes exprP:=fun L k x k1 e=>goes_chainF _ 0 L k x k1 e
theorem goes_fields:Goes fieldsP:=goes_bind (goes_pass _ _) fun _=>stays_bind (goes_rows goes_field.stays).stays fun _=>stays_ret _
theorem stays_cell {ex:Pf Ex} (h:Stays ex):Stays (cellP ex):=stays_bind (stays_pass _) fun _=>stays_bind h fun _=>stays_bind (stays_pass _) fun _=>stays_ret _
theorem stays_ofField (kd:Nat):Stays (ofFieldP kd):=stays_bind goes_owner.stays fun _=>stays_bind goes_fieldOf.stays fun _=>stays_ret _
def brE:Pf (List Ex):=brackP (someP exprP)
def stRows (bl:Pf (List Sm)):List (Rw Sm):=[⟨[105,102],53,ifElseP exprP bl⟩,⟨[97,112,112,108,121],54,ofNameP 3⟩,⟨[109,97,107,101],55,ofNameP 5⟩,⟨[103,111,110,101],56,ofNameP 6⟩,⟨[99,111,117,110,116],57,countP exprP⟩,⟨[114,101,97,100],58,fromArrayP exprP 8⟩,⟨[119,114,105,116,101],59,writeP exprP⟩,⟨[109,101,116,101,114],60,fromArrayP exprP 10⟩,⟨[114,97,110,100,111,109],61,randomP⟩,⟨[100,114,111,112],62,bareP 12⟩,⟨[97,103,97,105,110],63,bareP 15⟩,⟨[114,111,117,110,100],64,bareP 16⟩,⟨[100,105,103,101,115,116],65,digestP (someP exprP)⟩,⟨[99,108,111,110,101],66,cloneP⟩]
theorem stRows_keys (bl:Pf (List Sm)):KeysOk (stRows bl):=⟨by simp [stRows,List.pairwise_cons],by intro r hr;simp only [stRows,List.mem_cons,List.not_mem_nil,or_false] at hr;rcases hr with rfl | rfl | rfl | rfl | rfl | rfl | rfl | rfl | rfl | rfl | rfl | rfl | rfl | rfl <;> simp⟩
theorem stRows_map (bl:Pf (List Sm)) (p:Nat):mkE p 0 (stRows bl)=mkK p 0 sKeys:=by rw [mkE_mkK];rfl
def stmtA (bl:Pf (List Sm)):Pf Sm:=stmtP (stRows bl) (setOrCallP exprP brE)
def blockF:Nat→Pf (List Sm)
 | 0=>fun _ k=>.error k
 | f+1=>blockP (untilP [125] (stmtA (blockF f)))
theorem goes_findK {α:Type} {rows:List (Rw α)} (h:∀ r ∈ rows,Stays r.f):∀ {s:List UInt8} {f:Pf α},findK rows s=some f→Stays f:=by
 induction rows with
 | nil=>intro s f e;cases e
 | cons r rs ih =>
  intro s f e
  rw [findK] at e
  split at e
  ·injection e with e;subst e;exact h r (List.mem_cons_self ..)
  ·exact ih (fun r hr=>h r (List.mem_cons_of_mem _ hr)) e
theorem stays_setOrCall:Goes (setOrCallP exprP brE):=goes_bind goes_owner fun n=>fun L k x k1 e=>by
 unfold ifIs at e
 split at e
 ·exact stays_bind (stays_bind (goes_brack (goes_some goes_exprP).stays).stays fun _=>stays_bind (stays_pass _) fun _=>stays_ret _) (fun _=>stays_ret _) L k x k1 e
 ·exact stays_bind goes_fieldOf.stays (fun _=>stays_bind (stays_pass _) fun _=>stays_bind (closed_goes goes_exprP).stays fun _=>stays_ret _) L k x k1 e
theorem stays_stRows {bl:Pf (List Sm)} (hb:Stays bl):∀ r ∈ stRows bl,Stays r.f:=by
 intro r hr
 simp only [stRows,List.mem_cons,List.not_mem_nil,or_false] at hr
 rcases hr with rfl | rfl | rfl | rfl | rfl | rfl | rfl | rfl | rfl | rfl | rfl | rfl | rfl | rfl
 ·exact stays_bind goes_exprP.stays fun _=>stays_bind hb fun _=>stays_ifP (stays_bind hb fun _=>stays_ret _) (stays_ret _)
 ·exact stays_bind (closed_goes nameP_goes).stays fun _=>stays_ret _
 ·exact stays_bind (closed_goes nameP_goes).stays fun _=>stays_ret _
 ·exact stays_bind (closed_goes nameP_goes).stays fun _=>stays_ret _
 ·exact stays_bind nameP_goes.stays fun _=>stays_bind (stays_cell goes_exprP.stays) fun _=>stays_bind (stays_pass _) fun _=>stays_ret _
 ·exact stays_bind (stays_ofField _) fun _=>stays_bind (stays_pass _) fun _=>stays_bind nameP_goes.stays fun _=>stays_bind (stays_cell goes_exprP.stays) fun _=>stays_bind (stays_pass _) fun _=>stays_ret _
 ·exact stays_bind nameP_goes.stays fun _=>stays_bind (stays_cell goes_exprP.stays) fun _=>stays_bind (stays_pass _) fun _=>stays_bind (closed_goes goes_exprP).stays fun _=>stays_ret _
 ·exact stays_bind (stays_ofField _) fun _=>stays_bind (stays_pass _) fun _=>stays_bind nameP_goes.stays fun _=>stays_bind (stays_cell goes_exprP.stays) fun _=>stays_bind (stays_pass _) fun _=>stays_ret _
 ·exact stays_bind (stays_ofField _) fun _=>stays_bind (stays_pass _) fun _=>stays_ret _
 ·exact stays_bind (stays_pass _) fun _=>stays_ret _
 ·exact stays_bind (stays_pass _) fun _=>stays_ret _
 ·exact stays_bind (stays_pass _) fun _=>stays_ret _
 ·exact stays_bind (goes_some goes_exprP).stays fun _=>stays_bind (stays_pass _) fun _=>stays_ret _
 ·exact stays_bind (closed_goes wholeP_goes).stays fun _=>stays_ret _
theorem goes_stmtA {bl:Pf (List Sm)} (hb:Stays bl):Goes (stmtA bl):=fun L k x k1 e=>by
 unfold stmtA stmtP at e
 split at e
 ·rename_i f hf
  have:=stays_bind (goes_findK (stays_stRows hb) hf) (fun s=>stays_ret (smLn s (lineP L k))) L (k+1) x k1 e
  omega
 ·exact goes_bind stays_setOrCall (fun s=>stays_ret (smLn s (lineP L k))) L k x k1 e
theorem goes_blockF:∀ f,Goes (blockF f)
 | 0=>fun L k x k1 e=>by rw [blockF] at e;cases e
 | f+1=>by rw [blockF];exact goes_bind (goes_pass _ _) fun _=>stays_bind (goes_until (goes_stmtA (goes_blockF f).stays).stays).stays fun _=>stays_ret _
theorem PfI.later {α:Type} {I:World→Prop} {F:Nat} {args:Array Value} {p q:Nat} {L:List (Wd × Nat)} {dm sm:Value} {k0 k1:Nat} {f:Pf α} {rep:Rep α} (h:PfI I F args p q L dm sm k0 f rep) (hk:k0≤k1):PfI I F args p q L dm sm k1 f rep:=fun W k' h1 r hi=>h W k' (Nat.le_trans hk h1) r hi
def I0 (bt p db sb:Nat):World→Prop:=fun W=>Twp W bt p∧W.heap[db]? = some (.map (mkK p 0 dKeys).toArray 10)∧W.heap[sb]? = some (.map (mkK p 0 sKeys).toArray 14)∧db ≠ p∧sb ≠ p
theorem i0_stb {bt p q db sb:Nat} {L:List (Wd × Nat)} {dm sm:Value}:Stb (I0 bt p db sb) p q L dm sm:=fun _ _ _ r h=>⟨h.1.go r,(r.fr.block db (Array.getElem?_eq_some_iff.1 h.2.1).1 h.2.2.2.1).trans h.2.1,(r.fr.block sb (Array.getElem?_eq_some_iff.1 h.2.2.1).1 h.2.2.2.2).trans h.2.2.1,h.2.2.2.1,h.2.2.2.2⟩
theorem ent_ifElse:entP 53:=enters_of Tryz.func53 (by kernel_rfl) rfl
theorem ent_apply:entP 54:=enters_of Tryz.func54 (by kernel_rfl) rfl
theorem ent_make:entP 55:=enters_of Tryz.func55 (by kernel_rfl) rfl
theorem ent_gone:entP 56:=enters_of Tryz.func56 (by kernel_rfl) rfl
theorem ent_count:entP 57:=enters_of Tryz.func57 (by kernel_rfl) rfl
theorem ent_read:entP 58:=enters_of Tryz.func58 (by kernel_rfl) rfl
theorem ent_write:entP 59:=enters_of Tryz.func59 (by kernel_rfl) rfl
theorem ent_meterCell:entP 60:=enters_of Tryz.func60 (by kernel_rfl) rfl
theorem ent_random:entP 61:=enters_of Tryz.func61 (by kernel_rfl) rfl
theorem ent_drop:entP 62:=enters_of Tryz.func62 (by kernel_rfl) rfl
theorem ent_again:entP 63:=enters_of Tryz.func63 (by kernel_rfl) rfl
theorem ent_round:entP 64:=enters_of Tryz.func64 (by kernel_rfl) rfl
theorem ent_digest:entP 65:=enters_of Tryz.func65 (by kernel_rfl) rfl
theorem ent_clone:entP 66:=enters_of Tryz.func66 (by kernel_rfl) rfl
theorem block_any {bt p q db sb:Nat} {L:List (Wd × Nat)} {dm:Value} (hL:OkL L):∀ f k0,L.length≤f+k0→PfI (I0 bt p db sb) 105 #[.pointer (some ⟨p,0,none⟩)] p q L dm (.map (some sb)) k0 (blockF f) (ListR SmR mkAgg 9)
 | 0,k0,hk=>fun W k' h1 r _=>by have:=r.kl;omega
 | f+1,k0,hk=>by
  have hI:Stb (I0 bt p db sb) p q L dm (.map (some sb)):=i0_stb
  have HB:=block_any (bt:=bt) (p:=p) (q:=q) (db:=db) (sb:=sb) (dm:=dm) hL f (k0+1) (by omega)
  have HX:PfI (I0 bt p db sb) 112 #[.pointer (some ⟨p,0,none⟩)] p q L dm (.map (some sb)) 0 exprP ExR:=fun W k' h r hi=>expr_any hL 0 W k' h r hi.1
  have HCx:PfI (I0 bt p db sb) 117 #[.pointer (some ⟨p,0,none⟩),.func (Fn.func 112) #[.pointer (some ⟨p,0,none⟩)] #[]] p q L dm (.map (some sb)) 0 (closedP exprP) ExR:=fun W k' h r hi=>closed_expr hL (expr_any hL 0) W k' h r hi.1
  have HSo:PfI (I0 bt p db sb) 120 #[.pointer (some ⟨p,0,none⟩),.func (Fn.func 112) #[.pointer (some ⟨p,0,none⟩)] #[]] p q L dm (.map (some sb)) 0 (someP exprP) (ListR ExR mkAgg 10):=fun W k' h r hi=>some_ok hL goes_exprP (expr_any hL 0) W k' h r hi.1
  have HCe:=pcell_ok hL hI HX
  have HBe:=brack_expr hL hI HSo
  have HSc:=setOrCall_ok hL hI (fun n=>call_ok (n:=n) hL hI HBe) HCx
  have HIf:=ifElse_ok (k0:=k0+1) hL hI goes_exprP (goes_blockF f).stays HX (HB.later (by omega))
  have z:∀ {F:Nat} {f:Pf Sm},PfI (I0 bt p db sb) F #[.pointer (some ⟨p,0,none⟩)] p q L dm (.map (some sb)) 0 f SmR→PfI (I0 bt p db sb) F #[.pointer (some ⟨p,0,none⟩)] p q L dm (.map (some sb)) (k0+1) f SmR:=fun h=>h.later (Nat.zero_le _)
  have hrows:∀ r ∈ stRows (blockF f),entP r.g∧PfI (I0 bt p db sb) r.g #[.pointer (some ⟨p,0,none⟩)] p q L dm (.map (some sb)) (k0+1) r.f SmR:=by
   intro r hr
   simp only [stRows,List.mem_cons,List.not_mem_nil,or_false] at hr
   rcases hr with rfl | rfl | rfl | rfl | rfl | rfl | rfl | rfl | rfl | rfl | rfl | rfl | rfl | rfl
   ·exact ⟨ent_ifElse,HIf⟩
   ·exact ⟨ent_apply,z (apply_ok hL hI (ofName_ok (kd:=3) hL hI))⟩
   ·exact ⟨ent_make,z (make_ok hL hI (ofName_ok (kd:=5) hL hI))⟩
   ·exact ⟨ent_gone,z (gone_ok hL hI (ofName_ok (kd:=6) hL hI))⟩
   ·exact ⟨ent_count,z (count_ok hL hI HCe)⟩
   ·exact ⟨ent_read,z (read_ok hL hI (fromArray_ok (kd:=8) hL hI (ofField_ok (kd:=8) hL hI) HCe))⟩
   ·exact ⟨ent_write,z (write_ok hL hI HCe HCx)⟩
   ·exact ⟨ent_meterCell,z (meterCell_ok hL hI (fromArray_ok (kd:=10) hL hI (ofField_ok (kd:=10) hL hI) HCe))⟩
   ·exact ⟨ent_random,z (random_ok hL hI (ofField_ok (kd:=11) hL hI))⟩
   ·exact ⟨ent_drop,z (drop_ok hL hI (bare_ok (kd:=12) hL hI))⟩
   ·exact ⟨ent_again,z (again_ok hL hI (bare_ok (kd:=15) hL hI))⟩
   ·exact ⟨ent_round,z (round_ok hL hI (bare_ok (kd:=16) hL hI))⟩
   ·exact ⟨ent_digest,z (digest_ok hL hI HSo)⟩
   ·exact ⟨ent_clone,z (clone_ok hL hI)⟩
  have HSt:=stmt_ok (k0:=k0) (sc:=setOrCallP exprP brE) hL hI (fun W h=>⟨sb,rfl,by rw [stRows_map];exact h.2.2.1⟩) (stRows_keys (blockF f)) hrows (HSc.later (Nat.zero_le _))
  have HUt:=until_stmt (k0:=k0) hL hI (goes_stmtA (goes_blockF f).stays) [125] (by decide) ⟨#[125]⟩ rfl HSt
  rw [blockF]
  exact block_ok hL hI HUt
def blockA:Pf (List Sm):=fun L k=>blockF (L.length - k) L k
def casesP:Pf (List Ck):=rowsP [101,108,115,101] caseP
def keysP:Pf (List (Ex × Nat)):=rowsP [125] (keyP exprP)
def dcRows:List (Rw Dc):=[⟨[104,101,97,100,101,114],43,headerP⟩,⟨[109,101,116,97],44,metaP⟩,⟨[114,101,103,105,115,116,101,114],45,registerP⟩,⟨[99,111,117,110,116,101,114],46,counterP⟩,⟨[109,101,116,101,114],47,meterP⟩,⟨[112,97,114,115,101,114],48,parserP (stateP exprP casesP)⟩,⟨[97,99,116,105,111,110],49,actionP (brackP (some2P fieldP)) blockA⟩,⟨[116,97,98,108,101],50,tableP keysP (brackP (some2P litP))⟩,⟨[99,111,110,116,114,111,108],51,controlP blockA⟩,⟨[100,101,112,97,114,115,101,114],52,deparserP⟩]
theorem dcRows_keys:KeysOk dcRows:=⟨by simp [dcRows,List.pairwise_cons],by intro r hr;simp only [dcRows,List.mem_cons,List.not_mem_nil,or_false] at hr;rcases hr with rfl | rfl | rfl | rfl | rfl | rfl | rfl | rfl | rfl | rfl <;> simp⟩
theorem dcRows_map (p:Nat):mkE p 0 dcRows=mkK p 0 dKeys:=by rw [mkE_mkK];rfl
def declA:Pf Dc:=declP dcRows
def progA:Pf (List Dc):=programP declA
theorem goes_blockA:Goes blockA:=fun L k x k1 e=>goes_blockF _ L k x k1 e
theorem stays_dcRows:∀ r ∈ dcRows,Stays r.f:=by
 intro r hr
 simp only [dcRows,List.mem_cons,List.not_mem_nil,or_false] at hr
 rcases hr with rfl | rfl | rfl | rfl | rfl | rfl | rfl | rfl | rfl | rfl
 ·exact stays_bind nameP_goes.stays fun _=>stays_bind goes_fields.stays fun _=>stays_ret _
 ·exact stays_bind goes_fields.stays fun _=>stays_ret _
 ·exact stays_bind nameP_goes.stays fun _=>stays_bind wholeP_goes.stays fun _=>stays_bind (closed_goes wholeP_goes).stays fun _=>stays_ret _
 ·exact stays_bind nameP_goes.stays fun _=>stays_bind (closed_goes wholeP_goes).stays fun _=>stays_ret _
 ·exact stays_bind nameP_goes.stays fun _=>stays_bind wholeP_goes.stays fun _=>stays_bind wholeP_goes.stays fun _=>stays_bind (closed_goes wholeP_goes).stays fun _=>stays_ret _
 ·exact stays_bind (stays_pass _) fun _=>stays_bind (goes_until (goes_state goes_exprP.stays (goes_rows goes_case.stays).stays).stays).stays fun _=>stays_ret _
 ·exact stays_bind nameP_goes.stays fun _=>stays_bind (goes_brack (goes_some2 goes_field).stays).stays fun _=>stays_bind goes_blockA.stays fun _=>stays_ret _
 ·exact stays_bind nameP_goes.stays fun _=>stays_bind (stays_pass _) fun _=>stays_bind (goes_rows (goes_key goes_exprP).stays).stays fun _=>stays_bind (stays_pass _) fun _=>stays_bind nameP_goes.stays fun _=>stays_bind (goes_until nameP_goes.stays).stays fun _=>stays_bind (stays_pass _) fun _=>stays_bind nameP_goes.stays fun _=>stays_bind (goes_brack (goes_some2 goes_lit).stays).stays fun _=>stays_bind (stays_pass _) fun _=>stays_bind (closed_goes wholeP_goes).stays fun _=>stays_bind (stays_pass _) fun _=>stays_ret _
 ·exact stays_bind goes_blockA.stays fun _=>stays_ret _
 ·exact stays_bind (stays_pass _) fun _=>stays_bind (goes_rows nameP_goes.stays).stays fun _=>stays_ret _
theorem goes_declA:Goes declA:=fun L k x k1 e=>by
 unfold declA declP at e
 split at e
 ·rename_i f hf
  have:=stays_bind (goes_findK stays_dcRows hf) (fun s=>stays_ret (dcLn s (lineP L k))) L (k+1) x k1 e
  omega
 ·cases e
theorem ent_header:entP 43:=enters_of Tryz.func43 (by kernel_rfl) rfl
theorem ent_metadata:entP 44:=enters_of Tryz.func44 (by kernel_rfl) rfl
theorem ent_register:entP 45:=enters_of Tryz.func45 (by kernel_rfl) rfl
theorem ent_counter:entP 46:=enters_of Tryz.func46 (by kernel_rfl) rfl
theorem ent_meter:entP 47:=enters_of Tryz.func47 (by kernel_rfl) rfl
theorem ent_parser:entP 48:=enters_of Tryz.func48 (by kernel_rfl) rfl
theorem ent_action:entP 49:=enters_of Tryz.func49 (by kernel_rfl) rfl
theorem ent_table:entP 50:=enters_of Tryz.func50 (by kernel_rfl) rfl
theorem ent_control:entP 51:=enters_of Tryz.func51 (by kernel_rfl) rfl
theorem ent_deparser:entP 52:=enters_of Tryz.func52 (by kernel_rfl) rfl
theorem program_any {bt p q db sb:Nat} {L:List (Wd × Nat)} (hL:OkL L):PfI (I0 bt p db sb) 18 #[.pointer (some ⟨p,0,none⟩)] p q L (.map (some db)) (.map (some sb)) 0 progA (ListR DeclR mkAgg 15):=by
 have hI:Stb (I0 bt p db sb) p q L (.map (some db)) (.map (some sb)):=i0_stb
 have HX:PfI (I0 bt p db sb) 112 #[.pointer (some ⟨p,0,none⟩)] p q L (.map (some db)) (.map (some sb)) 0 exprP ExR:=fun W k' h r hi=>expr_any hL 0 W k' h r hi.1
 have HBl:PfI (I0 bt p db sb) 105 #[.pointer (some ⟨p,0,none⟩)] p q L (.map (some db)) (.map (some sb)) 0 blockA (ListR SmR mkAgg 9):=fun W k' _ r hi=>block_any hL (L.length - k') k' (by omega) W k' (Nat.le_refl _) r hi
 -- fields
 have HRf:=rows_field (k0:=0) (en:=[125]) (T:=⟨#[125]⟩) hI (fun b3 b5=>until_field hL (bx_stb hI b3 b5 _) (closed_goes goes_field) [125] (by decide) ⟨#[125]⟩ rfl (rows1_field hL hI (closed_field hL hI (field_i hL))))
 have HFl:=fields_ok hL hI HRf
 -- keys
 have HKy:=key_ok hL hI HX (kind_ok hL hI)
 have HRk:=rows_key (k0:=0) (en:=[125]) (T:=⟨#[125]⟩) hI (fun b3 b5=>until_key hL (bx_stb hI b3 b5 _) (closed_goes (goes_key goes_exprP)) [125] (by decide) ⟨#[125]⟩ rfl (rows1_key hL hI (closed_key hL hI HKy)))
 -- cases, states
 have HRc:=rows_case (k0:=0) (en:=[101,108,115,101]) (T:=⟨#[101,108,115,101]⟩) hI (fun b3 b5=>until_case hL (bx_stb hI b3 b5 _) (closed_goes goes_case) [101,108,115,101] (by decide) ⟨#[101,108,115,101]⟩ rfl (rows1_case hL hI (closed_case hL hI (caseOf_ok hL hI))))
 have HSt:=state_ok hL hI HX HRc
 have HUt:=until_state (k0:=0) hL hI (goes_state goes_exprP.stays (goes_rows goes_case.stays).stays) [125] (by decide) ⟨#[125]⟩ rfl HSt
 -- names
 have HRs:=rows_str (k0:=0) (en:=[125]) (T:=⟨#[125]⟩) hI (fun b3 b5=>until_str hL (bx_stb hI b3 b5 _) (closed_goes nameP_goes) [125] (by decide) ⟨#[125]⟩ rfl (rows1_str hL hI (cstr_i hL)))
 have HBf:=brack_field hL hI (some_field (k0:=0) hL hI goes_field (field_i hL))
 have HBb:=brack_bits hL hI (some_bits (k0:=0) hL hI goes_lit (lit_i hL))
 have z:∀ {F:Nat} {f:Pf Dc},PfI (I0 bt p db sb) F #[.pointer (some ⟨p,0,none⟩)] p q L (.map (some db)) (.map (some sb)) 0 f DeclR→PfI (I0 bt p db sb) F #[.pointer (some ⟨p,0,none⟩)] p q L (.map (some db)) (.map (some sb)) (0+1) f DeclR:=fun h=>h.later (Nat.zero_le _)
 have hrows:∀ r ∈ dcRows,entP r.g∧PfI (I0 bt p db sb) r.g #[.pointer (some ⟨p,0,none⟩)] p q L (.map (some db)) (.map (some sb)) (0+1) r.f DeclR:=by
  intro r hr
  simp only [dcRows,List.mem_cons,List.not_mem_nil,or_false] at hr
  rcases hr with rfl | rfl | rfl | rfl | rfl | rfl | rfl | rfl | rfl | rfl
  ·exact ⟨ent_header,z (header_ok hL hI HFl)⟩
  ·exact ⟨ent_metadata,z (metadata_ok hL hI HFl)⟩
  ·exact ⟨ent_register,z (register_ok hL hI)⟩
  ·exact ⟨ent_counter,z (counter_ok hL hI)⟩
  ·exact ⟨ent_meter,z (meter_ok hL hI)⟩
  ·exact ⟨ent_parser,z (parser_ok hL hI HUt)⟩
  ·exact ⟨ent_action,z (action_ok hL hI HBf HBl)⟩
  ·exact ⟨ent_table,z (table_ok hL hI HRk HBb)⟩
  ·exact ⟨ent_control,z (control_ok hL hI HBl)⟩
  ·exact ⟨ent_deparser,z (deparser_ok hL hI HRs)⟩
 have HDc:=decl_ok (k0:=0) hL hI (fun W h=>⟨db,rfl,by rw [dcRows_map];exact h.2.1⟩) dcRows_keys hrows
 exact program_ok hI goes_declA HDc
abbrev PRes:=Except (Nat × Nat) (List Dc)
def parseL (s:List UInt8):PRes:=if 65536 < s.length then .error (0,3) else match toks s with
 | .error k=>.error (k,4)
 | .ok xs=>match progA (xs ++ [endW xs]) 0 with
  | .error k=>.error (lineP (xs ++ [endW xs]) k,5)
  | .ok (ds,_)=>if limT ds then .error (0,3) else .ok ds
def Ag (L L':List (Wd × Nat)) (n:Nat):Prop:=∀ j,j≤n→(L[j]?).map (·.1)=(L'[j]?).map (·.1)
theorem Ag.le {L L':List (Wd × Nat)} {n m:Nat} (h:Ag L L' n) (hm:m≤n):Ag L L' m:=fun j hj=>h j (Nat.le_trans hj hm)
def Le (L:List (Wd × Nat)):Prop:=∀ k x,L[k]? = some x→(x.1.k ≠ 0 ∨ x.1.s ≠ [])→k+1 < L.length
def LcR {α:Type} (R:α→α→Prop) (L L':List (Wd × Nat)) (k:Nat) (r r':Except Nat (α × Nat)):Prop :=
 (∀ e,r=.error e→k≤e∧e < L.length∧(Ag L L' e→r'=.error e))∧∀ x k1,r=.ok (x,k1)→k≤k1∧k1 < L.length∧(Ag L L' k1→∃ x',r'=.ok (x',k1)∧R x x')
theorem LcR.pre {α:Type} {R:α→α→Prop} {L L':List (Wd × Nat)} {k:Nat} {r r' r2:Except Nat (α × Nat)} (h:LcR R L L' k r r2) (he:Ag L L' k→r'=r2):LcR R L L' k r r' :=
 ⟨fun e h1=>⟨(h.1 e h1).1,(h.1 e h1).2.1,fun ha=>(he (ha.le (h.1 e h1).1)).trans ((h.1 e h1).2.2 ha)⟩,fun x k1 h1=>⟨(h.2 x k1 h1).1,(h.2 x k1 h1).2.1,fun ha=>by rw [he (ha.le (h.2 x k1 h1).1)];exact (h.2 x k1 h1).2.2 ha⟩⟩
theorem LcR.later {α:Type} {R:α→α→Prop} {L L':List (Wd × Nat)} {k:Nat} {r r':Except Nat (α × Nat)} (h:LcR R L L' (k+1) r r'):LcR R L L' k r r' :=
 ⟨fun e h1=>⟨Nat.le_of_succ_le (h.1 e h1).1,(h.1 e h1).2⟩,fun x k1 h1=>⟨Nat.le_of_succ_le (h.2 x k1 h1).1,(h.2 x k1 h1).2⟩⟩
theorem LcR.ret {α:Type} {R:α→α→Prop} {L L':List (Wd × Nat)} {k:Nat} {x x':α} (hk:k < L.length) (hx:R x x'):LcR R L L' k (.ok (x,k)) (.ok (x',k)) :=
 ⟨fun e h=>(by cases h),fun y k1 h=>(by cases h;exact ⟨Nat.le_refl _,hk,fun _=>⟨x',rfl,hx⟩⟩)⟩
theorem LcR.fail {α:Type} {R:α→α→Prop} {L L':List (Wd × Nat)} {k:Nat} (hk:k < L.length):LcR R L L' k (.error k) (.error k) :=
 ⟨fun e h=>(by cases h;exact ⟨Nat.le_refl _,hk,fun _=>rfl⟩),fun y k1 h=>(by cases h)⟩
def Lc {α:Type} (R:α→α→Prop) (L L':List (Wd × Nat)) (k0:Nat) (f f':Pf α):Prop:=∀ k,k0≤k→k < L.length→LcR R L L' k (f L k) (f' L' k)
theorem Lc.from {α:Type} {R:α→α→Prop} {L L':List (Wd × Nat)} {k0 k1:Nat} {f f':Pf α} (h:Lc R L L' k0 f f') (hk:k0≤k1):Lc R L L' k1 f f':=fun k h1 h2=>h k (Nat.le_trans hk h1) h2
theorem Lc.imp {α:Type} {R S:α→α→Prop} {L L':List (Wd × Nat)} {k0:Nat} {f f':Pf α} (h:Lc R L L' k0 f f') (hR:∀ x y,R x y→S x y):Lc S L L' k0 f f':=fun k h1 h2 =>
 ⟨(h k h1 h2).1,fun x k1 e=>⟨((h k h1 h2).2 x k1 e).1,((h k h1 h2).2 x k1 e).2.1,fun ha=>by
  obtain ⟨x',e',r⟩:=((h k h1 h2).2 x k1 e).2.2 ha
  exact ⟨x',e',hR _ _ r⟩⟩⟩
theorem Lc.late {α:Type} {R:α→α→Prop} {L L':List (Wd × Nat)} {k0:Nat} {f f0 f':Pf α} (h:Lc R L L' k0 f f0) (hk:L'.length≤k0):Lc R L L' k0 f f':=fun k h1 h2=>(h k h1 h2).pre fun ha=>by
 have:=ha k (Nat.le_refl _)
 rw [List.getElem?_eq_getElem h2,List.getElem?_eq_none (by omega)] at this
 cases this
theorem lc_bind {α β:Type} {R:α→α→Prop} {S:β→β→Prop} {L L':List (Wd × Nat)} {k0:Nat} {a a':Pf α} {f f':α→Pf β} (rr:∀ x,R x x) (ha:Lc R L L' k0 a a') (hf:∀ x x',R x x'→Lc S L L' k0 (f x) (f' x')):Lc S L L' k0 (a.bind f) (a'.bind f'):=by
 intro k h1 h2
 unfold Pf.bind
 have q:=ha k h1 h2
 cases h:a L k with
 | error e =>
  obtain ⟨q1,q0,q2⟩:=q.1 e h
  exact ⟨fun e' h'=>by cases h';exact ⟨q1,q0,fun hA=>by rw [q2 hA]⟩,fun x k1 h'=>by cases h'⟩
 | ok y =>
  obtain ⟨x,k1⟩:=y
  obtain ⟨q1,q2,q3⟩:=q.2 x k1 h
  have p:=hf x x (rr x) k1 (Nat.le_trans h1 q1) q2
  refine ⟨fun e h'=>?_,fun z k2 h'=>?_⟩
  ·have p1:=p.1 e h'
   refine ⟨Nat.le_trans q1 p1.1,p1.2.1,fun hA=>?_⟩
   obtain ⟨x',e',r⟩:=q3 (hA.le p1.1)
   rw [e']
   exact ((hf x x' r k1 (Nat.le_trans h1 q1) q2).1 e h').2.2 hA
  ·have p1:=p.2 z k2 h'
   refine ⟨Nat.le_trans q1 p1.1,p1.2.1,fun hA=>?_⟩
   obtain ⟨x',e',r⟩:=q3 (hA.le p1.1)
   rw [e']
   exact ((hf x x' r k1 (Nat.le_trans h1 q1) q2).2 z k2 h').2.2 hA
theorem lc_bindG {α β:Type} {R:α→α→Prop} {S:β→β→Prop} {L L':List (Wd × Nat)} {k0:Nat} {a a':Pf α} {f f':α→Pf β} (rr:∀ x,R x x) (hg:Goes a) (ha:Lc R L L' k0 a a') (hf:∀ x x',R x x'→Lc S L L' (k0+1) (f x) (f' x')):Lc S L L' k0 (a.bind f) (a'.bind f'):=by
 intro k h1 h2
 unfold Pf.bind
 have q:=ha k h1 h2
 cases h:a L k with
 | error e =>
  obtain ⟨q1,q0,q2⟩:=q.1 e h
  exact ⟨fun e' h'=>by cases h';exact ⟨q1,q0,fun hA=>by rw [q2 hA]⟩,fun x k1 h'=>by cases h'⟩
 | ok y =>
  obtain ⟨x,k1⟩:=y
  obtain ⟨q1,q2,q3⟩:=q.2 x k1 h
  have g1:k0+1≤k1:=Nat.lt_of_le_of_lt h1 (hg L k x k1 h)
  have p:=hf x x (rr x) k1 g1 q2
  refine ⟨fun e h'=>?_,fun z k2 h'=>?_⟩
  ·have p1:=p.1 e h'
   refine ⟨Nat.le_trans q1 p1.1,p1.2.1,fun hA=>?_⟩
   obtain ⟨x',e',r⟩:=q3 (hA.le p1.1)
   rw [e']
   exact ((hf x x' r k1 g1 q2).1 e h').2.2 hA
  ·have p1:=p.2 z k2 h'
   refine ⟨Nat.le_trans q1 p1.1,p1.2.1,fun hA=>?_⟩
   obtain ⟨x',e',r⟩:=q3 (hA.le p1.1)
   rw [e']
   exact ((hf x x' r k1 g1 q2).2 z k2 h').2.2 hA
theorem lc_ret {α:Type} {R:α→α→Prop} {L L':List (Wd × Nat)} {k0:Nat} {x x':α} (h:R x x'):Lc R L L' k0 (Pf.ret x) (Pf.ret x'):=fun _ _ h2=>LcR.ret h2 h
def failP {α:Type}:Pf α:=fun _ k=>.error k
theorem lc_fail {α:Type} {R:α→α→Prop} {L L':List (Wd × Nat)} {k0:Nat}:Lc R L L' k0 failP failP:=fun _ _ h=>LcR.fail h
theorem ag_passed {L L':List (Wd × Nat)} {k:Nat} {l:List UInt8} (h:Ag L L' k):passedP l L' k=passedP l L k:=by
 have h:=h k (Nat.le_refl _)
 unfold passedP
 cases e:L[k]? with
 | none=>rw [e] at h;cases e':L'[k]? with
  | none=>rfl
  | some x=>rw [e'] at h;cases h
 | some x=>rw [e] at h;cases e':L'[k]? with
  | none=>rw [e'] at h;cases h
  | some x'=>rw [e'] at h;injection h with h;simp only at h ⊢;rw [h]
theorem ag_words {L L':List (Wd × Nat)} {k:Nat} (h:Ag L L' k):sP L' k=sP L k∧wordS L' k=wordS L k∧kdP L' k=kdP L k:=by
 have h:=h k (Nat.le_refl _)
 unfold sP wordS kdP
 cases e:L[k]? with
 | none=>rw [e] at h;cases e':L'[k]? with
  | none=>exact ⟨rfl,rfl,rfl⟩
  | some x=>rw [e'] at h;cases h
 | some x=>rw [e] at h;cases e':L'[k]? with
  | none=>rw [e'] at h;cases h
  | some x'=>rw [e'] at h;injection h with h;simp only at h ⊢;rw [h];exact ⟨rfl,rfl,rfl⟩
theorem passed_lt {L:List (Wd × Nat)} {k:Nat} {l:List UInt8} (hE:Le L) (hl:l ≠ []) (h:passedP l L k=true):k+1 < L.length:=by
 unfold passedP at h
 split at h
 ·rename_i x e
  refine hE k x e (.inr ?_)
  rw [of_decide_eq_true h];exact hl
 ·cases h
theorem word_lt {L:List (Wd × Nat)} {k:Nat} (hE:Le L) (h:wordS L k ≠ []):k+1 < L.length:=by
 unfold wordS at h
 split at h
 ·rename_i x e
  exact hE k x e (.inr h)
 ·exact absurd rfl h
def ifL {α:Type} (l:List UInt8) (a:Nat→Pf α) (b:Pf α):Pf α:=fun L k=>if passedP l L k then a (lineP L k) L (k+1) else b L k
theorem lc_ifL {α:Type} {R:α→α→Prop} {L L':List (Wd × Nat)} {k0:Nat} {l:List UInt8} {a a':Nat→Pf α} {b b':Pf α} (hE:Le L) (hl:l ≠ []) (ha:∀ n n',Lc R L L' (k0+1) (a n) (a' n')) (hb:Lc R L L' k0 b b'):Lc R L L' k0 (ifL l a b) (ifL l a' b'):=by
 intro k h1 h2
 unfold ifL
 cases hp:passedP l L k with
 | true =>
  rw [if_pos rfl]
  exact (ha (lineP L k) (lineP L' k) (k+1) (Nat.succ_le_succ h1) (passed_lt hE hl hp)).later.pre fun hA=>by rw [ag_passed hA,hp,if_pos rfl]
 | false =>
  rw [if_neg (by decide)]
  exact (hb k h1 h2).pre fun hA=>by rw [ag_passed hA,hp,if_neg (by decide)]
theorem lc_ifP {α:Type} {R:α→α→Prop} {L L':List (Wd × Nat)} {k0:Nat} {l:List UInt8} {a a':Pf α} {b b':Pf α} (hE:Le L) (hl:l ≠ []) (ha:Lc R L L' (k0+1) a a') (hb:Lc R L L' k0 b b'):Lc R L L' k0 (ifP l a b) (ifP l a' b'):=lc_ifL (a:=fun _=>a) (a':=fun _=>a') hE hl (fun _ _=>ha) hb
def condP {α:Type} (c:List (Wd × Nat)→Nat→Bool) (a b:Pf α):Pf α:=fun L k=>if c L k then a L k else b L k
theorem lc_cond {α:Type} {R:α→α→Prop} {L L':List (Wd × Nat)} {k0:Nat} {c:List (Wd × Nat)→Nat→Bool} {a a' b b':Pf α} (hc:∀ k,Ag L L' k→c L' k=c L k) (ha:Lc R L L' k0 a a') (hb:Lc R L L' k0 b b'):Lc R L L' k0 (condP c a b) (condP c a' b'):=by
 intro k h1 h2
 unfold condP
 cases hp:c L k with
 | true =>
  rw [if_pos rfl]
  exact (ha k h1 h2).pre fun hA=>by rw [hc k hA,hp,if_pos rfl]
 | false =>
  rw [if_neg (by decide)]
  exact (hb k h1 h2).pre fun hA=>by rw [hc k hA,hp,if_neg (by decide)]
def lnP {α:Type} (a:Nat→Pf α):Pf α:=fun L k=>a (lineP L k) L k
theorem lc_ln {α:Type} {R:α→α→Prop} {L L':List (Wd × Nat)} {k0:Nat} {a a':Nat→Pf α} (ha:∀ n n',Lc R L L' k0 (a n) (a' n')):Lc R L L' k0 (lnP a) (lnP a'):=fun k h1 h2=>ha _ _ k h1 h2
theorem lc_fuel {α:Type} {R:α→α→Prop} {L L':List (Wd × Nat)} {k0:Nat} {F F':Nat→Pf α} (h:∀ k,k0≤k→Lc R L L' k (F (L.length+1 - k)) (F' (L'.length+1 - k))):Lc R L L' k0 (fun L k=>F (L.length+1 - k) L k) (fun L k=>F' (L.length+1 - k) L k):=fun k h1 h2=>h k h1 k (Nat.le_refl _) h2
theorem lc_pass {L L':List (Wd × Nat)} (hE:Le L):∀ (ls:List (List UInt8)) (k0:Nat),(∀ l ∈ ls,l ≠ [])→Lc Eq L L' k0 (passP ls) (passP ls)
 | [],_,_=>lc_ret rfl
 | l :: ls,k0,h=>by
  have e:passP (l :: ls)=ifL l (fun _=>passP ls) failP:=rfl
  rw [e]
  exact lc_ifL hE (h l (by simp)) (fun _ _=>lc_pass hE ls (k0+1) fun x hx=>h x (by simp [hx])) lc_fail
theorem lc_self {α:Type} {L L':List (Wd × Nat)} {k0:Nat} {f:Pf α} (h1:∀ k,Ag L L' k→f L' k=f L k) (h2:∀ k e,f L k=.error e→e=k) (h3:∀ k x k1,f L k=.ok (x,k1)→k1=k+1∧k+1 < L.length):Lc Eq L L' k0 f f:=by
 intro k _ hk
 refine LcR.pre (r2:=f L k) ⟨fun e he=>⟨by rw [h2 k e he];exact Nat.le_refl _,by rw [h2 k e he];exact hk,fun _=>he⟩,fun x k1 he=>?_⟩ (h1 k)
 obtain ⟨e1,e2⟩:=h3 k x k1 he
 exact ⟨by omega,by omega,fun _=>⟨x,he,rfl⟩⟩
theorem ag_get {L L':List (Wd × Nat)} {k:Nat} (h:Ag L L' k):(L[k]? = none∧L'[k]? = none) ∨ ∃ x n n',L[k]? = some (x,n)∧L'[k]? = some (x,n'):=by
 have h:=h k (Nat.le_refl _)
 cases e:L[k]? with
 | none=>rw [e] at h;cases e':L'[k]? with
  | none=>exact .inl ⟨rfl,rfl⟩
  | some x=>rw [e'] at h;cases h
 | some x=>rw [e] at h;cases e':L'[k]? with
  | none=>rw [e'] at h;cases h
  | some x' =>
   rw [e'] at h;injection h with h
   obtain ⟨x1,n⟩:=x
   obtain ⟨x2,n'⟩:=x'
   simp only at h
   exact .inr ⟨x1,n,n',rfl,by rw [h]⟩
theorem lc_name {L L':List (Wd × Nat)} {k0:Nat} (hE:Le L):Lc Eq L L' k0 nameP nameP:=by
 refine lc_self (fun k hA=>?_) (fun k e h=>?_) (fun k x k1 h=>?_)
 ·unfold nameP
  rcases ag_get hA with ⟨e1,e2⟩ | ⟨x,n,n',e1,e2⟩
  ·rw [e1,e2]
  ·rw [e1,e2]
 ·unfold nameP at h
  split at h
  ·split at h
   ·cases h;rfl
   ·split at h
    ·cases h
    ·cases h;rfl
  ·cases h;rfl
 ·unfold nameP at h
  split at h
  ·rename_i y hy
   split at h
   ·cases h
   ·split at h
    ·rename_i hk
     cases h
     exact ⟨rfl,hE k y hy (.inl (by rw [hk];decide))⟩
    ·cases h
  ·cases h
theorem lc_whole {L L':List (Wd × Nat)} {k0:Nat} (hE:Le L):Lc Eq L L' k0 wholeP wholeP:=by
 refine lc_self (fun k hA=>?_) (fun k e h=>?_) (fun k x k1 h=>?_)
 ·unfold wholeP
  rcases ag_get hA with ⟨e1,e2⟩ | ⟨x,n,n',e1,e2⟩
  ·rw [e1,e2]
  ·rw [e1,e2]
 ·unfold wholeP at h
  split at h
  ·split at h
   ·cases h
   ·cases h;rfl
  ·cases h;rfl
 ·unfold wholeP at h
  split at h
  ·rename_i y hy
   split at h
   ·rename_i hk
    cases h
    exact ⟨rfl,hE k y hy (.inl (by rw [hk];decide))⟩
   ·cases h
  ·cases h
theorem lc_lit {L L':List (Wd × Nat)} {k0:Nat} (hE:Le L):Lc Eq L L' k0 litP litP:=by
 refine lc_self (fun k hA=>?_) (fun k e h=>?_) (fun k x k1 h=>?_)
 ·unfold litP
  rcases ag_get hA with ⟨e1,e2⟩ | ⟨x,n,n',e1,e2⟩
  ·rw [e1,e2]
  ·rw [e1,e2]
 ·unfold litP at h
  split at h
  ·split at h
   ·cases h
   ·cases h;rfl
  ·cases h;rfl
 ·unfold litP at h
  split at h
  ·rename_i y hy
   split at h
   ·rename_i hk
    cases h
    exact ⟨rfl,hE k y hy (.inl (by rw [hk];decide))⟩
   ·cases h
  ·cases h
def LQ {α:Type} (R:α→α→Prop):List α→List α→Prop
 | [],[]=>True
 | x :: xs,y :: ys=>R x y∧LQ R xs ys
 | _,_=>False
theorem LQ.refl {α:Type} {R:α→α→Prop} (h:∀ x,R x x):∀ l,LQ R l l
 | []=>trivial
 | x :: xs=>⟨h x,LQ.refl h xs⟩
theorem until_eq {α:Type} (en:List UInt8) (f:Pf α) (g:Nat):untilF en f (g+1)=ifL en (fun _=>Pf.ret []) (f.bind fun x=>(untilF en f g).bind fun xs=>Pf.ret (x :: xs)):=by
 funext L k
 rw [untilF]
 unfold ifL Pf.bind Pf.ret
 cases passedP en L k with
 | true=>rfl
 | false =>
  simp only [Bool.false_eq_true,if_false]
  cases f L k with
  | error e=>rfl
  | ok y =>
   simp only
   cases untilF en f g L y.2 with
   | error e=>rfl
   | ok z=>rfl
theorem wh_eq {α:Type} (sep:List UInt8) (f:Pf α) (g:Nat):whF sep f (g+1)=ifL sep (fun _=>f.bind fun x=>(whF sep f g).bind fun xs=>Pf.ret (x :: xs)) (Pf.ret []):=by
 funext L k
 unfold ifL Pf.bind Pf.ret
 simp only [whF]
 cases passedP sep L k with
 | false=>rfl
 | true =>
  simp only [if_true]
  cases f L (k+1) with
  | error e=>rfl
  | ok y =>
   simp only
   cases whF sep f g L y.2 with
   | error e=>rfl
   | ok z=>rfl
theorem lc_until {α:Type} {R:α→α→Prop} {L L':List (Wd × Nat)} {en:List UInt8} (hE:Le L) (hl:en ≠ []) (rr:∀ x,R x x) {f f':Pf α} (hg:Goes f):∀ (g g' k0:Nat),Lc R L L' k0 f f'→L.length+1≤g+k0→L'.length+1≤g'+k0→Lc (LQ R) L L' k0 (untilF en f g) (untilF en f' g'):=by
 intro g
 induction g with
 | zero=>intro g' k0 _ h _ k h1 h2;omega
 | succ g ih =>
  have main:∀ g' k0,Lc R L L' k0 f f'→L.length+1≤g+1+k0→L'.length+1≤g'+1+k0→Lc (LQ R) L L' k0 (untilF en f (g+1)) (untilF en f' (g'+1)):=by
   intro g' k0 hf h h'
   rw [until_eq,until_eq]
   exact lc_ifL hE hl (fun _ _=>lc_ret trivial) (lc_bindG rr hg hf fun x x' hx=>lc_bind (LQ.refl rr) (ih g' (k0+1) (hf.from (by omega)) (by omega) (by omega)) fun xs xs' hxs=>lc_ret ⟨hx,hxs⟩)
  intro g' k0 hf h h'
  cases g' with
  | zero=>exact Lc.late (main (L'.length+2) k0 hf h (by omega)) (by omega)
  | succ g'=>exact main g' k0 hf h h'
theorem lc_untilP {α:Type} {R:α→α→Prop} {L L':List (Wd × Nat)} {en:List UInt8} (hE:Le L) (hl:en ≠ []) (rr:∀ x,R x x) {f f':Pf α} (hg:Goes f) {k0:Nat} (hf:Lc R L L' k0 f f'):Lc (LQ R) L L' k0 (untilP en f) (untilP en f') :=
 lc_fuel (F:=untilF en f) (F':=untilF en f') fun k hk=>lc_until hE hl rr hg _ _ k (hf.from hk) (by omega) (by omega)
theorem lc_wh {α:Type} {R:α→α→Prop} {L L':List (Wd × Nat)} {sep:List UInt8} (hE:Le L) (hl:sep ≠ []) (rr:∀ x,R x x) {f f':Pf α}:∀ (g g' k0:Nat),Lc R L L' k0 f f'→L.length+1≤g+k0→L'.length+1≤g'+k0→Lc (LQ R) L L' k0 (whF sep f g) (whF sep f' g'):=by
 intro g
 induction g with
 | zero=>intro g' k0 _ h _ k h1 h2;omega
 | succ g ih =>
  have main:∀ g' k0,Lc R L L' k0 f f'→L.length+1≤g+1+k0→L'.length+1≤g'+1+k0→Lc (LQ R) L L' k0 (whF sep f (g+1)) (whF sep f' (g'+1)):=by
   intro g' k0 hf h h'
   rw [wh_eq,wh_eq]
   exact lc_ifL hE hl (fun _ _=>lc_bind rr (hf.from (by omega)) fun x x' hx=>lc_bind (LQ.refl rr) (ih g' (k0+1) (hf.from (by omega)) (by omega) (by omega)) fun xs xs' hxs=>lc_ret ⟨hx,hxs⟩) (lc_ret trivial)
  intro g' k0 hf h h'
  cases g' with
  | zero=>exact Lc.late (main (L'.length+2) k0 hf h (by omega)) (by omega)
  | succ g'=>exact main g' k0 hf h h'
theorem lc_whP {α:Type} {R:α→α→Prop} {L L':List (Wd × Nat)} {sep:List UInt8} (hE:Le L) (hl:sep ≠ []) (rr:∀ x,R x x) {f f':Pf α} {k0:Nat} (hf:Lc R L L' k0 f f'):Lc (LQ R) L L' k0 (whP sep f) (whP sep f') :=
 lc_fuel (F:=whF sep f) (F':=whF sep f') fun k hk=>lc_wh hE hl rr _ _ k (hf.from hk) (by omega) (by omega)
theorem sm2_wh {α:Type} (f:Pf α):∀ g,sm2F f g=whF [44] f g
 | 0=>rfl
 | g+1=>by
  funext L k
  rw [sm2F,whF,sm2_wh f g]
  rfl
theorem sm_wh (f:Pf Ex):∀ g,smF f g=whF [44] f g
 | 0=>rfl
 | g+1=>by
  funext L k
  rw [wh_eq]
  unfold ifL Pf.bind Pf.ret
  simp only [smF,sm_wh f g]
  cases passedP [44] L k with
  | false=>rfl
  | true =>
   simp only [if_true]
   cases f L (k+1) with
   | error e=>rfl
   | ok y =>
    simp only
    cases whF [44] f g L y.2 with
    | error e=>rfl
    | ok z=>rfl
theorem some2_eq {α:Type} (f:Pf α):some2P f=f.bind fun x=>(whP [44] f).bind fun xs=>Pf.ret ([x] ++ xs):=by
 funext L k
 unfold some2P Pf.bind
 cases f L k with
 | error e=>rfl
 | ok y =>
  simp only
  rw [sm2_wh]
  unfold whP
  cases whF [44] f (L.length+1 - y.2) L y.2 <;> rfl
theorem some_eq (f:Pf Ex):someP f=f.bind fun x=>(whP [44] f).bind fun xs=>Pf.ret ([x] ++ xs):=by
 funext L k
 unfold someP Pf.bind
 cases f L k with
 | error e=>rfl
 | ok y =>
  simp only
  rw [sm_wh]
  unfold whP
  cases whF [44] f (L.length+1 - y.2) L y.2 <;> rfl
theorem lc_some2 {α:Type} {R:α→α→Prop} {L L':List (Wd × Nat)} (hE:Le L) (rr:∀ x,R x x) {f f':Pf α} {k0:Nat} (hf:Lc R L L' k0 f f'):Lc (LQ R) L L' k0 (some2P f) (some2P f'):=by
 rw [some2_eq,some2_eq]
 exact lc_bind rr hf fun x x' hx=>lc_bind (LQ.refl rr) (lc_whP hE (by decide) rr hf) fun xs xs' hxs=>lc_ret ⟨hx,hxs⟩
theorem lc_some {R:Ex→Ex→Prop} {L L':List (Wd × Nat)} (hE:Le L) (rr:∀ x,R x x) {f f':Pf Ex} {k0:Nat} (hf:Lc R L L' k0 f f'):Lc (LQ R) L L' k0 (someP f) (someP f'):=by
 rw [some_eq,some_eq]
 exact lc_bind rr hf fun x x' hx=>lc_bind (LQ.refl rr) (lc_whP hE (by decide) rr hf) fun xs xs' hxs=>lc_ret ⟨hx,hxs⟩
theorem lc_closed {α:Type} {R:α→α→Prop} {L L':List (Wd × Nat)} {k0:Nat} (hE:Le L) (rr:∀ x,R x x) {f f':Pf α} (hf:Lc R L L' k0 f f'):Lc R L L' k0 (closedP f) (closedP f') :=
 lc_bind rr hf fun _ _ hx=>lc_bind (fun _=>rfl) (lc_pass hE _ _ (by simp)) fun _ _ _=>lc_ret hx
theorem LQ.eq {α:Type}:∀ {l l':List α},LQ Eq l l'→l=l'
 | [],[],_=>rfl
 | x :: xs,y :: ys,h=>by rw [h.1,LQ.eq h.2]
 | [],_ :: _,h=>by cases h
 | _ :: _,[],h=>by cases h
theorem lc_eqs {α:Type} {L L':List (Wd × Nat)} {k0:Nat} {f f':Pf (List α)} (h:Lc (LQ Eq) L L' k0 f f'):Lc Eq L L' k0 f f':=h.imp fun _ _=>LQ.eq
theorem lc_brack {α:Type} {R:α→α→Prop} {L L':List (Wd × Nat)} {k0:Nat} (hE:Le L) (rr:∀ x,R x x) {so so':Pf (List α)} (hf:Lc (LQ R) L L' k0 so so'):Lc (LQ R) L L' k0 (brackP so) (brackP so') :=
 lc_bind (fun _=>rfl) (lc_pass hE _ _ (by simp)) fun _ _ _=>lc_ifP hE (by decide) (lc_ret trivial) (lc_bind (LQ.refl rr) hf fun _ _ hx=>lc_bind (fun _=>rfl) (lc_pass hE _ _ (by simp)) fun _ _ _=>lc_ret hx)
end Go.Proofs.YtabkimknlifdoaaGreatDoor
