/- Pieces of the proof: PJa, PJb, PJc. -/
import Derived.Test.YtabkimknlifdoaaGreatDoorJ34
import Derived.Test.YtabkimknlifdoaaGreatDoorJ39
import Derived.Test.YtabkimknlifdoaaGreatDoorJ42
namespace Go.Proofs.YtabkimknlifdoaaGreatDoor
open Go.RowKit
def shK {α:Type} (o:Nat):Except Nat (α × Nat)→Except Nat (α × Nat)
 | .error e=>.error (e+o)
 | .ok (x,k)=>.ok (x,k+o)
def Sh {α:Type} (f:Pf α):Prop:=∀ (L:List (Wd × Nat)) (o k:Nat),o≤L.length→f L (k+o)=shK o (f (L.drop o) k)
theorem get_drop (L:List (Wd × Nat)) (o k:Nat):L[k+o]? = (L.drop o)[k]?:=by rw [List.getElem?_drop,Nat.add_comm]
theorem sh_passed (l:List UInt8) (L:List (Wd × Nat)) (o k:Nat):passedP l L (k+o)=passedP l (L.drop o) k:=by unfold passedP;rw [get_drop]
theorem sh_line (L:List (Wd × Nat)) (o k:Nat):lineP L (k+o)=lineP (L.drop o) k:=by unfold lineP;rw [get_drop]
theorem sh_kd (L:List (Wd × Nat)) (o k:Nat):kdP L (k+o)=kdP (L.drop o) k:=by unfold kdP;rw [get_drop]
theorem sh_sP (L:List (Wd × Nat)) (o k:Nat):sP L (k+o)=sP (L.drop o) k:=by unfold sP;rw [get_drop]
theorem sh_word (L:List (Wd × Nat)) (o k:Nat):wordS L (k+o)=wordS (L.drop o) k:=by unfold wordS;rw [get_drop]
theorem sh_bind {α β:Type} {a:Pf α} {f:α→Pf β} (ha:Sh a) (hf:∀ x,Sh (f x)):Sh (a.bind f):=by
 intro L o k h
 unfold Pf.bind
 rw [ha L o k h]
 cases a (L.drop o) k with
 | error e=>rfl
 | ok y =>
  obtain ⟨x,k1⟩:=y
  exact hf x L o k1 h
theorem sh_ret {α:Type} {x:α}:Sh (Pf.ret x):=fun _ _ _ _=>rfl
theorem sh_err {α:Type}:Sh (failP:Pf α):=fun _ _ _ _=>rfl
theorem sh_ifL {α:Type} {l:List UInt8} {a:Nat→Pf α} {b:Pf α} (ha:∀ n,Sh (a n)) (hb:Sh b):Sh (ifL l a b):=fun L o k h=>by
 unfold ifL
 rw [sh_passed,sh_line]
 cases passedP l (L.drop o) k with
 | true =>
  simp only [if_true]
  rw [Nat.add_right_comm]
  exact ha _ L o (k+1) h
 | false=>simpa using hb L o k h
theorem sh_ifP {α:Type} {l:List UInt8} {a b:Pf α} (ha:Sh a) (hb:Sh b):Sh (ifP l a b):=sh_ifL (a:=fun _=>a) (fun _=>ha) hb
theorem sh_cond {α:Type} {c:List (Wd × Nat)→Nat→Bool} {a b:Pf α} (hc:∀ L o k,c L (k+o)=c (L.drop o) k) (ha:Sh a) (hb:Sh b):Sh (condP c a b):=fun L o k h=>by
 unfold condP
 rw [hc]
 cases c (L.drop o) k with
 | true=>simpa using ha L o k h
 | false=>simpa using hb L o k h
theorem sh_ln {α:Type} {a:Nat→Pf α} (ha:∀ n,Sh (a n)):Sh (lnP a):=fun L o k h=>by
 unfold lnP
 rw [sh_line]
 exact ha _ L o k h
theorem sh_fuel {α:Type} {F:Nat→Pf α} (h:∀ g,Sh (F g)):Sh (fun L k=>F (L.length+1 - k) L k):=fun L o k ho=>by
 have e:L.length+1 - (k+o)=(L.drop o).length+1 - k:=by rw [List.length_drop];omega
 show F (L.length+1 - (k+o)) L (k+o)=_
 rw [e]
 exact h _ L o k ho
theorem sh_pass:∀ ls:List (List UInt8),Sh (passP ls)
 | []=>sh_ret
 | l :: ls=>by
  have e:passP (l :: ls)=ifL l (fun _=>passP ls) failP:=rfl
  rw [e]
  exact sh_ifL (fun _=>sh_pass ls) sh_err
theorem sh_name:Sh nameP:=fun L o k h=>by
 unfold nameP
 rw [get_drop]
 cases (L.drop o)[k]? with
 | none=>rfl
 | some x =>
  simp only
  split
  ·rfl
  ·split
   ·rw [Nat.add_right_comm];rfl
   ·rfl
theorem sh_whole:Sh wholeP:=fun L o k h=>by
 unfold wholeP
 rw [get_drop]
 cases (L.drop o)[k]? with
 | none=>rfl
 | some x =>
  simp only
  split
  ·rw [Nat.add_right_comm];rfl
  ·rfl
theorem sh_lit:Sh litP:=fun L o k h=>by
 unfold litP
 rw [get_drop]
 cases (L.drop o)[k]? with
 | none=>rfl
 | some x =>
  simp only
  split
  ·rw [Nat.add_right_comm];rfl
  ·rfl
theorem sh_until {α:Type} {en:List UInt8} {f:Pf α} (hf:Sh f):∀ g,Sh (untilF en f g)
 | 0=>fun _ _ _ _=>by rw [untilF,untilF];rfl
 | g+1=>by
  rw [until_eq]
  exact sh_ifL (fun _=>sh_ret) (sh_bind hf fun _=>sh_bind (sh_until hf g) fun _=>sh_ret)
theorem sh_wh {α:Type} {sep:List UInt8} {f:Pf α} (hf:Sh f):∀ g,Sh (whF sep f g)
 | 0=>fun _ _ _ _=>by rw [whF];rfl
 | g+1=>by
  rw [wh_eq]
  exact sh_ifL (fun _=>sh_bind hf fun _=>sh_bind (sh_wh hf g) fun _=>sh_ret) sh_ret
theorem sh_untilP {α:Type} {en:List UInt8} {f:Pf α} (hf:Sh f):Sh (untilP en f):=sh_fuel (F:=untilF en f) fun g=>sh_until hf g
theorem sh_whP {α:Type} {sep:List UInt8} {f:Pf α} (hf:Sh f):Sh (whP sep f):=sh_fuel (F:=whF sep f) fun g=>sh_wh hf g
theorem sh_some2 {α:Type} {f:Pf α} (hf:Sh f):Sh (some2P f):=by
 rw [some2_eq]
 exact sh_bind hf fun _=>sh_bind (sh_whP hf) fun _=>sh_ret
theorem sh_some {f:Pf Ex} (hf:Sh f):Sh (someP f):=by
 rw [some_eq]
 exact sh_bind hf fun _=>sh_bind (sh_whP hf) fun _=>sh_ret
theorem sh_then {β:Type} {ls:List (List UInt8)} {f:Pf β} (hf:Sh f):Sh ((passP ls).bind fun _=>f):=sh_bind (sh_pass ls) fun _=>hf
theorem sh_closed {α:Type} {f:Pf α} (hf:Sh f):Sh (closedP f):=sh_bind hf fun _=>sh_then sh_ret
theorem sh_brack {α:Type} {so:Pf (List α)} (hf:Sh so):Sh (brackP so):=sh_then (sh_ifP sh_ret (sh_bind hf fun _=>sh_then sh_ret))
theorem sh_rows {α:Type} {en:List UInt8} {f:Pf α} (hf:Sh f):Sh (rowsP en f):=sh_untilP (sh_closed hf)
theorem sh_owner:Sh ownerP:=by
 have e:ownerP=ifL metaL (fun _=>Pf.ret metaL) nameP:=rfl
 rw [e]
 exact sh_ifL (fun _=>sh_ret) sh_name
theorem sh_fieldOf:Sh fieldOfP:=sh_then (sh_bind sh_name fun _=>sh_ret)
theorem sh_fop:Sh fopP:=by
 rw [fop_eq]
 exact sh_bind sh_owner fun n=>sh_cond (fun L o k=>by rw [sh_passed]) (sh_bind sh_fieldOf fun _=>sh_ret) sh_ret
theorem sh_cut:Sh cutP:=sh_bind sh_whole fun _=>sh_then (sh_bind sh_whole fun _=>sh_then sh_ret)
theorem sh_cast {ex:Pf Ex} (h:Sh ex):Sh (castP ex):=sh_bind sh_whole fun _=>sh_then (sh_bind h fun _=>sh_then sh_ret)
theorem sh_hash {so:Pf (List Ex)} (h:Sh so):Sh (hashP so):=sh_bind sh_name fun _=>sh_then (sh_bind h fun _=>sh_then sh_ret)
theorem sh_plain {ca ha:Pf Ex} (h1:Sh ca) (h2:Sh ha):Sh (plainP ca ha):=by
 rw [plain_eq]
 exact sh_cond (fun L o k=>by rw [sh_kd]) (sh_bind sh_lit fun _=>sh_ret) (sh_ifL (fun _=>sh_bind sh_name fun _=>sh_ret) (sh_ifL (fun _=>h1) (sh_ifL (fun _=>h2) sh_fop)))
theorem sh_prim {ch:Nat→Pf Ex} {pl:Pf Ex} (h1:Sh (ch 0)) (h2:Sh pl):Sh (primP ch pl):=by
 rw [prim_eq]
 exact sh_ifL (fun _=>sh_bind h1 fun _=>sh_then sh_ret) (sh_ln fun _=>sh_bind h2 fun _=>sh_ret)
theorem sh_po {n:Nat}:∀ (g:Nat) (x:Ex),Sh (poF n g x)
 | 0,x=>fun _ _ _ _=>by rw [poF];rfl
 | g+1,x=>by
  rw [po_eq]
  exact sh_ifL (fun _=>sh_bind sh_cut fun _=>sh_po g _) sh_ret
theorem sh_post {pr:Pf Ex} (h:Sh pr):Sh (postP pr):=by
 rw [post_eq]
 exact sh_ln fun n=>sh_bind h fun x=>sh_fuel (F:=fun g=>poF n g x) fun g=>sh_po g x
theorem sh_un {po:Pf Ex} (h:Sh po):∀ g,Sh (unF po g)
 | 0=>fun _ _ _ _=>by rw [unF];rfl
 | g+1=>by
  rw [un_eq]
  exact sh_ifL (fun _=>sh_bind (sh_un h g) fun _=>sh_ret) h
theorem sh_unOf {ch:Nat→Pf Ex} (h:Sh (ch 0)):Sh (unOf ch):=by
 unfold unOf
 exact sh_fuel (F:=unF (postP (primP ch (plainP (castP (ch 0)) (hashP (someP (ch 0))))))) fun g=>sh_un (sh_post (sh_prim h (sh_plain (sh_cast h) (sh_hash (sh_some h))))) g
theorem sh_chL {ch:Nat→Pf Ex} {least ln:Nat} (h:∀ l,Sh (ch l)):∀ (g:Nat) (x:Ex) (most:Nat),Sh (chL ch least ln g x most)
 | 0,x,most=>fun _ _ _ _=>by rw [chL];rfl
 | g+1,x,most=>fun L o k ho=>by
  cases ht:twoP (sP (L.drop o) k) with
  | none=>rw [chL_none (by omega) ht,chL_none (by omega) (by rw [sh_sP];exact ht)];rfl
  | some t =>
   by_cases hc:t.2.2 < least ∨ most < t.2.2
   ·rw [chL_stop (by omega) ht hc,chL_stop (by omega) (by rw [sh_sP];exact ht) hc];rfl
   ·rw [chL_next ht hc,chL_next (by rw [sh_sP];exact ht) hc,Nat.add_right_comm]
    exact sh_bind (h (t.2.2+1)) (f:=fun y=>chL ch least ln g (exOp t.2.1 [x,y] ln) (if t.2.2=2 then 1 else t.2.2)) (fun y=>sh_chL h g _ _) L o (k+1) ho
theorem sh_chainG {un:Pf Ex} {ch:Nat→Pf Ex} (least:Nat) (hu:Sh un) (h:∀ l,Sh (ch l)):Sh (chainG un ch least):=by
 rw [chainG_eq]
 exact sh_ln fun n=>sh_bind hu fun x=>sh_fuel (F:=fun g=>chL ch least n g x 7) fun g=>sh_chL h g x 7
theorem sh_chain:∀ (f l:Nat),Sh (chainF f l)
 | 0,l=>fun _ _ _ _=>by rw [chainF];rfl
 | f+1,l=>by
  rw [chainF]
  exact sh_chainG l (sh_unOf (sh_chain f 0)) fun l=>sh_chain f l
theorem sh_expr:Sh exprP:=fun L o k ho=>by
 have e:L.length - (k+o)=(L.drop o).length - k:=by rw [List.length_drop];omega
 show chainF (L.length - (k+o)) 0 L (k+o)=_
 rw [e]
 exact sh_chain _ 0 L o k ho
theorem sh_cell {ex:Pf Ex} (h:Sh ex):Sh (cellP ex):=sh_then (sh_bind h fun _=>sh_then sh_ret)
theorem sh_ofField (kd:Nat):Sh (ofFieldP kd):=sh_bind sh_owner fun _=>sh_bind sh_fieldOf fun _=>sh_ret
theorem sh_setOrCall {ex:Pf Ex} {be:Pf (List Ex)} (h:Sh ex) (hb:Sh be):Sh (setOrCallP ex be):=by
 refine sh_bind sh_owner fun n=>?_
 rw [ifIs_eq]
 exact sh_cond (fun L o k=>by rw [sh_passed]) (sh_bind (sh_bind hb fun _=>sh_then sh_ret) fun _=>sh_ret) (sh_bind sh_fieldOf fun f=>sh_then (sh_bind (sh_closed h) fun _=>sh_ret))
theorem sh_findK {α:Type} {s:List UInt8} {f:Pf α}:∀ {rows:List (Rw α)},(∀ r ∈ rows,Sh r.f)→findK rows s=some f→Sh f
 | [],_,e=>by rw [findK] at e;cases e
 | r :: rs,h,e=>by
  rw [findK] at e
  split at e
  ·injection e with e;rw [← e];exact h r (by simp)
  ·exact sh_findK (fun r hr=>h r (by simp [hr])) e
theorem sh_stmt {rows:List (Rw Sm)} {sc:Pf Sm} (hq:∀ r ∈ rows,Sh r.f) (hs:Sh sc):Sh (stmtP rows sc):=fun L o k ho=>by
 unfold stmtP
 rw [sh_word,sh_line]
 cases hf:findK rows (wordS (L.drop o) k) with
 | none=>exact sh_bind (f:=fun s=>Pf.ret (smLn s _)) hs (fun _=>sh_ret) L o k ho
 | some f =>
  simp only
  rw [Nat.add_right_comm]
  exact sh_bind (f:=fun s=>Pf.ret (smLn s _)) (sh_findK hq hf) (fun _=>sh_ret) L o (k+1) ho
theorem sh_ofName (kd:Nat):Sh (ofNameP kd):=sh_bind (sh_closed sh_name) fun _=>sh_ret
theorem sh_bare (kd:Nat):Sh (bareP kd):=sh_then sh_ret
theorem sh_array {ex:Pf Ex} (h:Sh ex) (kd:Nat):Sh (fromArrayP ex kd):=sh_bind (sh_ofField kd) fun _=>sh_then (sh_bind sh_name fun _=>sh_bind (sh_cell h) fun _=>sh_then sh_ret)
theorem sh_stRows {bl:Pf (List Sm)} (hb:Sh bl):∀ r ∈ stRows bl,Sh r.f:=by
 have hx:=sh_expr
 intro r hr
 simp only [stRows,List.mem_cons,List.not_mem_nil,or_false] at hr
 rcases hr with rfl | rfl | rfl | rfl | rfl | rfl | rfl | rfl | rfl | rfl | rfl | rfl | rfl | rfl
 ·exact sh_bind hx fun _=>sh_bind hb fun _=>sh_ifP (sh_bind hb fun _=>sh_ret) sh_ret
 ·exact sh_ofName 3
 ·exact sh_ofName 5
 ·exact sh_ofName 6
 ·exact sh_bind sh_name fun _=>sh_bind (sh_cell hx) fun _=>sh_then sh_ret
 ·exact sh_array hx 8
 ·exact sh_bind sh_name fun _=>sh_bind (sh_cell hx) fun _=>sh_then (sh_bind (sh_closed hx) fun _=>sh_ret)
 ·exact sh_array hx 10
 ·exact sh_bind (sh_ofField 11) fun _=>sh_then sh_ret
 ·exact sh_bare 12
 ·exact sh_bare 15
 ·exact sh_bare 16
 ·exact sh_bind (sh_some hx) fun _=>sh_then sh_ret
 ·exact sh_bind (sh_closed sh_whole) fun _=>sh_ret
theorem sh_block:∀ f,Sh (blockF f)
 | 0=>fun _ _ _ _=>by rw [blockF];rfl
 | f+1=>by
  rw [blockF]
  exact sh_then (sh_bind (sh_untilP (sh_stmt (sh_stRows (sh_block f)) (sh_setOrCall sh_expr (sh_brack (sh_some sh_expr))))) fun _=>sh_ret)
theorem sh_blockA:Sh blockA:=fun L o k ho=>by
 have e:L.length - (k+o)=(L.drop o).length - k:=by rw [List.length_drop];omega
 show blockF (L.length - (k+o)) L (k+o)=_
 rw [e]
 exact sh_block _ L o k ho
theorem sh_field:Sh fieldP:=sh_bind sh_name fun _=>sh_bind sh_whole fun _=>sh_ret
theorem sh_fields:Sh fieldsP:=sh_then (sh_bind (sh_rows sh_field) fun _=>sh_ret)
theorem sh_case:Sh caseP:=sh_bind sh_lit fun _=>sh_ifP (sh_bind sh_lit fun _=>sh_then (sh_bind sh_name fun _=>sh_ret)) (sh_then (sh_bind sh_name fun _=>sh_ret))
theorem sh_kk:Sh kkP:=sh_ifP sh_ret (sh_ifP sh_ret (sh_ifP sh_ret (sh_then sh_ret)))
theorem sh_key:Sh (keyP exprP):=sh_bind sh_expr fun _=>sh_bind sh_kk fun _=>sh_ret
theorem sh_state:Sh (stateP exprP casesP):=by
 have e:stateP exprP casesP=lnP fun ln=>nameP.bind fun n=>(passP [[123]]).bind fun _=>(whP [116,97,107,101] (closedP nameP)).bind (stateC exprP casesP ln n):=rfl
 rw [e]
 refine sh_ln fun n=>sh_bind sh_name fun m=>sh_then (sh_bind (sh_whP (sh_closed sh_name)) fun hs=>?_)
 exact sh_ifP (sh_bind sh_expr fun _=>sh_then (sh_bind (sh_rows sh_case) fun _=>sh_bind (sh_closed sh_name) fun _=>sh_then (sh_then sh_ret))) (sh_then (sh_bind (sh_closed sh_name) fun _=>sh_then sh_ret))
theorem sh_dcRows:∀ r ∈ dcRows,Sh r.f:=by
 have hcw:Sh (closedP wholeP):=sh_closed sh_whole
 intro r hr
 simp only [dcRows,List.mem_cons,List.not_mem_nil,or_false] at hr
 rcases hr with rfl | rfl | rfl | rfl | rfl | rfl | rfl | rfl | rfl | rfl
 ·exact sh_bind sh_name fun _=>sh_bind sh_fields fun _=>sh_ret
 ·exact sh_bind sh_fields fun _=>sh_ret
 ·exact sh_bind sh_name fun _=>sh_bind sh_whole fun _=>sh_bind hcw fun _=>sh_ret
 ·exact sh_bind sh_name fun _=>sh_bind hcw fun _=>sh_ret
 ·exact sh_bind sh_name fun _=>sh_bind sh_whole fun _=>sh_bind sh_whole fun _=>sh_bind hcw fun _=>sh_ret
 ·exact sh_then (sh_bind (sh_untilP sh_state) fun _=>sh_ret)
 ·exact sh_bind sh_name fun _=>sh_bind (sh_brack (sh_some2 sh_field)) fun _=>sh_bind sh_blockA fun _=>sh_ret
 ·exact sh_bind sh_name fun _=>sh_then (sh_bind (sh_rows sh_key) fun _=>sh_then (sh_bind sh_name fun _=>sh_bind (sh_untilP sh_name) fun _=>sh_then (sh_bind sh_name fun _=>sh_bind (sh_brack (sh_some2 sh_lit)) fun _=>sh_then (sh_bind hcw fun _=>sh_then sh_ret))))
 ·exact sh_bind sh_blockA fun _=>sh_ret
 ·exact sh_then (sh_bind (sh_rows sh_name) fun _=>sh_ret)
theorem sh_decl:Sh declA:=fun L o k ho=>by
 unfold declA declP
 rw [sh_word,sh_line]
 cases hf:findK dcRows (wordS (L.drop o) k) with
 | none=>rfl
 | some f =>
  simp only
  rw [Nat.add_right_comm]
  exact sh_bind (f:=fun s=>Pf.ret (dcLn s _)) (sh_findK sh_dcRows hf) (fun _=>sh_ret) L o (k+1) ho
theorem sh_pr {dc:Pf Dc} (hd:Sh dc):∀ g,Sh (prF dc g)
 | 0=>fun _ _ _ _=>by rw [prF];rfl
 | g+1=>fun L o k ho=>by
  cases hx:(L.drop o)[k]? with
  | none =>
   have hx2:=(get_drop L o k).trans hx
   rw [prF]
   simp only [hx,hx2]
   rfl
  | some x =>
   have hx2:=(get_drop L o k).trans hx
   rw [pr_eq hx,pr_eq hx2]
   split
   ·rfl
   ·exact sh_bind (f:=fun y=>(prF dc g).bind fun ys=>Pf.ret (y :: ys)) hd (fun _=>sh_bind (sh_pr hd g) fun _=>sh_ret) L o k ho
theorem sh_prog:Sh progA:=sh_fuel (F:=prF declA) fun g=>sh_pr sh_decl g
def Ag0 (L L':List (Wd × Nat)) (n:Nat):Prop:=∀ j,j < n→(L[j]?).map (·.1)=(L'[j]?).map (·.1)
theorem Ag0.le {L L':List (Wd × Nat)} {n m:Nat} (h:Ag0 L L' n) (hm:m≤n):Ag0 L L' m:=fun j hj=>h j (Nat.lt_of_lt_of_le hj hm)
theorem Ag0.ag {L L':List (Wd × Nat)} {n m:Nat} (h:Ag0 L L' n) (hm:m < n):Ag L L' m:=fun j hj=>h j (Nat.lt_of_le_of_lt hj hm)
def Lo {α:Type} (R:α→α→Prop) (L L':List (Wd × Nat)) (k0:Nat) (f f':Pf α):Prop:=∀ k,k0≤k→k < L.length→∀ x k1,f L k=.ok (x,k1)→k≤k1∧k1 < L.length∧(Ag0 L L' k1→∃ x',f' L' k=.ok (x',k1)∧R x x')
theorem Lo.imp {α:Type} {R S:α→α→Prop} {L L':List (Wd × Nat)} {k0:Nat} {f f':Pf α} (h:Lo R L L' k0 f f') (hR:∀ x y,R x y→S x y):Lo S L L' k0 f f':=fun k h1 h2 x k1 e =>
 ⟨(h k h1 h2 x k1 e).1,(h k h1 h2 x k1 e).2.1,fun ha=>by
  obtain ⟨x',e',r⟩:=(h k h1 h2 x k1 e).2.2 ha
  exact ⟨x',e',hR _ _ r⟩⟩
theorem lo_bind {α β:Type} {R:α→α→Prop} {S:β→β→Prop} {L L':List (Wd × Nat)} {k0:Nat} {a a':Pf α} {f f':α→Pf β} (rr:∀ x,R x x) (ha:Lo R L L' k0 a a') (hf:∀ x x',R x x'→Lo S L L' k0 (f x) (f' x')):Lo S L L' k0 (a.bind f) (a'.bind f'):=by
 intro k h1 h2 z k2 h
 unfold Pf.bind at h
 cases e:a L k with
 | error er=>rw [e] at h;cases h
 | ok y =>
  obtain ⟨x,k1⟩:=y
  rw [e] at h
  obtain ⟨q1,q2,q3⟩:=ha k h1 h2 x k1 e
  have p:=hf x x (rr x) k1 (Nat.le_trans h1 q1) q2 z k2 h
  refine ⟨Nat.le_trans q1 p.1,p.2.1,fun hA=>?_⟩
  obtain ⟨x',e',r⟩:=q3 (hA.le p.1)
  unfold Pf.bind
  rw [e']
  exact (hf x x' r k1 (Nat.le_trans h1 q1) q2 z k2 h).2.2 hA
theorem lo_bindL {α β:Type} {R:α→α→Prop} {S:β→β→Prop} {L L':List (Wd × Nat)} {k0:Nat} {a a':Pf α} {f f':α→Pf β} (rr:∀ x,R x x) (ha:Lc R L L' k0 a a') (hg:∀ x,Goes (f x)) (hf:∀ x x',R x x'→Lo S L L' k0 (f x) (f' x')):Lo S L L' k0 (a.bind f) (a'.bind f'):=by
 intro k h1 h2 z k2 h
 unfold Pf.bind at h
 cases e:a L k with
 | error er=>rw [e] at h;cases h
 | ok y =>
  obtain ⟨x,k1⟩:=y
  rw [e] at h
  obtain ⟨q1,q2,q3⟩:=(ha k h1 h2).2 x k1 e
  have p:=hf x x (rr x) k1 (Nat.le_trans h1 q1) q2 z k2 h
  refine ⟨Nat.le_trans q1 p.1,p.2.1,fun hA=>?_⟩
  obtain ⟨x',e',r⟩:=q3 (hA.ag (hg x L k1 z k2 h))
  unfold Pf.bind
  rw [e']
  exact (hf x x' r k1 (Nat.le_trans h1 q1) q2 z k2 h).2.2 hA
theorem lo_ret {α:Type} {R:α→α→Prop} {L L':List (Wd × Nat)} {k0:Nat} {x x':α} (h:R x x'):Lo R L L' k0 (Pf.ret x) (Pf.ret x'):=fun k _ h2 y k1 e=>by
 unfold Pf.ret at e
 cases e
 exact ⟨Nat.le_refl _,h2,fun _=>⟨x',rfl,h⟩⟩
theorem lo_ifL {α:Type} {R:α→α→Prop} {L L':List (Wd × Nat)} {k0:Nat} {l:List UInt8} {a a':Nat→Pf α} {b b':Pf α} (hE:Le L) (hl:l ≠ []) (ha:∀ n n',Lo R L L' (k0+1) (a n) (a' n')) (hg:Goes b) (hb:Lo R L L' k0 b b'):Lo R L L' k0 (ifL l a b) (ifL l a' b'):=by
 intro k h1 h2 x k1 e
 unfold ifL at e ⊢
 cases hp:passedP l L k with
 | true =>
  rw [hp,if_pos rfl] at e
  obtain ⟨q1,q2,q3⟩:=ha (lineP L k) (lineP L' k) (k+1) (Nat.succ_le_succ h1) (passed_lt hE hl hp) x k1 e
  refine ⟨by omega,q2,fun hA=>?_⟩
  rw [ag_passed (hA.ag (by omega)),hp,if_pos rfl]
  exact q3 hA
 | false =>
  rw [hp,if_neg (by decide)] at e
  obtain ⟨q1,q2,q3⟩:=hb k h1 h2 x k1 e
  refine ⟨q1,q2,fun hA=>?_⟩
  rw [ag_passed (hA.ag (hg L k x k1 e)),hp,if_neg (by decide)]
  exact q3 hA
theorem lo_fail {α:Type} {R:α→α→Prop} {L L':List (Wd × Nat)} {k0:Nat}:Lo R L L' k0 failP failP:=fun _ _ _ _ _ e=>by unfold failP at e;cases e
theorem goes_fail {α:Type}:Goes (failP:Pf α):=fun _ _ _ _ e=>by unfold failP at e;cases e
theorem lo_pass {L L':List (Wd × Nat)} (hE:Le L):∀ (ls:List (List UInt8)) (k0:Nat),(∀ l ∈ ls,l ≠ [])→Lo Eq L L' k0 (passP ls) (passP ls)
 | [],_,_=>lo_ret rfl
 | l :: ls,k0,h=>by
  have e:passP (l :: ls)=ifL l (fun _=>passP ls) failP:=rfl
  rw [e]
  exact lo_ifL hE (h l (by simp)) (fun _ _=>lo_pass hE ls (k0+1) fun x hx=>h x (by simp [hx])) goes_fail lo_fail
theorem lo_then {β:Type} {S:β→β→Prop} {L L':List (Wd × Nat)} {k0:Nat} (hE:Le L) {ls:List (List UInt8)} {f f':Pf β} (hf:Lo S L L' k0 f f') (hl:∀ l ∈ ls,l ≠ []:=by simp):Lo S L L' k0 ((passP ls).bind fun _=>f) ((passP ls).bind fun _=>f') :=
 lo_bind (fun _=>rfl) (lo_pass hE ls k0 hl) fun _ _ _=>hf
theorem lo_eqb {α β:Type} {S:β→β→Prop} {L L':List (Wd × Nat)} {k0:Nat} {a a':Pf α} {f f':α→Pf β} (ha:Lc Eq L L' k0 a a') (hg:∀ x,Goes (f x)) (hf:∀ x,Lo S L L' k0 (f x) (f' x)):Lo S L L' k0 (a.bind f) (a'.bind f') :=
 lo_bindL (fun _=>rfl) ha hg fun x x' e=>by subst e;exact hf x
theorem lo_until {α:Type} {R:α→α→Prop} {L L':List (Wd × Nat)} {en:List UInt8} (hE:Le L) (hl:en ≠ []) (rr:∀ x,R x x) {f f':Pf α} (hg:Goes f):∀ (g g' k0:Nat),Lc R L L' k0 f f'→g≤g'→Lo (LQ R) L L' k0 (untilF en f g) (untilF en f' g'):=by
 intro g
 induction g with
 | zero=>intro g' k0 _ _ k _ _ x k1 e;rw [untilF] at e;cases e
 | succ g ih =>
  intro g' k0 hf h
  obtain ⟨g',rfl⟩:∃ n,g'=n+1:=⟨g' - 1,by omega⟩
  rw [until_eq,until_eq]
  exact lo_ifL hE hl (fun _ _=>lo_ret trivial) (goes_bind hg fun _=>stays_bind (goes_untilF hg.stays g).stays fun _=>stays_ret _) (lo_bindL rr hf (fun _=>goes_bind (goes_untilF hg.stays g) fun _=>stays_ret _) fun x x' hx=>lo_bind (LQ.refl rr) (ih g' k0 hf (by omega)) fun xs xs' hxs=>lo_ret ⟨hx,hxs⟩)
theorem lo_untilP {α:Type} {R:α→α→Prop} {L L':List (Wd × Nat)} {en:List UInt8} (hE:Le L) (hn:L.length≤L'.length) (hl:en ≠ []) (rr:∀ x,R x x) {f f':Pf α} (hg:Goes f) {k0:Nat} (hf:Lc R L L' k0 f f'):Lo (LQ R) L L' k0 (untilP en f) (untilP en f'):=fun k h1 h2 x k1 e =>
 lo_until hE hl rr hg (L.length+1 - k) (L'.length+1 - k) k (hf.from h1) (by omega) k (Nat.le_refl _) h2 x k1 e
theorem lo_eqs {α:Type} {L L':List (Wd × Nat)} {k0:Nat} {f f':Pf (List α)} (h:Lo (LQ Eq) L L' k0 f f'):Lo Eq L L' k0 f f':=h.imp fun _ _=>LQ.eq
theorem lo_closed {α:Type} {R:α→α→Prop} {L L':List (Wd × Nat)} {k0:Nat} (hE:Le L) (rr:∀ x,R x x) {f f':Pf α} (hf:Lc R L L' k0 f f'):Lo R L L' k0 (closedP f) (closedP f') :=
 lo_bindL rr hf (fun _=>goes_bind (goes_pass _ _) fun _=>stays_ret _) fun _ _ hx=>lo_then hE (lo_ret hx)
theorem lo_rows {α:Type} {R:α→α→Prop} {L L':List (Wd × Nat)} {k0:Nat} (hE:Le L) (hn:L.length≤L'.length) {en:List UInt8} (hl:en ≠ []) (rr:∀ x,R x x) {f f':Pf α} (hg:Goes f) (h:Lc R L L' k0 f f'):Lo (LQ R) L L' k0 (rowsP en f) (rowsP en f'):=lo_untilP hE hn hl rr (closed_goes hg) (lc_closed hE rr h)
theorem lo_fields {L L':List (Wd × Nat)} {k0:Nat} (hE:Le L) (hn:L.length≤L'.length):Lo Eq L L' k0 fieldsP fieldsP:=lo_then hE (lo_bind (fun _=>rfl) (lo_eqs (lo_rows hE hn (by decide) (fun _=>rfl) goes_field (lc_field hE))) fun _ _ e=>lo_ret e)
theorem lo_blockA (R:Rels) {L L':List (Wd × Nat)} (hE:Le L) (hn:L.length≤L'.length) {k0:Nat}:Lo (LQ R.s) L L' k0 blockA blockA:=fun k _ h2 x k1 e=>by
 obtain ⟨f,hf⟩:∃ f,L.length - k=f+1:=⟨L.length - k - 1,by omega⟩
 obtain ⟨f',hf'⟩:∃ f',L'.length - k=f'+1:=⟨L'.length - k - 1,by omega⟩
 have main:Lo (LQ R.s) L L' k (blockF (f+1)) (blockF (f'+1)):=by
  rw [blockF,blockF]
  intro k' h1' h2' x' k1' e'
  have hb:=lc_block R (L:=L) (L':=L') hE f f' (k'+1) (by omega) (by omega)
  have hu:Lo (LQ R.s) L L' (k'+1) (untilP [125] (stmtA (blockF f))) (untilP [125] (stmtA (blockF f'))):=lo_untilP hE hn (by decide) R.ss (goes_stmtA (goes_blockF f).stays) (lc_stmt R hE (lc_stRows R hE (hb.from (by omega))) (lc_setOrCall R hE (lc_expr R hE) (lc_brE R hE)))
  have eq:∀ (st:Pf (List Sm)),blockP st=ifL [123] (fun _=>st.bind Pf.ret) failP:=fun st=>by
   funext L k
   unfold blockP ifL Pf.bind failP
   rw [passP]
   cases passedP [123] L k with
   | true=>rfl
   | false=>rfl
  rw [eq] at e' ⊢
  exact lo_ifL hE (by decide) (fun _ _=>lo_bind (LQ.refl R.ss) hu fun _ _ hx=>lo_ret hx) goes_fail lo_fail k' (Nat.le_refl _) h2' x' k1' e'
 have e2:blockF (f+1) L k=.ok (x,k1):=by rw [← hf];exact e
 have:=main k (Nat.le_refl _) h2 x k1 e2
 rw [← hf'] at this
 exact this
theorem lo_dcRows (R:Rels) {L L':List (Wd × Nat)} {k0:Nat} (hE:Le L) (hn:L.length≤L'.length):∀ r ∈ dcRows,Lo R.d L L' k0 r.f r.f:=by
 have hcw:Lo Eq L L' k0 (closedP wholeP) (closedP wholeP):=lo_closed hE (fun _=>rfl) (lc_whole hE)
 have gcw:Goes (closedP wholeP):=closed_goes wholeP_goes
 have eqd:∀ {f:Pf Dc},Lo Eq L L' k0 f f→Lo R.d L L' k0 f f:=fun h=>h.imp fun a b e=>by subst e;exact R.dd a
 have eqr:∀ {α:Type} {a:Pf α} {f:α→Dc},Lo Eq L L' k0 a a→Lo Eq L L' k0 (a.bind fun x=>Pf.ret (f x)) (a.bind fun x=>Pf.ret (f x)):=fun h=>lo_bind (fun _=>rfl) h fun _ _ e=>by subst e;exact lo_ret rfl
 have gr:∀ {α β:Type} {a:Pf α} {f:α→β},Goes a→Goes (a.bind fun x=>Pf.ret (f x)):=fun h=>goes_bind h fun _=>stays_ret _
 intro r hr
 simp only [dcRows,List.mem_cons,List.not_mem_nil,or_false] at hr
 rcases hr with rfl | rfl | rfl | rfl | rfl | rfl | rfl | rfl | rfl | rfl
 ·exact eqd (lo_eqb (lc_name hE) (fun _=>gr goes_fields) fun _=>eqr (lo_fields hE hn))
 ·exact eqd (eqr (lo_fields hE hn))
 ·exact eqd (lo_eqb (lc_name hE) (fun _=>goes_bind wholeP_goes fun _=>(gr gcw).stays) fun _=>lo_eqb (lc_whole hE) (fun _=>gr gcw) fun _=>eqr hcw)
 ·exact eqd (lo_eqb (lc_name hE) (fun _=>gr gcw) fun _=>eqr hcw)
 ·exact eqd (lo_eqb (lc_name hE) (fun _=>goes_bind wholeP_goes fun _=>(goes_bind wholeP_goes fun _=>(gr gcw).stays).stays) fun _=>lo_eqb (lc_whole hE) (fun _=>goes_bind wholeP_goes fun _=>(gr gcw).stays) fun _=>lo_eqb (lc_whole hE) (fun _=>gr gcw) fun _=>eqr hcw)
 ·exact lo_then hE (lo_bind (LQ.refl R.tt) (lo_untilP hE hn (by decide) R.tt (goes_state goes_exprP.stays (goes_rows goes_case.stays).stays) (lc_state R hE)) fun _ _ h=>lo_ret (R.hd _ _ _ _ _ _ _ _ _ _ _ _ _ _ _ _ _ _ _ h (LQ.refl (KQ.refl R) _) (LQ.refl R.ss _)))
 ·exact lo_eqb (lc_name hE) (fun _=>goes_bind (goes_brack (goes_some2 goes_field).stays) fun _=>(gr goes_blockA).stays) fun _=>lo_eqb (lc_eqs (lc_brack hE (fun _=>rfl) (lc_some2 hE (fun _=>rfl) (lc_field hE)))) (fun _=>gr goes_blockA) fun _=>lo_bind (LQ.refl R.ss) (lo_blockA R hE hn) fun _ _ h=>lo_ret (R.hd _ _ _ _ _ _ _ _ _ _ _ _ _ _ _ _ _ _ _ (LQ.refl R.tt _) (LQ.refl (KQ.refl R) _) h)
 ·have g4:∀ {β:Type} {x:β},Goes ((passP [[125]]).bind fun _=>Pf.ret x):=goes_bind (goes_pass _ _) fun _=>stays_ret _
  have g3:∀ {β:Type} {f:Nat→β},Goes ((closedP wholeP).bind fun m=>(passP [[125]]).bind fun _=>Pf.ret (f m)):=goes_bind gcw fun _=>g4.stays
  have g2:∀ {β:Type} {f:Nat→β},Goes ((passP [[59],[115,105,122,101]]).bind fun _=>(closedP wholeP).bind fun m=>(passP [[125]]).bind fun _=>Pf.ret (f m)):=goes_bind (goes_pass _ _) fun _=>g3.stays
  have g1:∀ {β:Type} {f:List (Nat × Nat)→Nat→β},Goes ((brackP (some2P litP)).bind fun ls=>(passP [[59],[115,105,122,101]]).bind fun _=>(closedP wholeP).bind fun m=>(passP [[125]]).bind fun _=>Pf.ret (f ls m)):=goes_bind (goes_brack (goes_some2 goes_lit).stays) fun _=>g2.stays
  have g0:∀ {β:Type} {f:List UInt8→List (Nat × Nat)→Nat→β},Goes ((passP [[100,101,102,97,117,108,116]]).bind fun _=>nameP.bind fun df=>(brackP (some2P litP)).bind fun ls=>(passP [[59],[115,105,122,101]]).bind fun _=>(closedP wholeP).bind fun m=>(passP [[125]]).bind fun _=>Pf.ret (f df ls m)):=goes_bind (goes_pass _ _) fun _=>stays_bind nameP_goes.stays fun _=>g1.stays
  have gb:∀ {β:Type} {f:List UInt8→List (List UInt8)→List UInt8→List (Nat × Nat)→Nat→β},Goes ((passP [[97,99,116,105,111,110,115]]).bind fun _=>nameP.bind fun a=>(untilP [59] nameP).bind fun acs=>(passP [[100,101,102,97,117,108,116]]).bind fun _=>nameP.bind fun df=>(brackP (some2P litP)).bind fun ls=>(passP [[59],[115,105,122,101]]).bind fun _=>(closedP wholeP).bind fun m=>(passP [[125]]).bind fun _=>Pf.ret (f a acs df ls m)):=goes_bind (goes_pass _ _) fun _=>stays_bind nameP_goes.stays fun _=>stays_bind (goes_until nameP_goes.stays).stays fun _=>g0.stays
  refine lo_eqb (lc_name hE) (fun _=>goes_bind (goes_pass _ _) fun _=>stays_bind (goes_rows (goes_key goes_exprP).stays).stays fun _=>gb.stays) fun _=>lo_then hE (lo_bindL (LQ.refl (KQ.refl R)) (lc_rows hE (by decide) (KQ.refl R) (goes_key goes_exprP) (lc_key R hE)) (fun _=>gb) fun _ _ h=>lo_then hE ?_)
  refine lo_eqb (lc_name hE) (fun _=>goes_bind (goes_until nameP_goes.stays) fun _=>g0.stays) fun _=>lo_eqb (lc_eqs (lc_untilP hE (by decide) (fun _=>rfl) nameP_goes (lc_name hE))) (fun _=>g0) fun _=>lo_then hE ?_
  exact lo_eqb (lc_name hE) (fun _=>g1) fun _=>lo_eqb (lc_eqs (lc_brack hE (fun _=>rfl) (lc_some2 hE (fun _=>rfl) (lc_lit hE)))) (fun _=>g2) fun _=>lo_then hE (lo_bind (fun _=>rfl) hcw fun m m' e=>by
   subst e
   exact lo_then hE (lo_ret (R.hd _ _ _ _ _ _ _ _ _ _ _ _ _ _ _ _ _ _ _ (LQ.refl R.tt _) h (LQ.refl R.ss _))))
 ·exact lo_bind (LQ.refl R.ss) (lo_blockA R hE hn) fun _ _ h=>lo_ret (R.hd _ _ _ _ _ _ _ _ _ _ _ _ _ _ _ _ _ _ _ (LQ.refl R.tt _) (LQ.refl (KQ.refl R) _) h)
 ·exact eqd (lo_then hE (eqr (lo_eqs (lo_rows hE hn (by decide) (fun _=>rfl) nameP_goes (lc_name hE)))))
theorem findK_mem {α:Type} {s:List UInt8} {f:Pf α}:∀ {rows:List (Rw α)},findK rows s=some f→∃ r ∈ rows,r.f=f∧s=r.key
 | [],e=>by rw [findK] at e;cases e
 | r :: rs,e=>by
  rw [findK] at e
  split at e
  ·rename_i h
   injection e with e;exact ⟨r,by simp,e,h⟩
  ·obtain ⟨r',h1,h2⟩:=findK_mem e
   exact ⟨r',by simp [h1],h2⟩
theorem lo_decl (R:Rels) {L L':List (Wd × Nat)} (hE:Le L) (hn:L.length≤L'.length) {k0:Nat}:Lo R.d L L' k0 declA declA:=fun k _ h2 x k1 e=>by
 unfold declA declP at e
 split at e
 ·rename_i f hf
  obtain ⟨r,hr,rfl,hk⟩:=findK_mem hf
  have hne:wordS L k ≠ []:=by rw [hk];exact dcRows_keys.ne r hr
  have p:=lo_bind (f:=fun s=>Pf.ret (dcLn s (lineP L k))) (f':=fun s=>Pf.ret (dcLn s (lineP L' k))) R.dd (lo_dcRows R (k0:=0) hE hn r hr) (fun _ _ hx=>lo_ret (R.dl _ _ _ _ hx)) (k+1) (Nat.zero_le _) (word_lt hE hne) x k1 e
  refine ⟨by omega,p.2.1,fun hA=>?_⟩
  unfold declA declP
  rw [(ag_words (hA.ag (show k < k1 by omega))).2.1,hf]
  exact p.2.2 hA
 ·cases e
theorem pr_more {dc:Pf Dc} {L:List (Wd × Nat)}:∀ {g g' k:Nat} {ds:List Dc} {k1:Nat},prF dc g L k=.ok (ds,k1)→g≤g'→prF dc g' L k=.ok (ds,k1)
 | 0,_,_,_,_,h,_=>by rw [prF] at h;cases h
 | g+1,g',k,ds,k1,h,hg=>by
  obtain ⟨g',rfl⟩:∃ n,g'=n+1:=⟨g' - 1,by omega⟩
  cases hx:L[k]? with
  | none=>rw [prF] at h;simp only [hx] at h;cases h
  | some x =>
   rw [pr_eq hx] at h ⊢
   split
   ·rename_i h0;rw [if_pos h0] at h;exact h
   ·rename_i h0
    rw [if_neg h0] at h
    unfold Pf.bind at h ⊢
    cases hd:dc L k with
    | error e=>rw [hd] at h;cases h
    | ok y =>
     rw [hd] at h
     simp only at h ⊢
     cases hp:prF dc g L y.2 with
     | error e=>rw [hp] at h;cases h
     | ok z =>
      rw [hp] at h
      rw [pr_more (ds:=z.1) (k1:=z.2) hp (by omega)]
      exact h
theorem pr_end {dc:Pf Dc} {L:List (Wd × Nat)}:∀ {g k:Nat} {ds:List Dc} {k1:Nat},prF dc g L k=.ok (ds,k1)→∃ x,L[k1]? = some x∧x.1.k=0
 | 0,_,_,_,h=>by rw [prF] at h;cases h
 | g+1,k,ds,k1,h=>by
  cases hx:L[k]? with
  | none=>rw [prF] at h;simp only [hx] at h;cases h
  | some x =>
   rw [pr_eq hx] at h
   split at h
   ·rename_i h0;cases h;exact ⟨x,hx,h0⟩
   ·unfold Pf.bind at h
    cases hd:dc L k with
    | error e=>rw [hd] at h;cases h
    | ok y =>
     rw [hd] at h
     simp only at h
     cases hp:prF dc g L y.2 with
     | error e=>rw [hp] at h;cases h
     | ok z =>
      rw [hp] at h
      have:=pr_end (ds:=z.1) (k1:=z.2) hp
      unfold Pf.ret at h
      cases h
      exact this
theorem pr_join (R:Rels) {L L':List (Wd × Nat)} (hE:Le L) (hn:L.length≤L'.length):∀ {g k:Nat} {ds:List Dc} {k1:Nat},prF declA g L k=.ok (ds,k1)→k < L.length→k+ds.length≤k1∧(Ag0 L L' k1→∃ ds',LQ R.d ds ds'∧∀ g2 r k2,prF declA g2 L' k1=.ok (r,k2)→prF declA (g2+ds.length) L' k=.ok (ds' ++ r,k2))
 | 0,_,_,_,h,_=>by rw [prF] at h;cases h
 | g+1,k,ds,k1,h,hk=>by
  have hx:L[k]? = some L[k]:=List.getElem?_eq_getElem hk
  rw [pr_eq hx] at h
  split at h
  ·cases h;exact ⟨Nat.le_refl _,fun _=>⟨[],trivial,fun g2 r k2 h2=>h2⟩⟩
  ·rename_i h0
   unfold Pf.bind at h
   cases hd:declA L k with
   | error e=>rw [hd] at h;cases h
   | ok y =>
    obtain ⟨y,k'⟩:=y
    rw [hd] at h
    simp only at h
    cases hp:prF declA g L k' with
    | error e=>rw [hp] at h;cases h
    | ok z =>
     obtain ⟨ys,k2⟩:=z
     rw [hp] at h
     unfold Pf.ret at h
     cases h
     obtain ⟨q1,q2,q3⟩:=lo_decl R hE hn (k0:=0) k (Nat.zero_le _) hk y k' hd
     have hgo:=goes_declA L k y k' hd
     obtain ⟨r1,r2⟩:=pr_join R hE hn hp q2
     refine ⟨by rw [List.length_cons];omega,fun hA=>?_⟩
     obtain ⟨y',e',ry⟩:=q3 (hA.le (by omega))
     obtain ⟨ds',rq,rr⟩:=r2 hA
     refine ⟨y' :: ds',⟨ry,rq⟩,fun g2 r k3 h3=>?_⟩
     have h4:=rr g2 r k3 h3
     rcases ag_get (hA.ag (show k < k1 by omega)) with ⟨e1,_⟩ | ⟨x,n,n',e1,e2⟩
     ·rw [hx] at e1;cases e1
     ·rw [hx] at e1
      injection e1 with e1
      have ex:L[k].1=x:=by rw [e1]
      rw [List.length_cons,show g2+(ys.length+1)=g2+ys.length+1 by omega,pr_eq e2,if_neg (by rw [← ex];exact h0)]
      unfold Pf.bind
      rw [e']
      simp only
      rw [h4]
      rfl
theorem LQ.append {α:Type} {R:α→α→Prop}:∀ {a a' b b':List α},LQ R a a'→LQ R b b'→LQ R (a ++ b) (a' ++ b')
 | [],[],_,_,_,h=>h
 | _ :: _,_ :: _,_,_,h1,h2=>⟨h1.1,LQ.append h1.2 h2⟩
 | [],_ :: _,_,_,h,_=>by cases h
 | _ :: _,[],_,_,h,_=>by cases h
theorem prog_join (R:Rels) {xs ys zs:List (Wd × Nat)} {da db:List Dc} {ka kb:Nat} (hgx:∀ x ∈ xs,x.1.k ≠ 0) (ha:progA (Lx xs) 0=.ok (da,ka)) (hb:progA (Lx ys) 0=.ok (db,kb)) (hz:zs.map (·.1)=ys.map (·.1)):∃ d k,progA (Lx (xs ++ zs)) 0=.ok (d,k)∧LQ R.d (da ++ db) d:=by
 have hzl:zs.length=ys.length:=by have:=congrArg List.length hz;simpa using this
 have hn:(Lx xs).length≤(Lx (xs ++ zs)).length:=by rw [Lx_len,Lx_len,List.length_append];omega
 have hk0:0 < (Lx xs).length:=by rw [Lx_len];omega
 have ha':prF declA ((Lx xs).length+1 - 0) (Lx xs) 0=.ok (da,ka):=ha
 obtain ⟨x,hx,h0⟩:=pr_end ha'
 have hka:ka=xs.length:=by
  have hlt:=(List.getElem?_eq_some_iff.1 hx).1
  rw [Lx_len] at hlt
  by_cases e:ka < xs.length
  ·rw [Lx_lt e,List.getElem?_eq_getElem e] at hx
   injection hx with hx
   exact absurd (by rw [hx];exact h0) (hgx xs[ka] (List.getElem_mem e))
  ·omega
 subst hka
 have hA:Ag0 (Lx xs) (Lx (xs ++ zs)) xs.length:=by
  intro j hj
  rw [Lx_lt hj,Lx_lt (by rw [List.length_append];omega),List.getElem?_append_left hj]
 obtain ⟨hl,hj⟩:=pr_join R (Lx_le xs) hn ha' hk0
 obtain ⟨da',q1,q2⟩:=hj hA
 -- behind them
 have hd:(Lx (xs ++ zs)).drop xs.length=zs ++ [endW (xs ++ zs)]:=by unfold Lx;rw [List.append_assoc,List.drop_left]
 have hAg:∀ n,Ag (Lx ys) (zs ++ [endW (xs ++ zs)]) n:=by
  intro n j _
  have e:(Lx ys).map (·.1)=(zs ++ [endW (xs ++ zs)]).map (·.1):=by unfold Lx;rw [List.map_append,List.map_append,hz];rfl
  rw [← List.getElem?_map,← List.getElem?_map,e]
 have p:=(lc_prog R (L':=zs ++ [endW (xs ++ zs)]) (Lx_le ys) (k0:=0) 0 (Nat.le_refl _) (by rw [Lx_len];omega)).2 db kb hb
 obtain ⟨db',e2,qb⟩:=p.2.2 (hAg _)
 have hs:=sh_prog (Lx (xs ++ zs)) xs.length 0 (by rw [Lx_len,List.length_append];omega)
 rw [hd,e2] at hs
 have hs':prF declA ((Lx (xs ++ zs)).length+1 - (0+xs.length)) (Lx (xs ++ zs)) (0+xs.length)=.ok (db',kb+xs.length):=hs
 rw [Nat.zero_add] at hs'
 have hf:=q2 _ _ _ hs'
 refine ⟨da' ++ db',kb+xs.length,?_,q1.append qb⟩
 exact pr_more hf (by rw [Lx_len,List.length_append];omega)
theorem good_kind {y:Wd} (h:Good y):y.k ≠ 0:=by
 rcases h with ⟨c,l,e,_⟩ | ⟨n,e,hn⟩ | ⟨n,v,e,_⟩ | ⟨j,_,e⟩ <;> rw [e] <;> simp
theorem joins_of {a b:List UInt8} {da db:List Dc} (ha:parseL a=.ok da) (hb:parseL b=.ok db) (hl:a.length+b.length≤65535):parseL (a ++ 10 :: b)=.error (0,3) ∨ ∃ d,parseL (a ++ 10 :: b)=.ok d∧LQ ZqD (da ++ db) d:=by
 obtain ⟨_,xs,ka,hx,hpa,_⟩:=parseL_words ha
 obtain ⟨_,ys,kb,hy,hpb,_⟩:=parseL_words hb
 have ht:toks (a ++ 10 :: b)=.ok (xs ++ ys.map fun x=>(x.1,x.2+(c10 a+1))):=by
  rw [toks_join,hx,hy];rfl
 have hlen:(a ++ 10 :: b).length≤65536:=by rw [List.length_append,List.length_cons];omega
 obtain ⟨d,k,hd,hq⟩:=prog_join Zq (xs:=xs) (ys:=ys) (zs:=ys.map fun x=>(x.1,x.2+(c10 a+1))) (fun x hx'=>good_kind ((toks_good hx).1 x hx')) hpa hpb (by rw [List.map_map];exact List.map_congr_left fun _ _=>rfl)
 have r:=parse_of hlen ht
 rw [hd] at r
 simp only at r
 rw [r]
 split
 ·exact .inl rfl
 ·exact .inr ⟨d,rfl,hq⟩
end Go.Proofs.YtabkimknlifdoaaGreatDoor
