/- Pieces of the proof: PLb, PLc, TEa. -/
import Derived.Test.YtabkimknlifdoaaGreatDoorJ33
import Derived.Test.YtabkimknlifdoaaGreatDoorJ14
import Derived.Deep.RegionHeld3
namespace Go.Proofs.YtabkimknlifdoaaGreatDoor
open Go.RowKit
structure Rels where
 x:Ex→Ex→Prop
 s:Sm→Sm→Prop
 t:Ts→Ts→Prop
 d:Dc→Dc→Prop
 xx:∀ a,x a a
 ss:∀ a,s a a
 tt:∀ a,t a a
 dd:∀ a,d a a
 hx:∀ (op w v:Nat) (name field:List UInt8) (n m l l':Nat) (a1 a2:List Ex),LQ x a1 a2→x ⟨op,w,v,name,field,n,m,l,a1⟩ ⟨op,w,v,name,field,n,m,l',a2⟩
 xl:∀ (a b:Ex) (l l':Nat),x a b→x (exLn a l) (exLn b l')
 hs:∀ (kind:Nat) (name field array:List UInt8) (n l l':Nat) (a1 a2:List Ex) (b1 b2 e1 e2:List Sm),LQ x a1 a2→LQ s b1 b2→LQ s e1 e2→s ⟨kind,name,field,array,n,a1,b1,e1,l⟩ ⟨kind,name,field,array,n,a2,b2,e2,l'⟩
 sl:∀ (a b:Sm) (l l':Nat),s a b→s (smLn a l) (smLn b l')
 ht:∀ (name:List UInt8) (hd:List (List UInt8)) (cs:List Ck) (dest:List UInt8) (l l':Nat) (a1 a2:List Ex),LQ x a1 a2→t ⟨name,hd,a1,cs,dest,l⟩ ⟨name,hd,a2,cs,dest,l'⟩
 hd:∀ (kind:Nat) (name:List UInt8) (fields:List (List UInt8 × Nat)) (w n rate burst:Nat) (s1 s2:List Ts) (k1 k2:List (Ex × Nat)) (acts:List (List UInt8)) (dflt:List UInt8) (args:List (Nat × Nat)) (b1 b2:List Sm) (emits:List (List UInt8)) (l l':Nat),LQ t s1 s2→LQ (fun p q=>x p.1 q.1∧p.2=q.2) k1 k2→LQ s b1 b2→d ⟨kind,name,fields,w,n,rate,burst,s1,k1,acts,dflt,args,b1,emits,l⟩ ⟨kind,name,fields,w,n,rate,burst,s2,k2,acts,dflt,args,b2,emits,l'⟩
 dl:∀ (a b:Dc) (l l':Nat),d a b→d (dcLn a l) (dcLn b l')
theorem lc_owner {L L':List (Wd × Nat)} {k0:Nat} (hE:Le L):Lc Eq L L' k0 ownerP ownerP:=by
 have e:ownerP=ifL metaL (fun _=>Pf.ret metaL) nameP:=rfl
 rw [e]
 exact lc_ifL hE (by decide) (fun _ _=>lc_ret rfl) (lc_name hE)
theorem lc_fieldOf {L L':List (Wd × Nat)} {k0:Nat} (hE:Le L):Lc Eq L L' k0 fieldOfP fieldOfP :=
 lc_bind (fun _=>rfl) (lc_pass hE _ _ (by simp)) fun _ _ _=>lc_bind (fun _=>rfl) (lc_name hE) fun _ _ e=>lc_ret e
theorem fop_eq:fopP=ownerP.bind fun n=>condP (fun L k=>decide (n=metaL) || passedP [46] L k) (fieldOfP.bind fun f=>Pf.ret (exN 2 n f)) (Pf.ret (exN 3 n [])):=by
 funext L k
 simp only [fopP,condP,Pf.bind,Pf.ret]
 cases ownerP L k with
 | error e=>rfl
 | ok y =>
  simp only
  split
  ·cases fieldOfP L y.2 <;> rfl
  ·rfl
theorem lc_fop {L L':List (Wd × Nat)} {k0:Nat} (hE:Le L):Lc Eq L L' k0 fopP fopP:=by
 rw [fop_eq]
 refine lc_bind (fun _=>rfl) (lc_owner hE) fun n n' e=>?_
 subst e
 exact lc_cond (fun k hA=>by rw [ag_passed hA]) (lc_bind (fun _=>rfl) (lc_fieldOf hE) fun _ _ e=>lc_ret (by rw [e])) (lc_ret rfl)
theorem lc_cut {L L':List (Wd × Nat)} {k0:Nat} (hE:Le L):Lc Eq L L' k0 cutP cutP :=
 lc_bind (fun _=>rfl) (lc_whole hE) fun _ _ e=>lc_bind (fun _=>rfl) (lc_pass hE _ _ (by simp)) fun _ _ _=>lc_bind (fun _=>rfl) (lc_whole hE) fun _ _ e2=>lc_bind (fun _=>rfl) (lc_pass hE _ _ (by simp)) fun _ _ _=>lc_ret (by rw [e,e2])
theorem lc_cast (R:Rels) {L L':List (Wd × Nat)} {k0:Nat} (hE:Le L) {ex ex':Pf Ex} (h:Lc R.x L L' k0 ex ex'):Lc R.x L L' k0 (castP ex) (castP ex') :=
 lc_bind (fun _=>rfl) (lc_whole hE) fun n n' e=>lc_bind (fun _=>rfl) (lc_pass hE _ _ (by simp)) fun _ _ _=>lc_bind R.xx h fun a b hab=>lc_bind (fun _=>rfl) (lc_pass hE _ _ (by simp)) fun _ _ _=>lc_ret (by
  subst e
  exact R.hx _ _ _ _ _ _ _ _ _ _ _ ⟨hab,trivial⟩)
theorem lc_hash (R:Rels) {L L':List (Wd × Nat)} {k0:Nat} (hE:Le L) {so so':Pf (List Ex)} (h:Lc (LQ R.x) L L' k0 so so'):Lc R.x L L' k0 (hashP so) (hashP so') :=
 lc_bind (fun _=>rfl) (lc_name hE) fun n n' e=>lc_bind (fun _=>rfl) (lc_pass hE _ _ (by simp)) fun _ _ _=>lc_bind (LQ.refl R.xx) h fun a b hab=>lc_bind (fun _=>rfl) (lc_pass hE _ _ (by simp)) fun _ _ _=>lc_ret (by
  subst e
  exact R.hx _ _ _ _ _ _ _ _ _ _ _ hab)
theorem plain_eq (ca ha:Pf Ex):plainP ca ha=condP (fun L k=>decide (kdP L k=3)) (litP.bind fun x=>Pf.ret (exLit x)) (ifL [118,97,108,105,100] (fun _=>nameP.bind fun n=>Pf.ret (exN 4 n [])) (ifL [99,97,115,116] (fun _=>ca) (ifL [104,97,115,104] (fun _=>ha) fopP))):=by
 funext L k
 simp only [plainP,condP,ifL,Pf.bind,Pf.ret]
 by_cases h:kdP L k=3
 ·simp only [h,if_true,decide_true]
  cases litP L k <;> rfl
 ·simp only [h,if_false,decide_false,Bool.false_eq_true]
  cases passedP [118,97,108,105,100] L k with
  | true =>
   simp only [if_true]
   cases nameP L (k+1) <;> rfl
  | false=>rfl
theorem eq_x (R:Rels) {L L':List (Wd × Nat)} {k0:Nat} {f f':Pf Ex} (h:Lc Eq L L' k0 f f'):Lc R.x L L' k0 f f':=h.imp fun a b e=>by subst e;exact R.xx a
theorem lc_plain (R:Rels) {L L':List (Wd × Nat)} {k0:Nat} (hE:Le L) {ca ca' ha ha':Pf Ex} (h1:Lc R.x L L' (k0+1) ca ca') (h2:Lc R.x L L' (k0+1) ha ha'):Lc R.x L L' k0 (plainP ca ha) (plainP ca' ha'):=by
 rw [plain_eq,plain_eq]
 exact lc_cond (fun k hA=>by rw [(ag_words hA).2.2]) (eq_x R (lc_bind (fun _=>rfl) (lc_lit hE) fun _ _ e=>lc_ret (by rw [e]))) (lc_ifL hE (by decide) (fun _ _=>eq_x R (lc_bind (fun _=>rfl) (lc_name hE) fun _ _ e=>lc_ret (by rw [e]))) (lc_ifL hE (by decide) (fun _ _=>h1) (lc_ifL hE (by decide) (fun _ _=>h2) (eq_x R (lc_fop hE)))))
theorem prim_eq (ch:Nat→Pf Ex) (pl:Pf Ex):primP ch pl=ifL [40] (fun _=>(ch 0).bind fun x=>(passP [[41]]).bind fun _=>Pf.ret x) (lnP fun n=>pl.bind fun x=>Pf.ret (exLn x n)):=by
 funext L k
 simp only [primP,ifL,lnP]
 cases passedP [40] L k with
 | true=>rfl
 | false =>
  simp only [Bool.false_eq_true,if_false,Pf.bind,Pf.ret]
  cases pl L k <;> rfl
theorem lc_prim (R:Rels) {L L':List (Wd × Nat)} {k0:Nat} (hE:Le L) {ch ch':Nat→Pf Ex} {pl pl':Pf Ex} (h1:Lc R.x L L' (k0+1) (ch 0) (ch' 0)) (h2:Lc R.x L L' k0 pl pl'):Lc R.x L L' k0 (primP ch pl) (primP ch' pl'):=by
 rw [prim_eq,prim_eq]
 exact lc_ifL hE (by decide) (fun _ _=>lc_bind R.xx h1 fun _ _ hx=>lc_bind (fun _=>rfl) (lc_pass hE _ _ (by simp)) fun _ _ _=>lc_ret hx) (lc_ln fun _ _=>lc_bind R.xx h2 fun _ _ hx=>lc_ret (R.xl _ _ _ _ hx))
theorem po_eq (n g:Nat) (x:Ex):poF n (g+1) x=ifL [91] (fun _=>cutP.bind fun nm=>poF n g (exCut x nm.1 nm.2 n)) (Pf.ret x):=by
 funext L k
 simp only [poF,ifL,Pf.bind,Pf.ret]
 cases passedP [91] L k with
 | false=>rfl
 | true =>
  simp only [if_true]
  cases cutP L (k+1) <;> rfl
theorem lc_po (R:Rels) {L L':List (Wd × Nat)} (hE:Le L):∀ (g g' k0 n n':Nat) (x x':Ex),R.x x x'→L.length+1≤g+k0→L'.length+1≤g'+k0→Lc R.x L L' k0 (poF n g x) (poF n' g' x'):=by
 intro g
 induction g with
 | zero=>intro g' k0 n n' x x' _ h _ k h1 h2;omega
 | succ g ih =>
  have main:∀ (g' k0 n n':Nat) (x x':Ex),R.x x x'→L.length+1≤g+1+k0→L'.length+1≤g'+1+k0→Lc R.x L L' k0 (poF n (g+1) x) (poF n' (g'+1) x'):=by
   intro g' k0 n n' x x' hx h h'
   rw [po_eq,po_eq]
   exact lc_ifL hE (by decide) (fun _ _=>lc_bind (fun _=>rfl) (lc_cut hE) fun a b e=>by
    subst e
    exact ih g' (k0+1) n n' _ _ (R.hx _ _ _ _ _ _ _ _ _ _ _ ⟨hx,trivial⟩) (by omega) (by omega)) (lc_ret hx)
  intro g' k0 n n' x x' hx h h'
  cases g' with
  | zero=>exact Lc.late (main (L'.length+2) k0 n n' x x' hx h (by omega)) (by omega)
  | succ g'=>exact main g' k0 n n' x x' hx h h'
theorem post_eq (pr:Pf Ex):postP pr=lnP fun n=>pr.bind fun x=>fun L k=>poF n (L.length+1 - k) x L k:=by
 funext L k
 simp only [postP,lnP,Pf.bind]
 cases pr L k <;> rfl
theorem lc_post (R:Rels) {L L':List (Wd × Nat)} {k0:Nat} (hE:Le L) {pr pr':Pf Ex} (h:Lc R.x L L' k0 pr pr'):Lc R.x L L' k0 (postP pr) (postP pr'):=by
 rw [post_eq,post_eq]
 exact lc_ln fun n n'=>lc_bind R.xx h fun x x' hx=>lc_fuel (F:=fun g=>poF n g x) (F':=fun g=>poF n' g x') fun k _=>lc_po R hE _ _ k n n' x x' hx (by omega) (by omega)
theorem un_eq (po:Pf Ex) (g:Nat):unF po (g+1)=ifL [126] (fun n=>(unF po g).bind fun x=>Pf.ret (exOp 11 [x] n)) po:=by
 funext L k
 simp only [unF,ifL,Pf.bind,Pf.ret]
 cases passedP [126] L k with
 | false=>rfl
 | true =>
  simp only [if_true]
  cases unF po g L (k+1) <;> rfl
theorem lc_un (R:Rels) {L L':List (Wd × Nat)} (hE:Le L) {po po':Pf Ex}:∀ (g g' k0:Nat),Lc R.x L L' k0 po po'→L.length+1≤g+k0→L'.length+1≤g'+k0→Lc R.x L L' k0 (unF po g) (unF po' g'):=by
 intro g
 induction g with
 | zero=>intro g' k0 _ h _ k h1 h2;omega
 | succ g ih =>
  have main:∀ g' k0,Lc R.x L L' k0 po po'→L.length+1≤g+1+k0→L'.length+1≤g'+1+k0→Lc R.x L L' k0 (unF po (g+1)) (unF po' (g'+1)):=by
   intro g' k0 hp h h'
   rw [un_eq,un_eq]
   exact lc_ifL hE (by decide) (fun _ _=>lc_bind R.xx (ih g' (k0+1) (hp.from (by omega)) (by omega) (by omega)) fun _ _ hx=>lc_ret (R.hx _ _ _ _ _ _ _ _ _ _ _ ⟨hx,trivial⟩)) hp
  intro g' k0 hp h h'
  cases g' with
  | zero=>exact Lc.late (main (L'.length+2) k0 hp h (by omega)) (by omega)
  | succ g'=>exact main g' k0 hp h h'
theorem lc_unOf (R:Rels) {L L':List (Wd × Nat)} {k0:Nat} (hE:Le L) {ch ch':Nat→Pf Ex} (h:Lc R.x L L' (k0+1) (ch 0) (ch' 0)):Lc R.x L L' k0 (unOf ch) (unOf ch'):=by
 unfold unOf
 exact lc_fuel (F:=unF (postP (primP ch (plainP (castP (ch 0)) (hashP (someP (ch 0))))))) (F':=unF (postP (primP ch' (plainP (castP (ch' 0)) (hashP (someP (ch' 0))))))) fun k hk=>lc_un R hE _ _ k ((lc_post R hE (lc_prim R hE h (lc_plain R hE (lc_cast R hE h) (lc_hash R hE (lc_some hE R.xx h))))).from hk) (by omega) (by omega)
theorem chL_next {ch:Nat→Pf Ex} {least ln g most:Nat} {x:Ex} {L:List (Wd × Nat)} {k:Nat} {t:List UInt8 × Nat × Nat} (h:twoP (sP L k)=some t) (hc:¬ (t.2.2 < least ∨ most < t.2.2)):chL ch least ln (g+1) x most L k=((ch (t.2.2+1)).bind fun y=>chL ch least ln g (exOp t.2.1 [x,y] ln) (if t.2.2=2 then 1 else t.2.2)) L (k+1):=by
 unfold Pf.bind
 simp only [chL,h]
 rw [if_neg hc]
 cases ch (t.2.2+1) L (k+1) <;> rfl
theorem lc_chL (R:Rels) {L L':List (Wd × Nat)} (hE:Le L) {ch ch':Nat→Pf Ex} {least:Nat}:∀ (g g' k0 n n':Nat) (x x':Ex) (most:Nat),(∀ l,Lc R.x L L' (k0+1) (ch l) (ch' l))→R.x x x'→L.length+1≤g+k0→L'.length+1≤g'+k0→Lc R.x L L' k0 (chL ch least n g x most) (chL ch' least n' g' x' most):=by
 intro g
 induction g with
 | zero=>intro g' k0 n n' x x' most _ _ h _ k h1 h2;omega
 | succ g ih =>
  have main:∀ (g' k0 n n':Nat) (x x':Ex) (most:Nat),(∀ l,Lc R.x L L' (k0+1) (ch l) (ch' l))→R.x x x'→L.length+1≤g+1+k0→L'.length+1≤g'+1+k0→Lc R.x L L' k0 (chL ch least n (g+1) x most) (chL ch' least n' (g'+1) x' most):=by
   intro g' k0 n n' x x' most hch hx h h' k h1 h2
   cases ht:twoP (sP L k) with
   | none =>
    rw [chL_none (by omega) ht]
    exact (LcR.ret h2 hx).pre fun hA=>chL_none (by omega) (by rw [(ag_words hA).1];exact ht)
   | some t =>
    by_cases hc:t.2.2 < least ∨ most < t.2.2
    ·rw [chL_stop (by omega) ht hc]
     exact (LcR.ret h2 hx).pre fun hA=>chL_stop (by omega) (by rw [(ag_words hA).1];exact ht) hc
    ·rw [chL_next ht hc]
     have hk:k+1 < L.length:=by
      obtain ⟨f1,f2,_,_⟩:=two_facts ht
      refine word_lt hE ?_
      show sP L k ≠ []
      rw [← f1];exact f2
     exact (lc_bind R.xx (hch (t.2.2+1)) (f:=fun y=>chL ch least n g (exOp t.2.1 [x,y] n) (if t.2.2=2 then 1 else t.2.2)) (f':=fun y=>chL ch' least n' g' (exOp t.2.1 [x',y] n') (if t.2.2=2 then 1 else t.2.2)) (fun y y' hy=>ih g' (k0+1) n n' _ _ _ (fun l=>(hch l).from (by omega)) (R.hx _ _ _ _ _ _ _ _ _ _ _ ⟨hx,hy,trivial⟩) (by omega) (by omega)) (k+1) (by omega) hk).later.pre fun hA=>chL_next (by rw [(ag_words hA).1];exact ht) hc
  intro g' k0 n n' x x' most hch hx h h'
  cases g' with
  | zero=>exact Lc.late (main (L'.length+2) k0 n n' x x' most hch hx h (by omega)) (by omega)
  | succ g'=>exact main g' k0 n n' x x' most hch hx h h'
theorem chainG_eq (un:Pf Ex) (ch:Nat→Pf Ex) (least:Nat):chainG un ch least=lnP fun n=>un.bind fun x=>fun L k=>chL ch least n (L.length+1 - k) x 7 L k:=by
 funext L k
 simp only [chainG,lnP,Pf.bind]
 cases un L k <;> rfl
theorem lc_chainG (R:Rels) {L L':List (Wd × Nat)} {k0:Nat} (hE:Le L) {un un':Pf Ex} {ch ch':Nat→Pf Ex} (least:Nat) (hu:Lc R.x L L' k0 un un') (hch:∀ l,Lc R.x L L' (k0+1) (ch l) (ch' l)):Lc R.x L L' k0 (chainG un ch least) (chainG un' ch' least):=by
 rw [chainG_eq,chainG_eq]
 exact lc_ln fun n n'=>lc_bind R.xx hu fun x x' hx=>lc_fuel (F:=fun g=>chL ch least n g x 7) (F':=fun g=>chL ch' least n' g x' 7) fun k hk=>lc_chL R hE _ _ k n n' x x' 7 (fun l=>(hch l).from (by omega)) hx (by omega) (by omega)
theorem lc_chain (R:Rels) {L L':List (Wd × Nat)} (hE:Le L):∀ (f f' k0 l:Nat),L.length≤f+k0→L'.length≤f'+k0→Lc R.x L L' k0 (chainF f l) (chainF f' l):=by
 intro f
 induction f with
 | zero=>intro f' k0 l h _ k h1 h2;omega
 | succ f ih =>
  have main:∀ f' k0 l,L.length≤f+1+k0→L'.length≤f'+1+k0→Lc R.x L L' k0 (chainF (f+1) l) (chainF (f'+1) l):=by
   intro f' k0 l h h'
   rw [chainF,chainF]
   exact lc_chainG R hE l (lc_unOf R hE (ih f' (k0+1) 0 (by omega) (by omega))) fun l=>ih f' (k0+1) l (by omega) (by omega)
  intro f' k0 l h h'
  cases f' with
  | zero=>exact Lc.late (main L'.length k0 l h (by omega)) (by omega)
  | succ f'=>exact main f' k0 l h h'
theorem lc_expr (R:Rels) {L L':List (Wd × Nat)} (hE:Le L) {k0:Nat}:Lc R.x L L' k0 exprP exprP:=fun k _ h2=>lc_chain R hE (L.length - k) (L'.length - k) k 0 (by omega) (by omega) k (Nat.le_refl _) h2
theorem lc_then {β:Type} {S:β→β→Prop} {L L':List (Wd × Nat)} {k0:Nat} (hE:Le L) {ls:List (List UInt8)} {f f':Pf β} (hf:Lc S L L' k0 f f') (hl:∀ l ∈ ls,l ≠ []:=by simp):Lc S L L' k0 ((passP ls).bind fun _=>f) ((passP ls).bind fun _=>f') :=
 lc_bind (fun _=>rfl) (lc_pass hE ls k0 hl) fun _ _ _=>hf
theorem lc_eqb {α β:Type} {S:β→β→Prop} {L L':List (Wd × Nat)} {k0:Nat} {a a':Pf α} {f f':α→Pf β} (ha:Lc Eq L L' k0 a a') (hf:∀ x,Lc S L L' k0 (f x) (f' x)):Lc S L L' k0 (a.bind f) (a'.bind f') :=
 lc_bind (fun _=>rfl) ha fun x x' e=>by subst e;exact hf x
theorem lc_cell (R:Rels) {L L':List (Wd × Nat)} {k0:Nat} (hE:Le L) {ex ex':Pf Ex} (h:Lc R.x L L' k0 ex ex'):Lc R.x L L' k0 (cellP ex) (cellP ex') :=
 lc_then hE (lc_bind R.xx h fun _ _ hx=>lc_then hE (lc_ret hx))
theorem R1 (R:Rels) {a b:Ex} (h:R.x a b):LQ R.x [a] [b]:=⟨h,trivial⟩
theorem lc_ofField {L L':List (Wd × Nat)} {k0:Nat} (hE:Le L) (kd:Nat):Lc Eq L L' k0 (ofFieldP kd) (ofFieldP kd) :=
 lc_eqb (lc_owner hE) fun _=>lc_eqb (lc_fieldOf hE) fun _=>lc_ret rfl
theorem ifIs_eq {α:Type} (n:List UInt8) (a b:Pf α):ifIs n a b=condP (fun L k=>!decide (n=metaL) && passedP [40] L k) a b:=by
 funext L k
 simp only [ifIs,condP]
 by_cases h:decide (n=metaL)=false∧passedP [40] L k=true
 ·rw [if_pos h,if_pos (by rw [h.1,h.2];rfl)]
 ·rw [if_neg h,if_neg (by rw [Bool.and_eq_true,Bool.not_eq_true'];exact h)]
theorem lc_setOrCall (R:Rels) {L L':List (Wd × Nat)} {k0:Nat} (hE:Le L) {ex ex':Pf Ex} {be be':Pf (List Ex)} (h:Lc R.x L L' k0 ex ex') (hb:Lc (LQ R.x) L L' k0 be be'):Lc R.s L L' k0 (setOrCallP ex be) (setOrCallP ex' be'):=by
 refine lc_eqb (lc_owner hE) fun n=>?_
 rw [ifIs_eq,ifIs_eq]
 refine lc_cond (fun k hA=>by rw [ag_passed hA]) ?_ ?_
 ·exact lc_bind R.ss (lc_bind (LQ.refl R.xx) hb fun _ _ hl=>lc_then hE (lc_ret (R.hs _ _ _ _ _ _ _ _ _ _ _ _ _ hl (LQ.refl R.ss _) (LQ.refl R.ss _)))) fun _ _ hs=>lc_ret hs
 ·exact lc_eqb (lc_fieldOf hE) fun f=>lc_then hE (lc_bind R.xx (lc_closed hE R.xx h) fun _ _ hx=>lc_ret (R.hs _ _ _ _ _ _ _ _ _ _ _ _ _ (R1 R hx) (LQ.refl R.ss _) (LQ.refl R.ss _)))
def RowsQ {α:Type} (S:α→α→Prop) (L L':List (Wd × Nat)) (k0:Nat):List (Rw α)→List (Rw α)→Prop
 | [],[]=>True
 | r :: rs,r' :: rs'=>r.key=r'.key∧r.key ≠ []∧Lc S L L' k0 r.f r'.f∧RowsQ S L L' k0 rs rs'
 | _,_=>False
theorem findK_q {α:Type} {S:α→α→Prop} {L L':List (Wd × Nat)} {k0:Nat} (s:List UInt8):∀ {rows rows':List (Rw α)},RowsQ S L L' k0 rows rows'→(findK rows s=none∧findK rows' s=none) ∨ ∃ f f',findK rows s=some f∧findK rows' s=some f'∧s ≠ []∧Lc S L L' k0 f f'
 | [],[],_=>.inl ⟨rfl,rfl⟩
 | r :: rs,r' :: rs',h=>by
  obtain ⟨h1,h2,h3,h4⟩:=h
  by_cases e:s=r.key
  ·refine .inr ⟨r.f,r'.f,?_,?_,?_,h3⟩
   ·rw [findK,if_pos e]
   ·rw [findK,if_pos (e.trans h1)]
   ·rw [e];exact h2
  ·have e':¬ s=r'.key:=fun x=>e (x.trans h1.symm)
   have:=findK_q s h4
   rw [findK,if_neg e,findK,if_neg e']
   exact this
 | [],_ :: _,h=>by cases h
 | _ :: _,[],h=>by cases h
theorem lc_stmt (R:Rels) {L L':List (Wd × Nat)} {k0:Nat} (hE:Le L) {rows rows':List (Rw Sm)} {sc sc':Pf Sm} (hq:RowsQ R.s L L' (k0+1) rows rows') (hs:Lc R.s L L' k0 sc sc'):Lc R.s L L' k0 (stmtP rows sc) (stmtP rows' sc'):=by
 intro k h1 h2
 rcases findK_q (wordS L k) hq with ⟨e1,e2⟩ | ⟨f,f',e1,e2,hn,hf⟩
 ·have p:=lc_bind (f:=fun s=>Pf.ret (smLn s (lineP L k))) (f':=fun s=>Pf.ret (smLn s (lineP L' k))) R.ss hs (fun _ _ hx=>lc_ret (R.sl _ _ _ _ hx)) k h1 h2
  have e3:stmtP rows sc L k=(sc.bind fun s=>Pf.ret (smLn s (lineP L k))) L k:=by unfold stmtP;rw [e1]
  rw [e3]
  exact p.pre fun hA=>by unfold stmtP;rw [(ag_words hA).2.1,e2]
 ·have p:=lc_bind (f:=fun s=>Pf.ret (smLn s (lineP L k))) (f':=fun s=>Pf.ret (smLn s (lineP L' k))) R.ss hf (fun _ _ hx=>lc_ret (R.sl _ _ _ _ hx)) (k+1) (by omega) (word_lt hE hn)
  have e3:stmtP rows sc L k=(f.bind fun s=>Pf.ret (smLn s (lineP L k))) L (k+1):=by unfold stmtP;rw [e1]
  rw [e3]
  exact p.later.pre fun hA=>by unfold stmtP;rw [(ag_words hA).2.1,e2]
theorem lc_decl (R:Rels) {L L':List (Wd × Nat)} {k0:Nat} (hE:Le L) {rows rows':List (Rw Dc)} (hq:RowsQ R.d L L' (k0+1) rows rows'):Lc R.d L L' k0 (declP rows) (declP rows'):=by
 intro k h1 h2
 rcases findK_q (wordS L k) hq with ⟨e1,e2⟩ | ⟨f,f',e1,e2,hn,hf⟩
 ·have e3:declP rows L k=.error k:=by unfold declP;rw [e1]
  rw [e3]
  exact (LcR.fail h2).pre fun hA=>by unfold declP;rw [(ag_words hA).2.1,e2]
 ·have p:=lc_bind (f:=fun s=>Pf.ret (dcLn s (lineP L k))) (f':=fun s=>Pf.ret (dcLn s (lineP L' k))) R.dd hf (fun _ _ hx=>lc_ret (R.dl _ _ _ _ hx)) (k+1) (by omega) (word_lt hE hn)
  have e3:declP rows L k=(f.bind fun s=>Pf.ret (dcLn s (lineP L k))) L (k+1):=by unfold declP;rw [e1]
  rw [e3]
  exact p.later.pre fun hA=>by unfold declP;rw [(ag_words hA).2.1,e2]
theorem eq_s (R:Rels) {L L':List (Wd × Nat)} {k0:Nat} {f f':Pf Sm} (h:Lc Eq L L' k0 f f'):Lc R.s L L' k0 f f':=h.imp fun a b e=>by subst e;exact R.ss a
theorem lc_ofName (R:Rels) {L L':List (Wd × Nat)} {k0:Nat} (hE:Le L) (kd:Nat):Lc R.s L L' k0 (ofNameP kd) (ofNameP kd):=eq_s R (lc_eqb (lc_closed hE (fun _=>rfl) (lc_name hE)) fun _=>lc_ret rfl)
theorem lc_bare (R:Rels) {L L':List (Wd × Nat)} {k0:Nat} (hE:Le L) (kd:Nat):Lc R.s L L' k0 (bareP kd) (bareP kd):=eq_s R (lc_then hE (lc_ret rfl))
theorem lc_array (R:Rels) {L L':List (Wd × Nat)} {k0:Nat} (hE:Le L) {ex ex':Pf Ex} (h:Lc R.x L L' k0 ex ex') (kd:Nat):Lc R.s L L' k0 (fromArrayP ex kd) (fromArrayP ex' kd) :=
 lc_eqb (lc_ofField hE kd) fun s=>lc_then hE (lc_eqb (lc_name hE) fun a=>lc_bind R.xx (lc_cell R hE h) fun _ _ hx=>lc_then hE (lc_ret (R.hs _ _ _ _ _ _ _ _ _ _ _ _ _ (R1 R hx) (LQ.refl R.ss _) (LQ.refl R.ss _))))
theorem lc_brE (R:Rels) {L L':List (Wd × Nat)} {k0:Nat} (hE:Le L):Lc (LQ R.x) L L' k0 brE brE:=lc_brack hE R.xx (lc_some hE R.xx (lc_expr R hE))
theorem lc_stRows (R:Rels) {L L':List (Wd × Nat)} {k0:Nat} (hE:Le L) {bl bl':Pf (List Sm)} (hb:Lc (LQ R.s) L L' k0 bl bl'):RowsQ R.s L L' k0 (stRows bl) (stRows bl'):=by
 have hx:Lc R.x L L' k0 exprP exprP:=lc_expr R hE
 refine ⟨rfl,List.cons_ne_nil _ _,?_,rfl,List.cons_ne_nil _ _,?_,rfl,List.cons_ne_nil _ _,?_,rfl,List.cons_ne_nil _ _,?_,rfl,List.cons_ne_nil _ _,?_,rfl,List.cons_ne_nil _ _,?_,rfl,List.cons_ne_nil _ _,?_,rfl,List.cons_ne_nil _ _,?_,rfl,List.cons_ne_nil _ _,?_,rfl,List.cons_ne_nil _ _,?_,rfl,List.cons_ne_nil _ _,?_,rfl,List.cons_ne_nil _ _,?_,rfl,List.cons_ne_nil _ _,?_,rfl,List.cons_ne_nil _ _,?_,trivial⟩
 ·exact lc_bind R.xx hx fun _ _ h1=>lc_bind (LQ.refl R.ss) hb fun _ _ h2=>lc_ifP hE (by decide) (lc_bind (LQ.refl R.ss) (hb.from (by omega)) fun _ _ h3=>lc_ret (R.hs _ _ _ _ _ _ _ _ _ _ _ _ _ (R1 R h1) h2 h3)) (lc_ret (R.hs _ _ _ _ _ _ _ _ _ _ _ _ _ (R1 R h1) h2 (LQ.refl R.ss _)))
 ·exact lc_ofName R hE 3
 ·exact lc_ofName R hE 5
 ·exact lc_ofName R hE 6
 ·exact lc_eqb (lc_name hE) fun n=>lc_bind R.xx (lc_cell R hE hx) fun _ _ h1=>lc_then hE (lc_ret (R.hs _ _ _ _ _ _ _ _ _ _ _ _ _ (R1 R h1) (LQ.refl R.ss _) (LQ.refl R.ss _)))
 ·exact lc_array R hE hx 8
 ·exact lc_eqb (lc_name hE) fun n=>lc_bind R.xx (lc_cell R hE hx) fun _ _ h1=>lc_then hE (lc_bind R.xx (lc_closed hE R.xx hx) fun _ _ h2=>lc_ret (R.hs _ _ _ _ _ _ _ _ _ _ _ _ _ ⟨h1,h2,trivial⟩ (LQ.refl R.ss _) (LQ.refl R.ss _)))
 ·exact lc_array R hE hx 10
 ·exact eq_s R (lc_eqb (lc_ofField hE 11) fun s=>lc_then hE (lc_ret rfl))
 ·exact lc_bare R hE 12
 ·exact lc_bare R hE 15
 ·exact lc_bare R hE 16
 ·exact lc_bind (LQ.refl R.xx) (lc_some hE R.xx hx) fun _ _ h1=>lc_then hE (lc_ret (R.hs _ _ _ _ _ _ _ _ _ _ _ _ _ h1 (LQ.refl R.ss _) (LQ.refl R.ss _)))
 ·exact eq_s R (lc_eqb (lc_closed hE (fun _=>rfl) (lc_whole hE)) fun _=>lc_ret rfl)
theorem lc_block (R:Rels) {L L':List (Wd × Nat)} (hE:Le L):∀ (f f' k0:Nat),L.length≤f+k0→L'.length≤f'+k0→Lc (LQ R.s) L L' k0 (blockF f) (blockF f'):=by
 intro f
 induction f with
 | zero=>intro f' k0 h _ k h1 h2;omega
 | succ f ih =>
  have main:∀ f' k0,L.length≤f+1+k0→L'.length≤f'+1+k0→Lc (LQ R.s) L L' k0 (blockF (f+1)) (blockF (f'+1)):=by
   intro f' k0 h h'
   rw [blockF,blockF]
   refine lc_bindG (fun _=>rfl) (goes_pass _ _) (lc_pass hE _ _ (by simp)) fun _ _ _=>?_
   have hb:=ih f' (k0+1) (by omega) (by omega)
   exact lc_bind (LQ.refl R.ss) (lc_untilP hE (by decide) R.ss (goes_stmtA (goes_blockF f).stays) (lc_stmt R hE (lc_stRows R hE (hb.from (by omega))) (lc_setOrCall R hE (lc_expr R hE) (lc_brE R hE)))) fun _ _ hx=>lc_ret hx
  intro f' k0 h h'
  cases f' with
  | zero=>exact Lc.late (main L'.length k0 h (by omega)) (by omega)
  | succ f'=>exact main f' k0 h h'
theorem lc_blockA (R:Rels) {L L':List (Wd × Nat)} (hE:Le L) {k0:Nat}:Lc (LQ R.s) L L' k0 blockA blockA:=fun k _ h2=>lc_block R hE (L.length - k) (L'.length - k) k (by omega) (by omega) k (Nat.le_refl _) h2
theorem lc_field {L L':List (Wd × Nat)} {k0:Nat} (hE:Le L):Lc Eq L L' k0 fieldP fieldP:=lc_eqb (lc_name hE) fun _=>lc_eqb (lc_whole hE) fun _=>lc_ret rfl
theorem lc_rows {α:Type} {R:α→α→Prop} {L L':List (Wd × Nat)} {k0:Nat} (hE:Le L) {en:List UInt8} (hl:en ≠ []) (rr:∀ x,R x x) {f f':Pf α} (hg:Goes f) (h:Lc R L L' k0 f f'):Lc (LQ R) L L' k0 (rowsP en f) (rowsP en f'):=lc_untilP hE hl rr (closed_goes hg) (lc_closed hE rr h)
theorem lc_fields {L L':List (Wd × Nat)} {k0:Nat} (hE:Le L):Lc Eq L L' k0 fieldsP fieldsP:=lc_then hE (lc_eqb (lc_eqs (lc_rows hE (by decide) (fun _=>rfl) goes_field (lc_field hE))) fun _=>lc_ret rfl)
theorem lc_case {L L':List (Wd × Nat)} {k0:Nat} (hE:Le L):Lc Eq L L' k0 caseP caseP:=lc_eqb (lc_lit hE) fun _=>lc_ifP hE (by decide) (lc_eqb (lc_lit hE) fun _=>lc_then hE (lc_eqb (lc_name hE) fun _=>lc_ret rfl)) (lc_then hE (lc_eqb (lc_name hE) fun _=>lc_ret rfl))
theorem lc_kk {L L':List (Wd × Nat)} {k0:Nat} (hE:Le L):Lc Eq L L' k0 kkP kkP:=lc_ifP hE (by decide) (lc_ret rfl) (lc_ifP hE (by decide) (lc_ret rfl) (lc_ifP hE (by decide) (lc_ret rfl) (lc_then hE (lc_ret rfl))))
def KQ (R:Rels) (p q:Ex × Nat):Prop:=R.x p.1 q.1∧p.2=q.2
theorem KQ.refl (R:Rels) (p:Ex × Nat):KQ R p p:=⟨R.xx _,rfl⟩
theorem lc_key (R:Rels) {L L':List (Wd × Nat)} {k0:Nat} (hE:Le L):Lc (KQ R) L L' k0 (keyP exprP) (keyP exprP):=lc_bind R.xx (lc_expr R hE) fun _ _ h=>lc_eqb (lc_kk hE) fun _=>lc_ret ⟨h,rfl⟩
theorem lc_state (R:Rels) {L L':List (Wd × Nat)} {k0:Nat} (hE:Le L):Lc R.t L L' k0 (stateP exprP casesP) (stateP exprP casesP):=by
 have e:stateP exprP casesP=lnP fun ln=>nameP.bind fun n=>(passP [[123]]).bind fun _=>(whP [116,97,107,101] (closedP nameP)).bind (stateC exprP casesP ln n):=rfl
 rw [e]
 refine lc_ln fun n n'=>lc_eqb (lc_name hE) fun m=>lc_then hE (lc_eqb (lc_eqs (lc_whP hE (by decide) (fun _=>rfl) (lc_closed hE (fun _=>rfl) (lc_name hE)))) fun hs=>?_)
 have hc:∀ k0,Lc Eq L L' k0 casesP casesP:=fun k0=>lc_eqs (lc_rows hE (by decide) (fun _=>rfl) goes_case (lc_case hE))
 exact lc_ifP hE (by decide) (lc_bind R.xx (lc_expr R hE) fun _ _ hx=>lc_then hE (lc_eqb (hc _) fun _=>lc_eqb (lc_closed hE (fun _=>rfl) (lc_name hE)) fun _=>lc_then hE (lc_then hE (lc_ret (R.ht _ _ _ _ _ _ _ _ (R1 R hx)))))) (lc_then hE (lc_eqb (lc_closed hE (fun _=>rfl) (lc_name hE)) fun _=>lc_then hE (lc_ret (R.ht _ _ _ _ _ _ _ _ (LQ.refl R.xx _)))))
theorem eq_d (R:Rels) {L L':List (Wd × Nat)} {k0:Nat} {f f':Pf Dc} (h:Lc Eq L L' k0 f f'):Lc R.d L L' k0 f f':=h.imp fun a b e=>by subst e;exact R.dd a
theorem lc_dcRows (R:Rels) {L L':List (Wd × Nat)} {k0:Nat} (hE:Le L):RowsQ R.d L L' k0 dcRows dcRows:=by
 have hcw:Lc Eq L L' k0 (closedP wholeP) (closedP wholeP):=lc_closed hE (fun _=>rfl) (lc_whole hE)
 refine ⟨rfl,List.cons_ne_nil _ _,?_,rfl,List.cons_ne_nil _ _,?_,rfl,List.cons_ne_nil _ _,?_,rfl,List.cons_ne_nil _ _,?_,rfl,List.cons_ne_nil _ _,?_,rfl,List.cons_ne_nil _ _,?_,rfl,List.cons_ne_nil _ _,?_,rfl,List.cons_ne_nil _ _,?_,rfl,List.cons_ne_nil _ _,?_,rfl,List.cons_ne_nil _ _,?_,trivial⟩
 ·exact eq_d R (lc_eqb (lc_name hE) fun _=>lc_eqb (lc_fields hE) fun _=>lc_ret rfl)
 ·exact eq_d R (lc_eqb (lc_fields hE) fun _=>lc_ret rfl)
 ·exact eq_d R (lc_eqb (lc_name hE) fun _=>lc_eqb (lc_whole hE) fun _=>lc_eqb hcw fun _=>lc_ret rfl)
 ·exact eq_d R (lc_eqb (lc_name hE) fun _=>lc_eqb hcw fun _=>lc_ret rfl)
 ·exact eq_d R (lc_eqb (lc_name hE) fun _=>lc_eqb (lc_whole hE) fun _=>lc_eqb (lc_whole hE) fun _=>lc_eqb hcw fun _=>lc_ret rfl)
 ·exact lc_then hE (lc_bind (LQ.refl R.tt) (lc_untilP hE (by decide) R.tt (goes_state goes_exprP.stays (goes_rows goes_case.stays).stays) (lc_state R hE)) fun _ _ h=>lc_ret (R.hd _ _ _ _ _ _ _ _ _ _ _ _ _ _ _ _ _ _ _ h (LQ.refl (KQ.refl R) _) (LQ.refl R.ss _)))
 ·exact lc_eqb (lc_name hE) fun _=>lc_eqb (lc_eqs (lc_brack hE (fun _=>rfl) (lc_some2 hE (fun _=>rfl) (lc_field hE)))) fun _=>lc_bind (LQ.refl R.ss) (lc_blockA R hE) fun _ _ h=>lc_ret (R.hd _ _ _ _ _ _ _ _ _ _ _ _ _ _ _ _ _ _ _ (LQ.refl R.tt _) (LQ.refl (KQ.refl R) _) h)
 ·exact lc_eqb (lc_name hE) fun _=>lc_then hE (lc_bind (LQ.refl (KQ.refl R)) (lc_rows hE (by decide) (KQ.refl R) (goes_key goes_exprP) (lc_key R hE)) fun _ _ h=>lc_then hE (lc_eqb (lc_name hE) fun _=>lc_eqb (lc_eqs (lc_untilP hE (by decide) (fun _=>rfl) nameP_goes (lc_name hE))) fun _=>lc_then hE (lc_eqb (lc_name hE) fun _=>lc_eqb (lc_eqs (lc_brack hE (fun _=>rfl) (lc_some2 hE (fun _=>rfl) (lc_lit hE)))) fun _=>lc_then hE (lc_eqb hcw fun _=>lc_then hE (lc_ret (R.hd _ _ _ _ _ _ _ _ _ _ _ _ _ _ _ _ _ _ _ (LQ.refl R.tt _) h (LQ.refl R.ss _)))))))
 ·exact lc_bind (LQ.refl R.ss) (lc_blockA R hE) fun _ _ h=>lc_ret (R.hd _ _ _ _ _ _ _ _ _ _ _ _ _ _ _ _ _ _ _ (LQ.refl R.tt _) (LQ.refl (KQ.refl R) _) h)
 ·exact eq_d R (lc_then hE (lc_eqb (lc_eqs (lc_rows hE (by decide) (fun _=>rfl) nameP_goes (lc_name hE))) fun _=>lc_ret rfl))
theorem pr_eq {dc:Pf Dc} {g:Nat} {L:List (Wd × Nat)} {k:Nat} {x:Wd × Nat} (hx:L[k]? = some x):prF dc (g+1) L k=if x.1.k=0 then .ok ([],k) else (dc.bind fun y=>(prF dc g).bind fun ys=>Pf.ret (y :: ys)) L k:=by
 simp only [prF,hx,Pf.bind,Pf.ret]
 split
 ·rfl
 ·cases dc L k with
  | error e=>rfl
  | ok y =>
   simp only
   cases prF dc g L y.2 <;> rfl
theorem lc_pr (R:Rels) {L L':List (Wd × Nat)} {dc dc':Pf Dc} (hg:Goes dc):∀ (g g' k0:Nat),Lc R.d L L' k0 dc dc'→L.length+1≤g+k0→L'.length+1≤g'+k0→Lc (LQ R.d) L L' k0 (prF dc g) (prF dc' g'):=by
 intro g
 induction g with
 | zero=>intro g' k0 _ h _ k h1 h2;omega
 | succ g ih =>
  have main:∀ g' k0,Lc R.d L L' k0 dc dc'→L.length+1≤g+1+k0→L'.length+1≤g'+1+k0→Lc (LQ R.d) L L' k0 (prF dc (g+1)) (prF dc' (g'+1)):=by
   intro g' k0 hd h h' k h1 h2
   have hx:L[k]? = some L[k]:=List.getElem?_eq_getElem h2
   have hy:∀ {r:Except Nat (List Dc × Nat)},(∀ y,L'[k]? = some y→y.1=L[k].1→prF dc' (g'+1) L' k=r)→Ag L L' k→prF dc' (g'+1) L' k=r:=by
    intro r hr hA
    rcases ag_get hA with ⟨e1,_⟩ | ⟨x,n,n',e1,e2⟩
    ·rw [hx] at e1;cases e1
    ·refine hr _ e2 ?_
     rw [hx] at e1;injection e1 with e1;rw [e1]
   rw [pr_eq hx]
   by_cases h0:L[k].1.k=0
   ·rw [if_pos h0]
    exact (LcR.ret h2 trivial).pre (hy fun y e1 e2=>by rw [pr_eq e1,e2,if_pos h0])
   ·rw [if_neg h0]
    exact (lc_bindG R.dd hg hd (f:=fun y=>(prF dc g).bind fun ys=>Pf.ret (y :: ys)) (f':=fun y=>(prF dc' g').bind fun ys=>Pf.ret (y :: ys)) (fun _ _ hx=>lc_bind (LQ.refl R.dd) (ih g' (k0+1) (hd.from (by omega)) (by omega) (by omega)) fun _ _ hxs=>lc_ret ⟨hx,hxs⟩) k h1 h2).pre (hy fun y e1 e2=>by rw [pr_eq e1,e2,if_neg h0])
  intro g' k0 hd h h'
  cases g' with
  | zero=>exact Lc.late (main (L'.length+2) k0 hd h (by omega)) (by omega)
  | succ g'=>exact main g' k0 hd h h'
theorem lc_prog (R:Rels) {L L':List (Wd × Nat)} (hE:Le L) {k0:Nat}:Lc (LQ R.d) L L' k0 progA progA :=
 lc_fuel (F:=prF declA) (F':=prF declA) fun k _=>lc_pr R goes_declA _ _ k (lc_decl R hE (lc_dcRows R hE)) (by omega) (by omega)
def EqS (K:Nat) (eq:World→List Value→List Value→Prop) (W:World) (va vb:Value):Prop:=∃ n a b ca cb,va=.slice a n ca∧vb=.slice b n cb∧n≤1000000∧(n=0 ∨ ∃ pa pb,a=some ⟨pa,0,none⟩∧b=some ⟨pb,0,none⟩∧pa < W.heap.size∧pb < W.heap.size∧∀ i,i < n→∃ cs cs':List Value,cs.length=K∧cs'.length=K∧(∀ j u,cs[j]? = some u→W.cell? ⟨pa,i * K+j,none⟩=some u)∧(∀ j u,cs'[j]? = some u→W.cell? ⟨pb,i * K+j,none⟩=some u)∧eq W cs cs')
def eqX:Nat→World→List Value→List Value→Prop
 | 0=>fun _ _ _=>False
 | d+1=>fun W cs cs'=>∃ (op w hi lo n m ln:Int) (nm fl:ByteArray) (va vb:Value),cs=[.int .u8 op,.int .i64 w,.int .u64 hi,.int .u64 lo,.string nm,.string fl,.int .i64 n,.int .i64 m,va,.int .i64 ln]∧cs'=[.int .u8 op,.int .i64 w,.int .u64 hi,.int .u64 lo,.string nm,.string fl,.int .i64 n,.int .i64 m,vb,.int .i64 ln]∧EqS 10 (eqX d) W va vb
theorem EqS.next {K:Nat} {eq:World→List Value→List Value→Prop} {W W':World} {va vb:Value} (he:∀ cs cs',eq W cs cs'→eq W' cs cs') (h:EqS K eq W va vb) (hb:Below W.heap.size W W'):EqS K eq W' va vb:=by
 obtain ⟨n,a,b,ca,cb,h1,h2,h3,h4⟩:=h
 refine ⟨n,a,b,ca,cb,h1,h2,h3,?_⟩
 rcases h4 with h4 | ⟨pa,pb,e1,e2,l1,l2,h5⟩
 ·exact .inl h4
 ·refine .inr ⟨pa,pb,e1,e2,Nat.lt_of_lt_of_le l1 hb.size,Nat.lt_of_lt_of_le l2 hb.size,fun i hi=>?_⟩
  obtain ⟨cs,cs',k1,k2,k3,k4,k5⟩:=h5 i hi
  exact ⟨cs,cs',k1,k2,fun j u hu=>(hb.cell (p:=⟨pa,i * K+j,none⟩) l1).trans (k3 j u hu),fun j u hu=>(hb.cell (p:=⟨pb,i * K+j,none⟩) l2).trans (k4 j u hu),he _ _ k5⟩
theorem eqX.next {W W':World} (hb:Below W.heap.size W W'):∀ {d:Nat} {cs cs':List Value},eqX d W cs cs'→eqX d W' cs cs'
 | 0,_,_,h=>h.elim
 | _+1,_,_,⟨op,w,hi,lo,n,m,ln,nm,fl,va,vb,h1,h2,h3⟩=>⟨op,w,hi,lo,n,m,ln,nm,fl,va,vb,h1,h2,h3.next (fun _ _ h=>eqX.next hb h) hb⟩
theorem EqS.form {K:Nat} {eq:World→List Value→List Value→Prop} {W:World} {va vb:Value} (h:EqS K eq W va vb):∃ n a b ca cb,va=.slice a n ca∧vb=.slice b n cb:=by
 obtain ⟨n,a,b,ca,cb,h1,h2,_⟩:=h
 exact ⟨n,a,b,ca,cb,h1,h2⟩
def SaX (d:Nat):Prop:=∀ (W:World) (cs cs':List Value),eqX d W cs cs'→Calls Tryz.prog 191 #[.agg cs.toArray,.agg cs'.toArray] W fun e w'=>e=.returned (.bool true)∧Below W.heap.size W w'
def SaL (F K:Nat) (eq:World→List Value→List Value→Prop):Prop:=∀ (W:World) (va vb:Value),EqS K eq W va vb→Calls Tryz.prog F #[va,vb] W fun e w'=>e=.returned (.bool true)∧Below W.heap.size W w'
theorem al2 (W:World) (o o':Obj):Below W.heap.size W ((W.alloc o).alloc o'):=((Below.refl _ W).alloc (Nat.le_refl _) o).alloc (by rw [World.size_alloc];omega) o'
theorem keepBT {S:World→Prop} {w1 W W':World} (HH:∀ w',Below w1.heap.size w1 w'→S w') (h:Below w1.heap.size w1 W) (hb:Below W.heap.size W W'):S W':=HH _ (h.trans (hb.mono h.size))
theorem bcellT {W w1:World} (hb:Below W.heap.size W w1):∀ b o,b < W.heap.size→w1.cell? ⟨b,o,none⟩=W.cell? ⟨b,o,none⟩:=fun b o h=>hb.cell (p:=⟨b,o,none⟩) h
set_option maxRecDepth 100000 in
set_option maxHeartbeats 4000000 in
theorem sameExpr_ok {d:Nat} (HL:SaL 189 10 (eqX d)):SaX (d+1):=by
 rintro W _ _ ⟨op,w,hi,lo,n,m,ln,nm,fl,va,vb,rfl,rfl,h3⟩
 obtain ⟨nn,a,b,ca,cb,rfl,rfl⟩:=h3.form
 have HC:=hide (fun W' (hb:Below W.heap.size W W')=>HL W' _ _ (h3.next (fun _ _ h=>eqX.next hb h) hb))
 clear h3 HL
 go_enter Tryz.func191,Tryz.ntmps191
 go_wp2_with fail
 refine (HC.out _ (al2 W _ _)).mono ?_
 rintro e w1 ⟨rfl,hb⟩
 have hc:=bcellT hb
 have hz:W.heap.size < w1.heap.size∧W.heap.size+1 < w1.heap.size:=by have h:=hb.size;simp at h;omega
 obtain ⟨hz1,hz2⟩:=hz
 have BW:Hid (Below W.heap.size W w1):=(al2 W _ _).trans (hb.mono (by simp;omega))
 clear hb
 simp only [World.size_alloc] at hc
 go_wp2
 go_ret
 exact ⟨rfl,BW.out⟩
end Go.Proofs.YtabkimknlifdoaaGreatDoor
