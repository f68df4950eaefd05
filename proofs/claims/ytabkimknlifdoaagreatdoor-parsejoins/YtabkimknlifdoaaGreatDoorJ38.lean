/- Pieces of the proof: TVb, LLn, PMa, LP. -/
import Derived.Test.YtabkimknlifdoaaGreatDoorJ35
import Derived.Test.YtabkimknlifdoaaGreatDoorJ36
import Derived.Test.YtabkimknlifdoaaGreatDoorJ37
import Derived.Test.YtabkimknlifdoaaGreatDoorJ15
import Derived.Test.YtabkimknlifdoaaGreatDoorJ34
namespace Go.Proofs.YtabkimknlifdoaaGreatDoor
open Go.RowKit
def TwL {α:Type} (F:Nat) (R R':Rep α) (l:α):Prop:=∀ (W:World) (X:Nat→Prop) (v:Value),R W X v l→Calls Tryz.prog F #[v] W fun e w'=>∃ v',e=.returned v'∧R' w' (Bn W w') v' l∧Below W.heap.size W w'
theorem TwL.raw {α:Type} {F:Nat} {R R':Rep α} {l:α} (H:TwL F R R' l) (hR:RepOk R) (hF':∀ {W X v l},R' W X v l→∃ a n c,v=.slice a n c) {W:World} {X:Nat→Prop} {v:Value} (h:R W X v l) :
  ∀ W',Below W.heap.size W W'→Calls Tryz.prog F #[v] W' fun e w'=>∃ v',e=.returned v'∧(∃ a n c,v'=.slice a n c)∧R' w' (Bn W' w') v' l∧Below W'.heap.size W' w' :=
 fun W' hb=>(H W' X _ (hR.frame h hb.size (fun b _ hl=>hb.block b hl))).mono fun _ _ ⟨v',e1,e2,e3⟩=>⟨v',e1,hF' e2,e2,e3⟩
theorem one_of {cs:List Value} (h:cs.length=1):∃ c,cs=[c]:=by
 match cs,h with
 | [c],_=>exact ⟨c,rfl⟩
abbrev TxL:Rep (List (List UInt8)):=ListT StrV mkOne 1 9
abbrev LtL:Rep (List (Nat × Nat)):=ListT LitV mkAgg 3 35
abbrev FdL:Rep (List (List UInt8 × Nat)):=ListT FieldV mkAgg 2 137
abbrev CkL:Rep (List Ck):=ListT CaseV mkAgg 7 194
theorem twTexts {l:List (List UInt8)} (hl:l.length≤1000000):TwL 149 (ListR StrV mkOne 1) TxL l:=fun W X v h =>
 twinTexts_ok strV_ok strV_ok l (fun x _ _ _ cs hc hr=>by
  obtain ⟨c,rfl⟩:=one_of hc
  have e:c=.string (txt x):=hr
  subst e
  exact ⟨⟨_,rfl⟩,fun _ _=>rfl⟩) W X v hl h
theorem twNumbers {l:List (Nat × Nat)} (hl:l.length≤1000000):TwL 150 (ListR LitV mkAgg 3) LtL l:=fun W X v h =>
 twinNumbers_ok litV_ok litV_ok l (fun x _ _ _ cs _ hr=>by
  obtain rfl:=mkAgg_inj (cs':=[_,_,_]) hr
  exact ⟨⟨_,_,_,rfl⟩,fun _ _=>rfl⟩) W X v hl h
theorem twFields {l:List (List UInt8 × Nat)} (hl:l.length≤1000000):TwL 146 (ListR FieldV mkAgg 2) FdL l:=fun W X v h =>
 twinFields_ok fieldV_ok fieldV_ok l (fun x _ _ _ cs _ hr=>by
  obtain rfl:=mkAgg_inj (cs':=[_,_]) hr
  exact ⟨⟨_,_,rfl⟩,fun _ _=>rfl⟩) W X v hl h
theorem twCases {l:List Ck} (hl:l.length≤1000000):TwL 227 (ListR CaseV mkAgg 7) CkL l:=fun W X v h =>
 twinCases_ok caseV_ok caseV_ok l (fun x _ _ _ cs _ hr=>by
  obtain rfl:=mkAgg_inj hr
  exact ⟨⟨_,_,_,_,_,_,_,rfl⟩,fun _ _=>rfl⟩) W X v hl h
def XL (p:Bool):Rep (List Ex):=fun W X v l=>∃ d,xL p d W X v l
theorem XL_ok (p:Bool):RepOk (XL p):=⟨fun ⟨d,h⟩ hm=>⟨d,(xL_ok p d).mono h hm⟩,fun ⟨d,h⟩ hs hf=>⟨d,(xL_ok p d).frame h hs hf⟩⟩
theorem XL_form {p:Bool} {W:World} {X:Nat→Prop} {v:Value} {l:List Ex} (h:XL p W X v l):∃ a n c,v=.slice a n c:=by
 obtain ⟨d,h⟩:=h
 exact xL_form h
def LSX (l:List Ex):Prop:=∀ d,lsX d l
theorem twExprs {l:List Ex} (hl:LSX l):TwL 226 (ListR ExR mkAgg 10) (XL false) l:=fun W X v h=>by
 obtain ⟨d,h⟩:=h.one
 exact (twinX d l (hl d) W X v h).mono fun _ _ ⟨v',e1,e2,e3⟩=>⟨v',e1,⟨_,e2⟩,e3⟩
def smZ (x:Sm) (va vb ve:Value) (ln:Int):List Value:=[.int .u8 (x.kind:Int),.string (txt x.name),.string (txt x.field),.string (txt x.array),.int .i64 (x.n:Int),va,vb,ve,.int .i64 ln]
def smV (p:Bool) (R:Rep (List Sm)):Rep Sm:=fun W X v x=>∃ va vb ve ln,v=mkAgg (smZ x va vb ve ln)∧lnV p ln∧XL p W X va x.args∧R W X vb x.body∧R W X ve x.els
def sL (p:Bool):Nat→Rep (List Sm)
 | 0=>fun _ _ _ _=>False
 | d+1=>ListT (smV p (sL p d)) mkAgg 9 72
theorem smV_ok {p:Bool} {R:Rep (List Sm)} (h:RepOk R):RepOk (smV p R):=⟨fun ⟨va,vb,ve,ln,h1,h2,h3,h4,h5⟩ hm=>⟨va,vb,ve,ln,h1,h2,(XL_ok p).mono h3 hm,h.mono h4 hm,h.mono h5 hm⟩,fun ⟨va,vb,ve,ln,h1,h2,h3,h4,h5⟩ hs hf=>⟨va,vb,ve,ln,h1,h2,(XL_ok p).frame h3 hs hf,h.frame h4 hs hf,h.frame h5 hs hf⟩⟩
theorem sL_ok (p:Bool):∀ d,RepOk (sL p d)
 | 0=>⟨fun h _=>h,fun h _ _=>h⟩
 | d+1=>ListT.ok (smV_ok (sL_ok p d)) _ _ _
theorem sL_form {p:Bool}:∀ {d:Nat} {W:World} {X:Nat→Prop} {v:Value} {l:List Sm},sL p d W X v l→∃ a n c,v=.slice a n c
 | 0,_,_,_,_,h=>h.elim
 | _+1,_,_,_,_,h=>ListT.form h
def lsS:Nat→List Sm→Prop
 | 0=>fun l=>l.length≤1000000
 | d+1=>fun l=>l.length≤1000000∧∀ x ∈ l,LSX x.args∧lsS d x.body∧lsS d x.els
theorem lsS_len:∀ {d:Nat} {l:List Sm},lsS d l→l.length≤1000000
 | 0,_,h=>h
 | _+1,_,h=>h.1
theorem twinS:∀ (d:Nat) (l:List Sm),lsS d l→TwL 151 (ListR (smR d) mkAgg 9) (sL false (d+1)) l
 | 0,l,hl,W,X,v,h=>twinStmts_ok (rep:=smR 0) (rep':=smV false (sL false 0)) (smR_ok 0) (smV_ok (sL_ok _ 0)) l (fun _ _ _ _ _ _ h=>h.elim) W X v (lsS_len hl) h
 | d+1,l,hl,W,X,v,h=>twinStmts_ok (rep:=smR (d+1)) (rep':=smV false (sL false (d+1))) (smR_ok _) (smV_ok (sL_ok _ _)) l (fun x hx W X cs _ hr=>by
   obtain ⟨va,vb,ve,e,h1,h2,h3⟩:=hr
   obtain rfl:=mkAgg_inj e
   have k1:=(twExprs (hl.2 x hx).1).raw (ListR.ok exRep_ok mkAgg 10) XL_form h1
   have k2:=(twinS d x.body (hl.2 x hx).2.1).raw (ListR.ok (smR_ok d) mkAgg 9) sL_form h2
   have k3:=(twinS d x.els (hl.2 x hx).2.2).raw (ListR.ok (smR_ok d) mkAgg 9) sL_form h3
   obtain ⟨_,_,_,rfl⟩:=h1.form
   obtain ⟨_,_,_,rfl⟩:=h2.form
   obtain ⟨_,_,_,rfl⟩:=h3.form
   refine (twinStmt_raw (XL_ok false) x.args _ _ _ (sL_ok false (d+1)) x.body _ _ _ (sL_ok false (d+1)) x.els _ _ _ _ _ _ _ _ _ W k1 k2 k3).mono ?_
   rintro e w' ⟨v5,v6,v7,rfl,⟨a5,n5,c5,rfl⟩,r5,⟨a6,n6,c6,rfl⟩,r6,⟨a7,n7,c7,rfl⟩,r7,hb⟩
   exact ⟨smZ x _ _ _ (x.line:Int),rfl,rfl,by simp [smZ,Value.oneCell'],⟨_,_,_,_,rfl,(fun h=>by cases h),r5,r6,r7⟩,hb⟩) W X v (lsS_len hl) h
def SL (p:Bool):Rep (List Sm):=fun W X v l=>∃ d,sL p d W X v l
theorem SL_ok (p:Bool):RepOk (SL p):=⟨fun ⟨d,h⟩ hm=>⟨d,(sL_ok p d).mono h hm⟩,fun ⟨d,h⟩ hs hf=>⟨d,(sL_ok p d).frame h hs hf⟩⟩
theorem SL_form {p:Bool} {W:World} {X:Nat→Prop} {v:Value} {l:List Sm} (h:SL p W X v l):∃ a n c,v=.slice a n c:=by
 obtain ⟨d,h⟩:=h
 exact sL_form h
def LSS (l:List Sm):Prop:=∀ d,lsS d l
theorem twStmts {l:List Sm} (hl:LSS l):TwL 151 (ListR SmR mkAgg 9) (SL false) l:=fun W X v h=>by
 obtain ⟨d,h⟩:=sm_one h
 exact (twinS d l (hl d) W X v h).mono fun _ _ ⟨v',e1,e2,e3⟩=>⟨v',e1,⟨_,e2⟩,e3⟩
def tsZ (x:Ts) (vh vs vc:Value) (ln:Int):List Value:=[.string (txt x.name),vh,vs,vc,.string (txt x.dest),.int .i64 ln]
def stV (p:Bool):Rep Ts:=fun W X v x=>∃ vh vs vc ln,v=mkAgg (tsZ x vh vs vc ln)∧lnV p ln∧TxL W X vh x.heads∧XL p W X vs x.sel∧CkL W X vc x.cases
theorem TxL_ok:RepOk TxL:=ListT.ok strV_ok _ _ _
theorem CkL_ok:RepOk CkL:=ListT.ok caseV_ok _ _ _
theorem FdL_ok:RepOk FdL:=ListT.ok fieldV_ok _ _ _
theorem LtL_ok:RepOk LtL:=ListT.ok litV_ok _ _ _
theorem stV_ok (p:Bool):RepOk (stV p):=⟨fun ⟨vh,vs,vc,ln,h1,h2,h3,h4,h5⟩ hm=>⟨vh,vs,vc,ln,h1,h2,TxL_ok.mono h3 hm,(XL_ok p).mono h4 hm,CkL_ok.mono h5 hm⟩,fun ⟨vh,vs,vc,ln,h1,h2,h3,h4,h5⟩ hs hf=>⟨vh,vs,vc,ln,h1,h2,TxL_ok.frame h3 hs hf,(XL_ok p).frame h4 hs hf,CkL_ok.frame h5 hs hf⟩⟩
def lsT (x:Ts):Prop:=x.heads.length≤1000000∧LSX x.sel∧x.cases.length≤1000000
theorem twStates {l:List Ts} (hl:l.length≤1000000) (hx:∀ x ∈ l,lsT x):TwL 147 (ListR StateR mkAgg 6) (ListT (stV false) mkAgg 6 79) l:=fun W X v h =>
 twinStates_ok stateR_ok (stV_ok false) l (fun x hm W X cs _ hr=>by
  obtain ⟨vh,vs,vc,e,h1,h2,h3⟩:=hr
  obtain rfl:=mkAgg_inj e
  have k1:=(twTexts (hx x hm).1).raw (ListR.ok strV_ok mkOne 1) ListT.form h1
  have k2:=(twExprs (hx x hm).2.1).raw (ListR.ok exRep_ok mkAgg 10) XL_form h2
  have k3:=(twCases (hx x hm).2.2).raw (ListR.ok caseV_ok mkAgg 7) ListT.form h3
  obtain ⟨_,_,_,rfl⟩:=h1.form
  obtain ⟨_,_,_,rfl⟩:=h2.form
  obtain ⟨_,_,_,rfl⟩:=h3.form
  refine (twinState_raw TxL_ok x.heads _ _ _ (XL_ok false) x.sel _ _ _ CkL_ok x.cases _ _ _ _ _ _ W k1 k2 k3).mono ?_
  rintro e w' ⟨v1,v2,v3,rfl,⟨a1,n1,c1,rfl⟩,r1,⟨a2,n2,c2,rfl⟩,r2,⟨a3,n3,c3,rfl⟩,r3,hb⟩
  exact ⟨tsZ x _ _ _ (x.line:Int),rfl,rfl,by simp [tsZ,Value.oneCell'],⟨_,_,_,_,rfl,(fun h=>by cases h),r1,r2,r3⟩,hb⟩) W X v hl h
def keV (p:Bool):Rep (Ex × Nat):=fun W X v x=>∃ va ln,v=mkAgg (exZ x.1 va ln ++ [.int .u8 (x.2:Int)])∧lnV p ln∧XL p W X va x.1.args
theorem keV_ok (p:Bool):RepOk (keV p):=⟨fun ⟨va,ln,h1,h2,h3⟩ hm=>⟨va,ln,h1,h2,(XL_ok p).mono h3 hm⟩,fun ⟨va,ln,h1,h2,h3⟩ hs hf=>⟨va,ln,h1,h2,(XL_ok p).frame h3 hs hf⟩⟩
theorem KeyR.open {W:World} {X:Nat→Prop} {v:Value} {x:Ex × Nat} (h:KeyR W X v x):∃ va,v=mkAgg (exC x.1 va ++ [.int .u8 (x.2:Int)])∧ListR ExR mkAgg 10 W X va x.1.args:=by
 obtain ⟨a0,a1,a2,a3,a4,a5,a6,a7,a8,a9,h,e⟩:=h
 obtain ⟨va,e2,h2⟩:=ExR.open h
 have e3:[a0,a1,a2,a3,a4,a5,a6,a7,a8,a9]=exC x.1 va:=mkAgg_inj e2
 refine ⟨va,?_,h2⟩
 rw [← e3]
 exact e
theorem twKeys {l:List (Ex × Nat)} (hl:l.length≤1000000) (hx:∀ x ∈ l,LSX x.1.args):TwL 148 (ListR KeyR mkAgg 11) (ListT (keV false) mkAgg 11 85) l:=fun W X v h =>
 twinKeys_ok keyR_ok (keV_ok false) l (fun x hm W X cs _ hr=>by
  obtain ⟨va,e,h1⟩:=KeyR.open hr
  obtain rfl:=mkAgg_inj e
  have k1:=fun W' (hb:Below W.heap.size W W')=>twinEx (ListR.ok exRep_ok mkAgg 10) (XL_ok false) ListR.form XL_form x.1 (fun W X va h=>twExprs (hx x hm) W X va h) W' X va ((ListR.ok exRep_ok mkAgg 10).frame h1 hb.size (fun b _ hl=>hb.block b hl))
  obtain ⟨_,_,_,rfl⟩:=h1.form
  refine (twinKey_raw (XL_ok false) x.1.args _ _ _ _ _ _ _ _ _ _ _ _ _ W k1).mono ?_
  rintro e w' ⟨v1,rfl,⟨a1,n1,c1,rfl⟩,r1,hb⟩
  exact ⟨exZ x.1 _ (x.1.line:Int) ++ [.int .u8 (x.2:Int)],rfl,rfl,by simp [exZ,Value.oneCell'],⟨_,_,rfl,(fun h=>by cases h),r1⟩,hb⟩) W X v hl h
def dcZ (x:Dc) (vf vs vk va vg vb ve:Value) (ln:Int):List Value:=[.int .u8 (x.kind:Int),.string (txt x.name),vf,.int .i64 (x.w:Int),.int .i64 (x.n:Int),.int .i64 (x.rate:Int),.int .i64 (x.burst:Int),vs,vk,va,.string (txt x.dflt),vg,vb,ve,.int .i64 ln]
structure DvL (p:Bool) (W:World) (X:Nat→Prop) (x:Dc) (vf vs vk va vg vb ve:Value):Prop where
 f:FdL W X vf x.fields
 s:ListT (stV p) mkAgg 6 79 W X vs x.states
 k:ListT (keV p) mkAgg 11 85 W X vk x.keys
 a:TxL W X va x.acts
 g:LtL W X vg x.args
 b:SL p W X vb x.body
 e:TxL W X ve x.emits
def dcV (p:Bool):Rep Dc:=fun W X v x=>∃ vf vs vk va vg vb ve ln,v=mkAgg (dcZ x vf vs vk va vg vb ve ln)∧lnV p ln∧DvL p W X x vf vs vk va vg vb ve
theorem dcV_ok (p:Bool):RepOk (dcV p) where
 mono:=fun ⟨vf,vs,vk,va,vg,vb,ve,ln,e,e2,h⟩ hm=>⟨vf,vs,vk,va,vg,vb,ve,ln,e,e2,FdL_ok.mono h.f hm,(ListT.ok (stV_ok p) _ _ _).mono h.s hm,(ListT.ok (keV_ok p) _ _ _).mono h.k hm,TxL_ok.mono h.a hm,LtL_ok.mono h.g hm,(SL_ok p).mono h.b hm,TxL_ok.mono h.e hm⟩
 frame:=fun ⟨vf,vs,vk,va,vg,vb,ve,ln,e,e2,h⟩ hs hf=>⟨vf,vs,vk,va,vg,vb,ve,ln,e,e2,FdL_ok.frame h.f hs hf,(ListT.ok (stV_ok p) _ _ _).frame h.s hs hf,(ListT.ok (keV_ok p) _ _ _).frame h.k hs hf,TxL_ok.frame h.a hs hf,LtL_ok.frame h.g hs hf,(SL_ok p).frame h.b hs hf,TxL_ok.frame h.e hs hf⟩
structure lsD (x:Dc):Prop where
 f:x.fields.length≤1000000
 s:x.states.length≤1000000
 t:∀ y ∈ x.states,lsT y
 k:x.keys.length≤1000000
 y:∀ y ∈ x.keys,LSX y.1.args
 a:x.acts.length≤1000000
 g:x.args.length≤1000000
 b:LSS x.body
 e:x.emits.length≤1000000
theorem twDecls {l:List Dc} (hl:l.length≤1000000) (hx:∀ x ∈ l,lsD x):TwL 42 (ListR DeclR mkAgg 15) (ListT (dcV false) mkAgg 15 69) l:=fun W X v h =>
 twinDecls_ok declR_ok (dcV_ok false) l (fun x hm W X cs _ hr=>by
  obtain ⟨vf,vs,vk,va,vg,vb,ve,e,h⟩:=hr
  obtain rfl:=mkAgg_inj e
  have D:=hx x hm
  have k1:=(twFields D.f).raw (ListR.ok fieldV_ok mkAgg 2) ListT.form h.f
  have k2:=(twStates D.s D.t).raw (ListR.ok stateR_ok mkAgg 6) ListT.form h.s
  have k3:=(twKeys D.k D.y).raw (ListR.ok keyR_ok mkAgg 11) ListT.form h.k
  have k4:=(twTexts D.a).raw (ListR.ok strV_ok mkOne 1) ListT.form h.a
  have k5:=(twNumbers D.g).raw (ListR.ok litV_ok mkAgg 3) ListT.form h.g
  have k6:=(twStmts D.b).raw (ListR.ok smRep_ok mkAgg 9) SL_form h.b
  have k7:=(twTexts D.e).raw (ListR.ok strV_ok mkOne 1) ListT.form h.e
  obtain ⟨_,_,_,rfl⟩:=h.f.form
  obtain ⟨_,_,_,rfl⟩:=h.s.form
  obtain ⟨_,_,_,rfl⟩:=h.k.form
  obtain ⟨_,_,_,rfl⟩:=h.a.form
  obtain ⟨_,_,_,rfl⟩:=h.g.form
  obtain ⟨_,_,_,rfl⟩:=h.b.form
  obtain ⟨_,_,_,rfl⟩:=h.e.form
  refine (twinDecl_raw FdL_ok x.fields _ _ _ (ListT.ok (stV_ok false) _ _ _) x.states _ _ _ (ListT.ok (keV_ok false) _ _ _) x.keys _ _ _ TxL_ok x.acts _ _ _ LtL_ok x.args _ _ _ (SL_ok false) x.body _ _ _ TxL_ok x.emits _ _ _ _ _ _ _ _ _ _ _ W k1 k2 k3 k4 k5 k6 k7).mono ?_
  rintro e w' ⟨v1,v2,v3,v4,v5,v6,v7,rfl,⟨a1,n1,c1,rfl⟩,r1,⟨a2,n2,c2,rfl⟩,r2,⟨a3,n3,c3,rfl⟩,r3,⟨a4,n4,c4,rfl⟩,r4,⟨a5,n5,c5,rfl⟩,r5,⟨a6,n6,c6,rfl⟩,r6,⟨a7,n7,c7,rfl⟩,r7,hb⟩
  exact ⟨dcZ x _ _ _ _ _ _ _ (x.line:Int),rfl,rfl,by simp [dcZ,Value.oneCell'],⟨_,_,_,_,_,_,_,_,rfl,(fun h=>by cases h),⟨r1,r2,r3,r4,r5,r6,r7⟩⟩,hb⟩) W X v hl h
theorem tk_len (r:List UInt8) (n:Nat) (ys:List (Wd × Nat)) (h:tk r n=.ok ys):ys.length≤r.length:=by
 induction hl:r.length using Nat.strongRecOn generalizing r n ys with
 | _ k ih =>
  by_cases hr:r=[]
  ·rw [hr,tk_nil] at h;cases h;simp
  ·cases hw:wdA r with
   | mk o r' =>
    cases o with
    | none=>rw [tk_none hr hw] at h;cases h
    | some x =>
     rw [tk_some hr hw] at h
     have hless:=wdA_less hw
     have hsk:=skip_le r'
     cases ht:tk (skip r') (n+c10 r' - c10 (skip r')) with
     | error k'=>rw [ht] at h;cases h
     | ok zs =>
      rw [ht] at h
      have:=ih _ (by omega) _ _ _ ht rfl
      cases h
      simp
      omega
theorem toks_len {s:List UInt8} {ys:List (Wd × Nat)} (h:toks s=.ok ys) (hs:s.length≤65536):ys.length≤65536:=by
 have h1:=tk_len _ _ _ h
 have h2:=skip_le s
 omega
def Uq {α:Type} (P:α→Prop) (L:List (Wd × Nat)) (f:Pf α):Prop:=∀ k x k1,f L k=.ok (x,k1)→P x
theorem uq_bind {α β:Type} {P:α→Prop} {Q:β→Prop} {L:List (Wd × Nat)} {a:Pf α} {f:α→Pf β} (ha:Uq P L a) (hf:∀ x,P x→Uq Q L (f x)):Uq Q L (a.bind f):=by
 intro k z k2 h
 unfold Pf.bind at h
 cases e:a L k with
 | error e1=>rw [e] at h;cases h
 | ok y =>
  obtain ⟨x,k1⟩:=y
  rw [e] at h
  exact hf x (ha k x k1 e) k1 z k2 h
theorem uq_then {α β:Type} {Q:β→Prop} {L:List (Wd × Nat)} {a:Pf α} {f:α→Pf β} (hf:∀ x,Uq Q L (f x)):Uq Q L (a.bind f):=uq_bind (P:=fun _=>True) (fun _ _ _ _=>trivial) fun x _=>hf x
theorem uq_ret {α:Type} {P:α→Prop} {L:List (Wd × Nat)} {x:α} (h:P x):Uq P L (Pf.ret x):=fun k y k1 e=>by
 unfold Pf.ret at e
 cases e
 exact h
theorem uq_imp {α:Type} {P Q:α→Prop} {L:List (Wd × Nat)} {f:Pf α} (h:Uq P L f) (hi:∀ x,P x→Q x):Uq Q L f:=fun k x k1 e=>hi x (h k x k1 e)
theorem uq_ifL {α:Type} {P:α→Prop} {L:List (Wd × Nat)} {l:List UInt8} {a:Nat→Pf α} {b:Pf α} (ha:∀ n,Uq P L (a n)) (hb:Uq P L b):Uq P L (ifL l a b):=fun k x k1 e=>by
 unfold ifL at e
 split at e
 ·exact ha _ _ x k1 e
 ·exact hb _ x k1 e
theorem uq_ifP {α:Type} {P:α→Prop} {L:List (Wd × Nat)} {l:List UInt8} {a b:Pf α} (ha:Uq P L a) (hb:Uq P L b):Uq P L (ifP l a b):=uq_ifL (a:=fun _=>a) (fun _=>ha) hb
theorem uq_cond {α:Type} {P:α→Prop} {L:List (Wd × Nat)} {c:List (Wd × Nat)→Nat→Bool} {a b:Pf α} (ha:Uq P L a) (hb:Uq P L b):Uq P L (condP c a b):=fun k x k1 e=>by
 unfold condP at e
 split at e
 ·exact ha _ x k1 e
 ·exact hb _ x k1 e
theorem uq_ln {α:Type} {P:α→Prop} {L:List (Wd × Nat)} {a:Nat→Pf α} (ha:∀ n,Uq P L (a n)):Uq P L (lnP a):=fun k x k1 e=>ha _ k x k1 e
theorem uq_fuel {α:Type} {P:α→Prop} {L:List (Wd × Nat)} {F:Nat→Pf α} (h:∀ g,g≤L.length+1→Uq P L (F g)):Uq P L (fun L k=>F (L.length+1 - k) L k):=fun k x k1 e=>h (L.length+1 - k) (by omega) k x k1 e
def SmN {α:Type} (n:Nat) (P:α→Prop) (l:List α):Prop:=l.length≤n∧∀ x ∈ l,P x
abbrev SmL {α:Type} (P:α→Prop) (l:List α):Prop:=SmN 1000000 P l
theorem SmN.nil {α:Type} {n:Nat} {P:α→Prop}:SmN n P []:=⟨Nat.zero_le _,fun _ h=>by cases h⟩
theorem SmN.cons {α:Type} {n:Nat} {P:α→Prop} {x:α} {l:List α} (hx:P x) (h:SmN n P l):SmN (n+1) P (x :: l):=⟨Nat.succ_le_succ h.1,fun y hy=>by
 rcases List.mem_cons.1 hy with rfl | hy
 ·exact hx
 ·exact h.2 y hy⟩
theorem SmN.le {α:Type} {n m:Nat} {P:α→Prop} {l:List α} (h:SmN n P l) (hm:n≤m):SmN m P l:=⟨Nat.le_trans h.1 hm,h.2⟩
theorem SmL.one {α:Type} {P:α→Prop} {x:α} (h:P x):SmL P [x]:=(SmN.nil.cons h).le (n:=0+1) (by decide)
theorem SmL.two {α:Type} {P:α→Prop} {x y:α} (h:P x) (h2:P y):SmL P [x,y]:=((SmN.nil.cons h2).cons h).le (n:=0+1+1) (by decide)
theorem uq_until {α:Type} {P:α→Prop} {L:List (Wd × Nat)} {en:List UInt8} {f:Pf α} (hf:Uq P L f):∀ g,Uq (SmN g P) L (untilF en f g)
 | 0=>fun k x k1 e=>by rw [untilF] at e;cases e
 | g+1=>by
  rw [until_eq]
  exact uq_ifL (fun _=>uq_ret SmN.nil) (uq_bind hf fun x hx=>uq_bind (uq_until hf g) fun xs hxs=>uq_ret (hxs.cons hx))
theorem uq_wh {α:Type} {P:α→Prop} {L:List (Wd × Nat)} {sep:List UInt8} {f:Pf α} (hf:Uq P L f):∀ g,Uq (SmN g P) L (whF sep f g)
 | 0=>fun k x k1 e=>by rw [whF] at e;cases e
 | g+1=>by
  rw [wh_eq]
  exact uq_ifL (fun _=>uq_bind hf fun x hx=>uq_bind (uq_wh hf g) fun xs hxs=>uq_ret (hxs.cons hx)) (uq_ret SmN.nil)
theorem uq_untilP {α:Type} {P:α→Prop} {L:List (Wd × Nat)} {en:List UInt8} {f:Pf α} (hL:L.length≤65537) (hf:Uq P L f):Uq (SmL P) L (untilP en f):=uq_fuel (F:=untilF en f) fun g hg=>uq_imp (uq_until hf g) fun _ h=>h.le (by omega)
theorem uq_untilN {α:Type} {P:α→Prop} {L:List (Wd × Nat)} {en:List UInt8} {f:Pf α} (hL:L.length≤65537) (hf:Uq P L f):Uq (SmN 65538 P) L (untilP en f):=uq_fuel (F:=untilF en f) fun g hg=>uq_imp (uq_until hf g) fun _ h=>h.le (by omega)
theorem uq_whP {α:Type} {P:α→Prop} {L:List (Wd × Nat)} {sep:List UInt8} {f:Pf α} (hL:L.length≤65537) (hf:Uq P L f):Uq (SmN 65538 P) L (whP sep f):=uq_fuel (F:=whF sep f) fun g hg=>uq_imp (uq_wh hf g) fun _ h=>h.le (by omega)
theorem uq_some2 {α:Type} {P:α→Prop} {L:List (Wd × Nat)} {f:Pf α} (hL:L.length≤65537) (hf:Uq P L f):Uq (SmL P) L (some2P f):=by
 rw [some2_eq]
 exact uq_bind hf fun x hx=>uq_bind (uq_whP hL hf) fun xs hxs=>uq_ret ((hxs.cons hx).le (by decide))
theorem uq_some {P:Ex→Prop} {L:List (Wd × Nat)} {f:Pf Ex} (hL:L.length≤65537) (hf:Uq P L f):Uq (SmL P) L (someP f):=by
 rw [some_eq]
 exact uq_bind hf fun x hx=>uq_bind (uq_whP hL hf) fun xs hxs=>uq_ret ((hxs.cons hx).le (by decide))
theorem uq_closed {α:Type} {P:α→Prop} {L:List (Wd × Nat)} {f:Pf α} (hf:Uq P L f):Uq P L (closedP f):=uq_bind hf fun _ hx=>uq_then fun _=>uq_ret hx
theorem uq_brack {α:Type} {P:α→Prop} {L:List (Wd × Nat)} {so:Pf (List α)} (hf:Uq (SmL P) L so):Uq (SmL P) L (brackP so):=uq_then fun _=>uq_ifP (uq_ret SmN.nil) (uq_bind hf fun _ hx=>uq_then fun _=>uq_ret hx)
theorem uq_rows {α:Type} {P:α→Prop} {L:List (Wd × Nat)} {en:List UInt8} {f:Pf α} (hL:L.length≤65537) (hf:Uq P L f):Uq (SmL P) L (rowsP en f):=uq_untilP hL (uq_closed hf)
def TT {α:Type} (_:α):Prop:=True
theorem uq_tt {α:Type} {L:List (Wd × Nat)} {f:Pf α}:Uq TT L f:=fun _ _ _ _=>trivial
def UX (x:Ex):Prop:=LSX x.args
theorem LSX.mk {l:List Ex} (h:SmL UX l):LSX l:=fun d=>by
 cases d with
 | zero=>exact h.1
 | succ d=>exact ⟨h.1,fun x hx=>h.2 x hx d⟩
theorem LSX.none:LSX []:=LSX.mk SmN.nil
theorem uq_fop {L:List (Wd × Nat)}:Uq UX L fopP:=by
 rw [fop_eq]
 exact uq_then fun n=>uq_cond (uq_then fun _=>uq_ret LSX.none) (uq_ret LSX.none)
theorem uq_cast {L:List (Wd × Nat)} {ex:Pf Ex} (h:Uq UX L ex):Uq UX L (castP ex):=uq_then fun _=>uq_then fun _=>uq_bind h fun _ hx=>uq_then fun _=>uq_ret (LSX.mk (SmL.one hx))
theorem uq_hash {L:List (Wd × Nat)} {so:Pf (List Ex)} (h:Uq (SmL UX) L so):Uq UX L (hashP so):=uq_then fun _=>uq_then fun _=>uq_bind h fun _ hx=>uq_then fun _=>uq_ret (LSX.mk hx)
theorem uq_plain {L:List (Wd × Nat)} {ca ha:Pf Ex} (h1:Uq UX L ca) (h2:Uq UX L ha):Uq UX L (plainP ca ha):=by
 rw [plain_eq]
 exact uq_cond (uq_then fun _=>uq_ret LSX.none) (uq_ifL (fun _=>uq_then fun _=>uq_ret LSX.none) (uq_ifL (fun _=>h1) (uq_ifL (fun _=>h2) uq_fop)))
theorem uq_prim {L:List (Wd × Nat)} {ch:Nat→Pf Ex} {pl:Pf Ex} (h1:Uq UX L (ch 0)) (h2:Uq UX L pl):Uq UX L (primP ch pl):=by
 rw [prim_eq]
 exact uq_ifL (fun _=>uq_bind h1 fun _ hx=>uq_then fun _=>uq_ret hx) (uq_ln fun _=>uq_bind h2 fun _ hx=>uq_ret hx)
theorem uq_po {L:List (Wd × Nat)} {n:Nat}:∀ (g:Nat) (x:Ex),UX x→Uq UX L (poF n g x)
 | 0,x,hx=>fun k y k1 e=>by rw [poF] at e;cases e
 | g+1,x,hx=>by
  rw [po_eq]
  exact uq_ifL (fun _=>uq_then fun _=>uq_po g _ (LSX.mk (SmL.one hx))) (uq_ret hx)
theorem uq_post {L:List (Wd × Nat)} {pr:Pf Ex} (h:Uq UX L pr):Uq UX L (postP pr):=by
 rw [post_eq]
 exact uq_ln fun n=>uq_bind h fun x hx=>uq_fuel (F:=fun g=>poF n g x) fun g _=>uq_po g x hx
theorem uq_un {L:List (Wd × Nat)} {po:Pf Ex} (h:Uq UX L po):∀ g,Uq UX L (unF po g)
 | 0=>fun k y k1 e=>by rw [unF] at e;cases e
 | g+1=>by
  rw [un_eq]
  exact uq_ifL (fun _=>uq_bind (uq_un h g) fun _ hx=>uq_ret (LSX.mk (SmL.one hx))) h
theorem uq_unOf {L:List (Wd × Nat)} {ch:Nat→Pf Ex} (hL:L.length≤65537) (h:Uq UX L (ch 0)):Uq UX L (unOf ch):=by
 unfold unOf
 exact uq_fuel (F:=unF (postP (primP ch (plainP (castP (ch 0)) (hashP (someP (ch 0))))))) fun g _=>uq_un (uq_post (uq_prim h (uq_plain (uq_cast h) (uq_hash (uq_some hL h))))) g
theorem uq_chL {L:List (Wd × Nat)} {ch:Nat→Pf Ex} {least ln:Nat} (h:∀ l,Uq UX L (ch l)):∀ (g:Nat) (x:Ex) (most:Nat),UX x→Uq UX L (chL ch least ln g x most)
 | 0,x,most,hx=>fun k y k1 e=>by rw [chL] at e;cases e
 | g+1,x,most,hx=>fun k y k1 e=>by
  cases ht:twoP (sP L k) with
  | none=>rw [chL_none (by omega) ht] at e;cases e;exact hx
  | some t =>
   by_cases hc:t.2.2 < least ∨ most < t.2.2
   ·rw [chL_stop (by omega) ht hc] at e;cases e;exact hx
   ·rw [chL_next ht hc] at e
    exact uq_bind (h (t.2.2+1)) (f:=fun y=>chL ch least ln g (exOp t.2.1 [x,y] ln) (if t.2.2=2 then 1 else t.2.2)) (fun y hy=>uq_chL h g _ _ (LSX.mk (SmL.two hx hy))) (k+1) _ k1 e
theorem uq_chainG {L:List (Wd × Nat)} {un:Pf Ex} {ch:Nat→Pf Ex} (least:Nat) (hu:Uq UX L un) (h:∀ l,Uq UX L (ch l)):Uq UX L (chainG un ch least):=by
 rw [chainG_eq]
 exact uq_ln fun n=>uq_bind hu fun x hx=>uq_fuel (F:=fun g=>chL ch least n g x 7) fun g _=>uq_chL h g x 7 hx
theorem uq_chain {L:List (Wd × Nat)} (hL:L.length≤65537):∀ (f l:Nat),Uq UX L (chainF f l)
 | 0,l=>fun k y k1 e=>by rw [chainF] at e;cases e
 | f+1,l=>by
  rw [chainF]
  exact uq_chainG l (uq_unOf hL (uq_chain hL f 0)) fun l=>uq_chain hL f l
theorem uq_expr {L:List (Wd × Nat)} (hL:L.length≤65537):Uq UX L exprP:=fun k x k1 e=>uq_chain hL (L.length - k) 0 k x k1 e
def US (x:Sm):Prop:=LSX x.args∧LSS x.body∧LSS x.els
theorem LSS.mk {l:List Sm} (h:SmL US l):LSS l:=fun d=>by
 cases d with
 | zero=>exact h.1
 | succ d=>exact ⟨h.1,fun x hx=>⟨(h.2 x hx).1,(h.2 x hx).2.1 d,(h.2 x hx).2.2 d⟩⟩
theorem LSS.none:LSS []:=LSS.mk SmN.nil
theorem US.x {x:Sm} (h:LSX x.args) (hb:x.body=[]) (he:x.els=[]):US x:=⟨h,by rw [hb];exact LSS.none,by rw [he];exact LSS.none⟩
theorem uq_cell {L:List (Wd × Nat)} {ex:Pf Ex} (h:Uq UX L ex):Uq UX L (cellP ex):=uq_then fun _=>uq_bind h fun _ hx=>uq_then fun _=>uq_ret hx
theorem uq_setOrCall {L:List (Wd × Nat)} {ex:Pf Ex} {be:Pf (List Ex)} (h:Uq UX L ex) (hb:Uq (SmL UX) L be):Uq US L (setOrCallP ex be):=by
 refine uq_then fun n=>?_
 rw [ifIs_eq]
 refine uq_cond ?_ ?_
 ·exact uq_bind (uq_bind hb fun _ hl=>uq_then fun _=>uq_ret (US.x (LSX.mk hl) rfl rfl)) fun _ hs=>uq_ret hs
 ·exact uq_then fun f=>uq_then fun _=>uq_bind (uq_closed h) fun _ hx=>uq_ret (US.x (LSX.mk (SmL.one hx)) rfl rfl)
theorem uq_findK {α:Type} {P:α→Prop} {L:List (Wd × Nat)} {s:List UInt8} {f:Pf α}:∀ {rows:List (Rw α)},(∀ r ∈ rows,Uq P L r.f)→findK rows s=some f→Uq P L f
 | [],_,e=>by rw [findK] at e;cases e
 | r :: rs,h,e=>by
  rw [findK] at e
  split at e
  ·injection e with e;rw [← e];exact h r (by simp)
  ·exact uq_findK (fun r hr=>h r (by simp [hr])) e
theorem uq_stmt {L:List (Wd × Nat)} {rows:List (Rw Sm)} {sc:Pf Sm} (hq:∀ r ∈ rows,Uq US L r.f) (hs:Uq US L sc):Uq US L (stmtP rows sc):=fun k x k1 e=>by
 unfold stmtP at e
 split at e
 ·rename_i f hf
  exact uq_bind (f:=fun s=>Pf.ret (smLn s (lineP L k))) (uq_findK hq hf) (fun s h=>uq_ret (show US (smLn s _) from h)) _ x k1 e
 ·exact uq_bind (f:=fun s=>Pf.ret (smLn s (lineP L k))) hs (fun s h=>uq_ret (show US (smLn s _) from h)) _ x k1 e
theorem uq_ofField {L:List (Wd × Nat)} (kd:Nat):Uq (fun s:Sm=>s.args=[]∧s.body=[]∧s.els=[]) L (ofFieldP kd):=uq_then fun _=>uq_then fun _=>uq_ret ⟨rfl,rfl,rfl⟩
theorem uq_ofName {L:List (Wd × Nat)} (kd:Nat):Uq US L (ofNameP kd):=uq_then fun _=>uq_ret (US.x LSX.none rfl rfl)
theorem uq_bare {L:List (Wd × Nat)} (kd:Nat):Uq US L (bareP kd):=uq_then fun _=>uq_ret (US.x LSX.none rfl rfl)
theorem uq_array {L:List (Wd × Nat)} {ex:Pf Ex} (h:Uq UX L ex) (kd:Nat):Uq US L (fromArrayP ex kd):=uq_bind (uq_ofField kd) fun _ hs=>uq_then fun _=>uq_then fun _=>uq_bind (uq_cell h) fun _ hx=>uq_then fun _=>uq_ret (US.x (LSX.mk (SmL.one hx)) hs.2.1 hs.2.2)
theorem uq_stRows {L:List (Wd × Nat)} (hL:L.length≤65537) {bl:Pf (List Sm)} (hb:Uq (SmL US) L bl):∀ r ∈ stRows bl,Uq US L r.f:=by
 have hx:=uq_expr hL
 intro r hr
 simp only [stRows,List.mem_cons,List.not_mem_nil,or_false] at hr
 rcases hr with rfl | rfl | rfl | rfl | rfl | rfl | rfl | rfl | rfl | rfl | rfl | rfl | rfl | rfl
 ·exact uq_bind hx fun _ h1=>uq_bind hb fun _ h2=>uq_ifP (uq_bind hb fun _ h3=>uq_ret ⟨LSX.mk (SmL.one h1),LSS.mk h2,LSS.mk h3⟩) (uq_ret ⟨LSX.mk (SmL.one h1),LSS.mk h2,LSS.none⟩)
 ·exact uq_ofName 3
 ·exact uq_ofName 5
 ·exact uq_ofName 6
 ·exact uq_then fun _=>uq_bind (uq_cell hx) fun _ h1=>uq_then fun _=>uq_ret (US.x (LSX.mk (SmL.one h1)) rfl rfl)
 ·exact uq_array hx 8
 ·exact uq_then fun _=>uq_bind (uq_cell hx) fun _ h1=>uq_then fun _=>uq_bind (uq_closed hx) fun _ h2=>uq_ret (US.x (LSX.mk (SmL.two h1 h2)) rfl rfl)
 ·exact uq_array hx 10
 ·exact uq_bind (uq_ofField 11) fun s hs=>uq_then fun _=>uq_ret (US.x (by rw [hs.1];exact LSX.none) hs.2.1 hs.2.2)
 ·exact uq_bare 12
 ·exact uq_bare 15
 ·exact uq_bare 16
 ·exact uq_bind (uq_some hL hx) fun _ h1=>uq_then fun _=>uq_ret (US.x (LSX.mk h1) rfl rfl)
 ·exact uq_then fun _=>uq_ret (US.x LSX.none rfl rfl)
theorem uq_block {L:List (Wd × Nat)} (hL:L.length≤65537):∀ f,Uq (SmL US) L (blockF f)
 | 0=>fun k y k1 e=>by rw [blockF] at e;cases e
 | f+1=>by
  rw [blockF]
  exact uq_then fun _=>uq_bind (uq_untilP hL (uq_stmt (uq_stRows hL (uq_block hL f)) (uq_setOrCall (uq_expr hL) (uq_brack (uq_some hL (uq_expr hL)))))) fun _ hx=>uq_ret hx
theorem uq_blockA {L:List (Wd × Nat)} (hL:L.length≤65537):Uq (SmL US) L blockA:=fun k x k1 e=>uq_block hL (L.length - k) k x k1 e
theorem lsD.zero {x:Dc} (hf:x.fields.length≤1000000) (h1:x.states=[]) (h2:x.keys=[]) (h3:x.acts=[]) (h4:x.args=[]) (h5:x.body=[]) (h6:x.emits.length≤1000000):lsD x :=
 ⟨hf,by rw [h1];decide,(by rw [h1];intro y h;cases h),by rw [h2];decide,(by rw [h2];intro y h;cases h),by rw [h3];decide,by rw [h4];decide,by rw [h5];exact LSS.none,h6⟩
theorem uq_fields {L:List (Wd × Nat)} (hL:L.length≤65537):Uq (SmL TT) L fieldsP:=uq_then fun _=>uq_bind (uq_rows hL uq_tt) fun _ h=>uq_ret h
theorem uq_state {L:List (Wd × Nat)} (hL:L.length≤65537):Uq lsT L (stateP exprP casesP):=by
 have e:stateP exprP casesP=lnP fun ln=>nameP.bind fun n=>(passP [[123]]).bind fun _=>(whP [116,97,107,101] (closedP nameP)).bind (stateC exprP casesP ln n):=rfl
 rw [e]
 refine uq_ln fun n=>uq_then fun m=>uq_then fun _=>uq_bind (uq_whP (P:=TT) hL uq_tt) fun hs hh=>?_
 have hh1:hs.length≤1000000:=Nat.le_trans hh.1 (by decide)
 have hc:Uq (SmL TT) L casesP:=uq_rows hL uq_tt
 exact uq_ifP (uq_bind (uq_expr hL) fun _ hx=>uq_then fun _=>uq_bind hc fun _ h2=>uq_then fun _=>uq_then fun _=>uq_then fun _=>uq_ret ⟨hh1,LSX.mk (SmL.one hx),h2.1⟩) (uq_then fun _=>uq_then fun _=>uq_then fun _=>uq_ret ⟨hh1,LSX.none,Nat.zero_le _⟩)
theorem acts_len {α:Type} {l:List α} {x:α} (h:l.length≤65538):([x] ++ l).length≤1000000:=by
 rw [List.length_append,List.length_singleton];omega
theorem uq_dcRows {L:List (Wd × Nat)} (hL:L.length≤65537):∀ r ∈ dcRows,Uq lsD L r.f:=by
 intro r hr
 simp only [dcRows,List.mem_cons,List.not_mem_nil,or_false] at hr
 rcases hr with rfl | rfl | rfl | rfl | rfl | rfl | rfl | rfl | rfl | rfl
 ·exact uq_then fun _=>uq_bind (uq_fields hL) fun _ h=>uq_ret (lsD.zero h.1 rfl rfl rfl rfl rfl (Nat.zero_le _))
 ·exact uq_bind (uq_fields hL) fun _ h=>uq_ret (lsD.zero h.1 rfl rfl rfl rfl rfl (Nat.zero_le _))
 ·exact uq_then fun _=>uq_then fun _=>uq_then fun _=>uq_ret (lsD.zero (Nat.zero_le _) rfl rfl rfl rfl rfl (Nat.zero_le _))
 ·exact uq_then fun _=>uq_then fun _=>uq_ret (lsD.zero (Nat.zero_le _) rfl rfl rfl rfl rfl (Nat.zero_le _))
 ·exact uq_then fun _=>uq_then fun _=>uq_then fun _=>uq_then fun _=>uq_ret (lsD.zero (Nat.zero_le _) rfl rfl rfl rfl rfl (Nat.zero_le _))
 ·exact uq_then fun _=>uq_bind (uq_untilP hL (uq_state hL)) fun _ h=>uq_ret ⟨Nat.zero_le _,h.1,h.2,Nat.zero_le _,(fun y h=>by cases h),Nat.zero_le _,Nat.zero_le _,LSS.none,Nat.zero_le _⟩
 ·exact uq_then fun _=>uq_bind (uq_brack (uq_some2 (P:=TT) hL uq_tt)) fun _ h1=>uq_bind (uq_blockA hL) fun _ h=>uq_ret ⟨h1.1,Nat.zero_le _,(fun y h=>by cases h),Nat.zero_le _,(fun y h=>by cases h),Nat.zero_le _,Nat.zero_le _,LSS.mk h,Nat.zero_le _⟩
 ·exact uq_then fun _=>uq_then fun _=>uq_bind (uq_rows (P:=fun p:Ex × Nat=>UX p.1) hL (uq_bind (uq_expr hL) fun _ hx=>uq_then fun _=>uq_ret hx)) fun _ h=>uq_then fun _=>uq_then fun _=>uq_bind (uq_untilN (P:=TT) hL uq_tt) fun _ h2=>uq_then fun _=>uq_then fun _=>uq_bind (uq_brack (uq_some2 (P:=TT) hL uq_tt)) fun _ h3=>uq_then fun _=>uq_then fun _=>uq_then fun _=>uq_ret ⟨Nat.zero_le _,Nat.zero_le _,(fun y h=>by cases h),h.1,h.2,acts_len h2.1,h3.1,LSS.none,Nat.zero_le _⟩
 ·exact uq_bind (uq_blockA hL) fun _ h=>uq_ret ⟨Nat.zero_le _,Nat.zero_le _,(fun y h=>by cases h),Nat.zero_le _,(fun y h=>by cases h),Nat.zero_le _,Nat.zero_le _,LSS.mk h,Nat.zero_le _⟩
 ·exact uq_then fun _=>uq_bind (uq_rows (P:=TT) hL uq_tt) fun _ h=>uq_ret (lsD.zero (Nat.zero_le _) rfl rfl rfl rfl rfl h.1)
theorem uq_decl {L:List (Wd × Nat)} {rows:List (Rw Dc)} (hq:∀ r ∈ rows,Uq lsD L r.f):Uq lsD L (declP rows):=fun k x k1 e=>by
 unfold declP at e
 split at e
 ·rename_i f hf
  exact uq_bind (f:=fun s=>Pf.ret (dcLn s (lineP L k))) (uq_findK hq hf) (fun s h=>uq_ret (show lsD (dcLn s _) from ⟨h.f,h.s,h.t,h.k,h.y,h.a,h.g,h.b,h.e⟩)) _ x k1 e
 ·cases e
theorem uq_pr {L:List (Wd × Nat)} {dc:Pf Dc} (hd:Uq lsD L dc):∀ g,Uq (SmN g lsD) L (prF dc g)
 | 0=>fun k y k1 e=>by rw [prF] at e;cases e
 | g+1=>fun k y k1 e=>by
  cases hx:L[k]? with
  | none=>rw [prF] at e;simp only [hx] at e;cases e
  | some x =>
   rw [pr_eq hx] at e
   split at e
   ·cases e;exact SmN.nil
   ·exact uq_bind (f:=fun y=>(prF dc g).bind fun ys=>Pf.ret (y :: ys)) hd (fun z hz=>uq_bind (uq_pr hd g) fun zs hzs=>uq_ret (hzs.cons hz)) k y k1 e
theorem uq_prog {L:List (Wd × Nat)} (hL:L.length≤65537):Uq (SmL lsD) L progA:=uq_fuel (F:=prF declA) fun g hg=>uq_imp (uq_pr (uq_decl (uq_dcRows hL)) g) fun _ h=>h.le (by omega)
theorem parseL_small {s:List UInt8} {ds:List Dc} (h:parseL s=.ok ds):SmL lsD ds:=by
 unfold parseL at h
 split at h
 ·cases h
 ·rename_i hl
  split at h
  ·cases h
  ·rename_i xs hx
   split at h
   ·cases h
   ·rename_i ys k1 hp
    split at h
    ·cases h
    ·cases h
     refine uq_prog ?_ 0 _ _ hp
     have:=toks_len hx (by omega)
     simp
     omega
theorem tw_app {P:UInt8→Bool} {r b:List UInt8} (hP:P 10=false):(r ++ 10 :: b).takeWhile P=r.takeWhile P∧(r ++ 10 :: b).dropWhile P=r.dropWhile P ++ 10 :: b:=by
 induction r with
 | nil=>simp [hP]
 | cons c r ih =>
  rw [List.cons_append,List.takeWhile_cons,List.takeWhile_cons,List.dropWhile_cons,List.dropWhile_cons,ih.1,ih.2]
  cases P c <;> simp
theorem db_app (r b:List UInt8):(r ++ 10 :: b).dropWhile isBl=if r.dropWhile isBl=[] then b.dropWhile isBl else r.dropWhile isBl ++ 10 :: b:=by
 induction r with
 | nil =>
  have h:isBl 10=true:=by decide +kernel
  simp [h]
 | cons c r ih =>
  rw [List.cons_append,List.dropWhile_cons,List.dropWhile_cons]
  cases isBl c
  ·simp
  ·simp only [if_true];exact ih
theorem n10_10:n10 10=false:=by decide +kernel
theorem isW_ten:isW 10=false:=by decide +kernel
theorem isRem_app {r b:List UInt8} (h:r ≠ []):isRem (r ++ 10 :: b)=isRem r:=by
 match r,h with
 | [c],_=>simp [isRem,Lib.hasPrefix,List.isPrefixOf]
 | c :: d :: r,_=>simp [isRem,Lib.hasPrefix,List.isPrefixOf]
theorem skR_nil:skR []=[]:=skR_no rfl
theorem skR_app (b:List UInt8) (r:List UInt8) (h:r ≠ []):skR (r ++ 10 :: b)=if skR r=[] then skip b else skR r ++ 10 :: b:=by
 induction hn:r.length using Nat.strongRecOn generalizing r with
 | _ n ih =>
  cases hr:isRem r with
  | false =>
   rw [skR_no (by rw [isRem_app h];exact hr),skR_no hr,if_neg h]
  | true =>
   rw [skR_yes (by rw [isRem_app h];exact hr),skR_yes hr,(tw_app n10_10).2,db_app]
   by_cases he:(r.dropWhile n10).dropWhile isBl=[]
   ·rw [if_pos he,he,skR_nil,if_pos rfl];rfl
   ·rw [if_neg he]
    exact ih _ (by rw [← hn];exact rem_less hr) _ he rfl
theorem skip_app (r b:List UInt8):skip (r ++ 10 :: b)=if skip r=[] then skip b else skip r ++ 10 :: b:=by
 unfold skip
 rw [db_app]
 by_cases he:r.dropWhile isBl=[]
 ·rw [if_pos he,he,skR_nil,if_pos rfl]
 ·rw [if_neg he]
  exact skR_app b _ he
theorem sgn_app {r b:List UInt8}:sgn (r ++ 10 :: b)=sgn r:=by
 have h10:∀ s ∈ sgs,(10:UInt8) ∉ s:=by decide +kernel
 unfold sgn
 congr 1
 have key:∀ s:List UInt8,(10:UInt8) ∉ s→s.isPrefixOf (r ++ 10 :: b)=s.isPrefixOf r:=fun s hs=>by
  cases h:s.isPrefixOf r with
  | true =>
   rw [List.isPrefixOf_iff_prefix] at h ⊢
   exact h.trans (List.prefix_append _ _)
  | false =>
   cases h2:s.isPrefixOf (r ++ 10 :: b) with
   | false=>rfl
   | true =>
    rw [List.isPrefixOf_iff_prefix] at h2
    exfalso
    rcases Nat.lt_or_ge r.length s.length with hl | hl
    ·obtain ⟨t,ht⟩:=h2
     have e:(s ++ t)[r.length]? = some 10:=by rw [ht];simp
     rw [List.getElem?_append_left hl] at e
     exact hs (List.mem_of_getElem? e)
    ·have:s <+: r:=List.prefix_of_prefix_length_le h2 (List.prefix_append _ _) hl
     rw [← List.isPrefixOf_iff_prefix,h] at this
     cases this
 generalize sgs=l at h10
 induction l with
 | nil=>rfl
 | cons s l ih =>
  rw [List.find?_cons,List.find?_cons,key s (h10 s (by simp)),ih (fun x hx=>h10 x (by simp [hx]))]
theorem wdA_app (r b:List UInt8):wdA (r ++ 10 :: b)=((wdA r).1,(wdA r).2 ++ 10 :: b):=by
 unfold wdA
 rw [(tw_app isW_ten).1,(tw_app isW_ten).2]
 cases r.takeWhile isW with
 | nil =>
  simp only [wd1]
  rw [sgn_app,List.drop_append_of_le_length (sgn_pre _).2]
 | cons c l =>
  unfold wd1
  simp only
  split
  ·split <;> rfl
  ·rfl
theorem drop_c10 (P:UInt8→Bool) (l:List UInt8):c10 (l.dropWhile P)≤c10 l:=by have:=dropW_c10 P l;omega
theorem skR_c10 (r:List UInt8):c10 (skR r)≤c10 r:=by
 induction hn:r.length using Nat.strongRecOn generalizing r with
 | _ n ih =>
  cases h:isRem r with
  | false=>rw [skR_no h];exact Nat.le_refl _
  | true =>
   rw [skR_yes h]
   exact Nat.le_trans (ih _ (by rw [← hn];exact rem_less h) _ rfl) (Nat.le_trans (drop_c10 _ _) (drop_c10 _ _))
theorem skip_c10 (r:List UInt8):c10 (skip r)≤c10 r:=Nat.le_trans (skR_c10 _) (drop_c10 _ _)
def LR.then (x:LR) (f:List (Wd × Nat)→LR):LR:=match x with | .error k=>.error k | .ok ws=>f ws
theorem LR.app_then (a:List (Wd × Nat)) (x y:LR):LR.app a (x.then fun ws=>LR.app ws y)=(LR.app a x).then fun ws=>LR.app ws y:=by
 cases x with
 | error k=>rfl
 | ok ws=>exact LR.app_app a ws y
theorem tk_app (b:List UInt8) (r:List UInt8) (n:Nat) (h:r ≠ []) :
  tk (r ++ 10 :: b) n=(tk r n).then fun ws=>LR.app ws (tk (skip b) (n+c10 r+1+c10 b - c10 (skip b))):=by
 induction hl:r.length using Nat.strongRecOn generalizing r n with
 | _ m ih =>
  have hne:r ++ 10 :: b ≠ []:=by simp
  cases hw:wdA r with
  | mk o r' =>
   have hw2:=wdA_app r b
   rw [hw] at hw2
   have hc:=wdA_c10 r
   rw [hw] at hc
   simp only at hw2 hc
   cases o with
   | none=>rw [tk_none hne hw2,tk_none h hw];rfl
   | some x =>
    have hless:=wdA_less hw
    have hsk:=skip_le r'
    have hcJ:c10 (r' ++ 10 :: b)=c10 r'+1+c10 b:=by rw [c10_app];simp [c10];omega
    rw [tk_some hne hw2,tk_some h hw,skip_app,hcJ]
    by_cases he:skip r'=[]
    ·rw [if_pos he,he,tk_nil,hc]
     simp only [LR.then,LR.app,List.append_nil]
     congr 2;omega
    ·have hcS:c10 (skip r' ++ 10 :: b)=c10 (skip r')+1+c10 b:=by rw [c10_app];simp [c10];omega
     have hcl:=skip_c10 r'
     rw [if_neg he,hcS,show n+(c10 r'+1+c10 b) - (c10 (skip r')+1+c10 b)=n+c10 r' - c10 (skip r') by omega]
     rw [ih _ (by rw [← hl];omega) _ _ he rfl,LR.app_then]
     congr 2
     funext ws
     congr 2
     rw [← hc];omega
def LR.shift (d:Nat):LR→LR
 | .error k=>.error (k+d)
 | .ok ws=>.ok (ws.map fun x=>(x.1,x.2+d))
theorem LR.shift_app (d:Nat) (a:List (Wd × Nat)) (x:LR):LR.shift d (LR.app a x)=LR.app (a.map fun x=>(x.1,x.2+d)) (LR.shift d x):=by
 cases x with
 | error k=>rfl
 | ok ws=>simp [LR.app,LR.shift]
theorem tk_shift (r:List UInt8) (n d:Nat):tk r (n+d)=LR.shift d (tk r n):=by
 induction hl:r.length using Nat.strongRecOn generalizing r n with
 | _ m ih =>
  by_cases h:r=[]
  ·rw [h,tk_nil,tk_nil];rfl
  ·cases hw:wdA r with
   | mk o r' =>
    cases o with
    | none=>rw [tk_none h hw,tk_none h hw];rfl
    | some x =>
     have hless:=wdA_less hw
     have hsk:=skip_le r'
     have hc:=skip_c10 r'
     rw [tk_some h hw,tk_some h hw,LR.shift_app,show n+d+c10 r' - c10 (skip r')=(n+c10 r' - c10 (skip r'))+d by omega,ih _ (by rw [← hl];omega) _ _ rfl]
     rfl
theorem toks_join (a b:List UInt8):toks (a ++ 10 :: b)=(toks a).then fun ws=>LR.app ws (LR.shift (c10 a+1) (toks b)):=by
 unfold toks
 have hcJ:c10 (a ++ 10 :: b)=c10 a+1+c10 b:=by rw [c10_app];simp [c10];omega
 have ha:=skip_c10 a
 have hb:=skip_c10 b
 rw [skip_app,hcJ,← tk_shift]
 by_cases he:skip a=[]
 ·rw [if_pos he,he,tk_nil]
  simp only [LR.then]
  rw [LR.app_nil]
  congr 1;omega
 ·have hcS:c10 (skip a ++ 10 :: b)=c10 (skip a)+1+c10 b:=by rw [c10_app];simp [c10];omega
  rw [if_neg he,hcS,show c10 a+1+c10 b - (c10 (skip a)+1+c10 b)=c10 a - c10 (skip a) by omega,tk_app b _ _ he]
  congr 2
  funext ws
  congr 2
  omega
end Go.Proofs.YtabkimknlifdoaaGreatDoor
