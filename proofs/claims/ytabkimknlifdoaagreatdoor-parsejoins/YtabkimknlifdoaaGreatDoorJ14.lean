/- Pieces of the proof: PaR, PaI, PaLw, RawMap. -/
import Derived.Test.YtabkimknlifdoaaGreatDoorJ13
import Derived.Laws.IdiomCopy
import Derived.MapFrom
import Derived.Maps.Own
import Derived.Maps.OwnOps
import Derived.Maps.RangeRun
import Derived.WalkKit
namespace Go.Proofs.YtabkimknlifdoaaGreatDoor
open Go.RowKit
theorem StrV.form {W:World} {X:Nat→Prop} {v:Value} {x:List UInt8} (h:StrV W X v x):∃ t,v=.string t:=⟨_,h⟩
theorem IntV.form {W:World} {X:Nat→Prop} {v:Value} {x:Nat} (h:IntV W X v x):∃ i,v=.int .i64 i:=⟨_,h⟩
theorem LitV.form {W:World} {X:Nat→Prop} {v:Value} {x:Nat × Nat} (h:LitV W X v x):∃ a b c,v=.agg #[.int .i64 a,.int .u64 b,.int .u64 c]:=⟨_,_,_,h⟩
theorem FieldV.form {W:World} {X:Nat→Prop} {v:Value} {x:List UInt8 × Nat} (h:FieldV W X v x):∃ a b,v=.agg #[.string a,.int .i64 b]:=⟨_,_,h⟩
theorem ListR.form {α:Type} {rep:Rep α} {mk:List Value→Value} {K:Nat} {W:World} {X:Nat→Prop} {v:Value} {l:List α} (h:ListR rep mk K W X v l):∃ s n c,v=.slice s n c:=by
 obtain ⟨css,⟨a,cap,h3,_⟩,_⟩:=h
 exact ⟨_,_,_,h3⟩
theorem ExR.form {W:World} {X:Nat→Prop} {v:Value} {x:Ex} (h:ExR W X v x):∃ i0 i1 i2 i3 t4 t5 i6 i7 s8 n8 m8 i9,v=.agg #[.int .u8 i0,.int .i64 i1,.int .u64 i2,.int .u64 i3,.string t4,.string t5,.int .i64 i6,.int .i64 i7,.slice s8 n8 m8,.int .i64 i9]:=by
 obtain ⟨va,h1,h2⟩:=h.open
 obtain ⟨s,n,c,rfl⟩:=h2.form
 exact ⟨_,_,_,_,_,_,_,_,_,_,_,_,h1⟩
def KindV:Rep Nat:=fun _ _ v n=>v=.int .u8 (n:Int)
theorem kindV_ok:RepOk KindV:=plain_ok fun v (n:Nat)=>v=.int .u8 (n:Int)
theorem KindV.form {W:World} {X:Nat→Prop} {v:Value} {x:Nat} (h:KindV W X v x):∃ i,v=.int .u8 i:=⟨_,h⟩
theorem KindV.eq {W:World} {X:Nat→Prop} {i:Int} {x:Nat} (h:KindV W X (.int .u8 i) x):i=(x:Int):=by injection h
structure Ck where
 w:Nat
 v:Nat
 mw:Nat
 mv:Nat
 dest:List UInt8
def ckC (x:Ck):List Value:=[.int .i64 (x.w:Int),.int .u64 (wHi x.v),.int .u64 (wLo x.v),.int .i64 (x.mw:Int),.int .u64 (wHi x.mv),.int .u64 (wLo x.mv),.string (txt x.dest)]
def CaseV:Rep Ck:=fun _ _ v x=>v=mkAgg (ckC x)
theorem caseV_ok:RepOk CaseV:=plain_ok fun v x=>v=mkAgg (ckC x)
theorem CaseV.form {W:World} {X:Nat→Prop} {v:Value} {x:Ck} (h:CaseV W X v x):∃ a b c d e f g,v=.agg #[.int .i64 a,.int .u64 b,.int .u64 c,.int .i64 d,.int .u64 e,.int .u64 f,.string g]:=⟨_,_,_,_,_,_,_,h⟩
def KeyR:Rep (Ex × Nat):=fun W X v x=>∃ a0 a1 a2 a3 a4 a5 a6 a7 a8 a9,ExR W X (.agg #[a0,a1,a2,a3,a4,a5,a6,a7,a8,a9]) x.1∧v=.agg #[a0,a1,a2,a3,a4,a5,a6,a7,a8,a9,.int .u8 (x.2:Int)]
theorem keyR_ok:RepOk KeyR:=⟨fun ⟨a0,a1,a2,a3,a4,a5,a6,a7,a8,a9,h,e⟩ hm=>⟨a0,a1,a2,a3,a4,a5,a6,a7,a8,a9,exRep_ok.mono h hm,e⟩,fun ⟨a0,a1,a2,a3,a4,a5,a6,a7,a8,a9,h,e⟩ hs hf=>⟨a0,a1,a2,a3,a4,a5,a6,a7,a8,a9,exRep_ok.frame h hs hf,e⟩⟩
theorem KeyR.form {W:World} {X:Nat→Prop} {v:Value} {x:Ex × Nat} (h:KeyR W X v x):∃ i0 i1 i2 i3 t4 t5 i6 i7 s8 n8 m8 i9 i10,v=.agg #[.int .u8 i0,.int .i64 i1,.int .u64 i2,.int .u64 i3,.string t4,.string t5,.int .i64 i6,.int .i64 i7,.slice s8 n8 m8,.int .i64 i9,.int .u8 i10]:=by
 obtain ⟨a0,a1,a2,a3,a4,a5,a6,a7,a8,a9,h,rfl⟩:=h
 obtain ⟨⟨i0,rfl⟩,⟨i1,rfl⟩,⟨i2,rfl⟩,⟨i3,rfl⟩,⟨t4,rfl⟩,⟨t5,rfl⟩,⟨i6,rfl⟩,⟨i7,rfl⟩,⟨s8,n8,m8,rfl⟩,⟨i9,rfl⟩⟩:=h.forms
 exact ⟨_,_,_,_,_,_,_,_,_,_,_,_,_,rfl⟩
structure Ts where
 name:List UInt8
 heads:List (List UInt8)
 sel:List Ex
 cases:List Ck
 dest:List UInt8
 line:Nat
def tsC (x:Ts) (vh vs vc:Value):List Value:=[.string (txt x.name),vh,vs,vc,.string (txt x.dest),.int .i64 (x.line:Int)]
def StateR:Rep Ts:=fun W X v x=>∃ vh vs vc,v=mkAgg (tsC x vh vs vc)∧ListR StrV mkOne 1 W X vh x.heads∧ListR ExR mkAgg 10 W X vs x.sel∧ListR CaseV mkAgg 7 W X vc x.cases
theorem stateR_ok:RepOk StateR:=⟨fun ⟨vh,vs,vc,e,h1,h2,h3⟩ hm=>⟨vh,vs,vc,e,(ListR.ok strV_ok _ _).mono h1 hm,(ListR.ok exRep_ok _ _).mono h2 hm,(ListR.ok caseV_ok _ _).mono h3 hm⟩,fun ⟨vh,vs,vc,e,h1,h2,h3⟩ hs hf=>⟨vh,vs,vc,e,(ListR.ok strV_ok _ _).frame h1 hs hf,(ListR.ok exRep_ok _ _).frame h2 hs hf,(ListR.ok caseV_ok _ _).frame h3 hs hf⟩⟩
theorem StateR.form {W:World} {X:Nat→Prop} {v:Value} {x:Ts} (h:StateR W X v x):∃ a s1 n1 c1 s2 n2 c2 s3 n3 c3 b i,v=.agg #[.string a,.slice s1 n1 c1,.slice s2 n2 c2,.slice s3 n3 c3,.string b,.int .i64 i]:=by
 obtain ⟨vh,vs,vc,rfl,h1,h2,h3⟩:=h
 obtain ⟨s1,n1,c1,rfl⟩:=h1.form
 obtain ⟨s2,n2,c2,rfl⟩:=h2.form
 obtain ⟨s3,n3,c3,rfl⟩:=h3.form
 exact ⟨_,_,_,_,_,_,_,_,_,_,_,_,rfl⟩
structure Sm where
 kind:Nat
 name:List UInt8
 field:List UInt8
 array:List UInt8
 n:Nat
 args:List Ex
 body:List Sm
 els:List Sm
 line:Nat
def smC (x:Sm) (va vb ve:Value):List Value:=[.int .u8 (x.kind:Int),.string (txt x.name),.string (txt x.field),.string (txt x.array),.int .i64 (x.n:Int),va,vb,ve,.int .i64 (x.line:Int)]
def smR:Nat→Rep Sm
 | 0=>fun _ _ _ _=>False
 | d+1=>fun W X v x=>∃ va vb ve,v=mkAgg (smC x va vb ve)∧ListR ExR mkAgg 10 W X va x.args∧ListR (smR d) mkAgg 9 W X vb x.body∧ListR (smR d) mkAgg 9 W X ve x.els
theorem smR_ok:∀ d,RepOk (smR d)
 | 0=>⟨fun h _=>h,fun h _ _=>h⟩
 | d+1=>⟨fun ⟨va,vb,ve,e,h1,h2,h3⟩ hm=>⟨va,vb,ve,e,(ListR.ok exRep_ok mkAgg 10).mono h1 hm,(ListR.ok (smR_ok d) mkAgg 9).mono h2 hm,(ListR.ok (smR_ok d) mkAgg 9).mono h3 hm⟩,fun ⟨va,vb,ve,e,h1,h2,h3⟩ hs hf=>⟨va,vb,ve,e,(ListR.ok exRep_ok mkAgg 10).frame h1 hs hf,(ListR.ok (smR_ok d) mkAgg 9).frame h2 hs hf,(ListR.ok (smR_ok d) mkAgg 9).frame h3 hs hf⟩⟩
theorem ListR.imp {α:Type} {r1 r2:Rep α} {mk:List Value→Value} {K:Nat} {W:World} {X:Nat→Prop} {v:Value} {l:List α} (h:ListR r1 mk K W X v l) (hi:∀ v x,r1 W X v x→r2 W X v x):ListR r2 mk K W X v l:=by
 obtain ⟨css,h1,h2,h3⟩:=h
 exact ⟨css,h1,h2,fun i a b=>⟨(h3 i a b).1,hi _ _ (h3 i a b).2⟩⟩
theorem smR_up:∀ (d:Nat) {W:World} {X:Nat→Prop} {v:Value} {x:Sm},smR d W X v x→smR (d+1) W X v x
 | 0,_,_,_,_,h=>h.elim
 | d+1,_,_,_,_,⟨va,vb,ve,e,h1,h2,h3⟩=>⟨va,vb,ve,e,h1,h2.imp (fun _ _ h=>smR_up d h),h3.imp (fun _ _ h=>smR_up d h)⟩
theorem smR_le {d d':Nat} (hd:d≤d') {W:World} {X:Nat→Prop} {v:Value} {x:Sm} (h:smR d W X v x):smR d' W X v x:=by
 obtain ⟨j,rfl⟩:=Nat.exists_eq_add_of_le hd
 induction j with
 | zero=>exact h
 | succ j ih=>exact smR_up _ (ih (by omega))
def SmR:Rep Sm:=fun W X v x=>∃ d,smR d W X v x
theorem smRep_ok:RepOk SmR:=⟨fun ⟨d,h⟩ hm=>⟨d,(smR_ok d).mono h hm⟩,fun ⟨d,h⟩ hs hf=>⟨d,(smR_ok d).frame h hs hf⟩⟩
theorem sm_depth {W:World} {X:Nat→Prop}:∀ (l:List Sm) (css:List (List Value)),css.length=l.length→(∀ i (h:i < css.length) (h':i < l.length),css[i].length=9∧SmR W X (mkAgg css[i]) l[i])→∃ d,∀ i (h:i < css.length) (h':i < l.length),css[i].length=9∧smR d W X (mkAgg css[i]) l[i]
 | [],css,hl,_=>⟨0,fun i _ h'=>by simp at h'⟩
 | x :: l,[],hl,_=>by simp at hl
 | x :: l,cs :: css,hl,h=>by
  obtain ⟨d1,h1⟩:=sm_depth l css (by simpa using hl) (fun i hi hi'=>h (i+1) (by simpa using hi) (by simpa using hi'))
  obtain ⟨h0,d2,h2⟩:=h 0 (by simp) (by simp)
  refine ⟨max d1 d2,fun i hi hi'=>?_⟩
  cases i with
  | zero=>exact ⟨h0,smR_le (Nat.le_max_right _ _) h2⟩
  | succ i=>exact ⟨(h1 i (by simpa using hi) (by simpa using hi')).1,smR_le (Nat.le_max_left _ _) (h1 i (by simpa using hi) (by simpa using hi')).2⟩
theorem sm_one {W:World} {X:Nat→Prop} {v:Value} {l:List Sm} (h:ListR SmR mkAgg 9 W X v l):∃ d,ListR (smR d) mkAgg 9 W X v l:=by
 obtain ⟨css,h1,h2,h3⟩:=h
 obtain ⟨d,h4⟩:=sm_depth l css h2 h3
 exact ⟨d,css,h1,h2,h4⟩
theorem SmR.mk {W:World} {X:Nat→Prop} {va vb ve:Value} {x:Sm} (h1:ListR ExR mkAgg 10 W X va x.args) (h2:ListR SmR mkAgg 9 W X vb x.body) (h3:ListR SmR mkAgg 9 W X ve x.els):SmR W X (mkAgg (smC x va vb ve)) x:=by
 obtain ⟨d2,h2⟩:=sm_one h2
 obtain ⟨d3,h3⟩:=sm_one h3
 exact ⟨max d2 d3+1,va,vb,ve,rfl,h1,h2.imp (fun _ _ h=>smR_le (Nat.le_max_left _ _) h),h3.imp (fun _ _ h=>smR_le (Nat.le_max_right _ _) h)⟩
theorem SmR.open {W:World} {X:Nat→Prop} {v:Value} {x:Sm} (h:SmR W X v x):∃ va vb ve,v=mkAgg (smC x va vb ve)∧ListR ExR mkAgg 10 W X va x.args∧ListR SmR mkAgg 9 W X vb x.body∧ListR SmR mkAgg 9 W X ve x.els:=by
 obtain ⟨d,h⟩:=h
 cases d with
 | zero=>exact h.elim
 | succ d =>
  obtain ⟨va,vb,ve,e,h1,h2,h3⟩:=h
  exact ⟨va,vb,ve,e,h1,h2.imp (fun _ _ h=>⟨d,h⟩),h3.imp (fun _ _ h=>⟨d,h⟩)⟩
theorem SmR.form {W:World} {X:Nat→Prop} {v:Value} {x:Sm} (h:SmR W X v x):∃ i0 t1 t2 t3 i4 s5 n5 c5 s6 n6 c6 s7 n7 c7 i8,v=.agg #[.int .u8 i0,.string t1,.string t2,.string t3,.int .i64 i4,.slice s5 n5 c5,.slice s6 n6 c6,.slice s7 n7 c7,.int .i64 i8]:=by
 obtain ⟨va,vb,ve,rfl,h1,h2,h3⟩:=h.open
 obtain ⟨s1,n1,c1,rfl⟩:=h1.form
 obtain ⟨s2,n2,c2,rfl⟩:=h2.form
 obtain ⟨s3,n3,c3,rfl⟩:=h3.form
 exact ⟨_,_,_,_,_,_,_,_,_,_,_,_,_,_,_,rfl⟩
structure Dc where
 kind:Nat
 name:List UInt8
 fields:List (List UInt8 × Nat)
 w:Nat
 n:Nat
 rate:Nat
 burst:Nat
 states:List Ts
 keys:List (Ex × Nat)
 acts:List (List UInt8)
 dflt:List UInt8
 args:List (Nat × Nat)
 body:List Sm
 emits:List (List UInt8)
 line:Nat
def dcC (x:Dc) (vf vs vk va vg vb ve:Value):List Value:=[.int .u8 (x.kind:Int),.string (txt x.name),vf,.int .i64 (x.w:Int),.int .i64 (x.n:Int),.int .i64 (x.rate:Int),.int .i64 (x.burst:Int),vs,vk,va,.string (txt x.dflt),vg,vb,ve,.int .i64 (x.line:Int)]
structure DcL (W:World) (X:Nat→Prop) (x:Dc) (vf vs vk va vg vb ve:Value):Prop where
 f:ListR FieldV mkAgg 2 W X vf x.fields
 s:ListR StateR mkAgg 6 W X vs x.states
 k:ListR KeyR mkAgg 11 W X vk x.keys
 a:ListR StrV mkOne 1 W X va x.acts
 g:ListR LitV mkAgg 3 W X vg x.args
 b:ListR SmR mkAgg 9 W X vb x.body
 e:ListR StrV mkOne 1 W X ve x.emits
def DeclR:Rep Dc:=fun W X v x=>∃ vf vs vk va vg vb ve,v=mkAgg (dcC x vf vs vk va vg vb ve)∧DcL W X x vf vs vk va vg vb ve
theorem declR_ok:RepOk DeclR where
 mono:=fun ⟨vf,vs,vk,va,vg,vb,ve,e,h⟩ hm=>⟨vf,vs,vk,va,vg,vb,ve,e,(ListR.ok fieldV_ok _ _).mono h.f hm,(ListR.ok stateR_ok _ _).mono h.s hm,(ListR.ok keyR_ok _ _).mono h.k hm,(ListR.ok strV_ok _ _).mono h.a hm,(ListR.ok litV_ok _ _).mono h.g hm,(ListR.ok smRep_ok _ _).mono h.b hm,(ListR.ok strV_ok _ _).mono h.e hm⟩
 frame:=fun ⟨vf,vs,vk,va,vg,vb,ve,e,h⟩ hs hf=>⟨vf,vs,vk,va,vg,vb,ve,e,(ListR.ok fieldV_ok _ _).frame h.f hs hf,(ListR.ok stateR_ok _ _).frame h.s hs hf,(ListR.ok keyR_ok _ _).frame h.k hs hf,(ListR.ok strV_ok _ _).frame h.a hs hf,(ListR.ok litV_ok _ _).frame h.g hs hf,(ListR.ok smRep_ok _ _).frame h.b hs hf,(ListR.ok strV_ok _ _).frame h.e hs hf⟩
theorem DeclR.form {W:World} {X:Nat→Prop} {v:Value} {x:Dc} (h:DeclR W X v x):∃ i0 t1 s2 n2 c2 i3 i4 i5 i6 s7 n7 c7 s8 n8 c8 s9 n9 c9 t10 s11 n11 c11 s12 n12 c12 s13 n13 c13 i14,v=.agg #[.int .u8 i0,.string t1,.slice s2 n2 c2,.int .i64 i3,.int .i64 i4,.int .i64 i5,.int .i64 i6,.slice s7 n7 c7,.slice s8 n8 c8,.slice s9 n9 c9,.string t10,.slice s11 n11 c11,.slice s12 n12 c12,.slice s13 n13 c13,.int .i64 i14]:=by
 obtain ⟨vf,vs,vk,va,vg,vb,ve,rfl,h⟩:=h
 obtain ⟨s2,n2,c2,rfl⟩:=h.f.form
 obtain ⟨s7,n7,c7,rfl⟩:=h.s.form
 obtain ⟨s8,n8,c8,rfl⟩:=h.k.form
 obtain ⟨s9,n9,c9,rfl⟩:=h.a.form
 obtain ⟨s11,n11,c11,rfl⟩:=h.g.form
 obtain ⟨s12,n12,c12,rfl⟩:=h.b.form
 obtain ⟨s13,n13,c13,rfl⟩:=h.e.form
 exact ⟨_,_,_,_,_,_,_,_,_,_,_,_,_,_,_,_,_,_,_,_,_,_,_,_,_,_,_,_,_,rfl⟩
theorem smUpd {W:World} {X:Nat→Prop} {i0 i4 i8:Int} {t1 t2 t3:ByteArray} {v5 v6 v7 va:Value} {x:Sm} {a:List UInt8} {l:List Ex} (h:SmR W X (.agg #[.int .u8 i0,.string t1,.string t2,.string t3,.int .i64 i4,v5,v6,v7,.int .i64 i8]) x) (hl:ListR ExR mkAgg 10 W X va l):SmR W X (.agg #[.int .u8 i0,.string t1,.string t2,.string (txt a),.int .i64 i4,va,v6,v7,.int .i64 i8]) { x with array:=a,args:=l }:=by
 obtain ⟨wa,wb,we,e,_,h2,h3⟩:=h.open
 unfold mkAgg smC at e
 injection e with e
 have e:=congrArg Array.toList e
 simp only [List.cons.injEq] at e
 obtain ⟨e0,e1,e2,_,e4,_,rfl,rfl,e8,_⟩:=e
 rw [e0,e1,e2,e4,e8]
 exact SmR.mk (x:={ x with array:=a,args:=l }) hl h2 h3
def dc0 (kind:Nat):Dc:=⟨kind,[],[],0,0,0,0,[],[],[],[],[],[],[],0⟩
def sm0 (kind:Nat):Sm:=⟨kind,[],[],[],0,[],[],[],0⟩
theorem name_i {I:World→Prop} {p q:Nat} {L:List (Wd × Nat)} {dm sm:Value} {k0:Nat} (hL:OkL L):PfI I 97 #[.pointer (some ⟨p,0,none⟩)] p q L dm sm k0 nameP StrV:=fun _ _ _ r _=>name_any r hL
theorem whole_i {I:World→Prop} {p q:Nat} {L:List (Wd × Nat)} {dm sm:Value} {k0:Nat} (hL:OkL L):PfI I 99 #[.pointer (some ⟨p,0,none⟩)] p q L dm sm k0 wholeP IntV:=fun _ _ _ r _=>whole_reads r hL
theorem lit_i {I:World→Prop} {p q:Nat} {L:List (Wd × Nat)} {dm sm:Value} {k0:Nat} (hL:OkL L):PfI I 110 #[.pointer (some ⟨p,0,none⟩)] p q L dm sm k0 litP LitV:=fun _ _ _ r _=>lit_reads r hL
theorem owner_i {I:World→Prop} {p q:Nat} {L:List (Wd × Nat)} {dm sm:Value} {k0:Nat} (hL:OkL L):PfI I 169 #[.pointer (some ⟨p,0,none⟩)] p q L dm sm k0 ownerP StrV:=fun _ _ _ r _=>owner_any r hL
theorem fieldOf_i {I:World→Prop} {p q:Nat} {L:List (Wd × Nat)} {dm sm:Value} {k0:Nat} (hL:OkL L):PfI I 170 #[.pointer (some ⟨p,0,none⟩)] p q L dm sm k0 fieldOfP StrV:=fun _ _ _ r _=>fieldOf_any r hL
theorem field_i {I:World→Prop} {p q:Nat} {L:List (Wd × Nat)} {dm sm:Value} {k0:Nat} (hL:OkL L):PfI I 104 #[.pointer (some ⟨p,0,none⟩)] p q L dm sm k0 fieldP FieldV:=fun _ _ _ r _=>field_any r hL
theorem cint_i {I:World→Prop} {p q:Nat} {L:List (Wd × Nat)} {dm sm:Value} {k0:Nat} (hL:OkL L):PfI I 100 #[.pointer (some ⟨p,0,none⟩),.func (Fn.func 99) #[.pointer (some ⟨p,0,none⟩)] #[]] p q L dm sm k0 (closedP wholeP) IntV:=fun _ _ _ r _=>closed_int r hL
theorem cstr_i {I:World→Prop} {p q:Nat} {L:List (Wd × Nat)} {dm sm:Value} {k0:Nat} (hL:OkL L):PfI I 155 #[.pointer (some ⟨p,0,none⟩),.func (Fn.func 97) #[.pointer (some ⟨p,0,none⟩)] #[]] p q L dm sm k0 (closedP nameP) StrV:=fun _ _ _ r _=>closed_string r hL
def rowsP {α:Type} (en:List UInt8) (f:Pf α):Pf (List α):=untilP en (closedP f)
def fieldsP:Pf (List (List UInt8 × Nat)):=(passP [[123]]).bind fun _=>(rowsP [125] fieldP).bind Pf.ret
def headerP:Pf Dc:=nameP.bind fun n=>fieldsP.bind fun l=>Pf.ret { dc0 1 with name:=n,fields:=l }
def metaP:Pf Dc:=fieldsP.bind fun l=>Pf.ret { dc0 2 with fields:=l }
def registerP:Pf Dc:=nameP.bind fun n=>wholeP.bind fun a=>(closedP wholeP).bind fun b=>Pf.ret { dc0 3 with name:=n,w:=a,n:=b }
def counterP:Pf Dc:=nameP.bind fun n=>(closedP wholeP).bind fun b=>Pf.ret { dc0 4 with name:=n,n:=b }
def meterP:Pf Dc:=nameP.bind fun n=>wholeP.bind fun a=>wholeP.bind fun b=>(closedP wholeP).bind fun c=>Pf.ret { dc0 5 with name:=n,n:=a,rate:=b,burst:=c }
def parserP (st:Pf Ts):Pf Dc:=(passP [[123]]).bind fun _=>(untilP [125] st).bind fun l=>Pf.ret { dc0 6 with states:=l }
def actionP (bf:Pf (List (List UInt8 × Nat))) (bl:Pf (List Sm)):Pf Dc:=nameP.bind fun n=>bf.bind fun f=>bl.bind fun b=>Pf.ret { dc0 7 with name:=n,fields:=f,body:=b }
def controlP (bl:Pf (List Sm)):Pf Dc:=bl.bind fun b=>Pf.ret { dc0 9 with body:=b }
def deparserP:Pf Dc:=(passP [[123]]).bind fun _=>(rowsP [125] nameP).bind fun l=>Pf.ret { dc0 10 with emits:=l }
def kkP:Pf Nat:=ifP [101,120,97,99,116] (Pf.ret 1) (ifP [112,114,101,102,105,120] (Pf.ret 2) (ifP [109,97,115,107] (Pf.ret 3) ((passP [[114,97,110,103,101]]).bind fun _=>Pf.ret 4)))
def keyP (ex:Pf Ex):Pf (Ex × Nat):=ex.bind fun x=>kkP.bind fun k=>Pf.ret (x,k)
def blockP (st:Pf (List Sm)):Pf (List Sm):=(passP [[123]]).bind fun _=>st.bind Pf.ret
def cellP (ex:Pf Ex):Pf Ex:=(passP [[91]]).bind fun _=>ex.bind fun x=>(passP [[93]]).bind fun _=>Pf.ret x
def callP (be:Pf (List Ex)) (n:List UInt8):Pf Sm:=be.bind fun l=>(passP [[59]]).bind fun _=>Pf.ret { sm0 4 with name:=n,args:=l }
def ifElseP (ex:Pf Ex) (bl:Pf (List Sm)):Pf Sm:=ex.bind fun x=>bl.bind fun b=>ifP [101,108,115,101] (bl.bind fun c=>Pf.ret { sm0 2 with args:=[x],body:=b,els:=c }) (Pf.ret { sm0 2 with args:=[x],body:=b })
def ofNameP (kd:Nat):Pf Sm:=(closedP nameP).bind fun n=>Pf.ret { sm0 kd with name:=n }
def countP (ex:Pf Ex):Pf Sm:=nameP.bind fun n=>(cellP ex).bind fun x=>(passP [[59]]).bind fun _=>Pf.ret { sm0 7 with name:=n,args:=[x] }
def ofFieldP (kd:Nat):Pf Sm:=ownerP.bind fun n=>fieldOfP.bind fun f=>Pf.ret { sm0 kd with name:=n,field:=f }
def fromArrayP (ex:Pf Ex) (kd:Nat):Pf Sm:=(ofFieldP kd).bind fun s=>(passP [[61]]).bind fun _=>nameP.bind fun a=>(cellP ex).bind fun x=>(passP [[59]]).bind fun _=>Pf.ret { s with array:=a,args:=[x] }
def writeP (ex:Pf Ex):Pf Sm:=nameP.bind fun a=>(cellP ex).bind fun x=>(passP [[61]]).bind fun _=>(closedP ex).bind fun y=>Pf.ret { sm0 9 with array:=a,args:=[x,y] }
def randomP:Pf Sm:=(ofFieldP 11).bind fun s=>(passP [[59]]).bind fun _=>Pf.ret s
def bareP (kd:Nat):Pf Sm:=(passP [[59]]).bind fun _=>Pf.ret (sm0 kd)
def digestP (so:Pf (List Ex)):Pf Sm:=so.bind fun l=>(passP [[59]]).bind fun _=>Pf.ret { sm0 13 with args:=l }
def cloneP:Pf Sm:=(closedP wholeP).bind fun n=>Pf.ret { sm0 14 with n:=n }
def brackP {α:Type} (so:Pf (List α)):Pf (List α):=(passP [[40]]).bind fun _=>ifP [41] (Pf.ret []) (so.bind fun l=>(passP [[41]]).bind fun _=>Pf.ret l)
theorem setAll_eq (b:Nat):∀ (vs:List Value) (w:World) (o:Nat),w.setCells b o vs=setAll b w o vs
 | [],_,_=>rfl
 | v :: vs,w,o=>setAll_eq b vs (w.setCell ⟨b,o,none⟩ v) (o+1)
theorem add0 (b j:Nat):(⟨b,0,none⟩:Addr).add j=⟨b,j,none⟩:=by rw [Addr.add_mid,Nat.zero_add]
theorem run_loadA {P:Program} {w:World} {t:TypeId} {b:Nat} {cs:List Value} {e:TypeId} (ha:∀ w,(isAgg t).run P w=.ok true w) (hs:∀ w,(sizeOf t).run P w=.ok cs.length w) (hb:w.heap[b]? = some (.cells cs.toArray e (0,0))):(loadVar t ⟨b,0,none⟩).run P w=.ok (.agg cs.toArray) w:=by
 have h1:=run_loadCells_list (P:=P) w ⟨b,0,none⟩ cs (fun j v hv=>by rw [add0,cellA hb j];simpa using hv)
 simp [loadVar,ha,hs,h1,Result.andThen]
theorem wpList_loadA {P:Program} {w:World} {ops:Array Oper} {rest:List Oper} {o:Oper} {a:Act} {Q:Exit→Act→World→Prop} (hg:o.guard=none) (t:TypeId) (x:Operand) (ho:o.op=.load t x) (b:Nat) (cs:List Value) (e:TypeId)
  (hx:a.eval x=.pointer (some ⟨b,0,none⟩)) (ha:∀ w,(isAgg t).run P w=.ok true w) (hs:∀ w,(sizeOf t).run P w=.ok cs.length w) (hb:w.heap[b]? = some (.cells cs.toArray e (0,0)))
  (hK:wpList P ops Q rest (a.put o.dst (.agg cs.toArray)) w):wpList P ops Q (o :: rest) a w:=by
 refine wpList_plain hg fun K hK'=>?_
 have h2:(Instr.loadAt t (.pointer (some ⟨b,0,none⟩))).run P w=.ok (.agg cs.toArray) w:=by
  simp [Instr.loadAt,Instr.sureAddr,run_loadA ha hs hb]
 have h3:(execOp a.eval o).run P w=.ok (.value (.agg cs.toArray)) w:=by
  simp [execOp,ho,hx,h2,Result.andThen]
 unfold Oper.wp
 rw [h3]
 exact hK' _ _ hK
theorem wpList_storeA {P:Program} {w:World} {ops:Array Oper} {rest:List Oper} {o:Oper} {a:Act} {Q:Exit→Act→World→Prop} (hg:o.guard=none) (t:TypeId) (x y:Operand) (ho:o.op=.store t x y) (b:Nat) (cs:List Value) (ys:Array Value) (e:TypeId)
  (hx:a.eval x=.pointer (some ⟨b,0,none⟩)) (hy:a.eval y=.agg cs.toArray) (hs:∀ w,(sizeOf t).run P w=.ok cs.length w) (hb:w.heap[b]? = some (.cells ys e (0,0))) (hl:ys.size=cs.length) (one:∀ v ∈ cs,v.oneCell'=true)
  (hK:∀ w',w'=setAll b w 0 cs→wpList P ops Q rest (a.put o.dst undef) w'):wpList P ops Q (o :: rest) a w:=by
 refine wpList_plain hg fun K hK'=>?_
 have h1:(storeCells ⟨b,0,none⟩ cs 0).run P w=.ok () (setAll b w 0 cs):=by
  rw [run_storeCells_cells (P:=P) b 0 cs 0 w (fun j hj=>?_) (fun j _=>?_) one,setAll_eq]
  ·rw [cellA hb]
   have hj':j < ys.size:=by omega
   simp [hj']
  ·exact softA hb _
 have h2:(Instr.storeAt t (.pointer (some ⟨b,0,none⟩)) (.agg cs.toArray)).run P w=.ok () (setAll b w 0 cs):=by
  simp [Instr.storeAt,Instr.sureAddr,storeVar,hs,Value.cells,h1,Result.andThen]
 have h3:(execOp a.eval o).run P w=.ok .skip (setAll b w 0 cs):=by
  simp [execOp,ho,hx,hy,h2,Result.andThen]
 unfold Oper.wp
 rw [h3,Oper.upon_skip]
 exact hK' _ _ (hK _ rfl)
theorem step_loadA {P:Program} {ops:Array Oper} {o:Oper} {a:Act} {w:World} {K:Act→World→Prop} {Q:Exit→Act→World→Prop} {E:Prop} (hg:o.guard=none) (t:TypeId) (x:Operand) (ho:o.op=.load t x) (b:Nat) (cs:List Value) (e:TypeId)
  (hx:a.eval x=.pointer (some ⟨b,0,none⟩)) (ha:∀ w,(isAgg t).run P w=.ok true w) (hs:∀ w,(sizeOf t).run P w=.ok cs.length w) (hb:w.heap[b]? = some (.cells cs.toArray e (0,0)))
  (hK:K (a.put o.dst (.agg cs.toArray)) w):if Region.wanted o (yielded ops a.tmps)=true then Oper.wp P o a w K Q else E:=by
 have hw:Region.wanted o (yielded ops a.tmps)=true:=by simp [Region.wanted,hg]
 rw [if_pos hw]
 have h2:(Instr.loadAt t (.pointer (some ⟨b,0,none⟩))).run P w=.ok (.agg cs.toArray) w:=by
  simp [Instr.loadAt,Instr.sureAddr,run_loadA ha hs hb]
 have h3:(execOp a.eval o).run P w=.ok (.value (.agg cs.toArray)) w:=by
  simp [execOp,ho,hx,h2,Result.andThen]
 unfold Oper.wp
 rw [h3]
 exact hK
theorem step_load1 {P:Program} {ops:Array Oper} {o:Oper} {a:Act} {w:World} {K:Act→World→Prop} {Q:Exit→Act→World→Prop} {E:Prop} (hg:o.guard=none) (t:TypeId) (x:Operand) (ho:o.op=.load t x) (b i:Nat) (v:Value)
  (hx:a.eval x=.pointer (some ⟨b,i,none⟩)) (ha:∀ w,(isAgg t).run P w=.ok false w) (hc:w.cell? ⟨b,i,none⟩=some v)
  (hK:K (a.put o.dst v) w):if Region.wanted o (yielded ops a.tmps)=true then Oper.wp P o a w K Q else E:=by
 have hw:Region.wanted o (yielded ops a.tmps)=true:=by simp [Region.wanted,hg]
 rw [if_pos hw]
 have h2:(Instr.loadAt t (.pointer (some ⟨b,i,none⟩))).run P w=.ok v w:=by
  simp [Instr.loadAt,Instr.sureAddr,loadVar,ha,run_load,hc,Result.andThen]
 have h3:(execOp a.eval o).run P w=.ok (.value v) w:=by
  simp [execOp,ho,hx,h2,Result.andThen]
 unfold Oper.wp
 rw [h3]
 exact hK
theorem step_storeA {P:Program} {ops:Array Oper} {o:Oper} {a:Act} {w:World} {K:Act→World→Prop} {Q:Exit→Act→World→Prop} {E:Prop} (hg:o.guard=none) (t:TypeId) (x y:Operand) (ho:o.op=.store t x y) (b:Nat) (cs:List Value) (ys:Array Value) (e:TypeId)
  (hx:a.eval x=.pointer (some ⟨b,0,none⟩)) (hy:a.eval y=.agg cs.toArray) (hs:∀ w,(sizeOf t).run P w=.ok cs.length w) (hb:w.heap[b]? = some (.cells ys e (0,0))) (hl:ys.size=cs.length) (one:∀ v ∈ cs,v.oneCell'=true)
  (hK:∀ w',w'=setAll b w 0 cs→K (a.put o.dst undef) w'):if Region.wanted o (yielded ops a.tmps)=true then Oper.wp P o a w K Q else E:=by
 have hw:Region.wanted o (yielded ops a.tmps)=true:=by simp [Region.wanted,hg]
 rw [if_pos hw]
 have h1:(storeCells ⟨b,0,none⟩ cs 0).run P w=.ok () (setAll b w 0 cs):=by
  rw [run_storeCells_cells (P:=P) b 0 cs 0 w (fun j hj=>?_) (fun j _=>?_) one,setAll_eq]
  ·rw [cellA hb]
   have hj':j < ys.size:=by omega
   simp [hj']
  ·exact softA hb _
 have h2:(Instr.storeAt t (.pointer (some ⟨b,0,none⟩)) (.agg cs.toArray)).run P w=.ok () (setAll b w 0 cs):=by
  simp [Instr.storeAt,Instr.sureAddr,storeVar,hs,Value.cells,h1,Result.andThen]
 have h3:(execOp a.eval o).run P w=.ok .skip (setAll b w 0 cs):=by
  simp [execOp,ho,hx,hy,h2,Result.andThen]
 unfold Oper.wp
 rw [h3,Oper.upon_skip]
 exact hK _ rfl
theorem step_store1 {P:Program} {ops:Array Oper} {o:Oper} {a:Act} {w:World} {K:Act→World→Prop} {Q:Exit→Act→World→Prop} {E:Prop} (hg:o.guard=none) (t:TypeId) (x y:Operand) (ho:o.op=.store t x y) (b i:Nat) (v:Value)
  (hx:a.eval x=.pointer (some ⟨b,i,none⟩)) (hy:a.eval y=v) (hv:v.cells=#[v]) (hs:∀ w,(sizeOf t).run P w=.ok 1 w) (hc:(w.cell? ⟨b,i,none⟩).isSome=true) (hf:w.frozen? ⟨b,i,none⟩=false) (one:v.oneCell'=true)
  (hK:K (a.put o.dst undef) (w.setCell ⟨b,i,none⟩ v)):if Region.wanted o (yielded ops a.tmps)=true then Oper.wp P o a w K Q else E:=by
 have hw:Region.wanted o (yielded ops a.tmps)=true:=by simp [Region.wanted,hg]
 rw [if_pos hw]
 have h1:(storeCells ⟨b,i,none⟩ [v] 0).run P w=.ok () (w.setCell ⟨b,i,none⟩ v):=by
  rw [run_storeCells_cells (P:=P) b i [v] 0 w (fun j hj=>?_) (fun j hj=>?_) (fun u hu=>?_)]
  ·rfl
  ·obtain rfl:j=0:=by simp at hj;omega
   exact hc
  ·obtain rfl:j=0:=by simp at hj;omega
   exact hf
  ·simp at hu;subst hu;exact one
 have h2:(Instr.storeAt t (.pointer (some ⟨b,i,none⟩)) v).run P w=.ok () (w.setCell ⟨b,i,none⟩ v):=by
  simp [Instr.storeAt,Instr.sureAddr,storeVar,hs,hv,h1,Result.andThen]
 have h3:(execOp a.eval o).run P w=.ok .skip (w.setCell ⟨b,i,none⟩ v):=by
  simp [execOp,ho,hx,hy,h2,Result.andThen]
 unfold Oper.wp
 rw [h3,Oper.upon_skip]
 exact hK
theorem Sp.drew {w W:World} {p q:Nat} {L:List (Wd × Nat)} {k:Nat} {dm sm:Value} {B:List (Nat × Obj)} {K:Kp} (s:Sp w W p q L k dm sm B K):Sp w W.drew p q L k dm sm B K:=s.go (s.rr.here.next (Below.refl _ _).drew)
theorem res_cell {P:Program} {f:Func} {tmps:Array Value} {w:World} {s:Nat} {t:TypeId} {b:Nat} {cs:List Value} {e:TypeId} (hf:f.results=#[.cell s t]) (hx:tmps.getD s undef=.pointer (some ⟨b,0,none⟩)) (ha:∀ w,(isAgg t).run P w=.ok true w) (hs:∀ w,(sizeOf t).run P w=.ok cs.length w) (hb:w.heap[b]? = some (.cells cs.toArray e (0,0))):(results f tmps).run P w=.ok (.agg cs.toArray) w:=by
 unfold results
 rw [hf]
 have h:=run_loadA (P:=P) ha hs hb
 have hx':tmps[s]?.getD undef=.pointer (some ⟨b,0,none⟩):=by rw [← hx];simp
 simp [Array.mapM_eq_mapM_toList,hx',asAddr,h]
set_option maxRecDepth 100000 in
theorem ag_strs:∀ w:World,(isAgg 44).run Tryz.prog w=.ok false w:=fun w=>by rfl
set_option maxRecDepth 100000 in
theorem sz_strs:∀ w:World,(sizeOf 44).run Tryz.prog w=.ok 1 w:=fun w=>by rfl
set_option maxRecDepth 100000 in
theorem sz_exprs:∀ w:World,(sizeOf 47).run Tryz.prog w=.ok 1 w:=fun w=>by rfl
set_option maxRecDepth 100000 in
theorem sz_field:∀ w:World,(sizeOf 137).run Tryz.prog w=.ok 2 w:=fun w=>by rfl
set_option maxRecDepth 100000 in
theorem ag_field:∀ w:World,(isAgg 137).run Tryz.prog w=.ok true w:=fun w=>by rfl
set_option maxRecDepth 100000 in
theorem sz_expr:∀ w:World,(sizeOf 49).run Tryz.prog w=.ok 10 w:=fun w=>by rfl
set_option maxRecDepth 100000 in
theorem ag_expr:∀ w:World,(isAgg 49).run Tryz.prog w=.ok true w:=fun w=>by rfl
set_option maxRecDepth 100000 in
theorem sz_stmt:∀ w:World,(sizeOf 72).run Tryz.prog w=.ok 9 w:=fun w=>by rfl
set_option maxRecDepth 100000 in
theorem ag_stmt:∀ w:World,(isAgg 72).run Tryz.prog w=.ok true w:=fun w=>by rfl
set_option maxRecDepth 100000 in
theorem sz_case:∀ w:World,(sizeOf 194).run Tryz.prog w=.ok 7 w:=fun w=>by rfl
set_option maxRecDepth 100000 in
theorem ag_case:∀ w:World,(isAgg 194).run Tryz.prog w=.ok true w:=fun w=>by rfl
set_option maxRecDepth 100000 in
theorem sz_key:∀ w:World,(sizeOf 85).run Tryz.prog w=.ok 11 w:=fun w=>by rfl
set_option maxRecDepth 100000 in
theorem ag_key:∀ w:World,(isAgg 85).run Tryz.prog w=.ok true w:=fun w=>by rfl
set_option maxRecDepth 100000 in
theorem sz_state:∀ w:World,(sizeOf 79).run Tryz.prog w=.ok 6 w:=fun w=>by rfl
set_option maxRecDepth 100000 in
theorem ag_state:∀ w:World,(isAgg 79).run Tryz.prog w=.ok true w:=fun w=>by rfl
set_option maxRecDepth 100000 in
theorem sz_decl:∀ w:World,(sizeOf 69).run Tryz.prog w=.ok 15 w:=fun w=>by rfl
set_option maxRecDepth 100000 in
theorem ag_decl:∀ w:World,(isAgg 69).run Tryz.prog w=.ok true w:=fun w=>by rfl
end Go.Proofs.YtabkimknlifdoaaGreatDoor
namespace Go.Proofs.YtabkimknlifdoaaGreatDoor
open Go.RowKit Go.MapKept
theorem raw_insert {P:Program} {W:World} {B n:Nat} {es:Array MapEntry} {t kt et:TypeId} {d:TypeDesc} (hb:W.heap[B]? = some (.map es n)) (ht:P.underlying t=some (.map kt et)) (hkt:P.underlying kt=some d)
  (k v:Value) (hk:IsKey d k) (hks:∀ x ∈ es.toList,IsKey d x.key∧x.key ≠ k) :
  ∃ W',(Instr.mapUpdate t (.map (some B)) k v).run P W=.ok () W'∧W'.heap[B]? = some (.map (es.push { key:=k,val:=v,born:=n }) (n+1))∧W.grownBy W' (some B):=by
 rcases findNow_spec hk es.toList 0 (fun x hx=>(hks x hx).1) with ⟨h1,_⟩ | ⟨j,e,h1,h2,h3⟩
 ·have hrun:(Instr.mapUpdate t (.map (some B)) k v).run P W=.ok () { W with heap:=W.heap.setIfInBounds B (.map (es.push { key:=k,val:=v,born:=n }) (n+1)) }:=by
   simp [Instr.mapUpdate,run_underlying ht,MapKept.run_getObj_map hb,run_checkKey hkt hk,run_findKey hkt h1,MapKept.run_setObj_map _ hb,Result.andThen]
  have hh:=heap_set (o':=Obj.map (es.push { key:=k,val:=v,born:=n }) (n+1)) hb
  exact ⟨_,hrun,hh.1,⟨rfl,rfl,rfl,by simp,fun i _ hi=>hh.2 i (fun e=>hi (by rw [e]))⟩⟩
 ·exact absurd h3 (hks e (List.mem_of_getElem? h2)).2
theorem wpList_insert_raw {P:Program} (w:World) {ops:Array Oper} {rest:List Oper} {o:Oper} {a:Act} {Q:Exit→Act→World→Prop}
  (hg:o.guard=none) (m x v:Operand) (t:TypeId) (hop:o.op=Op.insert t m x v) (kt et:TypeId) (d:TypeDesc) (ht:P.underlying t=some (.map kt et)) (hkt:P.underlying kt=some d)
  (B n:Nat) (es:Array MapEntry) (hm:a.eval m=.map (some B)) (k:Value) (hx:a.eval x=k) (val:Value) (hv:a.eval v=val) (hb:w.heap[B]? = some (.map es n)) (hk:IsKey d k) (hks:∀ x ∈ es.toList,IsKey d x.key∧x.key ≠ k)
  (hK:∀ w',w'.heap[B]? = some (.map (es.push { key:=k,val:=val,born:=n }) (n+1))→w.grownBy w' (some B)→wpList P ops Q rest (a.put o.dst undef) w') :
  wpList P ops Q (o :: rest) a w:=by
 refine wpList_plain hg fun K' hK'=>?_
 obtain ⟨w',hrun,r1,r2⟩:=raw_insert hb ht hkt k val hk hks
 unfold Oper.wp
 simp [execOp,hop,hm,hx,hv,hrun,Result.andThen]
 exact hK' _ _ (hK w' r1 r2)
theorem raw_look {P:Program} {W:World} {B n:Nat} {es:Array MapEntry} {t kt et:TypeId} {d:TypeDesc} (hb:W.heap[B]? = some (.map es n)) (ht:P.underlying t=some (.map kt et)) (hkt:P.underlying kt=some d)
  (k:Value) (hk:IsKey d k) (hks:∀ x ∈ es.toList,IsKey d x.key) (zv:Value) (hz:(zeroValue et).run P W=.ok zv W) :
  (∃ e ∈ es.toList,e.key=k∧(Instr.lookup t (.map (some B)) k true).run P W=.ok (.tuple #[e.val,.bool true]) W∧(Instr.lookup t (.map (some B)) k false).run P W=.ok e.val W) ∨
  ((∀ e ∈ es.toList,e.key ≠ k)∧(Instr.lookup t (.map (some B)) k true).run P W=.ok (.tuple #[zv,.bool false]) W∧(Instr.lookup t (.map (some B)) k false).run P W=.ok zv W):=by
 rcases findNow_spec hk es.toList 0 hks with ⟨h1,h2⟩ | ⟨j,e,h1,h2,h3⟩
 ·refine .inr ⟨h2,?_,?_⟩
  ·simp [Instr.lookup,run_underlying ht,MapKept.run_getObj_map hb,run_checkKey hkt hk,run_findKey hkt h1,hz,Result.andThen]
  ·simp [Instr.lookup,run_underlying ht,MapKept.run_getObj_map hb,run_checkKey hkt hk,run_findKey hkt h1,hz,Result.andThen]
 ·refine .inl ⟨e,List.mem_of_getElem? h2,h3,?_,?_⟩
  ·simp [Instr.lookup,run_underlying ht,MapKept.run_getObj_map hb,run_checkKey hkt hk,run_findKey hkt h1,Result.andThen]
  ·simp [Instr.lookup,run_underlying ht,MapKept.run_getObj_map hb,run_checkKey hkt hk,run_findKey hkt h1,Result.andThen]
end Go.Proofs.YtabkimknlifdoaaGreatDoor
