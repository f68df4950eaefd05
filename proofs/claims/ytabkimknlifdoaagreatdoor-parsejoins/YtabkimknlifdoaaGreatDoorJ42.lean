/- Pieces of the proof: TXa, TXb, PaPr, PaPs, PBa. -/
import Derived.Test.YtabkimknlifdoaaGreatDoorJ40
import Derived.Test.YtabkimknlifdoaaGreatDoorJ41
import Derived.Test.YtabkimknlifdoaaGreatDoorJ34
import Derived.Test.YtabkimknlifdoaaGreatDoorJ33
import Derived.Defers
import Derived.Recover
import Derived.Test.YtabkimknlifdoaaGreatDoorJ39
import Derived.Test.YtabkimknlifdoaaGreatDoorJ38
namespace Go.Proofs.YtabkimknlifdoaaGreatDoor
open Go.RowKit
theorem eqS_of {α:Type} {r1 r2:Rep α} {mk:List Value→Value} {K e:Nat} {W:World} {X X':Nat→Prop} {va vb:Value} {l:List α} {eq:World→List Value→List Value→Prop} (hn:l.length≤1000000) (h1:ListT r1 mk K e W X va l) (h2:ListT r2 mk K e W X' vb l)
  (he:∀ x ∈ l,∀ cs cs':List Value,cs.length=K→cs'.length=K→r1 W X (mk cs) x→r2 W X' (mk cs') x→eq W cs cs'):EqS K eq W va vb:=by
 obtain ⟨g,c,cur,css,e1,_,g1,n1,k1⟩:=h1
 obtain ⟨g',c',cur',css',e2,_,g2,n2,k2⟩:=h2
 refine ⟨l.length,_,_,c,c',e1,e2,hn,.inr ⟨g,g',rfl,rfl,(Array.getElem?_eq_some_iff.1 g1).1,(Array.getElem?_eq_some_iff.1 g2).1,fun i hi=>?_⟩⟩
 obtain ⟨a1,a2,a3⟩:=k1 i (by omega) hi
 obtain ⟨b1,b2,b3⟩:=k2 i (by omega) hi
 exact ⟨_,_,a1,b1,fun j u hu=>(blk_cell g1).trans (a2 j u hu),fun j u hu=>(blk_cell g2).trans (b2 j u hu),he _ (List.getElem_mem hi) _ _ a1 b1 a3 b3⟩
theorem eqX_of {W:World} {X X':Nat→Prop}:∀ (d d':Nat) (l:List Ex) (va vb:Value),LSX l→xL true d W X va l→xL true d' W X' vb l→EqS 10 (eqX d) W va vb
 | 0,_,_,_,_,_,h,_=>h.elim
 | _+1,0,_,_,_,_,_,h=>h.elim
 | d+1,d'+1,l,va,vb,hs,h1,h2=>eqS_of hs.len h1 h2 fun x hx cs cs' _ _ ⟨va,ln,e,p1,r⟩ ⟨vb,ln',e',p2,r'⟩=>by
  obtain rfl:=mkAgg_inj e
  obtain rfl:=mkAgg_inj e'
  rw [p1 rfl,p2 rfl]
  exact ⟨_,_,_,_,_,_,_,_,_,va,vb,rfl,rfl,eqX_of d d' x.args va vb (hs.arg hx) r r'⟩
theorem EqS.imp {K:Nat} {eq eq':World→List Value→List Value→Prop} {W:World} {va vb:Value} (h:EqS K eq W va vb) (hq:∀ cs cs',eq W cs cs'→eq' W cs cs'):EqS K eq' W va vb:=by
 obtain ⟨n,a,b,ca,cb,h1,h2,h3,h4⟩:=h
 refine ⟨n,a,b,ca,cb,h1,h2,h3,?_⟩
 rcases h4 with h4 | ⟨pa,pb,e1,e2,l1,l2,h5⟩
 ·exact .inl h4
 ·exact .inr ⟨pa,pb,e1,e2,l1,l2,fun i hi=>by
   obtain ⟨cs,cs',k1,k2,k3,k4,k5⟩:=h5 i hi
   exact ⟨cs,cs',k1,k2,k3,k4,hq _ _ k5⟩⟩
theorem eqXs {W:World} {X X':Nat→Prop} {l:List Ex} {va vb:Value} (hs:LSX l) (h1:XL true W X va l) (h2:XL true W X' vb l):EqS 10 EqX W va vb:=by
 obtain ⟨d,h1⟩:=h1
 obtain ⟨d',h2⟩:=h2
 exact (eqX_of d d' l va vb hs h1 h2).imp fun _ _ h=>⟨d,h⟩
theorem eqT_of {W:World} {X X':Nat→Prop}:∀ (d d':Nat) (l:List Sm) (va vb:Value),LSS l→sL true d W X va l→sL true d' W X' vb l→EqS 9 (eqT d) W va vb
 | 0,_,_,_,_,_,h,_=>h.elim
 | _+1,0,_,_,_,_,_,h=>h.elim
 | d+1,d'+1,l,va,vb,hs,h1,h2=>eqS_of hs.len h1 h2 fun x hx cs cs' _ _ ⟨va,vb,ve,ln,e,p1,r1,r2,r3⟩ ⟨va',vb',ve',ln',e',p2,r1',r2',r3'⟩=>by
  obtain rfl:=mkAgg_inj e
  obtain rfl:=mkAgg_inj e'
  rw [p1 rfl,p2 rfl]
  exact ⟨_,_,_,_,_,_,va,va',vb,vb',ve,ve',rfl,rfl,eqXs (hs.args hx) r1 r1',eqT_of d d' x.body vb vb' (hs.body hx) r2 r2',eqT_of d d' x.els ve ve' (hs.els hx) r3 r3'⟩
theorem eqTs {W:World} {X X':Nat→Prop} {l:List Sm} {va vb:Value} (hs:LSS l) (h1:SL true W X va l) (h2:SL true W X' vb l):EqS 9 EqT W va vb:=by
 obtain ⟨d,h1⟩:=h1
 obtain ⟨d',h2⟩:=h2
 exact (eqT_of d d' l va vb hs h1 h2).imp fun _ _ h=>⟨d,h⟩
theorem eqStrs {W:World} {X X':Nat→Prop} {l:List (List UInt8)} {va vb:Value} (hn:l.length≤1000000) (h1:TxL W X va l) (h2:TxL W X' vb l):EqS 1 eqStr W va vb:=eqS_of hn h1 h2 fun x _ cs cs' n1 n2 a b=>by
 obtain ⟨c,rfl⟩:=one_of n1
 obtain ⟨c',rfl⟩:=one_of n2
 have e:c=.string (txt x):=a
 have e':c'=.string (txt x):=b
 subst e e'
 exact ⟨rfl,_,rfl⟩
theorem eqNums {W:World} {X X':Nat→Prop} {l:List (Nat × Nat)} {va vb:Value} (hn:l.length≤1000000) (h1:LtL W X va l) (h2:LtL W X' vb l):EqS 3 eqNum W va vb:=eqS_of hn h1 h2 fun x _ cs cs' _ _ a b=>by
 obtain rfl:=mkAgg_inj (cs':=[_,_,_]) a
 obtain rfl:=mkAgg_inj (cs':=[_,_,_]) b
 exact ⟨rfl,_,_,_,rfl⟩
theorem eqFlds {W:World} {X X':Nat→Prop} {l:List (List UInt8 × Nat)} {va vb:Value} (hn:l.length≤1000000) (h1:FdL W X va l) (h2:FdL W X' vb l):EqS 2 eqFld W va vb:=eqS_of hn h1 h2 fun x _ cs cs' _ _ a b=>by
 obtain rfl:=mkAgg_inj (cs':=[_,_]) a
 obtain rfl:=mkAgg_inj (cs':=[_,_]) b
 exact ⟨rfl,_,_,rfl⟩
theorem eqCass {W:World} {X X':Nat→Prop} {l:List Ck} {va vb:Value} (hn:l.length≤1000000) (h1:CkL W X va l) (h2:CkL W X' vb l):EqS 7 eqCas W va vb:=eqS_of hn h1 h2 fun x _ cs cs' _ _ a b=>by
 obtain rfl:=mkAgg_inj a
 obtain rfl:=mkAgg_inj b
 exact ⟨rfl,_,_,_,_,_,_,_,rfl⟩
theorem eqDs {W:World} {X X':Nat→Prop} {l:List Dc} {va vb:Value} (hn:l.length≤1000000) (hs:∀ x ∈ l,lsD x) (h1:ListT (dcV true) mkAgg 15 69 W X va l) (h2:ListT (dcV true) mkAgg 15 69 W X' vb l):EqS 15 EqD W va vb:=eqS_of hn h1 h2 fun x hx cs cs' _ _ ⟨f,s,k,a,g,b,e,ln,e1,p1,D⟩ ⟨f',s',k',a',g',b',e',ln',e2,p2,D'⟩=>by
 obtain rfl:=mkAgg_inj e1
 obtain rfl:=mkAgg_inj e2
 rw [p1 rfl,p2 rfl]
 have hd:=hs x hx
 refine ⟨_,_,_,_,_,_,_,_,f,f',s,s',k,k',a,a',g,g',b,b',e,e',rfl,rfl,eqFlds hd.f D.f D'.f,?_,?_,eqStrs hd.a D.a D'.a,eqNums hd.g D.g D'.g,eqTs hd.b D.b D'.b,eqStrs hd.e D.e D'.e⟩
 ·exact eqS_of hd.s D.s D'.s fun y hy cs cs' _ _ ⟨vh,vs,vc,ln,e1,p1,r1,r2,r3⟩ ⟨vh',vs',vc',ln',e2,p2,r1',r2',r3'⟩=>by
   obtain rfl:=mkAgg_inj e1
   obtain rfl:=mkAgg_inj e2
   rw [p1 rfl,p2 rfl]
   have ht:=hd.t y hy
   exact ⟨_,_,_,vh,vh',vs,vs',vc,vc',rfl,rfl,eqStrs ht.1 r1 r1',eqXs ht.2.1 r2 r2',eqCass ht.2.2 r3 r3'⟩
 ·exact eqS_of hd.k D.k D'.k fun y hy cs cs' _ _ ⟨va,ln,e1,p1,d,r1⟩ ⟨va',ln',e2,p2,d',r1'⟩=>by
   obtain rfl:=mkAgg_inj e1
   obtain rfl:=mkAgg_inj e2
   rw [p1 rfl,p2 rfl]
   exact ⟨_,_,_,rfl,rfl,d+1,_,_,_,_,_,_,_,_,_,va,va',rfl,rfl,eqX_of d d' y.1.args va va' (hd.y y hy) r1 r1'⟩
theorem same_bare {W:World} {X X':Nat→Prop} {l:List Dc} {va vb:Value} (hn:l.length≤1000000) (hs:∀ x ∈ l,lsD x) (h1:ListT (dcV true) mkAgg 15 69 W X va l) (h2:ListT (dcV true) mkAgg 15 69 W X' vb l) :
  Calls Tryz.prog 12 #[va,vb] W fun e w'=>e=.returned (.bool true)∧Below W.heap.size W w':=sameProg_ok W va vb (eqDs hn hs h1 h2)
theorem LQ.at {α:Type} {R:α→α→Prop}:∀ {l l':List α},LQ R l l'→l.length=l'.length∧∀ i (h:i < l.length) (h':i < l'.length),R l[i] l'[i]
 | [],[],_=>⟨rfl,fun i h _=>by simp at h⟩
 | x :: xs,y :: ys,h=>by
  obtain ⟨h1,h2⟩:=LQ.at h.2
  refine ⟨by simp [h1],fun i hi hi'=>?_⟩
  match i with
  | 0=>exact h.1
  | i+1=>exact h2 i (by simpa using hi) (by simpa using hi')
 | [],_ :: _,h=>h.elim
 | _ :: _,[],h=>h.elim
theorem ListT.lq {α:Type} {rep:Rep α} {mk:List Value→Value} {K e:Nat} {W:World} {X:Nat→Prop} {v:Value} {l l':List α} {R:α→α→Prop} (hq:LQ R l l') (hR:∀ a b,R a b→∀ v,rep W X v b→rep W X v a) (h:ListT rep mk K e W X v l'):ListT rep mk K e W X v l:=by
 obtain ⟨h1,h2⟩:=hq.at
 obtain ⟨g,c,cur,css,e1,p,q,n,k⟩:=h
 exact ⟨g,c,cur,css,by rw [h1];exact e1,p,q,⟨by omega,n.2.1,by omega,n.2.2.2⟩,fun i hi hi'=>⟨(k i hi (by omega)).1,(k i hi (by omega)).2.1,hR _ _ (h2 i hi' (by omega)) _ (k i hi (by omega)).2.2⟩⟩
def ZqX (a b:Ex):Prop:=∀ (d:Nat) (W:World) (X:Nat→Prop) (v:Value),exV true (xL true d) W X v b→exV true (xL true d) W X v a
def ZqS (a b:Sm):Prop:=∀ (d:Nat) (W:World) (X:Nat→Prop) (v:Value),smV true (sL true d) W X v b→smV true (sL true d) W X v a
def ZqT (a b:Ts):Prop:=∀ (W:World) (X:Nat→Prop) (v:Value),stV true W X v b→stV true W X v a
def ZqD (a b:Dc):Prop:=∀ (W:World) (X:Nat→Prop) (v:Value),dcV true W X v b→dcV true W X v a
theorem xL_q {l l':List Ex} (hq:LQ ZqX l l'):∀ {d:Nat} {W:World} {X:Nat→Prop} {v:Value},xL true d W X v l'→xL true d W X v l
 | 0,_,_,_,h=>h.elim
 | d+1,_,_,_,h=>ListT.lq hq (fun _ _ h v hv=>h d _ _ v hv) h
theorem XL_q {l l':List Ex} (hq:LQ ZqX l l') {W:World} {X:Nat→Prop} {v:Value} (h:XL true W X v l'):XL true W X v l:=by
 obtain ⟨d,h⟩:=h
 exact ⟨d,xL_q hq h⟩
theorem sL_q {l l':List Sm} (hq:LQ ZqS l l'):∀ {d:Nat} {W:World} {X:Nat→Prop} {v:Value},sL true d W X v l'→sL true d W X v l
 | 0,_,_,_,h=>h.elim
 | d+1,_,_,_,h=>ListT.lq hq (fun _ _ h v hv=>h d _ _ v hv) h
theorem SL_q {l l':List Sm} (hq:LQ ZqS l l') {W:World} {X:Nat→Prop} {v:Value} (h:SL true W X v l'):SL true W X v l:=by
 obtain ⟨d,h⟩:=h
 exact ⟨d,sL_q hq h⟩
theorem keV_q {a b:Ex × Nat} (h:ZqX a.1 b.1∧a.2=b.2) {W:World} {X:Nat→Prop} {v:Value} (hv:keV true W X v b):keV true W X v a:=by
 obtain ⟨va,ln,e,h1,d,h2⟩:=hv
 obtain ⟨va',ln',e',h1',h2'⟩:=h.1 d W X _ ⟨va,ln,rfl,h1,h2⟩
 refine ⟨va',ln',?_,h1',d,h2'⟩
 rw [e,mkAgg_inj e',h.2]
theorem dcV_ln {p:Bool} {W:World} {X:Nat→Prop} {v:Value} {x:Dc} (l:Nat):dcV p W X v (dcLn x l) ↔ dcV p W X v x :=
 ⟨fun ⟨vf,vs,vk,va,vg,vb,ve,ln,e,h1,D⟩=>⟨vf,vs,vk,va,vg,vb,ve,ln,e,h1,⟨D.f,D.s,D.k,D.a,D.g,D.b,D.e⟩⟩,fun ⟨vf,vs,vk,va,vg,vb,ve,ln,e,h1,D⟩=>⟨vf,vs,vk,va,vg,vb,ve,ln,e,h1,⟨D.f,D.s,D.k,D.a,D.g,D.b,D.e⟩⟩⟩
def Zq:Rels where
 x:=ZqX
 s:=ZqS
 t:=ZqT
 d:=ZqD
 xx:=fun _ _ _ _ _ h=>h
 ss:=fun _ _ _ _ _ h=>h
 tt:=fun _ _ _ _ h=>h
 dd:=fun _ _ _ _ h=>h
 hx:=fun _ _ _ _ _ _ _ _ _ _ _ hq _ _ _ _ ⟨va,ln,e,h1,h2⟩=>⟨va,ln,e,h1,xL_q hq h2⟩
 xl:=fun _ _ _ _ h d W X v hv=>h d W X v hv
 hs:=fun _ _ _ _ _ _ _ _ _ _ _ _ _ ha hb he _ _ _ _ ⟨va,vb,ve,ln,e,h1,h2,h3,h4⟩=>⟨va,vb,ve,ln,e,h1,XL_q ha h2,sL_q hb h3,sL_q he h4⟩
 sl:=fun _ _ _ _ h d W X v hv=>h d W X v hv
 ht:=fun _ _ _ _ _ _ _ _ hq _ _ _ ⟨vh,vs,vc,ln,e,h1,h2,h3,h4⟩=>⟨vh,vs,vc,ln,e,h1,h2,XL_q hq h3,h4⟩
 hd:=fun _ _ _ _ _ _ _ _ _ _ _ _ _ _ _ _ _ _ _ hs hk hb _ _ _ ⟨vf,vs,vk,va,vg,vb,ve,ln,e,h1,D⟩=>⟨vf,vs,vk,va,vg,vb,ve,ln,e,h1,⟨D.f,ListT.lq hs (fun _ _ h v hv=>h _ _ v hv) D.s,ListT.lq hk (fun _ _ h _ hv=>keV_q h hv) D.k,D.a,D.g,SL_q hb D.b,D.e⟩⟩
 dl:=fun _ _ l l' h W X v hv=>(dcV_ln l).2 (h W X v ((dcV_ln l').1 hv))
theorem prog_q {l l':List Dc} (hq:LQ ZqD l l') {W:World} {X:Nat→Prop} {v:Value} (h:ListT (dcV true) mkAgg 15 69 W X v l'):ListT (dcV true) mkAgg 15 69 W X v l:=ListT.lq hq (fun _ _ h v hv=>h _ _ v hv) h
theorem pcatch_idle (a b c d:Value) (w:World) :
  CallsD Tryz.prog 16 #[a,b,c,d] .returning w fun e u' w'=>e=.returned (.tuple #[])∧u'=.returning∧w'=w:=by
 refine callsD_of_wpS Tryz.func16 rfl fun c₀ cs hu=>?_
 apply wpS_seq
 apply wpS_region
 simp [wpOpsS,go_sem,recoverD,hu,Tryz.ntmps16,Exit.thenS]
 refine wpS_cond (t:=false) (by simp [Act.eval,Array.replicate]) ?_
 simp only [Bool.false_eq_true,if_false]
 refine wpS_of_wp (wp_skip ?_)
 cases c₀
 simp_all [bodyPostS,results,Tryz.results16]
set_option maxRecDepth 100000 in
set_option maxHeartbeats 4000000 in
theorem pcatch_panic {w:World} {p q:Nat} {L:List (Wd × Nat)} {k:Nat} {dm sm:Value} {b6 b2 b3 b4:Nat} {x2 x3 x4:Value} (h:Rp w w p q L k dm sm) (c6:w.heap[b6]? = some (.cells #[.pointer (some ⟨p,0,none⟩)] 53 (0,0))) (c2:w.heap[b2]? = some (.cells #[x2] 23 (0,0))) (c3:w.heap[b3]? = some (.cells #[x3] 3 (0,0))) (c4:w.heap[b4]? = some (.cells #[x4] 24 (0,0))) (n23:b2 ≠ b3) (n24:b2 ≠ b4) (n34:b3 ≠ b4) (older:List PanicEntry) :
  CallsD Tryz.prog 16 #[.pointer (some ⟨b6,0,none⟩),.pointer (some ⟨b2,0,none⟩),.pointer (some ⟨b3,0,none⟩),.pointer (some ⟨b4,0,none⟩)] (.panicking ({ v:=.iface 150 (.agg #[]),recovered:=false } :: older)) w fun e u' w' =>
   e=.returned (.tuple #[])∧u'=.panicking ({ v:=.iface 150 (.agg #[]),recovered:=true } :: older)∧∃ w1,Below w.heap.size w w1∧w'=((w1.setCell ⟨b2,0,none⟩ (.slice none 0 0)).setCell ⟨b3,0,none⟩ (.int .i64 (lineP L k:Int))).setCell ⟨b4,0,none⟩ (.int .i64 5):=by
 have g6:=cellA c6 0
 have HA:=hide (aheadL h)
 have HB2:Hid (∀ W,Below w.heap.size w W→W.heap[b2]? = some (.cells #[x2] 23 (0,0))):=fun W hb=>(hb.block b2 (Array.getElem?_eq_some_iff.1 c2).1).trans c2
 have HB3:Hid (∀ W,Below w.heap.size w W→W.heap[b3]? = some (.cells #[x3] 3 (0,0))):=fun W hb=>(hb.block b3 (Array.getElem?_eq_some_iff.1 c3).1).trans c3
 have HB4:Hid (∀ W,Below w.heap.size w W→W.heap[b4]? = some (.cells #[x4] 24 (0,0))):=fun W hb=>(hb.block b4 (Array.getElem?_eq_some_iff.1 c4).1).trans c4
 obtain ⟨x,hx,_⟩:=h.word
 have HAh:=hide (ahead_any h hx)
 have HLN:Hid ((x.2:Int)=(lineP L k:Int)):=by unfold Hid lineP;rw [hx]
 unfold wdV at HAh
 obtain ⟨_,_,_,fl⟩:=fldW (.int .u8 (x.1.k:Int)) (.string (txt x.1.s)) (.int .i64 (x.1.w:Int)) (.int .u64 (wHi x.1.v)) (.int .u64 (wLo x.1.v)) (.int .i64 (x.2:Int))
 rw [← HLN.out]
 generalize (x.2:Int)=ln at *
 generalize txt x.1.s=a1 at *
 clear h c2 c3 c4 hx HA c6
 refine callsD_of_wpS Tryz.func16 rfl fun c₀ cs hu=>?_
 apply wpS_seq
 apply wpS_region
 simp [wpOpsS,go_sem,recoverD,hu,Tryz.ntmps16,Exit.thenS]
 refine wpS_cond (t:=true) (by simp [Act.eval,Array.replicate]) ?_
 simp only [if_true]
 refine wpS_of_wp ?_
 go_wp2_with fail
 refine HAh.out.mono ?_
 rintro e w1 ⟨rfl,hb⟩
 have g2:=cellA (HB2.out _ hb) 0;have s2:=softA (HB2.out _ hb) 0
 have g3:=cellA (HB3.out _ hb) 0;have s3:=softA (HB3.out _ hb) 0
 have g4:=cellA (HB4.out _ hb) 0;have s4:=softA (HB4.out _ hb) 0
 have HBB:=hide hb
 clear hb
 go_wp2
 simp [bodyPostS,results,Tryz.results16]
 exact ⟨w1,HBB.out,rfl⟩
theorem okL_toks {s:List UInt8} {xs:List (Wd × Nat)} (h:toks s=.ok xs):OkL (xs ++ [endW xs]):=by
 have hg:=(toks_good h).1
 have hll:(xs ++ [endW xs]).length=xs.length+1:=by simp
 refine ⟨fun i hi=>?_,fun i hi he=>?_,fun i hi=>?_⟩
 ·have hi':i < xs.length:=by omega
  rw [List.getElem_append_left hi']
  rcases hg _ (List.getElem_mem hi') with ⟨c,l,e,_⟩ | ⟨n,e,hn⟩ | ⟨n,v,e,_⟩ | ⟨j,_,e⟩ <;> rw [e]
  ·exact ⟨by simp,fun h=>by simp at h⟩
  ·exact ⟨by simp,fun _=>by simp only;omega⟩
  ·exact ⟨by simp,fun h=>by simp at h⟩
  ·exact ⟨by simp,fun h=>by simp at h⟩
 ·have hi':i=xs.length:=by omega
  subst hi'
  simp [endW]
 ·by_cases hi':i < xs.length
  ·rw [List.getElem_append_left hi']
   rcases hg _ (List.getElem_mem hi') with ⟨c,l,e,_⟩ | ⟨n,e,hn⟩ | ⟨n,v,e,ho⟩ | ⟨j,_,e⟩ <;> rw [e]
   ·simp
   ·simp
   ·unfold okN mayBe at ho
    simp at ho
    simp only
    omega
   ·simp
  ·have hi2:i=xs.length:=by omega
   subst hi2
   simp [endW]
def ParsePost (s:List UInt8) (w:World) (e:Ending) (w':World):Prop:=Below w.heap.size w w'∧match parseL s with
 | .error x=>e=.returned (.tuple #[.slice none 0 0,.int .i64 (x.1:Int),.int .i64 (x.2:Int)])
 | .ok ds=>∃ v,e=.returned (.tuple #[v,.int .i64 0,.int .i64 0])∧ListR DeclR mkAgg 15 w' (Bn w w') v ds
structure Res3 (w W:World) (a b c:Value):Prop where
 bl:Below w.heap.size w W
 c2:W.heap[w.heap.size]? = some (.cells #[a] 23 (0,0))
 c3:W.heap[w.heap.size+1]? = some (.cells #[b] 3 (0,0))
 c4:W.heap[w.heap.size+2]? = some (.cells #[c] 24 (0,0))
theorem Res3.start (w:World):Res3 w (((w.alloc (.cells #[.slice none 0 0] 23)).alloc (.cells #[.int .i64 0] 3)).alloc (.cells #[.int .i64 0] 24)) (.slice none 0 0) (.int .i64 0) (.int .i64 0):=by
 have s1:∀ (V:World) o,(V.alloc o).heap.size=V.heap.size+1:=fun V o=>World.size_alloc V o
 refine ⟨(((Below.refl _ _).alloc (Nat.le_refl _) _).alloc (by rw [s1];omega) _).alloc (by rw [s1,s1];omega) _,?_,?_,?_⟩
 ·rw [heap_alloc_old _ _ (by rw [s1,s1];omega),heap_alloc_old _ _ (by rw [s1];omega)];exact heap_alloc_new w _
 ·rw [heap_alloc_old _ _ (by rw [s1,s1];omega)]
  have:=heap_alloc_new (w.alloc (.cells #[.slice none 0 0] 23)) (.cells #[.int .i64 0] 3)
  rw [s1] at this;exact this
 ·have:=heap_alloc_new ((w.alloc (.cells #[.slice none 0 0] 23)).alloc (.cells #[.int .i64 0] 3)) (.cells #[.int .i64 0] 24)
  rw [s1,s1] at this;exact this
theorem Res3.next {w W W':World} {a b c:Value} (h:Res3 w W a b c) (hb:Below W.heap.size W W'):Res3 w W' a b c :=
 ⟨h.bl.trans (hb.mono h.bl.size),(hb.block _ (Array.getElem?_eq_some_iff.1 h.c2).1).trans h.c2,(hb.block _ (Array.getElem?_eq_some_iff.1 h.c3).1).trans h.c3,(hb.block _ (Array.getElem?_eq_some_iff.1 h.c4).1).trans h.c4⟩
theorem Res3.nextB {w W W':World} {a b c:Value} {B:Nat} (h:Res3 w W a b c) (hb:Below B W W') (hB:w.heap.size+3≤B):Res3 w W' a b c :=
 ⟨h.bl.trans (hb.mono (by omega)),(hb.block _ (by omega)).trans h.c2,(hb.block _ (by omega)).trans h.c3,(hb.block _ (by omega)).trans h.c4⟩
theorem Res3.fr {w W W':World} {a b c:Value} {p:Nat} (h:Res3 w W a b c) (hf:Fr (·=p) W W') (hp:w.heap.size+3≤p):Res3 w W' a b c :=
 ⟨h.bl.trans (hf.below (fun b e=>by have e':b=p:=e;omega) h.bl.size),(hf.block _ (Array.getElem?_eq_some_iff.1 h.c2).1 (fun e=>by have e':w.heap.size=p:=e;omega)).trans h.c2,(hf.block _ (Array.getElem?_eq_some_iff.1 h.c3).1 (fun e=>by have e':w.heap.size+1=p:=e;omega)).trans h.c3,(hf.block _ (Array.getElem?_eq_some_iff.1 h.c4).1 (fun e=>by have e':w.heap.size+2=p:=e;omega)).trans h.c4⟩
theorem Res3.set2 {w W:World} {a b c:Value} (h:Res3 w W a b c) (x:Value):Res3 w (W.setCell ⟨w.heap.size,0,none⟩ x) x b c :=
 ⟨h.bl.setCell (Nat.le_refl _) _,heap_setCell_same h.c2 x,(heap_set_other (by omega)).trans h.c3,(heap_set_other (by omega)).trans h.c4⟩
theorem Res3.set3 {w W:World} {a b c:Value} (h:Res3 w W a b c) (x:Value):Res3 w (W.setCell ⟨w.heap.size+1,0,none⟩ x) a x c :=
 ⟨h.bl.setCell (by simp) _,(heap_set_other (by omega)).trans h.c2,heap_setCell_same h.c3 x,(heap_set_other (by omega)).trans h.c4⟩
theorem Res3.set4 {w W:World} {a b c:Value} (h:Res3 w W a b c) (x:Value):Res3 w (W.setCell ⟨w.heap.size+2,0,none⟩ x) a b x :=
 ⟨h.bl.setCell (by simp) _,(heap_set_other (by omega)).trans h.c2,(heap_set_other (by omega)).trans h.c3,heap_setCell_same h.c4 x⟩
set_option maxRecDepth 100000 in
set_option maxHeartbeats 4000000 in
theorem parse_lexErr {s:List UInt8} {T:ByteArray} {w:World} {ln er:Nat} (hp:parseL s=.error (ln,er)) (hne:er ≠ 0) (HW:∀ W,Ls W→Calls Tryz.prog 9 #[.string T] W fun e w'=>e=.returned (.tuple #[.slice none 0 0,.int .i64 (ln:Int),.int .i64 (er:Int)])∧Below W.heap.size W w') (hLs:Ls w) :
  Calls Tryz.prog 8 #[.string T] w fun e w'=>ParsePost s w e w':=by
 have hs0:=Res3.start w
 have HL0:=hide (hLs.below hs0.bl)
 have HS0:=hide hs0
 have HWk:=hide (HW _ HL0.out)
 have HP:=hide hp
 have h0:((er:Int) == 0)=false:=beq_eq_false_iff_ne.2 (fun e=>hne (by omega))
 have HE:Hid (∀ W,Res3 w W (.slice none 0 0) (.int .i64 (ln:Int)) (.int .i64 (er:Int))→ParsePost s w (.returned (.tuple #[.slice none 0 0,.int .i64 (ln:Int),.int .i64 (er:Int)])) W):=fun W h=>⟨h.bl,by rw [hp]⟩
 generalize (ln:Int)=A at *
 generalize (er:Int)=E at *
 clear hs0 hLs HW hp hne
 go_enter_defers Tryz.func8,Tryz.ntmps8
 go_wp2_with fail
 refine HWk.out.mono ?_
 rintro e w1 ⟨rfl,hb⟩
 have S1:=hide (HS0.out.next hb)
 have S3:=hide ((S1.out.set3 (.int .i64 A)).set4 (.int .i64 E))
 have g3:=cellA S1.out.c3 0;have f3:=softA S1.out.c3 0
 have g4:=cellA S1.out.c4 0;have f4:=softA S1.out.c4 0
 have i2:=cellA S3.out.c2 0;have k2:=softA S3.out.c2 0
 have i3:=cellA S3.out.c3 0;have k3:=softA S3.out.c3 0
 have i4:=cellA S3.out.c4 0;have k4:=softA S3.out.c4 0
 clear hb
 go_wp2
 generalize (w1.setCell ⟨w.heap.size+1,0,none⟩ (.int .i64 A)).setCell ⟨w.heap.size+1+1,0,none⟩ (.int .i64 E)=w2 at *
 clear g3 f3 g4 f4 S1
 go_region
 all_goals
  go_wp2
  have SF:=(((S3.out.set2 (.slice none 0 0)).set3 (.int .i64 A)).set4 (.int .i64 E)).next (Below.refl _ _).drew
  have q2:=cellA SF.c2 0;have q3:=cellA SF.c3 0;have q4:=cellA SF.c4 0
  exact ⟨.tuple #[.slice none 0 0,.int .i64 A,.int .i64 E],by simp [results,Tryz.results8,go_sem,q2,q3,q4],HE.out _ SF⟩
set_option maxRecDepth 100000 in
set_option maxHeartbeats 8000000 in
theorem parse_words {s:List UInt8} {T:ByteArray} {w:World} {xs:List (Wd × Nat)} {bt:Nat} (hl:s.length≤65536) (ht:toks s=.ok xs) (hLs:Ls w) (hTw:Tws w bt)
  (HW:∀ W,Ls W→Calls Tryz.prog 9 #[.string T] W fun e w'=>∃ v,e=.returned (.tuple #[v,.int .i64 0,.int .i64 0])∧OwnW w' W.heap.size v xs∧xs.length≤65536∧Below W.heap.size W w') :
  Calls Tryz.prog 8 #[.string T] w fun e w'=>ParsePost s w e w':=by
 have hmf:∀ (fn:Fn) (first cap:Array Value) (w:World),(Instr.makeFunc fn first cap).run Tryz.prog w=.ok (.func fn first cap) w:=fun _ _ _ _=>rfl
 have hs0:=Res3.start w
 have HS0:=hide hs0
 have HWk:=hide (HW _ (hLs.below hs0.bl))
 have HL:=hide (okL_toks ht)
 have HTw:=hide hTw
 have HP:Hid (parseL s=match progA (xs ++ [endW xs]) 0 with
  | .error k=>.error (lineP (xs ++ [endW xs]) k,5)
  | .ok (ds,_)=>if limT ds then .error (0,3) else .ok ds):=by unfold Hid parseL;rw [if_neg (by omega),ht];rfl
 have HE:Hid (∀ (x:Nat × Nat),parseL s=.error x→∀ W,Res3 w W (.slice none 0 0) (.int .i64 (x.1:Int)) (.int .i64 (x.2:Int))→ParsePost s w (.returned (.tuple #[.slice none 0 0,.int .i64 (x.1:Int),.int .i64 (x.2:Int)])) W):=fun x hx W h=>⟨h.bl,by rw [hx]⟩
 have HZ:Hid (w.heap.size+3≤(((w.alloc (.cells #[.slice none 0 0] 23)).alloc (.cells #[.int .i64 0] 3)).alloc (.cells #[.int .i64 0] 24)).heap.size):=by unfold Hid;rw [World.size_alloc,World.size_alloc,World.size_alloc];omega
 clear hs0 hLs HW hTw hl ht
 go_enter_defers Tryz.func8,Tryz.ntmps8
 go_wp2_with fail
 refine HWk.out.mono ?_
 generalize (((w.alloc (.cells #[.slice none 0 0] 23)).alloc (.cells #[.int .i64 0] 3)).alloc (.cells #[.int .i64 0] 24))=W0 at *
 rintro e w1 ⟨v,rfl,ho,hxl,hb⟩
 have S1:=hide (HS0.out.next hb)
 have S3:=hide ((S1.out.set3 (.int .i64 0)).set4 (.int .i64 0))
 have g3:=cellA S1.out.c3 0;have f3:=softA S1.out.c3 0
 have g4:=cellA S1.out.c4 0;have f4:=softA S1.out.c4 0
 have i4:=cellA S3.out.c4 0
 have hf34:Fr (fun b=>b=w.heap.size+1 ∨ b=w.heap.size+2) w1 ((w1.setCell ⟨w.heap.size+1,0,none⟩ (.int .i64 0)).setCell ⟨w.heap.size+2,0,none⟩ (.int .i64 0)):=((Fr.refl _ w1).set _ _ (.inl rfl)).set _ _ (.inr rfl)
 have HO3:Hid (OwnW ((w1.setCell ⟨w.heap.size+1,0,none⟩ (.int .i64 0)).setCell ⟨w.heap.size+2,0,none⟩ (.int .i64 0)) W0.heap.size v xs):=ownR_fr ho hf34 (fun b hb e=>by have:=(World.ownsRow.lt ho b hb).1;have:=HZ.out;omega)
 have HZ3:Hid (W0.heap.size≤((w1.setCell ⟨w.heap.size+1,0,none⟩ (.int .i64 0)).setCell ⟨w.heap.size+2,0,none⟩ (.int .i64 0)).heap.size):=Nat.le_trans hb.size hf34.size
 have HXL:=hide hxl
 have HRf:=hide (readerOf_any HO3.out HZ3.out HXL.out)
 clear hb ho hf34 hxl HWk HS0 S1
 go_wp2_with fail
 refine HRf.out.mono ?_
 generalize ((w1.setCell ⟨w.heap.size+1,0,none⟩ (.int .i64 0)).setCell ⟨w.heap.size+2,0,none⟩ (.int .i64 0))=X3 at *
 clear g3 f3 g4 f4 i4 HRf HO3
 rintro e w5 ⟨p,q,db,sb,rfl,hrp,hdb,hsb,hnd,hns,hpB,hqB,hdB,hsB,hbl⟩
 have S5:=hide (S3.out.nextB hbl HZ.out)
 have hB6:=(Below.refl w5.heap.size w5).alloc (Nat.le_refl _) (.cells #[.pointer (some ⟨p,0,none⟩)] 53)
 have S6:=hide (S5.out.next hB6)
 have R6:=hide (hrp.next hB6).here
 have C6:=hide (heap_alloc_new w5 (.cells #[.pointer (some ⟨p,0,none⟩)] 53))
 have HI6:Hid (I0 bt p db sb (w5.alloc (.cells #[.pointer (some ⟨p,0,none⟩)] 53))):=⟨⟨HTw.out.fr (E:=fun _=>False) (Fr.ofBelow S6.out.bl) (fun e=>e) (fun e=>e),by have:=HTw.out.gl;have:=HZ.out;omega,by have:=HTw.out.bl;have:=HZ.out;omega⟩,(hB6.block db (Array.getElem?_eq_some_iff.1 hdb).1).trans hdb,(hB6.block sb (Array.getElem?_eq_some_iff.1 hsb).1).trans hsb,hnd,hns⟩
 have HPp:Hid (w.heap.size+3≤p):=Nat.le_trans HZ.out hpB
 have HPl:Hid (p < w5.heap.size):=hrp.pl
 have HPg:=hide (program_any HL.out _ 0 (Nat.zero_le _) R6.out HI6.out)
 have HZ5:Hid (w.heap.size+3≤w5.heap.size):=Nat.le_trans HPp.out (Nat.le_of_lt hrp.pl)
 clear hrp hdb hsb hnd hns hpB hqB hdB hsB hbl hB6 S5 S3 HZ3
 go_wp2_with fail
 refine HPg.out.mono ?_
 rintro e w7 (⟨ds,k7,v7,h7,rfl,hv,hr⟩ | ⟨k7,h7,rfl,hr⟩)
 ·obtain ⟨s7,n7,c7,rfl⟩:=ListR.form hv
  have S7:=hide (S6.out.fr hr.fr HPp.out)
  have S8:=hide (S7.out.set2 (.slice s7 n7 c7))
  have hz6:w.heap.size < w5.heap.size:=by have:=HZ5.out;omega
  have hf8:Fr (·=w.heap.size) w7 (w7.setCell ⟨w.heap.size,0,none⟩ (.slice s7 n7 c7)):=(Fr.refl _ w7).set _ _ rfl
  have HL8:=hide ((ListR.ok declR_ok mkAgg 15).frame hv hf8.size (fun b hb hl=>hf8.block b hl (fun e=>by have e':b=w.heap.size:=e;have:=hb.1;rw [World.size_alloc] at this;omega)))
  have HAb:=hide (above_ok HL8.out (fun h=>by have:=h.2;simp [World.setCell] at this))
  have HB8:Hid (∀ b,Bn (w5.alloc (.cells #[.pointer (some ⟨p,0,none⟩)] 53)) w7 b→w.heap.size+3≤b∧b < w7.heap.size):=fun b hb=>⟨by have:=hb.1;rw [World.size_alloc] at this;have:=HZ5.out;omega,hb.2⟩
  have g2:=cellA S7.out.c2 0;have f2:=softA S7.out.c2 0
  have i2:=cellA S8.out.c2 0
  have H7:=hide h7
  have HV8:Hid (w7.heap.size≤(w7.setCell ⟨w.heap.size,0,none⟩ (.slice s7 n7 c7)).heap.size):=hf8.size
  clear hv hr h7 HPg hf8 hz6
  go_wp2_with fail
  refine HAb.out.mono ?_
  generalize w7.setCell ⟨w.heap.size,0,none⟩ (.slice s7 n7 c7)=X8 at *
  rintro e w9 ⟨rfl,hb⟩
  have S9:=hide (S8.out.next hb)
  have HL9:=hide ((ListR.ok declR_ok mkAgg 15).frame HL8.out hb.size (fun b hb2 hl=>hb.block b hl))
  have j2:=cellA S9.out.c2 0;have m2:=softA S9.out.c2 0
  have j3:=cellA S9.out.c3 0;have m3:=softA S9.out.c3 0
  have j4:=cellA S9.out.c4 0;have m4:=softA S9.out.c4 0
  have HV9:Hid (w7.heap.size≤w9.heap.size):=Nat.le_trans HV8.out hb.size
  clear hb g2 f2 i2 HAb HL8
  cases hlim:limT ds with
  | true =>
   have HPe:Hid (parseL s=.error (0,3)):=by unfold Hid;rw [HP.out,H7.out];simp only;rw [hlim,if_pos rfl]
   clear hlim
   go_wp2
   refine leaves_cons (f:=16) (args:=#[.pointer (some ⟨w5.heap.size,0,none⟩),.pointer (some ⟨w.heap.size,0,none⟩),.pointer (some ⟨w.heap.size+1,0,none⟩),.pointer (some ⟨w.heap.size+1+1,0,none⟩)]) (by simp) (by simp [go_sem]) ?_
   refine (pcatch_idle _ _ _ _ _).mono ?_
   rintro e u' w10 ⟨rfl,rfl,rfl⟩
   have SF:=((S9.out.set2 (.slice none 0 0)).set3 (.int .i64 0)).set4 (.int .i64 3)
   have q2:=cellA SF.c2 0;have q3:=cellA SF.c3 0;have q4:=cellA SF.c4 0
   exact ⟨.tuple #[.slice none 0 0,.int .i64 0,.int .i64 3],by simp [results,Tryz.results8,go_sem,q2,q3,q4],HE.out _ HPe.out _ SF⟩
  | false =>
   have HPe:Hid (parseL s=.ok ds):=by unfold Hid;rw [HP.out,H7.out];simp only;rw [hlim,if_neg (by decide)]
   clear hlim
   go_wp2
   refine leaves_cons (f:=16) (args:=#[.pointer (some ⟨w5.heap.size,0,none⟩),.pointer (some ⟨w.heap.size,0,none⟩),.pointer (some ⟨w.heap.size+1,0,none⟩),.pointer (some ⟨w.heap.size+1+1,0,none⟩)]) (by simp) (by simp [go_sem]) ?_
   refine (pcatch_idle _ _ _ _ _).mono ?_
   rintro e u' w10 ⟨rfl,rfl,rfl⟩
   have SF:=((S9.out.set2 (.slice s7 n7 c7)).set3 (.int .i64 0)).set4 (.int .i64 0)
   have q2:=cellA SF.c2 0;have q3:=cellA SF.c3 0;have q4:=cellA SF.c4 0
   have hfF:Fr (fun b=>b=w.heap.size ∨ b=w.heap.size+1 ∨ b=w.heap.size+2) w9 (((w9.setCell ⟨w.heap.size,0,none⟩ (.slice s7 n7 c7)).setCell ⟨w.heap.size+1,0,none⟩ (.int .i64 0)).setCell ⟨w.heap.size+2,0,none⟩ (.int .i64 0)):=(((Fr.refl _ w9).set _ _ (.inl rfl)).set _ _ (.inr (.inl rfl))).set _ _ (.inr (.inr rfl))
   have hLF:=(ListR.ok declR_ok mkAgg 15).frame HL9.out hfF.size (fun b hb hl=>hfF.block b hl (fun e=>by have:=(HB8.out b hb).1;omega))
   refine ⟨.tuple #[.slice s7 n7 c7,.int .i64 0,.int .i64 0],by simp [results,Tryz.results8,go_sem,q2,q3,q4],SF.bl,?_⟩
   rw [HPe.out]
   exact ⟨_,rfl,(ListR.ok declR_ok mkAgg 15).mono hLF (fun b hb=>⟨by have:=(HB8.out b hb).1;omega,Nat.lt_of_lt_of_le (HB8.out b hb).2 (Nat.le_trans HV9.out hfF.size)⟩)⟩
 ·have S7:=hide (S6.out.fr hr.fr HPp.out)
  have C7:=hide ((hr.fr.block w5.heap.size (by rw [World.size_alloc];omega) (fun e=>by have e':w5.heap.size=p:=e;have:=HPl.out;omega)).trans C6.out)
  have R7:=hide hr.here
  have HPe:Hid (parseL s=.error (lineP (xs ++ [endW xs]) k7,5)):=by unfold Hid;rw [HP.out,h7]
  clear hr h7 HPg
  go_wp2
  refine leaves_cons (f:=16) (args:=#[.pointer (some ⟨w5.heap.size,0,none⟩),.pointer (some ⟨w.heap.size,0,none⟩),.pointer (some ⟨w.heap.size+1,0,none⟩),.pointer (some ⟨w.heap.size+1+1,0,none⟩)]) (by simp) (by simp [go_sem]) ?_
  refine (pcatch_panic R7.out C7.out S7.out.c2 S7.out.c3 S7.out.c4 (by omega) (by omega) (by omega) []).mono ?_
  rintro e u' w10 ⟨rfl,rfl,w8,hb8,rfl⟩
  have S8:=S7.out.next hb8
  have SF:=((S8.set2 (.slice none 0 0)).set3 (.int .i64 (lineP (xs ++ [endW xs]) k7:Int))).set4 (.int .i64 5)
  have q2:=cellA SF.c2 0;have q3:=cellA SF.c3 0;have q4:=cellA SF.c4 0
  exact ⟨.tuple #[.slice none 0 0,.int .i64 (lineP (xs ++ [endW xs]) k7:Int),.int .i64 5],by simp [results,Tryz.results8,go_sem,q2,q3,q4],HE.out _ HPe.out _ SF⟩
theorem pparse_any (s:List UInt8) (w:World) {bt:Nat} (hLs:Ls w) (hTw:Tws w bt) (hmx:s.length≤9223372036854775807) (T:ByteArray) (hT:T=txt s):Calls Tryz.prog 8 #[.string T] w fun e w'=>ParsePost s w e w':=by
 by_cases hl:s.length≤65536
 ·cases ht:toks s with
  | error k =>
   refine parse_lexErr (ln:=k) (er:=4) (by unfold parseL;rw [if_neg (by omega),ht]) (by decide) (fun W hW=>?_) hLs
   subst hT
   refine (words_any s W hW hmx).mono ?_
   rintro e w' ⟨hb,⟨h1,_⟩ | ⟨_,⟨j,h1,h2⟩ | ⟨ys,v,h1,_⟩⟩⟩
   ·omega
   ·rw [ht] at h1;injection h1 with h1;subst h1;exact ⟨h2,hb⟩
   ·rw [ht] at h1;cases h1
  | ok xs =>
   refine parse_words hl ht hLs hTw (fun W hW=>?_)
   subst hT
   refine (words_any s W hW hmx).mono ?_
   rintro e w' ⟨hb,⟨h1,_⟩ | ⟨_,⟨j,h1,h2⟩ | ⟨ys,v,h1,h2,h3,h4⟩⟩⟩
   ·omega
   ·rw [ht] at h1;cases h1
   ·rw [ht] at h1;injection h1 with h1;subst h1;exact ⟨v,h4,h3,h2,hb⟩
 ·refine parse_lexErr (ln:=0) (er:=3) (by unfold parseL;rw [if_pos (by omega)]) (by decide) (fun W hW=>?_) hLs
  subst hT
  refine (words_any s W hW hmx).mono ?_
  rintro e w' ⟨hb,⟨_,h2⟩ | ⟨h1,_⟩⟩
  ·exact ⟨h2,hb⟩
  ·omega
theorem parseL_words {s:List UInt8} {ds:List Dc} (h:parseL s=.ok ds):s.length≤65536∧∃ xs k,toks s=.ok xs∧progA (Lx xs) 0=.ok (ds,k)∧limT ds=false:=by
 unfold parseL at h
 split at h
 ·cases h
 ·rename_i hl
  refine ⟨by omega,?_⟩
  split at h
  ·cases h
  ·rename_i xs hx
   split at h
   ·cases h
   ·rename_i ys k1 hp
    split at h
    ·cases h
    ·rename_i hlim
     cases h
     exact ⟨xs,k1,hx,hp,by simpa using hlim⟩
theorem parse_yes {s:List UInt8} {ds:List Dc} (h:parseL s=.ok ds) (T:ByteArray) (hT:T=txt s) (W:World) {bt:Nat} (hLs:Ls W) (hTw:Tws W bt):Calls Tryz.prog 8 #[.string T] W fun e w'=>∃ v,e=.returned (.tuple #[v,.int .i64 0,.int .i64 0])∧ListR DeclR mkAgg 15 w' (Bn W w') v ds∧Below W.heap.size W w':=by
 have hl:s.length≤65536:=(parseL_words h).1
 refine (pparse_any s W hLs hTw (by omega) T hT).mono ?_
 rintro e w' ⟨hb,hr⟩
 rw [h] at hr
 obtain ⟨v,h1,h2⟩:=hr
 exact ⟨v,h1,h2,hb⟩
end Go.Proofs.YtabkimknlifdoaaGreatDoor
