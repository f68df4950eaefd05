/- Pieces of the proof: PJd, LBm, LNm, PaEv, PaAl, PaAv, PLw, PLx, PJw, PBw, PJx. -/
import Derived.Test.YtabkimknlifdoaaGreatDoorJ42
import Derived.Maps.AppendAt
import Derived.Test.YtabkimknlifdoaaGreatDoorJ39
import Derived.Test.YtabkimknlifdoaaGreatDoorJ15
import Derived.Test.YtabkimknlifdoaaGreatDoorJ43
import Derived.Test.YtabkimknlifdoaaGreatDoorJ40
namespace Go.Proofs.YtabkimknlifdoaaGreatDoor
open Go.RowKit
structure TyOk {α:Type} (e0:Nat) (R:Rep α):Prop where
 t:∀ {W W':World} {X:Nat→Prop} {v:Value} {x:α},R W X v x→(∀ b,X b→b < W.heap.size→(∀ cur f,W.heap[b]? ≠ some (.cells cur e0 f))→W'.heap[b]? = W.heap[b]?)→R W' X v x
theorem ListT.ty {α:Type} {rep:Rep α} {mk:List Value→Value} {K e e0:Nat} (he:e ≠ e0) (hr:TyOk e0 rep):TyOk e0 (ListT rep mk K e):=⟨fun ⟨g,c,cur,css,h1,h2,h3,h4,h5⟩ hf =>
 ⟨g,c,cur,css,h1,h2,(hf g h2 (Array.getElem?_eq_some_iff.1 h3).1 (fun cur' f e'=>by rw [h3] at e';injection e' with e';injection e' with _ e';exact he e')).trans h3,h4,fun i h h'=>⟨(h5 i h h').1,(h5 i h h').2.1,hr.t (h5 i h h').2.2 hf⟩⟩⟩
theorem exV_ty {p:Bool} {e0:Nat} {R:Rep (List Ex)} (hR:TyOk e0 R):TyOk e0 (exV p R):=⟨fun ⟨va,ln,e,h1,h2⟩ hf=>⟨va,ln,e,h1,hR.t h2 hf⟩⟩
theorem xL_ty (p:Bool):∀ d,TyOk 69 (xL p d)
 | 0=>⟨fun h _=>h.elim⟩
 | d+1=>ListT.ty (by decide) (exV_ty (xL_ty p d))
theorem XL_ty (p:Bool):TyOk 69 (XL p):=⟨fun ⟨d,h⟩ hf=>⟨d,(xL_ty p d).t h hf⟩⟩
theorem smV_ty {p:Bool} {R:Rep (List Sm)} (hR:TyOk 69 R):TyOk 69 (smV p R):=⟨fun ⟨va,vb,ve,ln,e,h1,h2,h3,h4⟩ hf=>⟨va,vb,ve,ln,e,h1,(XL_ty p).t h2 hf,hR.t h3 hf,hR.t h4 hf⟩⟩
theorem sL_ty (p:Bool):∀ d,TyOk 69 (sL p d)
 | 0=>⟨fun h _=>h.elim⟩
 | d+1=>ListT.ty (by decide) (smV_ty (sL_ty p d))
theorem SL_ty (p:Bool):TyOk 69 (SL p):=⟨fun ⟨d,h⟩ hf=>⟨d,(sL_ty p d).t h hf⟩⟩
theorem TxL_ty:TyOk 69 TxL:=ListT.ty (by decide) ⟨fun h _=>h⟩
theorem LtL_ty:TyOk 69 LtL:=ListT.ty (by decide) ⟨fun h _=>h⟩
theorem FdL_ty:TyOk 69 FdL:=ListT.ty (by decide) ⟨fun h _=>h⟩
theorem CkL_ty:TyOk 69 CkL:=ListT.ty (by decide) ⟨fun h _=>h⟩
theorem stV_ty (p:Bool):TyOk 69 (stV p):=⟨fun ⟨vh,vs,vc,ln,e,h1,h2,h3,h4⟩ hf=>⟨vh,vs,vc,ln,e,h1,TxL_ty.t h2 hf,(XL_ty p).t h3 hf,CkL_ty.t h4 hf⟩⟩
theorem keV_ty (p:Bool):TyOk 69 (keV p):=⟨fun ⟨va,ln,e,h1,h2⟩ hf=>⟨va,ln,e,h1,(XL_ty p).t h2 hf⟩⟩
theorem stL_ty (p:Bool):TyOk 69 (ListT (stV p) mkAgg 6 79):=ListT.ty (by decide) (stV_ty p)
theorem keL_ty (p:Bool):TyOk 69 (ListT (keV p) mkAgg 11 85):=ListT.ty (by decide) (keV_ty p)
theorem dcV_ty (p:Bool):TyOk 69 (dcV p):=⟨fun ⟨vf,vs,vk,va,vg,vb,ve,ln,e,h1,D⟩ hf=>⟨vf,vs,vk,va,vg,vb,ve,ln,e,h1,⟨FdL_ty.t D.f hf,(stL_ty p).t D.s hf,(keL_ty p).t D.k hf,TxL_ty.t D.a hf,LtL_ty.t D.g hf,(SL_ty p).t D.b hf,TxL_ty.t D.e hf⟩⟩⟩
theorem dcV_one {p:Bool} {W:World} {X:Nat→Prop} {cs:List Value} {x:Dc} (h:dcV p W X (mkAgg cs) x):∀ u ∈ cs,u.oneCell'=true:=by
 obtain ⟨vf,vs,vk,va,vg,vb,ve,ln,e,h1,D⟩:=h
 obtain rfl:=mkAgg_inj e
 obtain ⟨_,_,_,rfl⟩:=ListT.form D.f
 obtain ⟨_,_,_,rfl⟩:=ListT.form D.s
 obtain ⟨_,_,_,rfl⟩:=ListT.form D.k
 obtain ⟨_,_,_,rfl⟩:=ListT.form D.a
 obtain ⟨_,_,_,rfl⟩:=ListT.form D.g
 obtain ⟨_,_,_,rfl⟩:=SL_form D.b
 obtain ⟨_,_,_,rfl⟩:=ListT.form D.e
 intro u hu
 simp only [dcZ,List.mem_cons,List.not_mem_nil,or_false] at hu
 rcases hu with rfl | rfl | rfl | rfl | rfl | rfl | rfl | rfl | rfl | rfl | rfl | rfl | rfl | rfl | rfl <;> rfl
theorem flatK_len {α:Type} {K:Nat}:∀ {css:List (List α)},(∀ cs ∈ css,cs.length=K)→css.flatten.length=css.length * K
 | [],_=>by simp
 | cs :: css,h=>by
  rw [List.flatten_cons,List.length_append,h cs (by simp),flatK_len (fun c hc=>h c (by simp [hc])),List.length_cons,Nat.succ_mul];omega
theorem ListT.flat {α:Type} {rep:Rep α} {mk:List Value→Value} {K:Nat} {W:World} {X:Nat→Prop} {l:List α} {cur:Array Value} {css:List (List Value)} (hl:css.length=l.length) (h5:∀ i (h:i < css.length) (h':i < l.length),css[i].length=K∧(∀ j u,css[i][j]? = some u→cur[i * K+j]? = some u)∧rep W X (mk css[i]) l[i]):(∀ cs ∈ css,cs.length=K)∧∀ (j:Nat) (u:Value),css.flatten[j]? = some u→cur[j]? = some u:=by
 have hK:∀ cs ∈ css,cs.length=K:=fun cs hcs=>by
  obtain ⟨m,hm,rfl⟩:=List.mem_iff_getElem.1 hcs
  exact (h5 m hm (by omega)).1
 refine ⟨hK,fun j u hj=>?_⟩
 have hlt:=(List.getElem?_eq_some_iff.1 hj).1
 rw [flatK_len hK] at hlt
 have hK0:0 < K:=by
  rcases Nat.eq_zero_or_pos K with h | h
  ·rw [h] at hlt;simp at hlt
  ·exact h
 have hq:j / K < css.length:=Nat.div_lt_of_lt_mul (by rw [Nat.mul_comm];exact hlt)
 have hr:j % K < K:=Nat.mod_lt _ hK0
 have e:j / K * K+j % K=j:=by rw [Nat.mul_comm];exact Nat.div_add_mod j K
 have hg:=flat_getK css hK (j / K) hq (j % K) hr
 rw [e,hj] at hg
 have:=(h5 (j / K) hq (by omega)).2.1 (j % K) u hg.symm
 rw [e] at this
 exact this
theorem ListT.row {α:Type} {rep:Rep α} {mk:List Value→Value} {K e:Nat} {W:World} {X:Nat→Prop} {v:Value} {l:List α} {B:Nat} (h:ListT rep mk K e W X v l) (hB:∀ b,X b→B≤b):∃ css:List (List Value),css.length=l.length∧W.ownsRow B e K v l.length css.flatten∧(∀ cs ∈ css,cs.length=K)∧∀ i (h:i < css.length) (h':i < l.length),rep W X (mk css[i]) l[i]:=by
 obtain ⟨g,c,cur,css,rfl,h2,h3,h4,h5⟩:=h
 obtain ⟨hK,hf⟩:=ListT.flat h4.1 h5
 have hlen:=flatK_len hK
 refine ⟨css,h4.1,⟨by rw [hlen,h4.1],.inr ⟨g,c,cur,rfl,hB g h2,h3,h4.2.2.1,h4.2.2.2,h4.2.1,?_⟩⟩,hK,fun i h h'=>(h5 i h h').2.2⟩
 apply List.ext_getElem?
 intro j
 rw [List.getElem?_take]
 by_cases hj:j < l.length * K
 ·rw [if_pos hj]
  have hj2:j < css.flatten.length:=by rw [hlen,h4.1];exact hj
  have:=hf j _ (List.getElem?_eq_getElem hj2)
  rw [← Array.getElem?_toList] at this
  rw [this,List.getElem?_eq_getElem hj2]
 ·rw [if_neg hj,List.getElem?_eq_none (by rw [hlen,h4.1];omega)]
theorem ListT.of_row {α:Type} {rep:Rep α} {mk:List Value→Value} {K e:Nat} {W:World} {X:Nat→Prop} {v:Value} {l:List α} {B:Nat} {css:List (List Value)} (ho:W.ownsRow B e K v l.length css.flatten) (hn:v ≠ .slice none 0 0) (hX:∀ b,v.ownBlock=some b→X b) (hl:css.length=l.length) (hK:∀ cs ∈ css,cs.length=K) (hr:∀ i (h:i < css.length) (h':i < l.length),rep W X (mk css[i]) l[i]):ListT rep mk K e W X v l:=by
 rcases ho.2 with ⟨e1,_⟩ | ⟨g,c,cur,rfl,hg,hcur,hc1,hc2,hc3,htk⟩
 ·exact absurd e1 hn
 ·refine ⟨g,c,cur,css,rfl,hX g rfl,hcur,⟨hl,hc3,hc1,hc2⟩,fun i h h'=>⟨hK _ (List.getElem_mem h),fun j u hu=>?_,hr i h h'⟩⟩
  have hj:j < K:=by have:=(List.getElem?_eq_some_iff.1 hu).1;rw [hK _ (List.getElem_mem h)] at this;exact this
  have hf:=flat_getK css hK i h j hj
  rw [hu,← htk,List.getElem?_take] at hf
  split at hf
  ·rw [← Array.getElem?_toList];exact hf
  ·cases hf
theorem wpList_appD {ops:Array Oper} {rest:List Oper} {o:Oper} {a:Act} {w:World} {Q:Exit→Act→World→Prop} (hw:Region.wanted o (yielded ops a.tmps)=true) (s x:Operand) (ho:o.op=.call { callee:=.builtin .append,args:=#[s,x],argTypes:=#[23,23] })
  {B:Nat} {X1 X2:Nat→Prop} {v1 v2:Value} {l1 l2:List Dc} (hs:a.eval s=v1) (hx:a.eval x=v2) (h1:ListT (dcV true) mkAgg 15 69 w X1 v1 l1) (h2:ListT (dcV true) mkAgg 15 69 w X2 v2 l2) (hB:∀ b,X1 b→B≤b) (hBw:B≤w.heap.size) (hn1:l1.length≤1000000) (hn2:l2.length≤1000000)
  (h:∀ v' w',ListT (dcV true) mkAgg 15 69 w' (fun b=>X1 b ∨ X2 b ∨ b=w.heap.size) v' (l1 ++ l2)→w.grownBy w' v1.ownBlock→(∀ b,v1.ownBlock=some b→X1 b)→wpList Tryz.prog ops Q rest (a.put o.dst v') w'):wpList Tryz.prog ops Q (o :: rest) a w:=by
 obtain ⟨i0,hi0,hz0,hz1,hz2⟩:=info_parts Tryz.infoTDecls
 have hv1:∃ g c,v1=.slice (some ⟨g,0,none⟩) l1.length c∧X1 g∧∃ cur,w.heap[g]? = some (.cells cur 69 (0,0)):=by
  obtain ⟨g,c,cur,css,e1,h2,h3,_⟩:=h1
  exact ⟨g,c,e1,h2,cur,h3⟩
 obtain ⟨css1,n1,o1,k1,r1⟩:=h1.row hB
 obtain ⟨g2,c2,cur2,css2,rfl,x2,y2,z2,t2⟩:=h2
 obtain ⟨k2,f2⟩:=ListT.flat z2.1 t2
 obtain ⟨g,c,rfl,hXg,cur,hgc⟩:=hv1
 have hone:∀ u ∈ css2.flatten,u.oneCell'=true:=by
  intro u hu
  obtain ⟨cs,hcs,hu⟩:=List.mem_flatten.1 hu
  obtain ⟨m,hm,rfl⟩:=List.mem_iff_getElem.1 hcs
  exact dcV_one (t2 m hm (by omega)).2.2 u hu
 obtain ⟨v',w',hr,q1,q2,q3,q4⟩:=run_append_own_at (P:=Tryz.prog) w B 23 o.type 69 i0 _ 15 248 Tryz.underlying23 hi0 hz0 hz1 hz2 rfl (by decide) _ l1.length css1.flatten o1 ⟨g2,0,none⟩ l2.length c2 css2.flatten (by rw [flatK_len k2,z2.1]) (fun j u hj=>by
  rw [add0,blk_cell y2];exact f2 j u hj) hone (by unfold maxLen;omega) (by omega) hBw
 have hty:∀ b,b < w.heap.size→(∀ cur f,w.heap[b]? ≠ some (.cells cur 69 f))→w'.heap[b]? = w.heap[b]?:=fun b hb hne=>q2.block b hb (fun e=>by
  have e:b=g:=by simpa [Value.ownBlock] using e
  subst e
  exact hne _ _ hgc)
 have hL:ListT (dcV true) mkAgg 15 69 w' (fun b=>X1 b ∨ X2 b ∨ b=w.heap.size) v' (l1 ++ l2):=by
  refine ListT.of_row (css:=css1 ++ css2) (B:=B) (by rw [List.length_append,List.flatten_append];exact q1) (fun e=>by have:=q3.1 e;cases this.1) (fun b hb=>?_) (by simp [n1,z2.1]) (fun cs hcs=>?_) (fun i h h'=>?_)
  ·rcases q4 with e | e
   ·rw [e] at hb
    have e:g=b:=by simpa [Value.ownBlock] using hb
    subst e
    exact .inl hXg
   ·rw [e] at hb;injection hb with hb;exact .inr (.inr hb.symm)
  ·rcases List.mem_append.1 hcs with h | h
   ·exact k1 cs h
   ·exact k2 cs h
  ·by_cases hlt:i < css1.length
   ·rw [List.getElem_append_left hlt,List.getElem_append_left (by omega)]
    exact (dcV_ok true).mono ((dcV_ty true).t (r1 i hlt (by omega)) (fun b _ hb hne=>hty b hb hne)) (fun b hb=>.inl hb)
   ·have hh:i - css1.length < css2.length:=by rw [List.length_append] at h;omega
    rw [List.getElem_append_right (by omega),List.getElem_append_right (by omega)]
    have e:i - l1.length=i - css1.length:=by omega
    simp only [e]
    exact (dcV_ok true).mono ((dcV_ty true).t (t2 (i - css1.length) hh (by omega)).2.2 (fun b _ hb hne=>hty b hb hne)) (fun b hb=>.inr (.inl hb))
 unfold wpList
 rw [if_pos hw]
 left
 unfold Oper.wp execOp
 simp only [ho,resolve,invoke,builtin,Sem.run_bind,Sem.run_pure,Result.andThen_ok,List.map_toArray,List.map_cons,List.map_nil,hs,hx,hr]
 exact h v' w' hL q2 (fun b hb=>by
  have e:g=b:=by simpa [Value.ownBlock] using hb
  subst e
  exact hXg)
def arg (x:Ex) (i:Nat):Ex:=x.args.getD i ⟨0,0,0,[],[],0,0,0,[]⟩
def txA:List UInt8:=[97,99,116,105,111,110,32,102,40,112,32,56,41,32,123,32,104,46,97,32,61,32,126,112,91,51,58,48,93,32,43,43,32,99,97,115,116,32,52,40,104,46,98,41,32,43,32,56,119,49,59,32,125]
def chkA (r:PRes):Bool:=match r with
 | .ok [d]=>d.kind == 7 && d.name == [102] && (match d.body with
  | [s]=>(match s.args with
   | [x]=>x.op == 5 && x.args.length == 2 && (arg x 0).op == 14 && (arg x 0).args.length == 2 && (arg (arg x 0) 0).op == 11 && (arg (arg x 0) 0).args.length == 1 && (arg (arg (arg x 0) 0) 0).op == 15 && (arg x 1).w == 8 && (arg x 1).v == 1
   | _=>false)
  | _=>false)
 | _=>false
set_option maxRecDepth 100000 in
theorem chkA_yes:chkA (parseL txA)=true:=by kernel_rfl
theorem item {α:Type} {rep:Rep α} {K:Nat} {W:World} {X:Nat→Prop} {v:Value} {l:List α} (h:ListR rep mkAgg K W X v l) (hK:0 < K) (hl:l ≠ []):∃ b c,v=.slice (some ⟨b,0,none⟩) l.length c∧b < W.heap.size∧∀ j (hj:j < l.length),∃ cs,cs.length=K∧rep W X (mkAgg cs) l[j]∧∀ i (hi:i < cs.length),W.cell? ⟨b,j * K+i,none⟩=some cs[i]:=by
 obtain ⟨s,c,rfl,_,h | ⟨b,rfl,_,hb,h2⟩⟩:=list_items h hK
 ·exact absurd h hl
 ·exact ⟨b,c,rfl,hb,h2⟩
theorem ex_cells {W:World} {X:Nat→Prop} {cs:List Value} {x:Ex} (h:ExR W X (mkAgg cs) x):∃ va,cs=exC x va∧ListR ExR mkAgg 10 W X va x.args:=by
 obtain ⟨va,e,h2⟩:=h.open
 unfold mkAgg at e
 injection e with e
 have:=congrArg Array.toList e
 exact ⟨va,by simpa using this,h2⟩
theorem sm_cells {W:World} {X:Nat→Prop} {cs:List Value} {x:Sm} (h:SmR W X (mkAgg cs) x):∃ va vb ve,cs=smC x va vb ve∧ListR ExR mkAgg 10 W X va x.args:=by
 obtain ⟨va,vb,ve,e,h2,_⟩:=h.open
 unfold mkAgg at e
 injection e with e
 have:=congrArg Array.toList e
 exact ⟨va,vb,ve,by simpa using this,h2⟩
theorem dc_cells {W:World} {X:Nat→Prop} {cs:List Value} {x:Dc} (h:DeclR W X (mkAgg cs) x):∃ vf vs vk va vg vb ve,cs=dcC x vf vs vk va vg vb ve∧ListR SmR mkAgg 9 W X vb x.body:=by
 obtain ⟨vf,vs,vk,va,vg,vb,ve,e,h2⟩:=h
 unfold mkAgg at e
 injection e with e
 have:=congrArg Array.toList e
 exact ⟨vf,vs,vk,va,vg,vb,ve,by simpa using this,h2.b⟩
structure ExAt (W:World) (b o:Nat) (x:Ex) (va:Value):Prop where
 c:∀ i (hi:i < (exC x va).length),W.cell? ⟨b,o+i,none⟩=some (exC x va)[i]
 l:b < W.heap.size
theorem exs_at {W:World} {X:Nat→Prop} {v:Value} {l:List Ex} (h:ListR ExR mkAgg 10 W X v l) (hl:l ≠ []):∃ b c,v=.slice (some ⟨b,0,none⟩) l.length c∧∀ j (hj:j < l.length),∃ va,ExAt W b (j * 10) l[j] va∧ListR ExR mkAgg 10 W X va l[j].args:=by
 obtain ⟨b,c,e,hb,h2⟩:=item h (by decide) hl
 refine ⟨b,c,e,fun j hj=>?_⟩
 obtain ⟨cs,_,h3,h4⟩:=h2 j hj
 obtain ⟨va,rfl,h5⟩:=ex_cells h3
 exact ⟨va,⟨h4,hb⟩,h5⟩
theorem ExAt.next {W W':World} {b o:Nat} {x:Ex} {va:Value} (h:ExAt W b o x va) (hb:Below W.heap.size W W'):ExAt W' b o x va:=⟨fun i hi=>(hb.cell h.l).trans (h.c i hi),Nat.lt_of_lt_of_le h.l hb.size⟩
structure Tree1 (W:World) (X:Nat→Prop) (v:Value) (d:Dc) (s:Sm) (x:Ex) (b1 b2 b3 c1 c2 c3:Nat) (va:Value):Prop where
 v1:v=.slice (some ⟨b1,0,none⟩) 1 c1
 k:W.cell? ⟨b1,0,none⟩=some (.int .u8 (d.kind:Int))
 n:W.cell? ⟨b1,1,none⟩=some (.string (txt d.name))
 bd:W.cell? ⟨b1,12,none⟩=some (.slice (some ⟨b2,0,none⟩) 1 c2)
 ag:W.cell? ⟨b2,5,none⟩=some (.slice (some ⟨b3,0,none⟩) 1 c3)
 l1:b1 < W.heap.size
 l2:b2 < W.heap.size
 ex:ExAt W b3 0 x va
 argl:ListR ExR mkAgg 10 W X va x.args
theorem tree1 {W:World} {X:Nat→Prop} {v:Value} {d:Dc} {s:Sm} {x:Ex} (h:ListR DeclR mkAgg 15 W X v [d]) (hs:d.body=[s]) (hx:s.args=[x]):∃ b1 b2 b3 c1 c2 c3 va,Tree1 W X v d s x b1 b2 b3 c1 c2 c3 va:=by
 obtain ⟨b1,c1,e1,hb1,h1⟩:=item h (by decide) (by simp)
 obtain ⟨cs,hc,hd,hcells⟩:=h1 0 (by simp)
 obtain ⟨vf,vs,vk,va0,vg,vb,ve,rfl,hbody⟩:=dc_cells hd
 have hd0:([d]:List Dc)[0]=d:=rfl
 rw [hd0] at hcells hbody
 rw [hs] at hbody
 obtain ⟨b2,c2,e2,hb2,h2⟩:=item hbody (by decide) (by simp)
 obtain ⟨cs2,hc2,hd2,hcells2⟩:=h2 0 (by simp)
 obtain ⟨va1,vb1,ve1,rfl,hargs⟩:=sm_cells hd2
 have hs0:([s]:List Sm)[0]=s:=rfl
 rw [hs0] at hcells2 hargs
 rw [hx] at hargs
 obtain ⟨b3,c3,e3,h3⟩:=exs_at hargs (by simp)
 obtain ⟨va,h4,h5⟩:=h3 0 (by simp)
 refine ⟨b1,b2,b3,c1,c2,c3,va,e1,?_,?_,?_,?_,hb1,hb2,?_,h5⟩
 ·have:=hcells 0 (by simp [dcC]);simpa [dcC] using this
 ·have:=hcells 1 (by simp [dcC]);simpa [dcC] using this
 ·have:=hcells 12 (by simp [dcC]);simpa [dcC,e2] using this
 ·have:=hcells2 5 (by simp [smC]);simpa [smC,e3] using this
 ·simpa using h4
theorem chkA_open {r:PRes} (h:chkA r=true):∃ d s x y z,r=.ok [d]∧d.kind=7∧d.name=[102]∧d.body=[s]∧s.args=[x]∧x.op=5∧x.args=[y,z]∧y.op=14∧z.w=8∧z.v=1∧∃ y0 y1 y00,y.args=[y0,y1]∧y0.op=11∧y0.args=[y00]∧y00.op=15:=by
 unfold chkA at h
 split at h
 ·rename_i d
  simp only [Bool.and_eq_true,beq_iff_eq] at h
  obtain ⟨⟨hk,hn⟩,h⟩:=h
  split at h
  ·rename_i s hs
   split at h
   ·rename_i x hx
    simp only [Bool.and_eq_true,beq_iff_eq] at h
    obtain ⟨⟨⟨⟨⟨⟨⟨⟨h1,h2⟩,h3⟩,h4⟩,h5⟩,h6⟩,h7⟩,h8⟩,h9⟩:=h
    match hxa:x.args,h2 with
    | [y,z],_ =>
     have ey:arg x 0=y:=by unfold arg;rw [hxa];rfl
     have ez:arg x 1=z:=by unfold arg;rw [hxa];rfl
     rw [ey] at h3 h4 h5 h6 h7
     rw [ez] at h8 h9
     match hya:y.args,h4 with
     | [y0,y1],_ =>
      have e0:arg y 0=y0:=by unfold arg;rw [hya];rfl
      rw [e0] at h5 h6 h7
      match hy0:y0.args,h6 with
      | [y00],_ =>
       have e00:arg y0 0=y00:=by unfold arg;rw [hy0];rfl
       rw [e00] at h7
       exact ⟨d,s,x,y,z,rfl,hk,hn,hs,hx,h1,hxa,h3,h8,h9,y0,y1,y00,hya,h5,hy0,h7⟩
   ·cases h
  ·cases h
 ·cases h
def txB:List UInt8:=[99,111,110,116,114,111,108,32,123,10,100,114,111,112,59]
def txC:List UInt8:=[99,111,110,116,114,111,108,32,123,32,97,32,61,61,32,98,32,61,61,32,99,59,32,125]
set_option maxRecDepth 100000 in
theorem txB_is:parseL txB=.error (1,5):=by kernel_rfl
set_option maxRecDepth 100000 in
theorem txC_is:parseL txC=.error (0,5):=by kernel_rfl
theorem ExAt.at {W:World} {b o:Nat} {x:Ex} {va:Value} (h:ExAt W b o x va):W.cell? ⟨b,o,none⟩=some (.int .u8 (x.op:Int))∧W.cell? ⟨b,o+1,none⟩=some (.int .i64 (x.w:Int))∧W.cell? ⟨b,o+2,none⟩=some (.int .u64 (wHi x.v))∧W.cell? ⟨b,o+3,none⟩=some (.int .u64 (wLo x.v))∧W.cell? ⟨b,o+4,none⟩=some (.string (txt x.name))∧W.cell? ⟨b,o+5,none⟩=some (.string (txt x.field))∧W.cell? ⟨b,o+6,none⟩=some (.int .i64 (x.n:Int))∧W.cell? ⟨b,o+7,none⟩=some (.int .i64 (x.m:Int))∧W.cell? ⟨b,o+8,none⟩=some va∧W.cell? ⟨b,o+9,none⟩=some (.int .i64 (x.line:Int)) :=
 ⟨h.c 0 (by simp [exC]),h.c 1 (by simp [exC]),h.c 2 (by simp [exC]),h.c 3 (by simp [exC]),h.c 4 (by simp [exC]),h.c 5 (by simp [exC]),h.c 6 (by simp [exC]),h.c 7 (by simp [exC]),h.c 8 (by simp [exC]),h.c 9 (by simp [exC])⟩
theorem ExAt.alloc {W:World} {b o:Nat} {x:Ex} {va:Value} (h:ExAt W b o x va) (ob:Obj):ExAt (W.alloc ob) b o x va:=h.next ((Below.refl _ _).alloc (Nat.le_refl _) _)
theorem Tws.below {W W':World} {bt:Nat} (h:Tws W bt) (hb:Below W.heap.size W W'):Tws W' bt:=h.fr (E:=fun _=>False) (Fr.ofBelow hb) (fun e=>e) (fun e=>e)
theorem Tree1.next {W W':World} {X:Nat→Prop} {v:Value} {d:Dc} {s:Sm} {x:Ex} {b1 b2 b3 c1 c2 c3:Nat} {va:Value} (h:Tree1 W X v d s x b1 b2 b3 c1 c2 c3 va) (hb:Below W.heap.size W W'):Tree1 W' X v d s x b1 b2 b3 c1 c2 c3 va :=
 ⟨h.v1,(hb.cell h.l1).trans h.k,(hb.cell h.l1).trans h.n,(hb.cell h.l1).trans h.bd,(hb.cell h.l2).trans h.ag,Nat.lt_of_lt_of_le h.l1 hb.size,Nat.lt_of_lt_of_le h.l2 hb.size,h.ex.next hb,(ListR.ok exRep_ok mkAgg 10).frame h.argl hb.size (fun b _ hl=>hb.block b hl)⟩
theorem parse_err {s:List UInt8} {x:Nat × Nat} (h:parseL s=.error x) (hl:s.length≤65536) (T:ByteArray) (hT:T=txt s) (W:World) {bt:Nat} (hLs:Ls W) (hTw:Tws W bt):Calls Tryz.prog 8 #[.string T] W fun e w'=>e=.returned (.tuple #[.slice none 0 0,.int .i64 (x.1:Int),.int .i64 (x.2:Int)])∧Below W.heap.size W w':=by
 refine (pparse_any s W hLs hTw (by omega) T hT).mono ?_
 rintro e w' ⟨hb,hm⟩
 rw [h] at hm
 exact ⟨hm,hb⟩
theorem parse_ok {s:List UInt8} {ds:List Dc} (h:parseL s=.ok ds) (hl:s.length≤65536) (T:ByteArray) (hT:T=txt s) (W:World) {bt:Nat} (hLs:Ls W) (hTw:Tws W bt):Calls Tryz.prog 8 #[.string T] W fun e w'=>∃ v,e=.returned (.tuple #[v,.int .i64 0,.int .i64 0])∧ListR DeclR mkAgg 15 w' (Bn W w') v ds∧Below W.heap.size W w':=by
 refine (pparse_any s W hLs hTw (by omega) T hT).mono ?_
 rintro e w' ⟨hb,hm⟩
 rw [h] at hm
 obtain ⟨v,h1,h2⟩:=hm
 exact ⟨v,h1,h2,hb⟩
set_option maxRecDepth 100000 in
set_option maxHeartbeats 8000000 in
theorem alive8_any (w:World) {bt:Nat} (hLs:Ls w) (hTw:Tws w bt):Calls Tryz.prog 10 #[] w fun e w'=>e=.returned (.bool true)∧Below w.heap.size w w':=by
 obtain ⟨d,s,x,y,z,hp,hk,hn,hs,hx,hop,hxa,hy,hzw,hzv,y0,y1,y00,hya,hy0,hy0a,hy00⟩:=chkA_open chkA_yes
 have HA:=hide (parse_ok hp (by decide) ⟨#[97,99,116,105,111,110,32,102,40,112,32,56,41,32,123,32,104,46,97,32,61,32,126,112,91,51,58,48,93,32,43,43,32,99,97,115,116,32,52,40,104,46,98,41,32,43,32,56,119,49,59,32,125]⟩ rfl w hLs hTw)
 have HB:=hide (fun W (hb:Below w.heap.size w W)=>parse_err txB_is (by decide) ⟨#[99,111,110,116,114,111,108,32,123,10,100,114,111,112,59]⟩ rfl W (hLs.below hb) (hTw.below hb))
 have HC:=hide (fun W (hb:Below w.heap.size w W)=>parse_err txC_is (by decide) ⟨#[99,111,110,116,114,111,108,32,123,32,97,32,61,61,32,98,32,61,61,32,99,59,32,125]⟩ rfl W (hLs.below hb) (hTw.below hb))
 have HT:Hid (∀ W X v,ListR DeclR mkAgg 15 W X v [d]→∃ b1 b2 b3 c1 c2 c3 va,Tree1 W X v d s x b1 b2 b3 c1 c2 c3 va):=fun W X v h=>tree1 h hs hx
 have hz0:wHi z.v=0:=by rw [hzv];unfold wHi;simp
 have hz1:wLo z.v=1:=by rw [hzv];unfold wLo;simp
 have HF:Hid ((d.kind:Int)=7∧txt d.name=⟨#[102]⟩∧(x.op:Int)=5∧(y.op:Int)=14∧(z.w:Int)=8∧(y0.op:Int)=11∧(y00.op:Int)=15∧wHi z.v=0∧wLo z.v=1):=⟨by rw [hk];rfl,by rw [hn];rfl,by rw [hop];rfl,by rw [hy];rfl,by rw [hzw];rfl,by rw [hy0];rfl,by rw [hy00];rfl,hz0,hz1⟩
 have HAr:Hid (x.args=[y,z]∧y.args=[y0,y1]∧y0.args=[y00]):=⟨hxa,hya,hy0a⟩
 clear hp hk hn hs hx hop hxa hy hzw hzv hya hy0 hy0a hy00 hz0 hz1 hLs hTw
 go_enter Tryz.func10,Tryz.ntmps10
 go_wp2_with fail
 refine HA.out.mono ?_
 rintro e w1 ⟨v,rfl,hv,hb1⟩
 obtain ⟨b1,b2,b3,c1,c2,c3,va,t1⟩:=HT.out _ _ _ hv
 have T1:=hide t1
 obtain rfl:=t1.v1
 have B1:=hide hb1
 clear t1 hv hb1 HA HT
 go_wp2_with fail
 refine (HB.out _ B1.out).mono ?_
 rintro e w2 ⟨rfl,hb2⟩
 have B2:=hide (B1.out.trans (hb2.mono B1.out.size))
 have T2:=hide (T1.out.next hb2)
 clear hb2 T1 HB B1
 go_wp2_with fail
 refine (HC.out _ B2.out).mono ?_
 rintro e w3 ⟨rfl,hb3⟩
 have B3:=hide (B2.out.trans (hb3.mono B2.out.size))
 have t3:=T2.out.next hb3
 have T3:=hide t3
 obtain ⟨hxa,hya,hy0a⟩:=HAr.out
 have hal:=t3.argl
 rw [hxa] at hal
 obtain ⟨b4,c4,rfl,h4⟩:=exs_at hal (by simp)
 obtain ⟨vy,ey,hyl⟩:=h4 0 (by simp)
 obtain ⟨vz,ez,_⟩:=h4 1 (by simp)
 have hyl2:ListR ExR mkAgg 10 w3 (Bn w w1) vy y.args:=hyl
 rw [hya] at hyl2
 obtain ⟨b5,c5,rfl,h5⟩:=exs_at hyl2 (by simp)
 obtain ⟨vy0,ey0,hy0l⟩:=h5 0 (by simp)
 have hy0l2:ListR ExR mkAgg 10 w3 (Bn w w1) vy0 y0.args:=hy0l
 rw [hy0a] at hy0l2
 obtain ⟨b6,c6,rfl,h6⟩:=exs_at hy0l2 (by simp)
 obtain ⟨vy00,ey00,_⟩:=h6 0 (by simp)
 obtain ⟨f1,f2,f3,f4,f5,f6,f7,f8,f9⟩:=HF.out
 obtain ⟨e0,e1,e2,e3,e4,e5,e6,e7,e8,e9⟩:=t3.ex.at
 have gk:=t3.k;have gn:=t3.n;have gb:=t3.bd;have ga:=t3.ag
 have AY:∀ o,(w3.alloc o).cell? ⟨b4,0,none⟩=some (.int .u8 14)∧(w3.alloc o).cell? ⟨b4,8,none⟩=some (.slice (some ⟨b5,0,none⟩) 2 c5):=fun o=>by
  have:=(ey.alloc o).at
  simp only [Nat.zero_mul,Nat.zero_add] at this
  exact ⟨by rw [this.1];exact congrArg (fun t=>some (Value.int .u8 t)) f4,this.2.2.2.2.2.2.2.2.1⟩
 have AZ:∀ o,(w3.alloc o).cell? ⟨b4,11,none⟩=some (.int .i64 8)∧(w3.alloc o).cell? ⟨b4,12,none⟩=some (.int .u64 0)∧(w3.alloc o).cell? ⟨b4,13,none⟩=some (.int .u64 1):=fun o=>by
  have:=(ez.alloc o).at
  exact ⟨by have h:=this.2.1;rw [h];exact congrArg (fun t=>some (Value.int .i64 t)) f5,by have h:=this.2.2.1;rw [h];exact congrArg (fun t=>some (Value.int .u64 t)) f8,by have h:=this.2.2.2.1;rw [h];exact congrArg (fun t=>some (Value.int .u64 t)) f9⟩
 have AY0:∀ o,(w3.alloc o).cell? ⟨b5,0,none⟩=some (.int .u8 11)∧(w3.alloc o).cell? ⟨b5,8,none⟩=some (.slice (some ⟨b6,0,none⟩) 1 c6):=fun o=>by
  have:=(ey0.alloc o).at
  simp only [Nat.zero_mul,Nat.zero_add] at this
  exact ⟨by rw [this.1];exact congrArg (fun t=>some (Value.int .u8 t)) f6,this.2.2.2.2.2.2.2.2.1⟩
 have AY00:∀ o,(w3.alloc o).cell? ⟨b6,0,none⟩=some (.int .u8 15):=fun o=>by
  have:=(ey00.alloc o).at
  simp only [Nat.zero_mul,Nat.zero_add] at this
  rw [this.1];exact congrArg (fun t=>some (Value.int .u8 t)) f7
 rw [f1] at gk
 rw [f2] at gn
 rw [f3] at e0
 obtain ⟨AY1,AY2⟩:(∀ o,(w3.alloc o).cell? ⟨b4,0,none⟩=some (.int .u8 14))∧(∀ o,(w3.alloc o).cell? ⟨b4,8,none⟩=some (.slice (some ⟨b5,0,none⟩) 2 c5)):=⟨fun o=>(AY o).1,fun o=>(AY o).2⟩
 obtain ⟨AZ1,AZ2,AZ3⟩:(∀ o,(w3.alloc o).cell? ⟨b4,11,none⟩=some (.int .i64 8))∧(∀ o,(w3.alloc o).cell? ⟨b4,12,none⟩=some (.int .u64 0))∧(∀ o,(w3.alloc o).cell? ⟨b4,13,none⟩=some (.int .u64 1)):=⟨fun o=>(AZ o).1,fun o=>(AZ o).2.1,fun o=>(AZ o).2.2⟩
 obtain ⟨AW1,AW2⟩:(∀ o,(w3.alloc o).cell? ⟨b5,0,none⟩=some (.int .u8 11))∧(∀ o,(w3.alloc o).cell? ⟨b5,8,none⟩=some (.slice (some ⟨b6,0,none⟩) 1 c6)):=⟨fun o=>(AY0 o).1,fun o=>(AY0 o).2⟩
 have hlen:(x.args.length:Int)=2:=by rw [hxa];rfl
 simp only [List.length_cons,List.length_nil] at *
 generalize (x.w:Int)=n1 at *
 generalize wHi x.v=n2 at *
 generalize wLo x.v=n3 at *
 generalize txt x.name=t4 at *
 generalize txt x.field=t5 at *
 generalize (x.n:Int)=n6 at *
 generalize (x.m:Int)=n7 at *
 generalize (x.line:Int)=n9 at *
 clear t3 hb3 hal h4 h5 h6 ey ez hyl hyl2 hy0l hy0l2 ey0 ey00 f1 f2 f3 f4 f5 f6 f7 f8 f9 hxa hya hy0a AY AZ AY0 HC T2 HF HAr hlen
 go_wp2
 go_ret
 exact ⟨rfl,B3.out.alloc B3.out.size _⟩
theorem catL (a b:List UInt8):txt a ++ txt b=txt (a ++ b):=by
 apply ByteArray.ext
 rw [ByteArray.data_append]
 unfold txt
 simp
theorem parse_mg (s:List UInt8) (hl:s.length≤9223372036854775807) (T:ByteArray) (hT:T=txt s) (W:World) {bt:Nat} (hLs:Ls W) (hTw:Tws W bt):Calls Tryz.prog 8 #[.string T] W fun e w'=>∃ v,e=.returned (.tuple #[v,.int .i64 ((resE (parseL s)).1:Int),.int .i64 ((resE (parseL s)).2:Int)])∧Below W.heap.size W w':=by
 refine (pparse_any s W hLs hTw hl T hT).mono ?_
 rintro e w' ⟨hb,h⟩
 cases hp:parseL s with
 | error x=>rw [hp] at h;exact ⟨_,h,hb⟩
 | ok ds=>rw [hp] at h;obtain ⟨v,h,_⟩:=h;exact ⟨v,h,hb⟩
set_option maxHeartbeats 8000000 in
set_option maxRecDepth 100000 in
theorem joins_in (a b:List UInt8) (da db:List Dc) (w:World) {bt:Nat} (hLs:Ls w) (hTw:Tws w bt) (ha:parseL a=.ok da) (hb:parseL b=.ok db) (hl:a.length+b.length≤65535) :
  Calls Tryz.prog 4 #[.string (txt a),.string (txt b)] w fun e w'=>e=.returned (.bool true)∧Below w.heap.size w w':=by
 have HA:=hide (fun W (hb:Below w.heap.size w W)=>alive8_any W (hLs.below hb) (hTw.below hb))
 have HP1:=hide (parse_yes ha (txt a) rfl w hLs hTw)
 have HP2:=hide (fun W (h:Below w.heap.size w W)=>parse_yes hb (txt b) rfl W (hLs.below h) (hTw.below h))
 have HP3:=hide (fun (d:List Dc) (T:ByteArray) W (h:Below w.heap.size w W) (ht:parseL (a ++ 10 :: b)=.ok d) (hT:T=txt (a ++ 10 :: b))=>parse_yes ht T hT W (hLs.below h) (hTw.below h))
 have HP4:=hide (fun (T:ByteArray) W (h:Below w.heap.size w W) (hT:T=txt (a ++ 10 :: b))=>pparse_any (a ++ 10 :: b) W (hLs.below h) (hTw.below h) (by rw [List.length_append,List.length_cons];omega) T hT)
 have HJ:=hide (joins_of ha hb hl)
 have HT:Hid ((txt a ++ (⟨#[10]⟩:ByteArray)) ++ txt b=txt (a ++ 10 :: b)):=by
  unfold Hid
  rw [show (⟨#[10]⟩:ByteArray)=txt [10] from rfl,catL,catL,List.append_assoc];rfl
 have As:=hide (parseL_small ha)
 have Bs:=hide (parseL_small hb)
 have sa:(txt a).size=a.length:=txt_size a
 have sb:(txt b).size=b.length:=txt_size b
 generalize hA:txt a=A at *
 generalize hB:txt b=B at *
 have z0:¬ (65535:Int) < (A.size:Int)+(B.size:Int):=by omega
 have z1:¬ 9223372036854775807 < A.size+1:=by omega
 have z2:¬ 9223372036854775807 < A.size+1+B.size:=by omega
 have z3:IntKind.i64.wrap ((A.size:Int)+(B.size:Int))=(A.size:Int)+(B.size:Int):=by rw [IntKind.wrap_i64];omega
 clear hLs hTw ha hb hl hA hB sa sb
 go_enter Tryz.func4,Tryz.ntmps4
 go_wp2_with fail
 refine HP1.out.mono ?_
 rintro e w1 ⟨vp,rfl,hr,hb⟩
 have B1:=hide hb
 have P1:=hide hr
 clear hb HP1 hr
 go_wp2_with fail
 refine (HP2.out _ B1.out).mono ?_
 rintro e w2 ⟨vq,rfl,hr,hb⟩
 have B2:=hide (B1.out.trans (hb.mono B1.out.size))
 have P2:=hide ((ListR.ok declR_ok mkAgg 15).frame P1.out hb.size (fun b _ hl=>hb.block b hl))
 have Q2:=hide hr
 clear hb HP2 hr P1 B1
 go_wp2_with fail
 refine (HA.out _ B2.out).mono ?_
 rintro e w3 ⟨rfl,hb⟩
 have B3:=hide (B2.out.trans (hb.mono B2.out.size))
 have P3:=hide ((ListR.ok declR_ok mkAgg 15).frame P2.out hb.size (fun b _ hl=>hb.block b hl))
 have Q3:=hide ((ListR.ok declR_ok mkAgg 15).frame Q2.out hb.size (fun b _ hl=>hb.block b hl))
 clear hb P2 Q2 B2 HA
 rcases HJ.out with hj | ⟨d,hj,hq⟩
 ·have HX:=hide hj
  clear hj HJ
  go_wp2_with fail
  refine (HP4.out _ _ B3.out HT.out).mono ?_
  rintro e w4 ⟨hb,hr⟩
  rw [HX.out] at hr
  dsimp only at hr
  subst hr
  have B4:=hide (B3.out.trans (hb.mono B3.out.size))
  clear hb HP4 HX
  go_wp2
  go_ret
  exact ⟨rfl,B4.out⟩
 ·have HQ:=hide hq
  have HX:=hide hj
  have Ds:=hide (parseL_small hj)
  clear hj hq HJ
  go_wp2_with fail
  refine (HP3.out d _ _ B3.out HX.out HT.out).mono ?_
  rintro e w4 ⟨vd,rfl,hr,hb⟩
  have B4:=hide (B3.out.trans (hb.mono B3.out.size))
  have P4:=hide ((ListR.ok declR_ok mkAgg 15).frame P3.out hb.size (fun b _ hl=>hb.block b hl))
  have Q4:=hide ((ListR.ok declR_ok mkAgg 15).frame Q3.out hb.size (fun b _ hl=>hb.block b hl))
  have D4:=hide hr
  clear hb hr B3 P3 Q3 HP3 HP4 HX
  go_wp2_with fail
  refine (bare_any Ds.out.1 Ds.out.2 _ _ _ D4.out).mono ?_
  rintro e w5 ⟨u5,rfl,hu,hb⟩
  have B5:=hide (B4.out.trans (hb.mono B4.out.size))
  have P5:=hide ((ListR.ok declR_ok mkAgg 15).frame P4.out hb.size (fun b _ hl=>hb.block b hl))
  have Q5:=hide ((ListR.ok declR_ok mkAgg 15).frame Q4.out hb.size (fun b _ hl=>hb.block b hl))
  have U5:=hide (prog_q HQ.out hu)
  clear hb hu B4 P4 Q4 D4
  go_wp2_with fail
  refine (bare_any As.out.1 As.out.2 _ _ _ P5.out).mono ?_
  rintro e w6 ⟨u6,rfl,hu,hb⟩
  have B6:=hide (B5.out.trans (hb.mono B5.out.size))
  have Q6:=hide ((ListR.ok declR_ok mkAgg 15).frame Q5.out hb.size (fun b _ hl=>hb.block b hl))
  have U6:=hide ((ListT.ok (dcV_ok true) _ _ _).frame U5.out hb.size (fun b _ hl=>hb.block b hl))
  have V6:=hide hu
  have S5:Hid (w.heap.size≤w5.heap.size):=B5.out.size
  clear hb hu B5 P5 Q5 U5
  go_wp2_with fail
  refine (bare_any Bs.out.1 Bs.out.2 _ _ _ Q6.out).mono ?_
  rintro e w7 ⟨u7,rfl,hu,hb⟩
  have B7:=hide (B6.out.trans (hb.mono B6.out.size))
  have U7:=hide ((ListT.ok (dcV_ok true) _ _ _).frame U6.out hb.size (fun b _ hl=>hb.block b hl))
  have V7:=hide ((ListT.ok (dcV_ok true) _ _ _).frame V6.out hb.size (fun b _ hl=>hb.block b hl))
  have W7:=hide hu
  clear hb hu B6 Q6 U6 V6
  have hB5:∀ b,Bn w5 w6 b→w.heap.size≤b:=fun b hb=>Nat.le_trans S5.out hb.1
  have hsz:w.heap.size≤w7.heap.size:=B7.out.size
  have HB5:=hide hB5
  have HSZ:=hide hsz
  clear hB5 hsz
  go_wp2_with (first
   | (
    at_builtin
    refine wpList_appD (by simp [Region.wanted,yielded]) _ _ rfl (B:=w.heap.size) rfl rfl V7.out W7.out HB5.out HSZ.out As.out.1 Bs.out.1 ?_
    intro v8 w8 L8 G8 X8
    have HL8:=hide L8
    have HG8:=hide G8
    have HX8:=hide X8
    clear L8 G8 X8))
  have U8:Hid (ListT (dcV true) mkAgg 15 69 w8 (Bn w4 w5) u5 (da ++ db)):=(ListT.ok (dcV_ok true) _ _ _).frame U7.out HG8.out.size (fun b hb hl=>HG8.out.block b hl (fun e=>by
   have:=(HX8.out b e.symm).1
   have:=hb.2
   omega))
  have B8:Hid (Below w.heap.size w w8):=B7.out.grown HG8.out HSZ.out (fun r e=>HB5.out r (HX8.out r e))
  have DD:Hid (SmL lsD (da ++ db)):=by
   obtain ⟨e1,_⟩:=HQ.out.at
   refine ⟨by rw [e1];exact Ds.out.1,fun x hx=>?_⟩
   rcases List.mem_append.1 hx with h | h
   ·exact As.out.2 x h
   ·exact Bs.out.2 x h
  have HS:=hide (same_bare DD.out.1 DD.out.2 U8.out HL8.out)
  clear U7 V7 W7 HG8 HX8 HL8 U8 DD B7
  go_wp2_with fail
  refine HS.out.mono ?_
  rintro e w9 ⟨rfl,hb⟩
  have B9:=hide (B8.out.trans (hb.mono B8.out.size))
  clear hb
  go_wp2
  go_ret
  exact ⟨rfl,B9.out⟩
theorem parseL_ne {s:List UInt8} {x:Nat × Nat} (h:parseL s=.error x):x.2 ≠ 0:=by
 unfold parseL at h
 split at h
 ·cases h;simp
 ·split at h
  ·cases h;simp
  ·split at h
   ·cases h;simp
   ·split at h
    ·cases h;simp
    ·cases h
set_option maxHeartbeats 8000000 in
set_option maxRecDepth 100000 in
theorem joins_out (a b:List UInt8) (w:World) {bt:Nat} (hLs:Ls w) (hTw:Tws w bt) (la:a.length≤9223372036854775807) (lb:b.length≤9223372036854775807)
  (h:(resE (parseL a)).2 ≠ 0 ∨ ((resE (parseL a)).2=0∧(resE (parseL b)).2 ≠ 0) ∨ ((resE (parseL a)).2=0∧(resE (parseL b)).2=0∧65535 < a.length+b.length∧a.length+b.length≤1000000)) :
  Calls Tryz.prog 4 #[.string (txt a),.string (txt b)] w fun e w'=>e=.returned (.bool true)∧Below w.heap.size w w':=by
 have HA:=hide (fun W (hb:Below w.heap.size w W)=>alive8_any W (hLs.below hb) (hTw.below hb))
 have HP1:=hide (parse_mg a la (txt a) rfl w hLs hTw)
 have HP2:=hide (fun W (h:Below w.heap.size w W)=>parse_mg b lb (txt b) rfl W (hLs.below h) (hTw.below h))
 have sa:(txt a).size=a.length:=txt_size a
 have sb:(txt b).size=b.length:=txt_size b
 rw [← sa,← sb] at h
 generalize txt a=A at *
 generalize txt b=B at *
 generalize (resE (parseL a)).1=na at *
 generalize (resE (parseL a)).2=ea at *
 generalize (resE (parseL b)).1=nb at *
 generalize (resE (parseL b)).2=eb at *
 have HH:=hide h
 clear hLs hTw sa sb la lb h
 go_enter Tryz.func4,Tryz.ntmps4
 go_wp2_with fail
 refine HP1.out.mono ?_
 rintro e w1 ⟨vp,rfl,hb⟩
 have B1:=hide hb
 clear hb HP1
 go_wp2_with fail
 refine (HP2.out _ B1.out).mono ?_
 rintro e w2 ⟨vq,rfl,hb⟩
 have B2:=hide (B1.out.trans (hb.mono B1.out.size))
 clear hb HP2 B1
 go_wp2_with fail
 refine (HA.out _ B2.out).mono ?_
 rintro e w3 ⟨rfl,hb⟩
 have B3:=hide (B2.out.trans (hb.mono B2.out.size))
 clear hb B2
 rcases HH.out with h | ⟨h1,h2⟩ | ⟨h1,h2,h3,h4⟩
 ·have i1:¬ ((ea:Int)=0):=by omega
  clear HH
  go_wp2_with fail
  refine (HA.out _ B3.out).mono ?_
  rintro e w4 ⟨rfl,hb⟩
  have B4:=hide (B3.out.trans (hb.mono B3.out.size))
  clear hb
  go_wp2
  go_ret
  exact ⟨rfl,B4.out⟩
 ·subst h1
  have i2:¬ ((eb:Int)=0):=by omega
  clear HH
  rw [show ((0:Nat):Int)=0 from rfl]
  go_wp2_with fail
  refine (HA.out _ B3.out).mono ?_
  rintro e w4 ⟨rfl,hb⟩
  have B4:=hide (B3.out.trans (hb.mono B3.out.size))
  clear hb
  go_wp2
  go_ret
  exact ⟨rfl,B4.out⟩
 ·subst h1 h2
  have z3:IntKind.i64.wrap ((A.size:Int)+(B.size:Int))=(A.size:Int)+(B.size:Int):=by rw [IntKind.wrap_i64];omega
  have z0:(65535:Int) < (A.size:Int)+(B.size:Int):=by omega
  clear HH
  rw [show ((0:Nat):Int)=0 from rfl]
  go_wp2_with fail
  refine (HA.out _ B3.out).mono ?_
  rintro e w4 ⟨rfl,hb⟩
  have B4:=hide (B3.out.trans (hb.mono B3.out.size))
  clear hb
  go_wp2
  go_ret
  exact ⟨rfl,B4.out⟩
theorem joins_any (a b:List UInt8) (w:World) {bt:Nat} (hLs:Ls w) (hTw:Tws w bt) (la:a.length≤9223372036854775807) (lb:b.length≤9223372036854775807) :
  Calls Tryz.prog 4 #[.string (txt a),.string (txt b)] w fun e w'=>e=.returned (.bool true)∧Below w.heap.size w w':=by
 cases ha:parseL a with
 | error x=>exact joins_out a b w hLs hTw la lb (.inl (by rw [ha];exact parseL_ne ha))
 | ok da =>
  cases hb:parseL b with
  | error x=>exact joins_out a b w hLs hTw la lb (.inr (.inl ⟨by rw [ha];rfl,by rw [hb];exact parseL_ne hb⟩))
  | ok db =>
   have h1:=(parseL_words ha).1
   have h2:=(parseL_words hb).1
   by_cases hl:a.length+b.length≤65535
   ·exact joins_in a b da db w hLs hTw ha hb hl
   ·exact joins_out a b w hLs hTw la lb (.inr (.inr ⟨by rw [ha];rfl,by rw [hb];rfl,by omega,by omega⟩))
end Go.Proofs.YtabkimknlifdoaaGreatDoor
