/- Pieces of the proof: LGd, LYm, LAm, PLd, TWa, TWb, TWc, TWd. -/
import Derived.Test.YtabkimknlifdoaaGreatDoorJ38
import Derived.Test.YtabkimknlifdoaaGreatDoorJ34
namespace Go.Proofs.YtabkimknlifdoaaGreatDoor
open Go.RowKit
def Good (x:Wd):Prop:=(∃ c l,x=⟨1,c :: l,0,0⟩∧(∀ y ∈ c :: l,isW y=true)∧isD c=false∧(c :: l).length≤255) ∨ (∃ n,x=⟨2,[],64,n⟩∧n≤2147483647) ∨ (∃ n v,x=⟨3,[],n,v⟩∧okN (n:Int) v=true) ∨ (∃ j,j < 27∧x=⟨4,sgs.getD j [],0,0⟩)
theorem sgn_mem {r:List UInt8} (h:sgn r ≠ []):∃ j,j < 27∧sgn r=sgs.getD j []:=by
 unfold sgn at h ⊢
 cases hf:sgs.find? (fun s=>s.isPrefixOf r) with
 | none=>rw [hf] at h;exact absurd rfl h
 | some s =>
  have hm:=List.mem_of_find?_eq_some hf
  obtain ⟨j,hj,e⟩:=List.mem_iff_getElem.1 hm
  refine ⟨j,hj,?_⟩
  simp [List.getD,List.getElem?_eq_getElem hj,e]
theorem tw_all {P:UInt8→Bool}:∀ (l:List UInt8),∀ y ∈ l.takeWhile P,P y=true
 | [],y,h=>by simp at h
 | c :: l,y,h=>by
  rw [List.takeWhile_cons] at h
  split at h
  ·rename_i hc
   rcases List.mem_cons.1 h with rfl | h
   ·exact hc
   ·exact tw_all l y h
  ·simp at h
theorem wdA_good {r r':List UInt8} {x:Wd} (h:wdA r=(some x,r')):Good x:=by
 unfold wdA at h
 have hall:=tw_all (P:=isW) r
 cases hr:r.takeWhile isW with
 | nil =>
  rw [hr] at h
  simp only [wd1,Prod.mk.injEq] at h
  obtain ⟨h1,_⟩:=h
  unfold signW at h1
  split at h1
  ·cases h1
  ·rename_i hne
   injection h1 with h1
   obtain ⟨j,hj,e⟩:=sgn_mem hne
   exact .inr (.inr (.inr ⟨j,hj,by rw [← h1,e]⟩))
 | cons c l =>
  rw [hr] at h hall
  unfold wd1 at h
  simp only at h
  split at h
  ·split at h
   ·have h1:=(Prod.mk.inj h).1
    unfold wholeW at h1
    split at h1
    ·rename_i n hn
     split at h1
     ·injection h1 with h1
      exact .inr (.inl ⟨n,h1.symm,puE_lt31 hn⟩)
     ·cases h1
    ·cases h1
   ·have h1:=(Prod.mk.inj h).1
    unfold numW at h1
    split at h1
    ·rename_i n v hp
     injection h1 with h1
     exact .inr (.inr (.inl ⟨n,v,h1.symm,(prs_some hp).1⟩))
    ·cases h1
  ·rename_i hD
   have h1:=(Prod.mk.inj h).1
   unfold nameW at h1
   split at h1
   ·rename_i hlen
    injection h1 with h1
    exact .inl ⟨c,l,h1.symm,hall,by simpa using hD,hlen⟩
   ·cases h1
theorem tk_good:∀ (m:Nat) (r:List UInt8) (n:Nat) (xs:List (Wd × Nat)),r.length=m→tk r n=.ok xs→(∀ x ∈ xs,Good x.1∧n≤x.2)∧xs.Pairwise (fun a b=>a.2≤b.2):=by
 intro m
 induction m using Nat.strongRecOn with
 | _ m ih =>
  intro r n xs hm h
  by_cases h0:r=[]
  ·rw [h0,tk_nil] at h;cases h;exact ⟨fun x hx=>by simp at hx,List.Pairwise.nil⟩
  ·cases hw:wdA r with
   | mk o r' =>
    cases o with
    | none=>rw [tk_none h0 hw] at h;cases h
    | some y =>
     have hless:=wdA_less hw
     have hsk:=skip_le r'
     have hc:=skip_c10 r'
     rw [tk_some h0 hw] at h
     cases ht:tk (skip r') (n+c10 r' - c10 (skip r')) with
     | error k=>rw [ht] at h;cases h
     | ok ws =>
      rw [ht] at h
      cases h
      obtain ⟨i1,i2⟩:=ih _ (by omega) _ _ _ rfl ht
      refine ⟨fun x hx=>?_,List.Pairwise.cons (fun b hb=>?_) i2⟩
      ·rcases List.mem_cons.1 hx with rfl | hx
       ·exact ⟨wdA_good hw,Nat.le_refl _⟩
       ·have:=i1 x hx;exact ⟨this.1,by omega⟩
      ·have:=(i1 b hb).2
       show n≤b.2
       omega
theorem toks_good {s:List UInt8} {xs:List (Wd × Nat)} (h:toks s=.ok xs):(∀ x ∈ xs,Good x.1)∧xs.Pairwise (fun a b=>a.2≤b.2):=by
 have:=tk_good _ _ _ _ rfl h
 exact ⟨fun x hx=>(this.1 x hx).1,this.2⟩
def Lx (xs:List (Wd × Nat)):List (Wd × Nat):=xs ++ [endW xs]
theorem Lx_len (xs:List (Wd × Nat)):(Lx xs).length=xs.length+1:=by simp [Lx]
theorem Lx_lt {xs:List (Wd × Nat)} {j:Nat} (h:j < xs.length):(Lx xs)[j]? = xs[j]?:=by unfold Lx;rw [List.getElem?_append_left h]
theorem Lx_end (xs:List (Wd × Nat)):(Lx xs)[xs.length]? = some (endW xs):=by unfold Lx;rw [List.getElem?_append_right (Nat.le_refl _)];simp
theorem Lx_le (xs:List (Wd × Nat)):Le (Lx xs):=by
 intro k x hx hn
 have hk:k < (Lx xs).length:=(List.getElem?_eq_some_iff.1 hx).1
 rw [Lx_len] at hk ⊢
 by_cases e:k=xs.length
 ·subst e
  rw [Lx_end] at hx
  injection hx with hx
  subst hx
  rcases hn with hn | hn <;> exact absurd rfl hn
 ·omega
def resE:PRes→Nat × Nat
 | .error x=>x
 | .ok _=>(0,0)
theorem parse_of {s:List UInt8} {xs:List (Wd × Nat)} (hl:s.length≤65536) (h:toks s=.ok xs):parseL s=match progA (Lx xs) 0 with
  | .error k=>.error (lineP (Lx xs) k,5)
  | .ok (ds,_)=>if limT ds then .error (0,3) else .ok ds:=by
 unfold parseL
 rw [if_neg (by omega),h]
 rfl
def lnAt (e o:Nat):Prop:=(e=49∧o % 10=9) ∨ (e=72∧o % 9=8) ∨ (e=79∧o % 6=5) ∨ (e=85∧o % 11=9) ∨ (e=69∧o % 15=14)
structure LZ (X:Nat→Prop) (W W':World):Prop where
 fr:Fr X W W'
 ln:∀ (b:Nat) (cur:Array Value) (e:TypeId),W.heap[b]? = some (.cells cur e (0,0))→∃ cur':Array Value,W'.heap[b]? = some (.cells cur' e (0,0))∧cur'.size=cur.size∧∀ o:Nat,cur'[o]? = cur[o]? ∨ (lnAt e o∧cur'[o]? = some (.int .i64 0))
theorem LZ.of {X:Nat→Prop} {W W':World} (h:Below W.heap.size W W'):LZ X W W' where
 fr:=⟨h.os,h.tape,h.output,h.size,fun b hb _=>h.block b hb⟩
 ln:=fun b cur _ hb=>⟨cur,(h.block b (Array.getElem?_eq_some_iff.1 hb).1).trans hb,rfl,fun _=>.inl rfl⟩
theorem LZ.trans {X:Nat→Prop} {W W1 W2:World} (h:LZ X W W1) (k:LZ X W1 W2):LZ X W W2 where
 fr:=h.fr.trans k.fr (fun _ _ e=>e)
 ln:=fun b cur e hb=>by
  obtain ⟨c1,h1,h2,h3⟩:=h.ln b cur e hb
  obtain ⟨c2,k1,k2,k3⟩:=k.ln b c1 e h1
  refine ⟨c2,k1,k2.trans h2,fun o=>?_⟩
  rcases k3 o with e1 | e1
  ·rcases h3 o with e2 | ⟨e2,e3⟩
   ·exact .inl (e1.trans e2)
   ·exact .inr ⟨e2,e1.trans e3⟩
  ·exact .inr e1
theorem LZ.set {X:Nat→Prop} {W:World} {g o e:Nat} {cur:Array Value} (hg:W.heap[g]? = some (.cells cur e (0,0))) (hX:X g) (hl:lnAt e o) (ho:o < cur.size):LZ X W (W.setCell ⟨g,o,none⟩ (.int .i64 0)) where
 fr:=(Fr.refl X W).set _ _ hX
 ln:=fun b c e' hb=>by
  by_cases hbg:b=g
  ·subst hbg
   rw [hg] at hb
   injection hb with hb
   injection hb with h1 h2
   subst h1 h2
   refine ⟨cur.setIfInBounds o (.int .i64 0),?_,by simp,fun o'=>?_⟩
   ·exact heap_setCell_same (k:=o) hg (.int .i64 0)
   ·by_cases hoo:o=o'
    ·subst hoo
     exact .inr ⟨hl,by simp [ho]⟩
    ·exact .inl (by simp [hoo])
  ·exact ⟨c,(Below.heap_setCell _ _ _ _ (fun e=>hbg e)).trans hb,rfl,fun _=>.inl rfl⟩
def ListI {α:Type} (rep:Nat→Rep α) (mk:List Value→Value) (K e:Nat):Rep (List α):=fun W X v l =>
 ∃ (g c:Nat) (cur:Array Value) (css:List (List Value)),v=.slice (some ⟨g,0,none⟩) l.length c∧X g∧W.heap[g]? = some (.cells cur e (0,0))∧(css.length=l.length∧cur.size=c * K∧l.length≤c∧c≤maxLen)∧∀ i (h:i < css.length) (h':i < l.length),css[i].length=K∧(∀ j u,css[i][j]? = some u→cur[i * K+j]? = some u)∧rep i W X (mk css[i]) l[i]
theorem ListT.toI {α:Type} {rep:Rep α} {mk:List Value→Value} {K e:Nat} {W:World} {X:Nat→Prop} {v:Value} {l:List α} (h:ListT rep mk K e W X v l):ListI (fun _=>rep) mk K e W X v l:=h
theorem ListI.toT {α:Type} {rep:Nat→Rep α} {rep':Rep α} {mk:List Value→Value} {K e:Nat} {W:World} {X:Nat→Prop} {v:Value} {l:List α} (h:ListI rep mk K e W X v l) (hr:∀ i,i < l.length→∀ v x,rep i W X v x→rep' W X v x):ListT rep' mk K e W X v l:=by
 obtain ⟨g,c,cur,css,h1,h2,h3,h4,h5⟩:=h
 exact ⟨g,c,cur,css,h1,h2,h3,h4,fun i hi hi'=>⟨(h5 i hi hi').1,(h5 i hi hi').2.1,hr i hi' _ _ (h5 i hi hi').2.2⟩⟩
theorem ListI.lz {α:Type} {rep rep':Nat→Rep α} {mk:List Value→Value} {K e j0:Nat} {W W':World} {X:Nat→Prop} {v:Value} {l:List α} (hj:∀ o,lnAt e o→o % K=j0) (hz:LZ X W W') (h:ListI rep mk K e W X v l)
  (hr:∀ i (hi:i < l.length) (cs cs':List Value),cs.length=K→(cs'=cs ∨ cs'=cs.set j0 (.int .i64 0))→(∀ g c cur',v=.slice (some ⟨g,0,none⟩) l.length c→W'.heap[g]? = some (.cells cur' e (0,0))→∀ j u,cs'[j]? = some u→cur'[i * K+j]? = some u)→rep i W X (mk cs) l[i]→rep' i W' X (mk cs') l[i]):ListI rep' mk K e W' X v l:=by
 obtain ⟨g,c,cur,css,h1,h2,h3,h4,h5⟩:=h
 obtain ⟨cur',k1,k2,k3⟩:=hz.ln g cur e h3
 have key:∀ i (hi:i < css.length),∃ cs':List Value,(cs'=css[i] ∨ cs'=css[i].set j0 (.int .i64 0))∧∀ j u,cs'[j]? = some u→cur'[i * K+j]? = some u:=fun i hi=>by
  obtain ⟨a1,a2,a3⟩:=h5 i hi (by omega)
  have ne:∀ j,j < K→j ≠ j0→cur'[i * K+j]? = cur[i * K+j]?:=fun j hjK hjn=>by
   rcases k3 (i * K+j) with e1 | ⟨e1,_⟩
   ·exact e1
   ·have h6:=hj _ e1
    rw [Nat.mul_comm,Nat.mul_add_mod,Nat.mod_eq_of_lt hjK] at h6
    exact absurd h6 hjn
  rcases k3 (i * K+j0) with e1 | ⟨_,e1⟩
  ·refine ⟨css[i],.inl rfl,fun j u hu=>?_⟩
   have hjK:j < K:=by have:=(List.getElem?_eq_some_iff.1 hu).1;omega
   by_cases hjn:j=j0
   ·subst hjn;rw [e1];exact a2 j u hu
   ·rw [ne j hjK hjn];exact a2 j u hu
  ·refine ⟨css[i].set j0 (.int .i64 0),.inr rfl,fun j u hu=>?_⟩
   have hjK:j < K:=by have:=(List.getElem?_eq_some_iff.1 hu).1;simp at this;omega
   by_cases hjn:j=j0
   ·subst hjn
    rw [List.getElem?_set_self (by omega)] at hu
    injection hu with hu
    rw [e1,hu]
   ·rw [List.getElem?_set_ne (fun e=>hjn e.symm)] at hu
    rw [ne j hjK hjn];exact a2 j u hu
 have pick:∃ css':List (List Value),css'.length=css.length∧∀ i (hi:i < css.length) (hi':i < css'.length),(css'[i]=css[i] ∨ css'[i]=css[i].set j0 (.int .i64 0))∧∀ j u,css'[i][j]? = some u→cur'[i * K+j]? = some u:=by
  refine ⟨(List.range css.length).map fun i=>if hi:i < css.length then (key i hi).choose else [],by simp,fun i hi hi'=>?_⟩
  have e:((List.range css.length).map fun i=>if hi:i < css.length then (key i hi).choose else [])[i]=(key i hi).choose:=by simp [hi]
  rw [e]
  exact (key i hi).choose_spec
 obtain ⟨css',p1,p2⟩:=pick
 refine ⟨g,c,cur',css',h1,h2,k1,⟨p1.trans h4.1,k2.trans h4.2.1,h4.2.2⟩,fun i hi hi'=>?_⟩
 have hi2:i < css.length:=by omega
 obtain ⟨q1,q2⟩:=p2 i hi2 hi
 obtain ⟨a1,_,a3⟩:=h5 i hi2 hi'
 refine ⟨by rcases q1 with q1 | q1 <;> rw [q1] <;> simp [a1],q2,hr i hi' css[i] _ a1 q1 (fun g' c' cur2 e1 e2=>?_) a3⟩
 rw [h1] at e1
 injection e1 with e1
 injection e1 with e1
 injection e1 with e1
 subst e1
 rw [k1] at e2
 injection e2 with e2
 injection e2 with e2
 subst e2
 exact q2
theorem exV_lz {p:Bool} {R:Rep (List Ex)} {W W':World} {X:Nat→Prop} {cs cs':List Value} {x:Ex} (hR:∀ v l,R W X v l→R W' X v l) (hc:cs'=cs ∨ cs'=cs.set 9 (.int .i64 0)) (h:exV p R W X (mkAgg cs) x):exV p R W' X (mkAgg cs') x:=by
 obtain ⟨va,ln,e,h1,h2⟩:=h
 obtain rfl:=mkAgg_inj e
 rcases hc with rfl | rfl
 ·exact ⟨va,ln,rfl,h1,hR _ _ h2⟩
 ·exact ⟨va,0,rfl,fun _=>rfl,hR _ _ h2⟩
theorem at_expr:∀ o,lnAt 49 o→o % 10=9:=fun o h=>by unfold lnAt at h;omega
theorem xL_lz {p:Bool} {W W':World} {X:Nat→Prop} (hz:LZ X W W'):∀ (d:Nat) (v:Value) (l:List Ex),xL p d W X v l→xL p d W' X v l
 | 0,_,_,h=>h.elim
 | d+1,_,_,h=>(ListI.lz (rep':=fun _=>exV p (xL p d)) at_expr hz (ListT.toI h) (fun _ _ _ _ _ hc _ hr=>exV_lz (fun v l h=>xL_lz hz d v l h) hc hr)).toT (fun _ _ _ _ h=>h)
theorem LSX.len {l:List Ex} (h:LSX l):l.length≤1000000:=lsX_len (h 0)
theorem LSX.arg {l:List Ex} (h:LSX l) {x:Ex} (hx:x ∈ l):LSX x.args:=fun d=>(h (d+1)).2 x hx
def Ze {α:Type} (F:Nat) (R R':Rep α) (l:α):Prop:=∀ (W:World) (X:Nat→Prop) (v:Value),R W X v l→Calls Tryz.prog F #[v] W fun e w'=>e=.returned (.tuple #[])∧LZ X W w'∧R' w' X v l
theorem blk_cell {w:World} {g o:Nat} {cur:Array Value} {e:TypeId} (h:w.heap[g]? = some (.cells cur e (0,0))):w.cell? ⟨g,o,none⟩=cur[o]?:=by unfold World.cell?;simp only [h];rfl
theorem blk_frz {w:World} {b:Nat} {A:Array Value} {e:TypeId} (h:w.heap[b]? = some (.cells A e (0,0))):∀ o,w.frozen? ⟨b,o,none⟩=false:=fun o=>by unfold World.frozen?;simp only [h];simp
theorem LZ.cell {X:Nat→Prop} {W W':World} (hz:LZ X W W') {g o:Nat} {cur:Array Value} {e:TypeId} (h:W.heap[g]? = some (.cells cur e (0,0))):W'.cell? ⟨g,o,none⟩=cur[o]? ∨ (lnAt e o∧W'.cell? ⟨g,o,none⟩=some (.int .i64 0)):=by
 obtain ⟨cur',h1,_,h3⟩:=hz.ln g cur e h
 rw [blk_cell h1]
 exact h3 o
set_option maxRecDepth 100000 in
set_option maxHeartbeats 4000000 in
theorem expr_zero {d:Nat} {x:Ex} (HX:Ze 26 (xL false d) (xL true d) x.args) (W:World) (X:Nat→Prop) (g o e:Nat) (cur:Array Value) (va:Value) (ln:Int) (hg:W.heap[g]? = some (.cells cur e (0,0))) (hX:X g) (hl:lnAt e (o+9)) (hl8:¬ lnAt e (o+8))
  (hc:∀ j u,(exZ x va ln)[j]? = some u→cur[o+j]? = some u) (hr:xL false d W X va x.args) :
  Calls Tryz.prog 27 #[.pointer (some ⟨g,o,none⟩)] W fun e w'=>e=.returned (.tuple #[])∧LZ X W w'∧xL true d w' X va x.args∧w'.cell? ⟨g,o+9,none⟩=some (.int .i64 0)∧w'.cell? ⟨g,o+8,none⟩=some va:=by
 obtain ⟨a,n,c,rfl⟩:=xL_form hr
 have h8:=hc 8 _ rfl
 have h9:=hc 9 _ rfl
 have ho:o+9 < cur.size:=(Array.getElem?_eq_some_iff.1 h9).1
 have Z1:=LZ.set (X:=X) hg hX hl ho
 have g1:=heap_setCell_same (k:=o+9) hg (.int .i64 0)
 have c9:W.cell? ⟨g,o+9,none⟩=some (.int .i64 ln):=(blk_cell hg).trans h9
 have f9:=blk_frz hg (o+9)
 have c8:(W.setCell ⟨g,o+9,none⟩ (.int .i64 0)).cell? ⟨g,o+8,none⟩=some (.slice a n c):=(blk_cell g1).trans (by rw [Array.getElem?_setIfInBounds_ne (by omega)];exact h8)
 have HC:=hide (HX _ X _ (xL_lz Z1 d _ _ hr))
 have P9:Hid (∀ w',LZ X (W.setCell ⟨g,o+9,none⟩ (.int .i64 0)) w'→w'.cell? ⟨g,o+9,none⟩=some (.int .i64 0)):=fun w' hz=>by
  rcases hz.cell g1 (o:=o+9) with e1 | ⟨_,e1⟩
  ·rw [e1];simp [ho]
  ·exact e1
 have P8:Hid (∀ w',LZ X (W.setCell ⟨g,o+9,none⟩ (.int .i64 0)) w'→w'.cell? ⟨g,o+8,none⟩=some (.slice a n c)):=fun w' hz=>by
  rcases hz.cell g1 (o:=o+8) with e1 | ⟨e1,_⟩
  ·rw [e1,Array.getElem?_setIfInBounds_ne (by omega)];exact h8
  ·exact absurd e1 hl8
 have ZZ:=hide Z1
 clear hc hr h8 h9 Z1 g1 hg HX
 go_enter Tryz.func27,Tryz.ntmps27
 go_wp2_with fail
 refine HC.out.mono ?_
 rintro e w2 ⟨rfl,hz,h2⟩
 have H2:=hide h2
 have HZ:=hide hz
 clear h2 hz c9 c8 f9
 go_wp2
 go_end0
 exact ⟨rfl,ZZ.out.trans HZ.out,H2.out,P9.out _ HZ.out,P8.out _ HZ.out⟩
set_option maxRecDepth 100000 in
set_option maxHeartbeats 4000000 in
theorem exprs_zero:∀ (d:Nat) (l:List Ex),LSX l→Ze 26 (xL false d) (xL true d) l
 | 0,_,_,_,_,_,h=>h.elim
 | d+1,l,hs,W,X,v,h=>by
  have HE:=hide (fun (x:Ex) (hx:x ∈ l)=>exprs_zero d x.args (hs.arg hx))
  have hlen:=hs.len
  have hI:ListI (fun i=>exV (decide (i < 0)) (xL (decide (i < 0)) d)) mkAgg 10 49 W X v l:=by simpa using ListT.toI h
  have H0:=hide hI
  obtain ⟨g,c,_,_,rfl,_⟩:=h
  clear hs hI
  go_enter Tryz.func26,Tryz.ntmps26
  go_wp2
  go_loopw [2] (fun vi wr=>∃ (k:Nat),vi=.int .i64 (k:Int)∧k≤l.length∧Hid (LZ X W wr)∧Hid (ListI (fun i=>exV (decide (i < k)) (xL (decide (i < k)) d)) mkAgg 10 49 wr X (.slice (some ⟨g,0,none⟩) l.length c) l)) (fun vi _=>l.length - (intOf vi).toNat)
  case atStart=>exact ⟨0,rfl,Nat.zero_le _,LZ.of (Below.refl _ _),H0⟩
  case round =>
   obtain ⟨k,rfl,hk,HZ,HI⟩:=hrel
   clear H0
   by_cases hlt:k < l.length
   ·have hkI:(k:Int) < (l.length:Int):=by omega
    obtain ⟨g',c',cur,css,e1,hX,hg,hcl,h5⟩:=HI.out
    injection e1 with e1 _ e2
    injection e1 with e1
    injection e1 with e1
    subst e1 e2
    obtain ⟨q1,q2,q3⟩:=h5 k (by omega) hlt
    obtain ⟨va,ln,e3,_,q4⟩:=q3
    have e4:=mkAgg_inj e3
    rw [e4] at q2
    have e5:decide (k < k)=false:=by simp
    simp only [e5] at q4
    have HC:=hide (expr_zero (HE.out _ (List.getElem_mem hlt)) wr X g (k * 10) 49 cur va ln hg hX (by unfold lnAt;omega) (by unfold lnAt;omega) q2 q4)
    have HG:=hide hg
    clear h5 q1 q2 e3 q4 e4 hg hcl e5
    go_wp2_with fail
    refine HC.out.mono ?_
    rintro e w2 ⟨rfl,hz,h1,h2,h3⟩
    have HZ2:=hide (HZ.out.trans hz)
    have HI2:Hid (ListI (fun i=>exV (decide (i < k+1)) (xL (decide (i < k+1)) d)) mkAgg 10 49 w2 X (.slice (some ⟨g,0,none⟩) l.length c) l):=ListI.lz at_expr hz HI.out (fun i hi cs cs' hK hc hcell hr=>by
     by_cases hik:i=k
     ·subst hik
      obtain ⟨va',ln',e,_,_⟩:=hr
      obtain rfl:=mkAgg_inj e
      obtain ⟨cur',k1,_,_⟩:=hz.ln g cur _ HG.out
      have hcc:=hcell g c cur' rfl k1
      rw [blk_cell k1] at h2 h3
      have e7:decide (i < i+1)=true:=by simp
      simp only [e7]
      rcases hc with rfl | rfl
      ·have u9:=(hcc 9 _ rfl).symm.trans h2
       have u8:=(hcc 8 _ rfl).symm.trans h3
       injection u9 with u9
       injection u9 with _ u9
       injection u8 with u8
       subst u9 u8
       exact ⟨_,0,rfl,fun _=>rfl,h1⟩
      ·have u8:=(hcc 8 _ rfl).symm.trans h3
       injection u8 with u8
       subst u8
       exact ⟨_,0,rfl,fun _=>rfl,h1⟩
     ·have e6:decide (i < k+1)=decide (i < k):=by congr 1;simp;omega
      rw [e6]
      exact exV_lz (fun v l h=>xL_lz hz d v l h) hc hr)
    clear hz h1 h2 h3 HI HZ HC
    go_wp2
    exact ⟨⟨k+1,by congr 1,by omega,HZ2,HI2⟩,by simp [intOf];omega⟩
   ·obtain rfl:k=l.length:=by omega
    have HT:=hide (ListI.toT (rep':=exV true (xL true d)) HI.out (fun i hi v x h=>by
     have e:decide (i < l.length)=true:=by simp [hi]
     simp only [e] at h
     exact h))
    go_wp2
    go_end0
    exact ⟨rfl,HZ.out,HT.out⟩
theorem XL_lz {p:Bool} {W W':World} {X:Nat→Prop} (hz:LZ X W W') {v:Value} {l:List Ex} (h:XL p W X v l):XL p W' X v l:=by
 obtain ⟨d,h⟩:=h
 exact ⟨d,xL_lz hz d v l h⟩
theorem zeX {l:List Ex} (hs:LSX l):Ze 26 (XL false) (XL true) l:=fun W X v ⟨d,h⟩=>(exprs_zero d l hs W X v h).mono fun _ _ ⟨e1,e2,e3⟩=>⟨e1,e2,d,e3⟩
theorem smV_lz {p:Bool} {R:Rep (List Sm)} {W W':World} {X:Nat→Prop} {cs cs':List Value} {x:Sm} (hz:LZ X W W') (hR:∀ v l,R W X v l→R W' X v l) (hc:cs'=cs ∨ cs'=cs.set 8 (.int .i64 0)) (h:smV p R W X (mkAgg cs) x):smV p R W' X (mkAgg cs') x:=by
 obtain ⟨va,vb,ve,ln,e,h1,h2,h3,h4⟩:=h
 obtain rfl:=mkAgg_inj e
 rcases hc with rfl | rfl
 ·exact ⟨va,vb,ve,ln,rfl,h1,XL_lz hz h2,hR _ _ h3,hR _ _ h4⟩
 ·exact ⟨va,vb,ve,0,rfl,fun _=>rfl,XL_lz hz h2,hR _ _ h3,hR _ _ h4⟩
theorem at_stmt:∀ o,lnAt 72 o→o % 9=8:=fun o h=>by unfold lnAt at h;omega
theorem sL_lz {p:Bool} {W W':World} {X:Nat→Prop} (hz:LZ X W W'):∀ (d:Nat) (v:Value) (l:List Sm),sL p d W X v l→sL p d W' X v l
 | 0,_,_,h=>h.elim
 | d+1,_,_,h=>(ListI.lz (rep':=fun _=>smV p (sL p d)) at_stmt hz (ListT.toI h) (fun _ _ _ _ _ hc _ hr=>smV_lz hz (fun v l h=>sL_lz hz d v l h) hc hr)).toT (fun _ _ _ _ h=>h)
theorem LSS.len {l:List Sm} (h:LSS l):l.length≤1000000:=lsS_len (h 0)
theorem LSS.args {l:List Sm} (h:LSS l) {x:Sm} (hx:x ∈ l):LSX x.args:=((h 1).2 x hx).1
theorem LSS.body {l:List Sm} (h:LSS l) {x:Sm} (hx:x ∈ l):LSS x.body:=fun d=>((h (d+1)).2 x hx).2.1
theorem LSS.els {l:List Sm} (h:LSS l) {x:Sm} (hx:x ∈ l):LSS x.els:=fun d=>((h (d+1)).2 x hx).2.2
theorem LZ.keep {X:Nat→Prop} {W W':World} (hz:LZ X W W') {g o:Nat} {cur:Array Value} {e:TypeId} {u:Value} (h:W.heap[g]? = some (.cells cur e (0,0))) (hu:cur[o]? = some u) (hn:¬ lnAt e o):W'.cell? ⟨g,o,none⟩=some u:=by
 rcases hz.cell h (o:=o) with e1 | ⟨e1,_⟩
 ·exact e1.trans hu
 ·exact absurd e1 hn
theorem LZ.zero {X:Nat→Prop} {W W':World} {g o:Nat} {cur:Array Value} {e:TypeId} (h:W.heap[g]? = some (.cells cur e (0,0))) (ho:o < cur.size) (hz:LZ X (W.setCell ⟨g,o,none⟩ (.int .i64 0)) W'):W'.cell? ⟨g,o,none⟩=some (.int .i64 0):=by
 rcases hz.cell (heap_setCell_same (k:=o) h (.int .i64 0)) (o:=o) with e1 | ⟨_,e1⟩
 ·rw [e1];simp [ho]
 ·exact e1
set_option maxRecDepth 100000 in
set_option maxHeartbeats 4000000 in
theorem stmts_zero:∀ (d:Nat) (l:List Sm),LSS l→Ze 28 (sL false d) (sL true d) l
 | 0,_,_,_,_,_,h=>h.elim
 | d+1,l,hs,W,X,v,h=>by
  have HA:=hide (fun (x:Sm) (hx:x ∈ l)=>zeX (hs.args hx))
  have HB:=hide (fun (x:Sm) (hx:x ∈ l)=>stmts_zero d x.body (hs.body hx))
  have HC:=hide (fun (x:Sm) (hx:x ∈ l)=>stmts_zero d x.els (hs.els hx))
  have hlen:=hs.len
  have hI:ListI (fun i=>smV (decide (i < 0)) (sL (decide (i < 0)) d)) mkAgg 9 72 W X v l:=by simpa using ListT.toI h
  have H0:=hide hI
  obtain ⟨g,c,_,_,rfl,_⟩:=h
  clear hs hI
  go_enter Tryz.func28,Tryz.ntmps28
  go_wp2
  go_loopw [2] (fun vi wr=>∃ (k:Nat),vi=.int .i64 (k:Int)∧k≤l.length∧Hid (LZ X W wr)∧Hid (ListI (fun i=>smV (decide (i < k)) (sL (decide (i < k)) d)) mkAgg 9 72 wr X (.slice (some ⟨g,0,none⟩) l.length c) l)) (fun vi _=>l.length - (intOf vi).toNat)
  case atStart=>exact ⟨0,rfl,Nat.zero_le _,LZ.of (Below.refl _ _),H0⟩
  case round =>
   obtain ⟨k,rfl,hk,HZ,HI⟩:=hrel
   clear H0
   by_cases hlt:k < l.length
   ·have hkI:(k:Int) < (l.length:Int):=by omega
    obtain ⟨g',c',cur,css,e1,hX,hg,hcl,h5⟩:=HI.out
    injection e1 with e1 _ e2
    injection e1 with e1
    injection e1 with e1
    subst e1 e2
    obtain ⟨q1,q2,q3⟩:=h5 k (by omega) hlt
    obtain ⟨va,vb,ve,ln,e3,_,qa,qb,qe⟩:=q3
    have e4:=mkAgg_inj e3
    rw [e4] at q2
    have e5:decide (k < k)=false:=by simp
    simp only [e5] at qa qb qe
    have hm:=List.getElem_mem hlt
    have h5':=q2 5 _ rfl
    have h6':=q2 6 _ rfl
    have h7':=q2 7 _ rfl
    have h8':=q2 8 _ rfl
    have ho:k * 9+8 < cur.size:=(Array.getElem?_eq_some_iff.1 h8').1
    have n5:¬ lnAt 72 (k * 9+5):=by unfold lnAt;omega
    have n6:¬ lnAt 72 (k * 9+6):=by unfold lnAt;omega
    have n7:¬ lnAt 72 (k * 9+7):=by unfold lnAt;omega
    have n8:lnAt 72 (k * 9+8):=by unfold lnAt;omega
    have Z1:=LZ.set (X:=X) hg hX n8 ho
    have c8:wr.cell? ⟨g,k * 9+8,none⟩=some (.int .i64 ln):=(blk_cell hg).trans h8'
    have f8:=blk_frz hg (k * 9+8)
    obtain ⟨aa,na,ca,rfl⟩:=XL_form qa
    obtain ⟨ab,nb,cb,rfl⟩:=sL_form qb
    obtain ⟨ae,ne,ce,rfl⟩:=sL_form qe
    have c5:=Z1.keep hg h5' n5
    have K6:=hide (fun w' (hz:LZ X wr w')=>hz.keep hg h6' n6)
    have K7:=hide (fun w' (hz:LZ X wr w')=>hz.keep hg h7' n7)
    have K5:=hide (fun w' (hz:LZ X wr w')=>hz.keep hg h5' n5)
    have K8:=hide (fun w' hz=>LZ.zero (X:=X) (W':=w') hg ho hz)
    have D1:=hide (HA.out _ hm _ X _ (XL_lz Z1 qa))
    have QB:=hide (fun w' (hz:LZ X wr w')=>HB.out _ hm w' X _ (sL_lz hz d _ _ qb))
    have QE:=hide (fun w' (hz:LZ X wr w')=>HC.out _ hm w' X _ (sL_lz hz d _ _ qe))
    have HG:=hide hg
    have ZZ:=hide Z1
    clear h5 q1 q2 e3 e4 hg hcl e5 qa qb qe hm h5' h6' h7' h8' ho n5 n6 n7 n8 Z1
    go_wp2_with fail
    refine D1.out.mono ?_
    rintro e w2 ⟨rfl,z2,ra⟩
    have Y2:=hide z2;have RA:=hide ra
    have c6:=K6.out w2 (ZZ.out.trans z2)
    clear z2 ra D1 c8 f8 c5
    go_wp2_with fail
    refine (QB.out w2 (ZZ.out.trans Y2.out)).mono ?_
    rintro e w3 ⟨rfl,z3,rb⟩
    have Y3:=hide (Y2.out.trans z3);have RA3:=hide (XL_lz z3 RA.out);have RB:=hide rb
    have c7:=K7.out w3 (ZZ.out.trans Y3.out)
    clear z3 rb c6 RA
    go_wp2_with fail
    refine (QE.out w3 (ZZ.out.trans Y3.out)).mono ?_
    rintro e w4 ⟨rfl,z4,re⟩
    have Y4:=hide (Y3.out.trans z4);have RA4:=hide (XL_lz z4 RA3.out);have RB4:=hide (sL_lz z4 d _ _ RB.out);have RE:=hide re
    clear z4 re c7 RA3 RB
    have Z4:=hide (ZZ.out.trans Y4.out)
    have HZ2:=hide (HZ.out.trans Z4.out)
    have HI2:Hid (ListI (fun i=>smV (decide (i < k+1)) (sL (decide (i < k+1)) d)) mkAgg 9 72 w4 X (.slice (some ⟨g,0,none⟩) l.length c) l):=ListI.lz at_stmt Z4.out HI.out (fun i hi cs cs' hK hc hcell hr=>by
     by_cases hik:i=k
     ·subst hik
      obtain ⟨va',vb',ve',ln',e,_,_,_,_⟩:=hr
      obtain rfl:=mkAgg_inj e
      obtain ⟨cur',k1,_,_⟩:=Z4.out.ln g cur _ HG.out
      have hcc:=hcell g c cur' rfl k1
      have k5:=K5.out w4 Z4.out
      have k6:=K6.out w4 Z4.out
      have k7:=K7.out w4 Z4.out
      have k8:=K8.out w4 Y4.out
      rw [blk_cell k1] at k5 k6 k7 k8
      have e7:decide (i < i+1)=true:=by simp
      simp only [e7]
      rcases hc with rfl | rfl
      ·have u8:=(hcc 8 _ rfl).symm.trans k8
       have u5:=(hcc 5 _ rfl).symm.trans k5
       have u6:=(hcc 6 _ rfl).symm.trans k6
       have u7:=(hcc 7 _ rfl).symm.trans k7
       injection u8 with u8
       injection u8 with _ u8
       injection u5 with u5
       injection u6 with u6
       injection u7 with u7
       subst u8 u5 u6 u7
       exact ⟨_,_,_,0,rfl,fun _=>rfl,RA4.out,RB4.out,RE.out⟩
      ·have u5:=(hcc 5 _ rfl).symm.trans k5
       have u6:=(hcc 6 _ rfl).symm.trans k6
       have u7:=(hcc 7 _ rfl).symm.trans k7
       injection u5 with u5
       injection u6 with u6
       injection u7 with u7
       subst u5 u6 u7
       exact ⟨_,_,_,0,rfl,fun _=>rfl,RA4.out,RB4.out,RE.out⟩
     ·have e6:decide (i < k+1)=decide (i < k):=by congr 1;simp;omega
      rw [e6]
      exact smV_lz Z4.out (fun v l h=>sL_lz Z4.out d v l h) hc hr)
    clear HI HZ K5 K6 K7 K8 QB QE RA4 RB4 RE Y2 Y3 Y4 Z4 ZZ HG
    go_wp2
    exact ⟨⟨k+1,by congr 1,by omega,HZ2,HI2⟩,by simp [intOf];omega⟩
   ·obtain rfl:k=l.length:=by omega
    have HT:=hide (ListI.toT (rep':=smV true (sL true d)) HI.out (fun i hi v x h=>by
     have e:decide (i < l.length)=true:=by simp [hi]
     simp only [e] at h
     exact h))
    go_wp2
    go_end0
    exact ⟨rfl,HZ.out,HT.out⟩
set_option maxRecDepth 100000 in
theorem twProgram {l:List Dc} (hl:l.length≤1000000) (hx:∀ x ∈ l,lsD x):TwL 25 (ListR DeclR mkAgg 15) (ListT (dcV false) mkAgg 15 69) l:=fun W X v h=>by
 have HC:=hide (twDecls hl hx W X v h)
 obtain ⟨_,_,_,rfl⟩:=h.form
 clear h
 go_enter Tryz.func25,Tryz.ntmps25
 go_wp2_with fail
 refine HC.out.mono ?_
 rintro e w2 ⟨v',rfl,h1,h2⟩
 have H1:=hide h1;have H2:=hide h2
 clear h1 h2
 go_wp2
 go_ret
 exact ⟨_,rfl,H1.out,H2.out⟩
theorem plainT_lz {α:Type} {rep:Rep α} {mk:List Value→Value} {K e:Nat} {W W':World} {X:Nat→Prop} {v:Value} {l:List α} (hp:∀ v x,rep W X v x→rep W' X v x) (hn:∀ o,¬ lnAt e o) (hz:LZ X W W') (h:ListT rep mk K e W X v l):ListT rep mk K e W' X v l :=
 (ListI.lz (rep':=fun _=>rep) (j0:=K) (fun o h=>absurd h (hn o)) hz (ListT.toI h) (fun _ _ cs cs' hK hc _ hr=>by
  have e:cs'=cs:=by
   rcases hc with e | e
   ·exact e
   ·rw [e,List.set_eq_of_length_le (by omega)]
  rw [e];exact hp _ _ hr)).toT (fun _ _ _ _ h=>h)
theorem TxL_lz {W W':World} {X:Nat→Prop} (hz:LZ X W W') {v:Value} {l:List (List UInt8)} (h:TxL W X v l):TxL W' X v l:=plainT_lz (W:=W) (fun _ _ h=>h) (fun o h=>by unfold lnAt at h;omega) hz h
theorem CkL_lz {W W':World} {X:Nat→Prop} (hz:LZ X W W') {v:Value} {l:List Ck} (h:CkL W X v l):CkL W' X v l:=plainT_lz (W:=W) (fun _ _ h=>h) (fun o h=>by unfold lnAt at h;omega) hz h
theorem FdL_lz {W W':World} {X:Nat→Prop} (hz:LZ X W W') {v:Value} {l:List (List UInt8 × Nat)} (h:FdL W X v l):FdL W' X v l:=plainT_lz (W:=W) (fun _ _ h=>h) (fun o h=>by unfold lnAt at h;omega) hz h
theorem LtL_lz {W W':World} {X:Nat→Prop} (hz:LZ X W W') {v:Value} {l:List (Nat × Nat)} (h:LtL W X v l):LtL W' X v l:=plainT_lz (W:=W) (fun _ _ h=>h) (fun o h=>by unfold lnAt at h;omega) hz h
theorem SL_lz {p:Bool} {W W':World} {X:Nat→Prop} (hz:LZ X W W') {v:Value} {l:List Sm} (h:SL p W X v l):SL p W' X v l:=by
 obtain ⟨d,h⟩:=h
 exact ⟨d,sL_lz hz d v l h⟩
theorem zeS {l:List Sm} (hs:LSS l):Ze 28 (SL false) (SL true) l:=fun W X v ⟨d,h⟩=>(stmts_zero d l hs W X v h).mono fun _ _ ⟨e1,e2,e3⟩=>⟨e1,e2,d,e3⟩
theorem at_state:∀ o,lnAt 79 o→o % 6=5:=fun o h=>by unfold lnAt at h;omega
theorem at_key:∀ o,lnAt 85 o→o % 11=9:=fun o h=>by unfold lnAt at h;omega
theorem at_decl:∀ o,lnAt 69 o→o % 15=14:=fun o h=>by unfold lnAt at h;omega
theorem stV_lz {p:Bool} {W W':World} {X:Nat→Prop} {cs cs':List Value} {x:Ts} (hz:LZ X W W') (hc:cs'=cs ∨ cs'=cs.set 5 (.int .i64 0)) (h:stV p W X (mkAgg cs) x):stV p W' X (mkAgg cs') x:=by
 obtain ⟨vh,vs,vc,ln,e,h1,h2,h3,h4⟩:=h
 obtain rfl:=mkAgg_inj e
 rcases hc with rfl | rfl
 ·exact ⟨vh,vs,vc,ln,rfl,h1,TxL_lz hz h2,XL_lz hz h3,CkL_lz hz h4⟩
 ·exact ⟨vh,vs,vc,0,rfl,fun _=>rfl,TxL_lz hz h2,XL_lz hz h3,CkL_lz hz h4⟩
theorem keV_lz {p:Bool} {W W':World} {X:Nat→Prop} {cs cs':List Value} {x:Ex × Nat} (hz:LZ X W W') (hc:cs'=cs ∨ cs'=cs.set 9 (.int .i64 0)) (h:keV p W X (mkAgg cs) x):keV p W' X (mkAgg cs') x:=by
 obtain ⟨va,ln,e,h1,h2⟩:=h
 obtain rfl:=mkAgg_inj e
 rcases hc with rfl | rfl
 ·exact ⟨va,ln,rfl,h1,XL_lz hz h2⟩
 ·exact ⟨va,0,rfl,fun _=>rfl,XL_lz hz h2⟩
theorem stL_lz {p:Bool} {W W':World} {X:Nat→Prop} (hz:LZ X W W') {v:Value} {l:List Ts} (h:ListT (stV p) mkAgg 6 79 W X v l):ListT (stV p) mkAgg 6 79 W' X v l :=
 (ListI.lz (rep':=fun _=>stV p) at_state hz (ListT.toI h) (fun _ _ _ _ _ hc _ hr=>stV_lz hz hc hr)).toT (fun _ _ _ _ h=>h)
theorem keL_lz {p:Bool} {W W':World} {X:Nat→Prop} (hz:LZ X W W') {v:Value} {l:List (Ex × Nat)} (h:ListT (keV p) mkAgg 11 85 W X v l):ListT (keV p) mkAgg 11 85 W' X v l :=
 (ListI.lz (rep':=fun _=>keV p) at_key hz (ListT.toI h) (fun _ _ _ _ _ hc _ hr=>keV_lz hz hc hr)).toT (fun _ _ _ _ h=>h)
theorem DvL.lz {p:Bool} {W W':World} {X:Nat→Prop} {x:Dc} {vf vs vk va vg vb ve:Value} (hz:LZ X W W') (h:DvL p W X x vf vs vk va vg vb ve):DvL p W' X x vf vs vk va vg vb ve :=
 ⟨FdL_lz hz h.f,stL_lz hz h.s,keL_lz hz h.k,TxL_lz hz h.a,LtL_lz hz h.g,SL_lz hz h.b,TxL_lz hz h.e⟩
theorem dcV_lz {p:Bool} {W W':World} {X:Nat→Prop} {cs cs':List Value} {x:Dc} (hz:LZ X W W') (hc:cs'=cs ∨ cs'=cs.set 14 (.int .i64 0)) (h:dcV p W X (mkAgg cs) x):dcV p W' X (mkAgg cs') x:=by
 obtain ⟨vf,vs,vk,va,vg,vb,ve,ln,e,h1,h2⟩:=h
 obtain rfl:=mkAgg_inj e
 rcases hc with rfl | rfl
 ·exact ⟨vf,vs,vk,va,vg,vb,ve,ln,rfl,h1,h2.lz hz⟩
 ·exact ⟨vf,vs,vk,va,vg,vb,ve,0,rfl,fun _=>rfl,h2.lz hz⟩
end Go.Proofs.YtabkimknlifdoaaGreatDoor
