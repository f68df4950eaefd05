/- Pieces of the proof: PaG, PaX, PaT, PaLd. -/
import Derived.Test.YtabkimknlifdoaaGreatDoorM7
import Derived.Deep.LoopGhost
import Derived.Test.YtabkimknlifdoaaGreatDoorM2
import Derived.Test.YtabkimknlifdoaaGreatDoorM5
import Derived.Deep.Strs
import Derived.SevenTiedAt
import Derived.Lay
namespace Go.Proofs.YtabkimknlifdoaaGreatDoor
open Go.RowKit
def Sl (W:World) (X:Nat→Prop) (v:Value) (n k:Nat) (vs:List Value):Prop :=
 ∃ a cap,v=.slice a n cap∧vs.length=n * k∧(n≤cap∧n≤maxLen)∧(a=none→cap=0)∧(n=0 ∨ ∃ b,a=some ⟨b,0,none⟩∧X b∧b < W.heap.size∧∀ i (h:i < vs.length),W.cell? ⟨b,i,none⟩=some vs[i])
theorem Sl.mono {W:World} {X Y:Nat→Prop} {v:Value} {n k:Nat} {vs:List Value} (h:Sl W X v n k vs) (hm:∀ b,X b→Y b):Sl W Y v n k vs:=by
 obtain ⟨a,cap,h1,h2,h3,h5,h4⟩:=h
 refine ⟨a,cap,h1,h2,h3,h5,?_⟩
 rcases h4 with h4 | ⟨b,e,hx,hl,hc⟩
 ·exact .inl h4
 ·exact .inr ⟨b,e,hm b hx,hl,hc⟩
theorem Sl.frame {W W':World} {X:Nat→Prop} {v:Value} {n k:Nat} {vs:List Value} (h:Sl W X v n k vs) (hs:W.heap.size≤W'.heap.size) (hf:∀ b,X b→b < W.heap.size→W'.heap[b]? = W.heap[b]?):Sl W' X v n k vs:=by
 obtain ⟨a,cap,h1,h2,h3,h5,h4⟩:=h
 refine ⟨a,cap,h1,h2,h3,h5,?_⟩
 rcases h4 with h4 | ⟨b,e,hx,hl,hc⟩
 ·exact .inl h4
 ·exact .inr ⟨b,e,hx,by omega,fun i hi=>(World.cell?_of_block (w:=W) (a:=⟨b,i,none⟩) (hf b hx hl)).trans (hc i hi)⟩
theorem Sl.own {W:World} {B:Nat} {e:TypeId} {k n:Nat} {v:Value} {vs:List Value} (h:W.ownsRow B e k v n vs) (X:Nat→Prop) (hX:∀ b,v.ownBlock=some b→B≤b→b < W.heap.size→X b):Sl W X v n k vs:=by
 rcases h.2 with ⟨rfl,rfl⟩ | ⟨g,cap,cur,rfl,hg,hcur,h1,h2,h3,h4⟩
 ·exact ⟨none,0,rfl,h.1,⟨Nat.le_refl _,Nat.zero_le _⟩,fun _=>rfl,.inl rfl⟩
 ·have hl:=(Array.getElem?_eq_some_iff.1 hcur).1
  refine ⟨_,cap,rfl,h.1,⟨h1,Nat.le_trans h1 h2⟩,fun e=>by (cases e),.inr ⟨g,rfl,hX g rfl hg hl,hl,fun i hi=>?_⟩⟩
  rw [World.ownsRow.cellAt h i (by rw [← h.1];exact hi),List.getElem?_eq_getElem hi]
def mkAgg (cs:List Value):Value:=.agg cs.toArray
def mkOne (cs:List Value):Value:=cs.headD undef
def ListR {α:Type} (rep:Rep α) (mk:List Value→Value) (K:Nat):Rep (List α):=fun W X v l =>
 ∃ css:List (List Value),Sl W X v l.length K css.flatten∧css.length=l.length∧∀ i (h:i < css.length) (h':i < l.length),css[i].length=K∧rep W X (mk css[i]) l[i]
theorem ListR.ok {α:Type} {rep:Rep α} (hr:RepOk rep) (mk:List Value→Value) (K:Nat):RepOk (ListR rep mk K) where
 mono:=fun ⟨css,h1,h2,h3⟩ hm=>⟨css,h1.mono hm,h2,fun i h h'=>⟨(h3 i h h').1,hr.mono (h3 i h h').2 hm⟩⟩
 frame:=fun ⟨css,h1,h2,h3⟩ hs hf=>⟨css,h1.frame hs hf,h2,fun i h h'=>⟨(h3 i h h').1,hr.frame (h3 i h h').2 hs hf⟩⟩
structure Lp {α:Type} (rep:Rep α) (mk:List Value→Value) (K e:Nat) (W0 W:World) (p q:Nat) (L:List (Wd × Nat)) (dm sm:Value) (k n:Nat) (v:Value) (l:List α) (css:List (List Value)):Prop where
 rr:Rp W0 W p q L k dm sm
 own:W.ownsRow W0.heap.size e K v n css.flatten
 nl:n=l.length
 len:css.length=l.length
 el:∀ i (h:i < css.length) (h':i < l.length),css[i].length=K∧rep W (fun b=>Bn W0 W b∧v.ownBlock ≠ some b) (mk css[i]) l[i]
theorem Lp.start {α:Type} {rep:Rep α} {mk:List Value→Value} {K e:Nat} {W0:World} {p q:Nat} {L:List (Wd × Nat)} {dm sm:Value} {k:Nat} (h:Rp W0 W0 p q L k dm sm):Lp rep mk K e W0 W0 p q L dm sm k 0 (.slice none 0 0) [] [] :=
 ⟨h,World.ownsRow_nil _ _ _ _,rfl,rfl,fun i h _=>by simp at h⟩
theorem Rp.grown {w W W':World} {p q:Nat} {L:List (Wd × Nat)} {k:Nat} {dm sm:Value} {row:Option Nat} (h:Rp w W p q L k dm sm) (hg:W.grownBy W' row) (hr:∀ r,row=some r→w.heap.size≤r):Rp w W' p q L k dm sm:=by
 have hf:Fr (fun b=>row=some b) W W':=Fr.grown hg (fun r e=>e)
 have np:¬ row=some p:=fun e=>by have:=hr p e;have:=h.pl;omega
 have nq:¬ row=some q:=fun e=>by have:=hr q e;have:=h.ql;omega
 obtain ⟨cap,hb,hl⟩:=h.blk
 refine ⟨h.fr.trans hf (fun b hb e=>by have:=hr b e;omega),h.pq,h.pl,h.ql,⟨cap,(hf.block p (Array.getElem?_eq_some_iff.1 hb).1 np).trans hb,hl⟩,fun i hi j u hu=>hf.cell (h.row i hi j u hu) nq,h.kl,h.sml⟩
theorem Lp.go {α:Type} {rep:Rep α} (hok:RepOk rep) {mk:List Value→Value} {K e:Nat} {W0 W W1:World} {p q:Nat} {L:List (Wd × Nat)} {dm sm:Value} {k k1 n:Nat} {v:Value} {l:List α} {css:List (List Value)} (h:Lp rep mk K e W0 W p q L dm sm k n v l css) (hr:Rp W W1 p q L k1 dm sm):Lp rep mk K e W0 W1 p q L dm sm k1 n v l css:=by
 have hp:=h.rr.pl
 have s1:=hr.fr.size
 refine ⟨h.rr.from hr,ownR_fr h.own hr.fr (fun b hb e=>by have:=(World.ownsRow.lt h.own b hb).1;have:b=p:=e;omega),h.nl,h.len,fun i hi hi'=>?_⟩
 obtain ⟨h1,h2⟩:=h.el i hi hi'
 have h3:=hok.frame h2 (W':=W1) s1 (fun b hb hl=>hr.fr.block b hl (fun e=>by have:=hb.1.1;have:b=p:=e;omega))
 exact ⟨h1,hok.mono h3 (fun b hb=>⟨⟨hb.1.1,by have:=hb.1.2;omega⟩,hb.2⟩)⟩
theorem Lp.step {α:Type} {rep:Rep α} (hok:RepOk rep) {mk:List Value→Value} {K e:Nat} {W0 W W1 W2:World} {p q:Nat} {L:List (Wd × Nat)} {dm sm:Value} {k k1 n:Nat} {v v':Value} {l:List α} {css:List (List Value)} {x:α} {cs:List Value} {o:Obj}
  (h:Lp rep mk K e W0 W p q L dm sm k n v l css) (hr:Rp W W1 p q L k1 dm sm) (hrep:rep W1 (Bn W W1) (mk cs) x) (hcs:cs.length=K)
  (ho:W2.ownsRow W0.heap.size e K v' (n+1) (css.flatten ++ cs)) (hd:(v'.ownBlock=v.ownBlock∧(W1.alloc o).grownBy W2 v.ownBlock) ∨ ((W1.alloc o).grownBy W2 none∧∀ b,v'.ownBlock=some b→(W1.alloc o).heap.size≤b)) :
  Lp rep mk K e W0 W2 p q L dm sm k1 (n+1) v' (l ++ [x]) (css ++ [cs]):=by
 have hp:=h.rr.pl
 have s01:=h.rr.fr.size
 have s1:=hr.fr.size
 have hvb:∀ b,v.ownBlock=some b→W0.heap.size≤b∧b < W.heap.size:=World.ownsRow.lt h.own
 have hR1:Rp W0 (W1.alloc o) p q L k1 dm sm:=(h.rr.from hr).next ((Below.refl _ _).alloc (Nat.le_refl _) _)
 have hR2:Rp W0 W2 p q L k1 dm sm:=by
  rcases hd with ⟨_,hg⟩ | ⟨hg,_⟩
  ·exact hR1.grown hg (fun r e=>(hvb r e).1)
  ·exact hR1.grown hg (fun r e=>by cases e)
 have s2:W1.heap.size+1≤W2.heap.size:=by
  rcases hd with ⟨_,hg⟩ | ⟨hg,_⟩ <;> (have:=hg.size;rw [World.size_alloc] at this;exact this)
 have key:∀ b,b < W1.heap.size→v.ownBlock ≠ some b→W2.heap[b]? = W1.heap[b]?:=fun b hb hne=>by
  rcases hd with ⟨_,hg⟩ | ⟨hg,_⟩
  ·rw [hg.block b (by rw [World.size_alloc];omega) (fun e=>hne e.symm),Below.heap_alloc _ _ _ hb]
  ·rw [hg.block b (by rw [World.size_alloc];omega) (fun e=>by cases e),Below.heap_alloc _ _ _ hb]
 have nv:∀ b,b < W1.heap.size→v.ownBlock ≠ some b→v'.ownBlock ≠ some b:=fun b hb hne e'=>by
  rcases hd with ⟨e,_⟩ | ⟨_,hn⟩
  ·exact hne (e ▸ e')
  ·have:=hn b e';rw [World.size_alloc] at this;omega
 refine ⟨hR2,by rw [List.flatten_append,List.flatten_singleton];exact ho,by rw [List.length_append,List.length_singleton,h.nl],by simp [h.len],fun i hi hi'=>?_⟩
 by_cases hlt:i < css.length
 ·have hl:i < l.length:=by rw [← h.len];exact hlt
  obtain ⟨h1,h2⟩:=h.el i hlt hl
  rw [List.getElem_append_left hlt,List.getElem_append_left hl]
  refine ⟨h1,?_⟩
  have h3:=hok.frame h2 (W':=W1) s1 (fun b hb hl=>hr.fr.block b hl (fun e=>by have:=hb.1.1;have:b=p:=e;omega))
  have h4:=hok.frame h3 (W':=W2) (by omega) (fun b hb hl=>key b hl hb.2)
  exact hok.mono h4 (fun b hb=>⟨⟨hb.1.1,by have:=hb.1.2;omega⟩,nv b (by have:=hb.1.2;omega) hb.2⟩)
 ·have ei:i=css.length:=by simp at hi;omega
  subst ei
  have el:css.length=l.length:=h.len
  have e2:(l ++ [x])[css.length]'hi'=x:=by simp [el]
  have e1:(css ++ [cs])[css.length]'hi=cs:=by simp
  rw [e1,e2]
  refine ⟨hcs,?_⟩
  have nvb:∀ b,Bn W W1 b→v.ownBlock ≠ some b:=fun b hb e=>by have:=(hvb b e).2;have:=hb.1;omega
  have h4:=hok.frame hrep (W':=W2) (by omega) (fun b hb hl=>key b hl (nvb b hb))
  exact hok.mono h4 (fun b hb=>⟨⟨by have:=hb.1;omega,by have:=hb.2;omega⟩,nv b hb.2 (nvb b hb)⟩)
theorem Lp.done {α:Type} {rep:Rep α} (hok:RepOk rep) {mk:List Value→Value} {K e:Nat} {W0 W:World} {p q:Nat} {L:List (Wd × Nat)} {dm sm:Value} {k n:Nat} {v:Value} {l:List α} {css:List (List Value)} (h:Lp rep mk K e W0 W p q L dm sm k n v l css):ListR rep mk K W (Bn W0 W) v l :=
 ⟨css,by rw [← h.nl];exact Sl.own h.own _ (fun b _ h1 h2=>⟨h1,h2⟩),h.len,fun i h1 h2=>⟨(h.el i h1 h2).1,hok.mono (h.el i h1 h2).2 (fun b hb=>hb.1)⟩⟩
def untilF {α:Type} (en:List UInt8) (f:Pf α):Nat→Pf (List α)
 | 0,_,k=>.error k
 | g+1,L,k=>if passedP en L k then .ok ([],k+1) else match f L k with
  | .error e=>.error e
  | .ok (x,k1)=>match untilF en f g L k1 with
   | .error e=>.error e
   | .ok (xs,k2)=>.ok (x :: xs,k2)
def untilP {α:Type} (en:List UInt8) (f:Pf α):Pf (List α):=fun L k=>untilF en f (L.length+1 - k) L k
def Goes {α:Type} (f:Pf α):Prop:=∀ L k x k1,f L k=.ok (x,k1)→k < k1
structure Ex where
 op:Nat
 w:Nat
 v:Nat
 name:List UInt8
 field:List UInt8
 n:Nat
 m:Nat
 line:Nat
 args:List Ex
def exC (x:Ex) (va:Value):List Value:=[.int .u8 (x.op:Int),.int .i64 (x.w:Int),.int .u64 (wHi x.v),.int .u64 (wLo x.v),.string (txt x.name),.string (txt x.field),.int .i64 (x.n:Int),.int .i64 (x.m:Int),va,.int .i64 (x.line:Int)]
def exR:Nat→Rep Ex
 | 0=>fun _ _ _ _=>False
 | d+1=>fun W X v x=>∃ va,v=mkAgg (exC x va)∧ListR (exR d) mkAgg 10 W X va x.args
theorem exR_ok:∀ d,RepOk (exR d)
 | 0=>⟨fun h _=>h,fun h _ _=>h⟩
 | d+1=>⟨fun ⟨va,h1,h2⟩ hm=>⟨va,h1,(ListR.ok (exR_ok d) mkAgg 10).mono h2 hm⟩,fun ⟨va,h1,h2⟩ hs hf=>⟨va,h1,(ListR.ok (exR_ok d) mkAgg 10).frame h2 hs hf⟩⟩
theorem exR_up:∀ (d:Nat) {W:World} {X:Nat→Prop} {v:Value} {x:Ex},exR d W X v x→exR (d+1) W X v x
 | 0,_,_,_,_,h=>h.elim
 | d+1,_,_,_,_,⟨va,h1,css,h2,h3,h4⟩=>⟨va,h1,css,h2,h3,fun i h h'=>⟨(h4 i h h').1,exR_up d (h4 i h h').2⟩⟩
theorem exR_le {d d':Nat} (hd:d≤d') {W:World} {X:Nat→Prop} {v:Value} {x:Ex} (h:exR d W X v x):exR d' W X v x:=by
 obtain ⟨j,rfl⟩:=Nat.exists_eq_add_of_le hd
 induction j with
 | zero=>exact h
 | succ j ih=>exact exR_up _ (ih (by omega))
def ExR:Rep Ex:=fun W X v x=>∃ d,exR d W X v x
theorem exRep_ok:RepOk ExR:=⟨fun ⟨d,h⟩ hm=>⟨d,(exR_ok d).mono h hm⟩,fun ⟨d,h⟩ hs hf=>⟨d,(exR_ok d).frame h hs hf⟩⟩
theorem list_depth {W:World} {X:Nat→Prop}:∀ (l:List Ex) (css:List (List Value)),css.length=l.length→(∀ i (h:i < css.length) (h':i < l.length),css[i].length=10∧ExR W X (mkAgg css[i]) l[i])→∃ d,∀ i (h:i < css.length) (h':i < l.length),css[i].length=10∧exR d W X (mkAgg css[i]) l[i]
 | [],css,hl,_=>⟨0,fun i _ h'=>by simp at h'⟩
 | x :: l,[],hl,_=>by simp at hl
 | x :: l,cs :: css,hl,h=>by
  obtain ⟨d1,h1⟩:=list_depth l css (by simpa using hl) (fun i hi hi'=>h (i+1) (by simpa using hi) (by simpa using hi'))
  obtain ⟨h0,d2,h2⟩:=h 0 (by simp) (by simp)
  refine ⟨max d1 d2,fun i hi hi'=>?_⟩
  cases i with
  | zero=>exact ⟨h0,exR_le (Nat.le_max_right _ _) h2⟩
  | succ i=>exact ⟨(h1 i (by simpa using hi) (by simpa using hi')).1,exR_le (Nat.le_max_left _ _) (h1 i (by simpa using hi) (by simpa using hi')).2⟩
theorem ListR.one {W:World} {X:Nat→Prop} {v:Value} {l:List Ex} (h:ListR ExR mkAgg 10 W X v l):∃ d,ListR (exR d) mkAgg 10 W X v l:=by
 obtain ⟨css,h1,h2,h3⟩:=h
 obtain ⟨d,h4⟩:=list_depth l css h2 h3
 exact ⟨d,css,h1,h2,h4⟩
theorem ExR.mk {W:World} {X:Nat→Prop} {va:Value} {x:Ex} (h:ListR ExR mkAgg 10 W X va x.args):ExR W X (mkAgg (exC x va)) x:=by
 obtain ⟨d,h⟩:=h.one
 exact ⟨d+1,va,rfl,h⟩
theorem ExR.open {W:World} {X:Nat→Prop} {v:Value} {x:Ex} (h:ExR W X v x):∃ va,v=mkAgg (exC x va)∧ListR ExR mkAgg 10 W X va x.args:=by
 obtain ⟨d,h⟩:=h
 cases d with
 | zero=>exact h.elim
 | succ d =>
  obtain ⟨va,h1,css,h2,h3,h4⟩:=h
  exact ⟨va,h1,css,h2,h3,fun i hi hi'=>⟨(h4 i hi hi').1,d,(h4 i hi hi').2⟩⟩
theorem ListR.none {α:Type} {rep:Rep α} {mk:List Value→Value} {K:Nat} {W:World} {X:Nat→Prop}:ListR rep mk K W X (.slice Option.none 0 0) [] :=
 ⟨[],⟨Option.none,0,rfl,by simp,⟨Nat.le_refl _,Nat.zero_le _⟩,fun _=>rfl,.inl rfl⟩,rfl,fun i h _=>by simp at h⟩
theorem ListR.lit {α:Type} {rep:Rep α} {mk:List Value→Value} {K:Nat} {W:World} {X:Nat→Prop} {b:Nat} {t:TypeId} {l:List α} {css:List (List Value)} (hb:W.heap[b]? = some (.cells css.flatten.toArray t (0,0))) (hX:X b) (hl:css.length=l.length) (he:∀ i (h:i < css.length) (h':i < l.length),css[i].length=K∧rep W X (mk css[i]) l[i]) (hn:l.length≤maxLen:=by simp [maxLen]):ListR rep mk K W X (.slice (some ⟨b,0,Option.none⟩) l.length l.length) l:=by
 refine ⟨css,⟨some ⟨b,0,Option.none⟩,l.length,rfl,?_,⟨Nat.le_refl _,hn⟩,(fun e=>by (cases e)),.inr ⟨b,rfl,hX,(Array.getElem?_eq_some_iff.1 hb).1,fun i hi=>?_⟩⟩,hl,he⟩
 ·have:∀ c ∈ css,c.length=K:=fun c hc=>by
   obtain ⟨i,hi,rfl⟩:=List.getElem_of_mem hc
   exact (he i hi (by omega)).1
  rw [List.length_flatten,← hl]
  clear he hb hl
  induction css with
  | nil=>simp
  | cons c cs ih =>
   simp only [List.map_cons,List.sum_cons,List.length_cons]
   rw [ih (fun c hc=>this c (List.mem_cons_of_mem _ hc)),this c (List.mem_cons_self ..),Nat.succ_mul,Nat.add_comm]
 ·rw [cellA hb i];simp
def ExP:Rep Ex:=fun W X v x=>∃ b cs,v=.pointer (some ⟨b,0,none⟩)∧X b∧W.heap[b]? = some (.cells cs 49 (0,0))∧ExR W X (.agg cs) x
theorem exP_ok:RepOk ExP:=⟨fun ⟨b,cs,h1,h2,h3,h4⟩ hm=>⟨b,cs,h1,hm b h2,h3,exRep_ok.mono h4 hm⟩,fun ⟨b,cs,h1,h2,h3,h4⟩ hs hf=>⟨b,cs,h1,h2,(hf b h2 (Array.getElem?_eq_some_iff.1 h3).1).trans h3,exRep_ok.frame h4 hs hf⟩⟩
def tws:List (List UInt8 × Nat × Nat):=[([124,124],22,0),([38,38],21,1),([61,61],17,2),([33,61],18,2),([60],19,2),([60,61],20,2),([38],8,3),([124],9,3),([94],10,3),([43],5,4),([45],6,4),([43,43],14,5),([42],7,6),([60,60],12,7),([62,62],13,7)]
theorem tws_len:tws.length=15:=rfl
def twC (x:List UInt8 × Nat × Nat):List Value:=[.string (txt x.1),.int .u8 (x.2.1:Int),.int .i64 (x.2.2:Int)]
structure Tws (W:World) (bt:Nat):Prop where
 tab:∃ off,W.cell? ⟨3,0,none⟩=some (.slice (some ⟨bt,off,none⟩) 15 15)∧∀ i (h:i < tws.length),∀ j u,(twC tws[i])[j]? = some u→W.cell? ⟨bt,off+i * 3+j,none⟩=some u
 gl:3 < W.heap.size
 bl:bt < W.heap.size
theorem Tws.fr {W W':World} {bt:Nat} {E:Nat→Prop} (h:Tws W bt) (hf:Fr E W W') (h1:¬ E 3) (h2:¬ E bt):Tws W' bt :=
 ⟨by obtain ⟨off,h0,hr⟩:=h.tab;exact ⟨off,hf.cell h0 h1,fun i hi j u hu=>hf.cell (hr i hi j u hu) h2⟩,Nat.lt_of_lt_of_le h.gl hf.size,Nat.lt_of_lt_of_le h.bl hf.size⟩
def twoP (s:List UInt8):Option (List UInt8 × Nat × Nat):=tws.find? fun x=>decide (x.1=s)
theorem twoP_at {s:List UInt8} {j:Nat} (hj:j < tws.length) (h:∀ m (hm:m < tws.length),m < j→tws[m].1 ≠ s) (hp:tws[j].1=s):twoP s=some tws[j]:=by
 unfold twoP
 rw [List.find?_eq_some_iff_getElem]
 refine ⟨by simp [hp],j,hj,rfl,fun m hm=>?_⟩
 simp [h m (by omega) hm]
theorem twoP_none {s:List UInt8} (h:∀ m (hm:m < tws.length),tws[m].1 ≠ s):twoP s=none:=by
 unfold twoP
 rw [List.find?_eq_none]
 intro x hx
 obtain ⟨m,hm,rfl⟩:=List.mem_iff_getElem.1 hx
 simp [h m hm]
def twoV:Option (List UInt8 × Nat × Nat)→Value
 | none=>.tuple #[.agg #[.string ⟨#[]⟩,.int .u8 0,.int .i64 0],.bool false]
 | some x=>.tuple #[.agg #[.string (txt x.1),.int .u8 (x.2.1:Int),.int .i64 (x.2.2:Int)],.bool true]
set_option maxHeartbeats 4000000 in
set_option maxRecDepth 100000 in
theorem twoOf_any {w:World} {bt:Nat} (h:Tws w bt) (s:List UInt8) :
  Calls Tryz.prog 204 #[.string (txt s)] w fun e w'=>e=.returned (twoV (twoP s))∧Below w.heap.size w w':=by
 obtain ⟨off,hc,hrw⟩:=h.tab
 have HRW:=hide hrw
 clear hrw
 have HT:=hide h
 have HS:Hid (∀ j (hj:j < tws.length),((txt tws[j].1).toList == (txt s).toList)=decide (tws[j].1=s)):=fun j hj=>by
  rw [Lib.toList_data,Lib.toList_data,txt_data,txt_data]
  by_cases e:tws[j].1=s
  ·rw [decide_eq_true e,e];simp
  ·rw [decide_eq_false e];exact beq_eq_false_iff_ne.2 e
 have hgl:=h.gl
 have hbl:=h.bl
 clear h
 generalize txt s=T at *
 have Z0:=hide (heap_alloc_new w (.cells #[.string ⟨#[]⟩,.int .u8 0,.int .i64 0] 228))
 have HA:Hid (Below w.heap.size w (w.alloc (.cells #[.string ⟨#[]⟩,.int .u8 0,.int .i64 0] 228))):=(Below.refl _ _).alloc (Nat.le_refl _) _
 have HT0:Hid (Tws (w.alloc (.cells #[.string ⟨#[]⟩,.int .u8 0,.int .i64 0] 228)) bt):=HT.out.fr (E:=fun _=>False) (Fr.ofBelow HA.out) (fun e=>e) (fun e=>e)
 have HR0:Hid (∀ i (h:i < tws.length),∀ c u,(twC tws[i])[c]? = some u→(w.alloc (.cells #[.string ⟨#[]⟩,.int .u8 0,.int .i64 0] 228)).cell? ⟨bt,off+i * 3+c,none⟩=some u):=fun i hi c u hu=>(Fr.ofBelow (E:=fun _=>False) HA.out).cell (HRW.out i hi c u hu) (fun e=>e)
 have hs0:(w.alloc (.cells #[.string ⟨#[]⟩,.int .u8 0,.int .i64 0] 228)).heap.size=w.heap.size+1:=by show (w.heap.push _).size=_;rw [Array.size_push]
 have HZ:=hide hs0
 clear hs0
 go_enter Tryz.func204,Tryz.ntmps204
 go_wp2
 generalize (w.alloc (.cells #[.string ⟨#[]⟩,.int .u8 0,.int .i64 0] 228))=w0 at *
 go_loopg [8] 15 (fun g vi wr=>∃ j:Nat,vi=.int .i64 (j:Int)∧j≤15∧g=15 - j∧Hid (Below w0.heap.size w0 wr∧∀ m (hm:m < tws.length),m < j→tws[m].1 ≠ s))
 case atStart=>exact ⟨0,rfl,by omega,rfl,Below.refl _ _,fun m hm h=>by omega⟩
 case round =>
  obtain ⟨j,rfl,hj,rfl,HO⟩:=hrel
  have Z1:=hide ((HO.out.1.block w.heap.size (by rw [HZ.out];omega)).trans Z0.out)
  have f0:=softA Z1.out 0;have f1:=softA Z1.out 1;have f2:=softA Z1.out 2
  have z0:=cellA Z1.out 0;have z1:=cellA Z1.out 1;have z2:=cellA Z1.out 2
  have hsz:w.heap.size < wr.heap.size:=(Array.getElem?_eq_some_iff.1 Z1.out).1
  clear hc hgl hbl
  by_cases hlt:j < 15
  ·have hx:∀ c u,(twC (tws[j]'hlt))[c]? = some u→w0.cell? ⟨bt,off+j * 3+c,none⟩=some u:=fun c u hu=>HR0.out j hlt c u hu
   obtain ⟨x,hxx⟩:∃ x,x=tws[j]'hlt:=⟨_,rfl⟩
   have HXX:=hide hxx
   have hbeq:=HS.out j hlt
   rw [← hxx] at hx hbeq
   have HB:=Fr.ofBelow (E:=fun _=>False) HO.out.1
   have d0:=HB.cell (hx 0 _ rfl) (fun e=>e)
   have d1:=HB.cell (hx 1 _ rfl) (fun e=>e)
   have d2:=HB.cell (hx 2 _ rfl) (fun e=>e)
   simp only [Nat.add_zero] at d0
   have hjI:(j:Int) < 15:=by omega
   have hbt:bt < wr.heap.size:=Nat.lt_of_lt_of_le HT0.out.bl HO.out.1.size
   clear hx HB hxx
   cases hd:decide (x.1=s) with
   | true =>
    rw [hd] at hbeq
    have HE:Hid (twoV (twoP s)=.tuple #[.agg #[.string (txt x.1),.int .u8 (x.2.1:Int),.int .i64 (x.2.2:Int)],.bool true]):=by
     unfold Hid;rw [twoP_at hlt HO.out.2 (by rw [← HXX.out];exact of_decide_eq_true hd),← HXX.out];rfl
    clear hd
    generalize txt x.1=a0 at *
    generalize (x.2.1:Int)=a1 at *
    generalize (x.2.2:Int)=a2 at *
    go_wp2
    have hg:=got0 (cs:=[.string a0,.int .u8 a1,.int .i64 a2]) Z1.out rfl
    have hg2:=(((Below.refl _ _).alloc (Nat.le_refl _) (.cells #[.string a0,.int .u8 a1,.int .i64 a2] 228)).block w.heap.size (Array.getElem?_eq_some_iff.1 hg).1).trans hg
    have q0:=cellA hg2 0;have q1:=cellA hg2 1;have q2:=cellA hg2 2
    simp only [setAll] at q0 q1 q2
    have HB:Hid (Below w.heap.size w wr):=HA.out.trans (HO.out.1.mono (by rw [HZ.out];omega))
    refine bodyPost_ret (v:=.tuple #[.agg #[.string a0,.int .u8 a1,.int .i64 a2],.bool true]) (by simp [results,Tryz.results204,go_sem,q0,q1,q2]) rfl ⟨by rw [HE.out],?_⟩
    have b3:=((HB.out.setCell (p:=⟨w.heap.size,0,none⟩) (Nat.le_refl _) (.string a0)).setCell (p:=⟨w.heap.size,1,none⟩) (Nat.le_refl _) (.int .u8 a1)).setCell (p:=⟨w.heap.size,2,none⟩) (Nat.le_refl _) (.int .i64 a2)
    exact b3.alloc b3.size _
   | false =>
    rw [hd] at hbeq
    have HE:Hid (∀ m (hm:m < tws.length),m < j+1→tws[m].1 ≠ s):=fun m hm h=>by
     by_cases e:m=j
     ·subst e;exact fun e'=>of_decide_eq_false hd (by rw [HXX.out];exact e')
     ·exact HO.out.2 m hm (by omega)
    clear hd
    generalize txt x.1=a0 at *
    generalize (x.2.1:Int)=a1 at *
    generalize (x.2.2:Int)=a2 at *
    go_wp2
    go_roundg (15 - (j+1))
    case measure=>omega
    case rel =>
     refine ⟨j+1,congrArg (Value.int .i64) (by omega),by omega,rfl,?_,HE.out⟩
     exact HO.out.1.alloc HO.out.1.size _
  ·have HE:Hid (twoV (twoP s)=.tuple #[.agg #[.string ⟨#[]⟩,.int .u8 0,.int .i64 0],.bool false]):=by
    unfold Hid;rw [twoP_none fun m hm=>HO.out.2 m hm (by have:=tws_len;omega)];rfl
   have HB:=hide HO.out.1
   clear HO HS HT
   go_wp2
   have hg:=got0 (cs:=[.string ⟨#[]⟩,.int .u8 0,.int .i64 0]) Z1.out rfl
   have HF:=hide (fr_all w.heap.size [.string ⟨#[]⟩,.int .u8 0,.int .i64 0] wr 0)
   have q0:=cellA hg 0;have q1:=cellA hg 1;have q2:=cellA hg 2
   simp only [setAll] at q0 q1 q2 HF
   have HBB:Hid (Below w.heap.size w wr):=HA.out.trans (HB.out.mono (by rw [HZ.out];omega))
   refine bodyPost_ret (v:=.tuple #[.agg #[.string ⟨#[]⟩,.int .u8 0,.int .i64 0],.bool false]) (by simp [results,Tryz.results204,go_sem,q0,q1,q2]) rfl ⟨by rw [HE.out],?_⟩
   exact ((HBB.out.setCell (p:=⟨w.heap.size,0,none⟩) (Nat.le_refl _) (.string ⟨#[]⟩)).setCell (p:=⟨w.heap.size,1,none⟩) (Nat.le_refl _) (.int .u8 0)).setCell (p:=⟨w.heap.size,2,none⟩) (Nat.le_refl _) (.int .i64 0)
end Go.Proofs.YtabkimknlifdoaaGreatDoor
namespace Go.Proofs.YtabkimknlifdoaaGreatDoor
open Go.ChangeShapes Go.WideShapes Go.ChangeAt Go.ChangeMaps Go.RowKit
theorem table_strN {P:Program} {t e:TypeId} {n i:Nat} {b:ByteArray} (ht:P.underlying t=some (.array n e)) (he:P.underlying e=some .string) (hc:P.cellsOf e=1) {W:World} {g fuel:Nat} {nm:String} {cs:Array Value} {l:List (DataW Unit)} {p:List MemPlace}
  (hg:P.globalNamed nm=some g) (hv:W.var? P nm=some cs) (hd:DataW.trod (fun _=>()) P W 0 (fun _=>true) false fuel t cs.toList=some (.agg l,p)) (hi:i < n) (hl:l[i]? = some (.lit (.string b.data.toList))):W.cell? ⟨g,i,none⟩=some (.string b):=by
 obtain ⟨xs,m,rfl,hx,hlen,hn,hel⟩:=DataW.trod_array ht hd
 have h15:=hel i hi
 rw [hc] at h15
 obtain ⟨y,ey⟩:=some_atN (l:=xs) (i:=i) (by omega)
 rw [ey] at h15
 obtain ⟨s,e1,e2,_⟩:=DataW.trod_string he h15
 have hx':=congrArg Prod.fst hx
 simp only [DataW.agg.injEq] at hx'
 have h2:(xs.map (·.1))[i]? = some y.1:=by rw [List.getElem?_map,ey];rfl
 rw [← hx',hl,e2] at h2
 have h3:b.data.toList=s.data.toList:=by
  injection h2 with h2;injection h2 with h2;injection h2
 have h4:b=s:=ByteArray.ext (Array.ext' h3)
 subst h4
 rw [World.var?_cell hg hv i,← Array.getElem?_toList]
 have:=congrArg (fun l=>l[0]?) e1
 simpa [List.getElem?_take,List.getElem?_drop] using this
theorem gSg : Tryz.prog.globalNamed "pointsman/lex.signs" = some 0 := by kernel_rfl
theorem tSg:(Tryz.prog.globals[0]?).map (·.type)=some 153:=by kernel_rfl
theorem cSg:Tryz.prog.cellsOf 9=1:=by kernel_rfl
theorem laidSg:(Rows.laid_pointsman_lex_signs:DataW Unit)=.agg ((List.range 27).map fun i=>.lit (.string (sb i).data.toList)):=by kernel_rfl
theorem laidSg_at (i:Nat) (h:i < 27):((List.range 27).map fun i=>(DataW.lit (.string (sb i).data.toList):DataW Unit))[i]? = some (.lit (.string (sb i).data.toList)):=by
 simp [h]
theorem cells_three {W:World} {base:Nat} {a:Addr} {cs:List Value} (h:W.cells? base a 3=some cs):∃ u v x,cs=[u,v,x]∧W.cell? a=some u∧W.cell? (a.add 1)=some v∧W.cell? (a.add 2)=some x:=by
 unfold World.cells? at h
 split at h
 ·simp only [List.range_succ,List.range_zero,List.nil_append,List.cons_append,List.mapM_cons,List.mapM_nil] at h
  cases h0:W.cell? (a.add 0) with
  | none=>simp [h0] at h
  | some u =>
   cases h1:W.cell? (a.add 1) with
   | none=>simp [h0,h1] at h
   | some v =>
    cases h2:W.cell? (a.add 2) with
    | none=>simp [h0,h1,h2] at h
    | some x =>
     simp [h0,h1,h2] at h
     refine ⟨u,v,x,h.symm,?_,rfl,rfl⟩
     have e:a.add 0=a:=by simp [Addr.add]
     rw [← e];exact h0
 ·cases h
set_option maxRecDepth 100000 in
theorem cell_lt {W:World} {a:Addr} {v:Value} (h:W.cell? a=some v):a.spot=none∧a.block < W.heap.size:=by
 unfold World.cell? at h
 cases hb:W.heap[a.block]? with
 | none=>rw [hb] at h;simp at h
 | some o =>
  refine ⟨?_,(Array.getElem?_eq_some_iff.1 hb).1⟩
  rw [hb] at h
  cases o with
  | cells c t f =>
   simp only at h
   split at h
   ·cases h
   ·rename_i hs;simpa using hs
  | _=>simp at h
set_option maxRecDepth 100000 in
theorem add_atP (b o i:Nat):(⟨b,o,none⟩:Addr).add i=⟨b,o+i,none⟩:=by simp [Addr.add]
theorem gTw : Tryz.prog.globalNamed "pointsman/parse.twos" = some 3 := by kernel_rfl
theorem tTw:(Tryz.prog.globals[3]?).map (·.type)=some 252:=by kernel_rfl
theorem cTw:Tryz.prog.cellsOf 228=3:=by kernel_rfl
theorem cTwS:Tryz.prog.cellsOf 9=1:=by kernel_rfl
theorem cTwB:Tryz.prog.cellsOf 46=1:=by kernel_rfl
theorem cTwI:Tryz.prog.cellsOf 3=1:=by kernel_rfl
def twD (x:List UInt8 × Nat × Nat):DataW Unit:=.agg [.lit (.string x.1),.lit (.int .u8 (x.2.1:Int)),.lit (.int .i64 (x.2.2:Int))]
theorem laidTw:(Rows.laid_pointsman_parse_twos:DataW Unit)=.slice (tws.map twD) []:=by kernel_rfl
theorem tws_laid {W : World} {fuel : Nat} {cs : Array Value} {p : List MemPlace} (hv : W.var? Tryz.prog "pointsman/parse.twos" = some cs) (hd : DataW.trod (fun _ => ()) Tryz.prog W 0 (fun _ => true) false fuel 252 cs.toList = some (Rows.laid_pointsman_parse_twos, p)) : ∃ bt, Tws W bt := by
 rcases DataW.trod_slice Tryz.underlying252 hd with ⟨_,hx⟩ | ⟨a,len,cap,elems,rest,n,_,hcs,hx,_,hl,_,hlen,hel,hsp,_⟩
 ·have:=congrArg Prod.fst hx
  rw [laidTw] at this
  cases this
 ·have hx':=congrArg Prod.fst hx
  rw [laidTw] at hx'
  simp only [DataW.slice.injEq] at hx'
  obtain ⟨he,hr⟩:=hx'
  have h15:elems.length=15:=by
   have:=congrArg List.length he
   simpa [tws_len] using this.symm
  have hr0:rest.length=0:=by
   have:=congrArg List.length hr
   simpa using this.symm
  have hrl:=(hsp rfl).1
  obtain rfl:len=15:=by omega
  obtain rfl:cap=15:=by omega
  clear hsp hl
  rw [cTw] at hel
  obtain ⟨b,off,sp⟩:=a
  have hs0:sp=none:=by
   have h0:=hel 0 (by omega)
   rw [List.getElem?_eq_getElem (by omega),Option.bind_eq_some_iff] at h0
   obtain ⟨cs',hc',_⟩:=h0
   obtain ⟨u,v,x,_,hc0,_,_⟩:=cells_three hc'
   exact (cell_lt hc0).1
  subst hs0
  have H:∀ i (h:i < tws.length),W.cell? ⟨b,off+i * 3,none⟩=some (.string (txt tws[i].1))∧W.cell? ⟨b,off+i * 3+1,none⟩=some (.int .u8 (tws[i].2.1:Int))∧W.cell? ⟨b,off+i * 3+2,none⟩=some (.int .i64 (tws[i].2.2:Int)):=by
   intro i hi
   have hi15:i < 15:=by rw [tws_len] at hi;exact hi
   have hE:=hel i hi15
   have hi':i < elems.length:=by omega
   rw [List.getElem?_eq_getElem hi',Option.bind_eq_some_iff] at hE
   obtain ⟨cs',hc',hy⟩:=hE
   obtain ⟨u,v,x,rfl,hcu,hcv,hcx⟩:=cells_three hc'
   obtain ⟨y0,y1,y2,n',hye,_,ht0,ht1,ht2⟩:=Go.Deep.trod_struct3 Tryz.underlying228 hy
   have hd1:twD tws[i]=(elems[i]).1:=by
    have h2:(tws.map twD)[i]? = (elems.map (·.1))[i]?:=by rw [he]
    rw [List.getElem?_map,List.getElem?_map,List.getElem?_eq_getElem hi,List.getElem?_eq_getElem hi'] at h2
    exact Option.some.inj h2
   rw [hye] at hd1
   unfold twD at hd1
   simp only [DataW.agg.injEq,List.cons.injEq,and_true] at hd1
   obtain ⟨q0,q1,q2⟩:=hd1
   simp only [List.drop_zero,List.drop_succ_cons] at ht0 ht1 ht2
   rw [cTwS] at ht0
   rw [cTwB] at ht1
   rw [cTwI] at ht2
   replace ht0:DataW.trod (fun _=>()) Tryz.prog W 0 (fun _=>true) false n' 9 [u]=some y0:=ht0
   replace ht1:DataW.trod (fun _=>()) Tryz.prog W 0 (fun _=>true) false n' 46 [v]=some y1:=ht1
   replace ht2:DataW.trod (fun _=>()) Tryz.prog W 0 (fun _=>true) false n' 3 [x]=some y2:=ht2
   obtain ⟨s,e0,f0,_⟩:=DataW.trod_string Tryz.underlying9 ht0
   obtain ⟨m1,e1,f1,_⟩:=DataW.trod_int Tryz.underlying46 ht1
   obtain ⟨m2,e2,f2,_⟩:=DataW.trod_int Tryz.underlying3 ht2
   rw [f0] at q0
   rw [f1] at q1
   rw [f2] at q2
   simp only [List.cons.injEq,and_true] at e0 e1 e2
   subst e0 e1 e2
   injection q0 with q0;injection q0 with q0
   injection q1 with q1;injection q1 with _ q1
   injection q2 with q2;injection q2 with _ q2
   rw [add_atP] at hcu hcv hcx
   rw [add_atP] at hcv hcx
   refine ⟨?_,?_,?_⟩
   ·have hs:txt s.data.toList=s:=by apply ByteArray.ext;unfold txt;simp
    exact hcu.trans (congrArg (fun b=>some (Value.string b)) ((congrArg txt q0).trans hs).symm)
   ·exact hcv.trans (congrArg (fun m=>some (Value.int .u8 m)) q1.symm)
   ·exact hcx.trans (congrArg (fun m=>some (Value.int .i64 m)) q2.symm)
  have at0:W.cell? ⟨3,0,none⟩=some (.slice (some ⟨b,off,none⟩) 15 15):=by
   rw [World.var?_cell gTw hv 0,← Array.getElem?_toList,hcs]
   rfl
  refine ⟨b,⟨off,at0,fun i hi j u hu=>?_⟩,(cell_lt at0).2,(cell_lt (H 0 (by rw [tws_len];omega)).1).2⟩
  obtain ⟨h0,h1,h2⟩:=H i hi
  unfold twC at hu
  match j,hu with
  | 0,hu=>cases hu;exact h0
  | 1,hu=>cases hu;exact h1
  | 2,hu=>cases hu;exact h2
  | j+3,hu=>cases hu
def laidP : List (String × DataW Unit) := [("math/bits.deBruijn32tab", Rows.laid_math_bits_deBruijn32tab), ("math/bits.deBruijn64tab", Rows.laid_math_bits_deBruijn64tab), ("internal/strconv.uint64pow10", Rows.laid_internal_strconv_uint64pow10), ("unicode/utf8.acceptRanges", Rows.laid_unicode_utf8_acceptRanges), ("strconv.ErrRange", Rows.laid_strconv_ErrRange), ("strconv.ErrSyntax", Rows.laid_strconv_ErrSyntax), ("pointsman/lex.signs", Rows.laid_pointsman_lex_signs), ("pointsman/parse.twos", Rows.laid_pointsman_parse_twos), ("unicode/utf8.first", Rows.laid_unicode_utf8_first)]
theorem door_metP (os:Os) (args:Array Value):laidMetH Tryz.prog laidP ((World.laidAll Tryz.prog os laidP).forCall (fun _ _=>0) ⟨#[],args,[]⟩).memory:=by
 rw [MakeChecks.laidMetH_plain _ _ _ (by kernel_rfl)]
 exact laidMet_laidAll _ (by kernel_rfl) (by kernel_rfl)
theorem of_laidP {W:World} (h:laidMetH Tryz.prog laidP W):Ls W∧∃ bt,Tws W bt:=by
 rw [MakeChecks.laidMetH_plain _ _ _ (by kernel_rfl)] at h
 obtain ⟨ps,⟨g0,t0,cs0,f0,p0,q0,hg0,ht0,hv0,hd0,⟨g1,t1,cs1,f1,p1,q1,hg1,ht1,hv1,hd1,⟨g2,t2,cs2,f2,p2,q2,hg2,ht2,hv2,hd2,⟨g3,t3,cs3,f3,p3,q3,hg3,ht3,hv3,hd3,⟨g4,t4,cs4,f4,p4,q4,hg4,ht4,hv4,hd4,⟨g5,t5,cs5,f5,p5,q5,hg5,ht5,hv5,hd5,⟨g6,t6,cs6,f6,p6,q6,hg6,ht6,hv6,hd6,⟨g7,t7,cs7,f7,p7,q7,hg7,ht7,hv7,hd7,_,_⟩,_⟩,_⟩,_⟩,_⟩,_⟩,_⟩,_⟩,_,_⟩:=h
 obtain rfl:=Option.some.inj (gTabV.symm.trans hg1)
 obtain rfl:=Option.some.inj (tTabV.symm.trans ht1)
 obtain rfl:=Option.some.inj (gPow.symm.trans hg2)
 obtain rfl:=Option.some.inj (tPowV.symm.trans ht2)
 obtain rfl:=Option.some.inj (gErV.symm.trans hg4)
 obtain rfl:=Option.some.inj (tErV.symm.trans ht4)
 obtain rfl:=Option.some.inj (gEsV.symm.trans hg5)
 obtain rfl:=Option.some.inj (tEsV.symm.trans ht5)
 obtain rfl:=Option.some.inj (gSg.symm.trans hg6)
 obtain rfl:=Option.some.inj (tSg.symm.trans ht6)
 obtain rfl:=Option.some.inj (gTw.symm.trans hg7)
 obtain rfl:=Option.some.inj (tTw.symm.trans ht7)
 refine ⟨?_,tws_laid hv7 hd7⟩
 refine ⟨⟨table_atN Tryz.underlying267 Tryz.underlying5 cellsYV hg1 hv1 hd1 (by decide) rfl,?_,iface_cell Tryz.underlying163 hg5 hv5 hd5,iface_cell Tryz.underlying163 hg4 hv4 hd4⟩,fun j v hj=>?_⟩
 ·have:=Lib.cells_of_tab (zs:=Lib.pow10Tab) Tryz.underlying242 Tryz.underlying33 cU64V cPowV hd2
  unfold Lib.TabIs
  rw [hv2,← this]
 ·have hlt:j < 27:=by have:=(List.getElem?_eq_some_iff.1 hj).1;rw [sgL_len] at this;exact this
  rw [sgL_at j hlt] at hj
  injection hj with hj
  subst hj
  rw [laidSg] at hd6
  rw [Nat.zero_add]
  exact table_strN Tryz.underlying153 Tryz.underlying9 cSg hg6 hv6 hd6 hlt (laidSg_at j hlt)
end Go.Proofs.YtabkimknlifdoaaGreatDoor
