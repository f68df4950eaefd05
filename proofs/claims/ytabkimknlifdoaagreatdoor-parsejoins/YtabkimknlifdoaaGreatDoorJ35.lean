/- Pieces of the proof: TTa, TTc, TUa, TVa. -/
import Derived.Test.YtabkimknlifdoaaGreatDoorJ14
import Derived.Test.YtabkimknlifdoaaGreatDoorJ34
import Derived.Test.YtabkimknlifdoaaGreatDoorJ7
import Derived.Maps.AppendAt
import Derived.Deep.RegionHeld3
namespace Go.Proofs.YtabkimknlifdoaaGreatDoor
open Go.RowKit
theorem flat_getK {α:Type} {K:Nat}:∀ (css:List (List α)) (_:∀ cs ∈ css,cs.length=K) (i:Nat) (h:i < css.length) (j:Nat) (_:j < K),css.flatten[i * K+j]? = css[i][j]?
 | [],_,i,h,_,_=>by simp at h
 | cs :: css,hK,0,_,j,hj=>by
  have h0:=hK cs (by simp)
  rw [List.flatten_cons,List.getElem?_append_left (by omega)];simp
 | cs :: css,hK,i+1,h,j,hj=>by
  have h0:=hK cs (by simp)
  rw [List.flatten_cons,List.getElem?_append_right (by rw [h0,Nat.succ_mul];omega)]
  have e:(i+1) * K+j - cs.length=i * K+j:=by rw [h0,Nat.succ_mul];omega
  rw [e,flat_getK css (fun c hc=>hK c (by simp [hc])) i (by simpa using h) j hj]
  simp
theorem list_at {α:Type} {rep:Rep α} {mk:List Value→Value} {K:Nat} {W:World} {X:Nat→Prop} {v:Value} {l:List α} (h:ListR rep mk K W X v l):∃ a c,v=.slice a l.length c∧(l.length=0 ∨ ∃ b,a=some ⟨b,0,none⟩∧X b∧b < W.heap.size∧∀ i (hi:i < l.length),∃ cs:List Value,cs.length=K∧(∀ j u,cs[j]? = some u→W.cell? ⟨b,i * K+j,none⟩=some u)∧rep W X (mk cs) l[i]):=by
 obtain ⟨css,⟨a,cap,hv,hl,_,_,h4⟩,hlen,hel⟩:=h
 refine ⟨a,cap,hv,?_⟩
 rcases h4 with h4 | ⟨b,e,hX,hb,hc⟩
 ·exact .inl h4
 ·refine .inr ⟨b,e,hX,hb,fun i hi=>?_⟩
  have hi':i < css.length:=by omega
  obtain ⟨k1,k2⟩:=hel i hi' hi
  refine ⟨css[i],k1,fun j u hu=>?_,k2⟩
  have hj:j < K:=by have:=(List.getElem?_eq_some_iff.1 hu).1;omega
  have hK:∀ cs ∈ css,cs.length=K:=fun cs hcs=>by
   obtain ⟨m,hm,rfl⟩:=List.mem_iff_getElem.1 hcs
   exact (hel m hm (by omega)).1
  have hg:=flat_getK css hK i hi' j hj
  rw [hu] at hg
  obtain ⟨hlt,he⟩:=List.getElem?_eq_some_iff.1 hg
  rw [hc _ hlt,he]
def ListT {α:Type} (rep:Rep α) (mk:List Value→Value) (K e:Nat):Rep (List α):=fun W X v l =>
 ∃ (g c:Nat) (cur:Array Value) (css:List (List Value)),v=.slice (some ⟨g,0,none⟩) l.length c∧X g∧W.heap[g]? = some (.cells cur e (0,0))∧(css.length=l.length∧cur.size=c * K∧l.length≤c∧c≤maxLen)∧∀ i (h:i < css.length) (h':i < l.length),css[i].length=K∧(∀ j u,css[i][j]? = some u→cur[i * K+j]? = some u)∧rep W X (mk css[i]) l[i]
theorem ListT.ok {α:Type} {rep:Rep α} (hr:RepOk rep) (mk:List Value→Value) (K e:Nat):RepOk (ListT rep mk K e) where
 mono:=fun ⟨g,c,cur,css,h1,h2,h3,h4,h5⟩ hm=>⟨g,c,cur,css,h1,hm g h2,h3,h4,fun i h h'=>⟨(h5 i h h').1,(h5 i h h').2.1,hr.mono (h5 i h h').2.2 hm⟩⟩
 frame:=fun ⟨g,c,cur,css,h1,h2,h3,h4,h5⟩ hs hf=>⟨g,c,cur,css,h1,h2,(hf g h2 (Array.getElem?_eq_some_iff.1 h3).1).trans h3,h4,fun i h h'=>⟨(h5 i h h').1,(h5 i h h').2.1,hr.frame (h5 i h h').2.2 hs hf⟩⟩
structure Tp {α:Type} (rep:Rep α) (mk:List Value→Value) (K e:Nat) (W0 W:World) (n:Nat) (v:Value) (l:List α) (css:List (List Value)):Prop where
 bl:Below W0.heap.size W0 W
 own:W.ownsRow W0.heap.size e K v n css.flatten
 nl:n=l.length
 len:css.length=l.length
 el:∀ i (h:i < css.length) (h':i < l.length),css[i].length=K∧rep W (fun b=>Bn W0 W b∧v.ownBlock ≠ some b) (mk css[i]) l[i]
theorem Tp.go {α:Type} {rep:Rep α} (hok:RepOk rep) {mk:List Value→Value} {K e:Nat} {W0 W W1:World} {n:Nat} {v:Value} {l:List α} {css:List (List Value)} (h:Tp rep mk K e W0 W n v l css) (hb:Below W.heap.size W W1):Tp rep mk K e W0 W1 n v l css:=by
 refine ⟨h.bl.trans (hb.mono h.bl.size),ownR_below h.own hb,h.nl,h.len,fun i hi hi'=>?_⟩
 obtain ⟨h1,h2⟩:=h.el i hi hi'
 have h3:=hok.frame h2 (W':=W1) hb.size (fun b _ hl=>hb.block b hl)
 exact ⟨h1,hok.mono h3 (fun b hb'=>⟨⟨hb'.1.1,Nat.lt_of_lt_of_le hb'.1.2 hb.size⟩,hb'.2⟩)⟩
theorem Tp.step {α:Type} {rep:Rep α} (hok:RepOk rep) {mk:List Value→Value} {K e:Nat} {W0 W W1 W2:World} {n:Nat} {v v':Value} {l:List α} {css:List (List Value)} {x:α} {cs:List Value} {o:Obj}
  (h:Tp rep mk K e W0 W n v l css) (hb:Below W.heap.size W W1) (hrep:rep W1 (Bn W W1) (mk cs) x) (hcs:cs.length=K)
  (ho:W2.ownsRow W0.heap.size e K v' (n+1) (css.flatten ++ cs)) (hd:(v'.ownBlock=v.ownBlock∧(W1.alloc o).grownBy W2 v.ownBlock) ∨ ((W1.alloc o).grownBy W2 none∧∀ b,v'.ownBlock=some b→(W1.alloc o).heap.size≤b)) :
  Tp rep mk K e W0 W2 (n+1) v' (l ++ [x]) (css ++ [cs]):=by
 have s01:=h.bl.size
 have s1:=hb.size
 have hvb:∀ b,v.ownBlock=some b→W0.heap.size≤b∧b < W.heap.size:=World.ownsRow.lt h.own
 have hB1:Below W0.heap.size W0 (W1.alloc o):=(h.bl.trans (hb.mono s01)).alloc (by omega) o
 have hB2:Below W0.heap.size W0 W2:=by
  rcases hd with ⟨_,hg⟩ | ⟨hg,_⟩
  ·exact hB1.grown hg (by rw [World.size_alloc];omega) (fun r e=>(hvb r e).1)
  ·exact hB1.grown hg (by rw [World.size_alloc];omega) (fun r e=>by cases e)
 have s2:W1.heap.size+1≤W2.heap.size:=by
  rcases hd with ⟨_,hg⟩ | ⟨hg,_⟩ <;> (have:=hg.size;rw [World.size_alloc] at this;exact this)
 have key:∀ b,b < W1.heap.size→v.ownBlock ≠ some b→W2.heap[b]? = W1.heap[b]?:=fun b hb hne=>by
  rcases hd with ⟨_,hg⟩ | ⟨hg,_⟩
  ·rw [hg.block b (by rw [World.size_alloc];omega) (fun e=>hne e.symm),Below.heap_alloc _ _ _ hb]
  ·rw [hg.block b (by rw [World.size_alloc];omega) (fun e=>by cases e),Below.heap_alloc _ _ _ hb]
 have nv:∀ b,b < W1.heap.size→v.ownBlock ≠ some b→v'.ownBlock ≠ some b:=fun b hb hne e'=>by
  rcases hd with ⟨e,_⟩ | ⟨_,hn⟩
  ·exact hne (e ▸ e')
  ·have:=hn b e';rw [World.size_alloc] at this;omega
 refine ⟨hB2,by rw [List.flatten_append,List.flatten_singleton];exact ho,by rw [List.length_append,List.length_singleton,h.nl],by simp [h.len],fun i hi hi'=>?_⟩
 by_cases hlt:i < css.length
 ·have hl:i < l.length:=by rw [← h.len];exact hlt
  obtain ⟨h1,h2⟩:=h.el i hlt hl
  rw [List.getElem_append_left hlt,List.getElem_append_left hl]
  refine ⟨h1,?_⟩
  have h3:=hok.frame h2 (W':=W1) s1 (fun b _ hl=>hb.block b hl)
  have h4:=hok.frame h3 (W':=W2) (by omega) (fun b hb hl=>key b hl hb.2)
  exact hok.mono h4 (fun b hb=>⟨⟨hb.1.1,by have:=hb.1.2;omega⟩,nv b (by have:=hb.1.2;omega) hb.2⟩)
 ·have ei:i=css.length:=by simp at hi;omega
  subst ei
  have el:css.length=l.length:=h.len
  have e2:(l ++ [x])[css.length]'hi'=x:=by simp [el]
  have e1:(css ++ [cs])[css.length]'hi=cs:=by simp
  rw [e1,e2]
  refine ⟨hcs,?_⟩
  have nvb:∀ b,Bn W W1 b→v.ownBlock ≠ some b:=fun b hb e=>by have:=(hvb b e).2;have:=hb.1;omega
  have h4:=hok.frame hrep (W':=W2) (by omega) (fun b hb hl=>key b hl (nvb b hb))
  exact hok.mono h4 (fun b hb=>⟨⟨by have:=hb.1;omega,by have:=hb.2;omega⟩,nv b hb.2 (nvb b hb)⟩)
theorem Tp.done {α:Type} {rep:Rep α} (hok:RepOk rep) {mk:List Value→Value} {K e:Nat} {W0 W W2:World} {n:Nat} {v v':Value} {l:List α} {css:List (List Value)} {cs:List Value} {o:Obj}
  (h:Tp rep mk K e W0 W n v l css) (ho:W2.ownsRow W0.heap.size e K v' (n+1) (css.flatten ++ cs)) (hd:(v'.ownBlock=v.ownBlock∧(W.alloc o).grownBy W2 v.ownBlock) ∨ ((W.alloc o).grownBy W2 none∧∀ b,v'.ownBlock=some b→(W.alloc o).heap.size≤b)) :
  ∃ g c,v'=.slice (some ⟨g,0,none⟩) (n+1) c∧n+1≤c∧ListT rep mk K e W2 (Bn W0 W2) (.slice (some ⟨g,0,none⟩) n c) l∧Below W0.heap.size W0 W2:=by
 have s01:=h.bl.size
 have hvb:∀ b,v.ownBlock=some b→W0.heap.size≤b∧b < W.heap.size:=World.ownsRow.lt h.own
 have hB1:Below W0.heap.size W0 (W.alloc o):=h.bl.alloc (by omega) o
 have hB2:Below W0.heap.size W0 W2:=by
  rcases hd with ⟨_,hg⟩ | ⟨hg,_⟩
  ·exact hB1.grown hg (by rw [World.size_alloc];omega) (fun r e=>(hvb r e).1)
  ·exact hB1.grown hg (by rw [World.size_alloc];omega) (fun r e=>by cases e)
 have s2:W.heap.size+1≤W2.heap.size:=by
  rcases hd with ⟨_,hg⟩ | ⟨hg,_⟩ <;> (have:=hg.size;rw [World.size_alloc] at this;exact this)
 have key:∀ b,b < W.heap.size→v.ownBlock ≠ some b→W2.heap[b]? = W.heap[b]?:=fun b hb hne=>by
  rcases hd with ⟨_,hg⟩ | ⟨hg,_⟩
  ·rw [hg.block b (by rw [World.size_alloc];omega) (fun e=>hne e.symm),Below.heap_alloc _ _ _ hb]
  ·rw [hg.block b (by rw [World.size_alloc];omega) (fun e=>by cases e),Below.heap_alloc _ _ _ hb]
 rcases ho.2 with ⟨_,h0⟩ | ⟨g,c,cur,rfl,hg,hcur,hc1,hc2,hc3,htk⟩
 ·omega
 ·refine ⟨g,c,rfl,hc1,⟨g,c,cur,css,by rw [h.nl],⟨hg,(Array.getElem?_eq_some_iff.1 hcur).1⟩,hcur,⟨h.len,hc3,by have:=h.nl;omega,hc2⟩,fun i hi hi'=>?_⟩,hB2⟩
  obtain ⟨h1,h2⟩:=h.el i hi hi'
  refine ⟨h1,fun j u hu=>?_,?_⟩
  ·have hj:j < K:=by have:=(List.getElem?_eq_some_iff.1 hu).1;omega
   have hK:∀ cs ∈ css,cs.length=K:=fun cs hcs=>by
    obtain ⟨m,hm,rfl⟩:=List.mem_iff_getElem.1 hcs
    exact (h.el m hm (by rw [← h.len];exact hm)).1
   have hf:=flat_getK css hK i hi j hj
   rw [hu] at hf
   have hlt:=(List.getElem?_eq_some_iff.1 hf).1
   have h5:(css.flatten ++ cs)[i * K+j]? = some u:=by rw [List.getElem?_append_left hlt];exact hf
   rw [← htk,List.getElem?_take] at h5
   split at h5
   ·rw [← Array.getElem?_toList];exact h5
   ·cases h5
  ·have h4:=hok.frame h2 (W':=W2) (by omega) (fun b hb hl=>key b hl hb.2)
   exact hok.mono h4 (fun b hb=>⟨hb.1.1,by have:=hb.1.2;omega⟩)
theorem Tryz.infoTExprs:(Tryz.prog.info? 49).map (fun i=>(i.zero,i.size,i.bytes))=some (some (.agg #[.int .u8 0,.int .i64 0,.int .u64 0,.int .u64 0,.string ⟨#[]⟩,.string ⟨#[]⟩,.int .i64 0,.int .i64 0,.slice none 0 0,.int .i64 0]),10,112):=by kernel_rfl
set_option maxRecDepth 100000 in
set_option maxHeartbeats 4000000 in
theorem twinExprs_ok {α:Type} {rep rep':Rep α} (hok:RepOk rep) (hok':RepOk rep') (l:List α) (HE:∀ x ∈ l,∀ (W:World) (X:Nat→Prop) (cs:List Value),cs.length=10→rep W X (mkAgg cs) x→Calls Tryz.prog 228 #[mkAgg cs] W fun e w'=>∃ cs',e=.returned (mkAgg cs')∧cs'.length=10∧(∀ u ∈ cs',u.oneCell'=true)∧rep' w' (Bn W w') (mkAgg cs') x∧Below W.heap.size W w') (w:World) (X:Nat→Prop) (v:Value) (hl:l.length≤1000000) (h:ListR rep mkAgg 10 w X v l) :
  Calls Tryz.prog 226 #[v] w fun e w'=>∃ v',e=.returned v'∧ListT rep' mkAgg 10 49 w' (Bn w w') v' l∧Below w.heap.size w w':=by
 obtain ⟨i0',hi0,hz0,hz1,hz2⟩:=info_parts Tryz.infoTExprs
 obtain ⟨a,ca,rfl,h4⟩:=list_at h
 have H4:=hide h4
 have HEE:=hide HE
 clear h h4 HE
 go_enter Tryz.func226,Tryz.ntmps226
 go_wp2_with (first
  | (refine wpList_make_own _ rfl _ _ 47 rfl w.heap.size 49 i0' (.agg #[.int .u8 0,.int .i64 0,.int .u64 0,.int .u64 0,.string ⟨#[]⟩,.string ⟨#[]⟩,.int .i64 0,.int .i64 0,.slice none 0 0,.int .i64 0]) 10 Tryz.underlying47 hi0 hz0 hz1 .i64 .i64 _ (l.length+1) rfl rfl (by simp) (by rw [hz2];omega) (by unfold maxLen;omega) (Nat.le_refl _) ?_;intro w1 O1 G1;have T1:Hid (Tp rep' mkAgg 10 49 w w1 0 (.slice (some ⟨w.heap.size,0,none⟩) 0 (l.length+1)) (l.take 0) []):=⟨(Below.refl _ w).grown G1 (Nat.le_refl _) (fun k e=>by cases e),O1,by simp,by simp,fun i hi _=>by simp at hi⟩;clear O1 G1))
 go_loopw [3,4] (fun t i wr=>∃ (k:Nat) (css:List (List Value)),k≤l.length∧i=.int .i64 k∧Hid (Tp rep' mkAgg 10 49 w wr k t (l.take k) css)) (fun _ i _=>l.length - (intOf i).toNat)
 case atStart=>exact ⟨0,[],Nat.zero_le _,rfl,T1⟩
 case round =>
  rename_i tv _
  obtain ⟨k,css,hk,rfl,HT⟩:=hrel
  clear T1
  by_cases hlt:k < l.length
  ·have hkI:(k:Int) < (l.length:Int):=by omega
   rcases H4.out with h0 | ⟨b,rfl,hX,hb,h5⟩
   ·omega
   obtain ⟨cs,k1,k2,k3⟩:=h5 k hlt
   have hc:∀ j u,cs[j]? = some u→wr.cell? ⟨b,k * 10+j,none⟩=some u:=fun j u hu=>(HT.out.bl.cell (p:=⟨b,k * 10+j,none⟩) hb).trans (k2 j u hu)
   have HNx:=hide (List.take_succ_eq_append_getElem hlt)
   have HR:=hide (hok.frame k3 (W':=wr) HT.out.bl.size (fun b _ hl=>HT.out.bl.block b hl))
   have HM:Hid (l[k] ∈ l):=List.getElem_mem hlt
   generalize l[k]=x at HNx HR HM
   clear h5 k2 k3
   match cs,k1 with
   | [x0,x1,x2,x3,x4,x5,x6,x7,x8,x9],_ =>
    have c0:wr.cell? ⟨b,k * 10,none⟩=some x0:=hc 0 _ rfl
    have c1:wr.cell? ⟨b,k * 10+1,none⟩=some x1:=hc 1 _ rfl
    have c2:wr.cell? ⟨b,k * 10+2,none⟩=some x2:=hc 2 _ rfl
    have c3:wr.cell? ⟨b,k * 10+3,none⟩=some x3:=hc 3 _ rfl
    have c4:wr.cell? ⟨b,k * 10+4,none⟩=some x4:=hc 4 _ rfl
    have c5:wr.cell? ⟨b,k * 10+5,none⟩=some x5:=hc 5 _ rfl
    have c6:wr.cell? ⟨b,k * 10+6,none⟩=some x6:=hc 6 _ rfl
    have c7:wr.cell? ⟨b,k * 10+7,none⟩=some x7:=hc 7 _ rfl
    have c8:wr.cell? ⟨b,k * 10+8,none⟩=some x8:=hc 8 _ rfl
    have c9:wr.cell? ⟨b,k * 10+9,none⟩=some x9:=hc 9 _ rfl
    have HC:=hide (HEE.out x HM.out wr _ _ rfl HR.out)
    clear hc HR HM
    go_wp2_with fail
    refine HC.out.mono ?_
    rintro e w2 ⟨cs',rfl,q1,q2,q3,q4⟩
    have HT2:=hide (HT.out.go hok' q4)
    have Q3:=hide q3
    have Q4:=hide q4
    have Q2:=hide q2
    clear HC q2 q3 q4
    match cs',q1 with
    | [y0,y1,y2,y3,y4,y5,y6,y7,y8,y9],_ =>
     simp only [mkAgg]
     go_wp2_with (at_builtin;refine wpList_appC rfl _ _ 47 rfl 49 i0' (.agg #[.int .u8 0,.int .i64 0,.int .u64 0,.int .u64 0,.string ⟨#[]⟩,.string ⟨#[]⟩,.int .i64 0,.int .i64 0,.slice none 0 0,.int .i64 0]) 10 112 Tryz.underlying47 hi0 hz0 hz1 hz2 rfl (by decide) (by decide) w.heap.size _ k css.flatten rfl (ownR_below HT2.out.own ((Below.refl _ w2).alloc (Nat.le_refl _) _)) w2.heap.size [y0,y1,y2,y3,y4,y5,y6,y7,y8,y9] rfl rfl (cells_newC _ [y0,y1,y2,y3,y4,y5,y6,y7,y8,y9] _) Q2.out (by omega) (by have:=HT2.out.bl.size;simp;omega) ?_;intro v7 w7 O7 D7;have HT7:=hide (HT.out.step hok' Q4.out Q3.out rfl O7 D7);clear O7 D7)
     rw [← HNx.out] at HT7
     go_roundw
     case rel=>exact ⟨k+1,_,by omega,by go_num,HT7⟩
     case measure=>simp [intOf];omega
  ·obtain rfl:k=l.length:=by omega
   rw [List.take_length] at HT
   go_wp2_with (at_builtin;refine wpList_appC rfl _ _ 47 rfl 49 i0' (.agg #[.int .u8 0,.int .i64 0,.int .u64 0,.int .u64 0,.string ⟨#[]⟩,.string ⟨#[]⟩,.int .i64 0,.int .i64 0,.slice none 0 0,.int .i64 0]) 10 112 Tryz.underlying47 hi0 hz0 hz1 hz2 rfl (by decide) (by decide) w.heap.size _ l.length css.flatten rfl (ownR_below HT.out.own ((Below.refl _ wr).alloc (Nat.le_refl _) _)) wr.heap.size [.int .u8 0,.int .i64 0,.int .u64 0,.int .u64 0,.string ⟨#[115,112,97,114,101]⟩,.string ⟨#[]⟩,.int .i64 0,.int .i64 0,.slice none 0 0,.int .i64 0] rfl rfl (cells_newC _ [.int .u8 0,.int .i64 0,.int .u64 0,.int .u64 0,.string ⟨#[115,112,97,114,101]⟩,.string ⟨#[]⟩,.int .i64 0,.int .i64 0,.slice none 0 0,.int .i64 0] _) (by simp [Value.oneCell']) (by omega) (by have:=HT.out.bl.size;simp;omega) ?_;intro v7 w7 O7 D7;obtain ⟨g,c,rfl,hgc,h8,h9⟩:=HT.out.done hok' O7 D7;have H8:=hide h8;have H9:=hide h9;clear O7 D7 h8 h9)
   go_ret
   exact ⟨_,rfl,H8.out,H9.out⟩
theorem cel_of {w:World} {b:Nat} {A:Array Value} {e:TypeId} (h:w.heap[b]? = some (.cells A e (0,0))) (j:Nat) {u:Value} (hu:A[j]? = some u):w.cell? ⟨b,j,none⟩=some u:=by unfold World.cell?;simp only [h];exact hu
theorem setAll_size (b:Nat):∀ (cs:List Value) (W:World) (o:Nat),(setAll b W o cs).heap.size=W.heap.size
 | [],_,_=>rfl
 | x :: xs,W,o=>(setAll_size b xs (W.setCell ⟨b,o,none⟩ x) (o+1)).trans (by simp [World.setCell])
theorem stepB {W w1 w':World} (h:Below W.heap.size W w1) (h2:Below w1.heap.size w1 w'):Below W.heap.size W w':=h.trans (h2.mono h.size)
theorem twR {β:Type} {R:Rep β} (hR:RepOk R) {W Wj yj yl w9:World} {v:Value} {l:β} (r:R yj (Bn Wj yj) v l) (z:W.heap.size+2≤Wj.heap.size) (hb:Below yj.heap.size yj yl) (hs:w9.heap.size=yl.heap.size) (hne:∀ b,b < yl.heap.size→b ≠ W.heap.size+1→w9.heap[b]? = yl.heap[b]?):R w9 (Bn W w9) v l:=by
 have s1:=hb.size
 refine hR.mono (hR.frame r (W':=w9) (by omega) (fun b hB hl=>(hne b (by omega) (by have:=hB.1;omega)).trans (hb.block b hl))) (fun b hB=>⟨by have:=hB.1;omega,by have:=hB.2;omega⟩)
def TwX (W:World) (T K:Nat) (A:Array Value) (w':World):Prop:=Below W.heap.size W w'∧w'.heap[W.heap.size]? = some (.cells A T (0,0))∧(∃ cur:Array Value,w'.heap[W.heap.size+1]? = some (.cells cur T (0,0))∧cur.size=K)∧W.heap.size+2≤w'.heap.size
theorem TwX.start {W:World} {T K:Nat} {A Z:Array Value} (hz:Z.size=K):TwX W T K A ((W.alloc (.cells A T)).alloc (.cells Z T)).drew:=by
 refine ⟨(al2 W _ _).drew,?_,⟨Z,?_,hz⟩,by show _≤((W.alloc _).alloc _).heap.size;simp⟩
 ·exact (Below.heap_alloc (W.alloc (.cells A T)) _ _ (by simp)).trans (heap_alloc_new W _)
 ·have h:=heap_alloc_new (W.alloc (.cells A T)) (.cells Z T)
  rw [World.size_alloc] at h
  exact h
theorem TwX.next {W:World} {T K:Nat} {A:Array Value} {w w':World} (h:TwX W T K A w) (hb:Below w.heap.size w w'):TwX W T K A w':=by
 obtain ⟨h1,h2,⟨cur,h3,h4⟩,h5⟩:=h
 exact ⟨h1.trans (hb.mono h1.size),(hb.block _ (by omega)).trans h2,⟨cur,(hb.block _ (by omega)).trans h3,h4⟩,Nat.le_trans h5 hb.size⟩
theorem TwX.store {W:World} {T K:Nat} {A:Array Value} {w w':World} {cs:List Value} (h:TwX W T K A w) (hl:cs.length=K) (e:w'=setAll (W.heap.size+1) w 0 cs):TwX W T K A w'∧w'.heap[W.heap.size+1]? = some (.cells cs.toArray T (0,0))∧w'.heap.size=w.heap.size∧∀ b,b < w.heap.size→b ≠ W.heap.size+1→w'.heap[b]? = w.heap[b]?:=by
 obtain ⟨h1,h2,⟨cur,h3,h4⟩,h5⟩:=h
 have F:=fr_all (W.heap.size+1) cs w 0
 rw [← e] at F
 have g:=got0 h3 (h4.trans hl.symm)
 rw [← e] at g
 have hs:w'.heap.size=w.heap.size:=by rw [e];exact setAll_size _ _ _ _
 have hne:∀ b,b < w.heap.size→b ≠ W.heap.size+1→w'.heap[b]? = w.heap[b]?:=fun b hb hn=>F.block b hb hn
 have hw:=h1.size
 refine ⟨⟨⟨F.os.trans h1.os,F.tape.trans h1.tape,F.output.trans h1.output,by omega,fun b hb=>(hne b (by omega) (by omega)).trans (h1.block b hb)⟩,(hne _ (by omega) (by omega)).trans h2,⟨_,g,by simpa using hl⟩,by omega⟩,g,hs,hne⟩
set_option maxRecDepth 100000 in
set_option maxHeartbeats 8000000 in
theorem twinExpr_raw {β8:Type} {R8:Rep β8} (hR8:RepOk R8) (l8:β8) (s8:Option Addr) (n8 c8:Nat) (i0 i1 i2 i3 i6 i7 i9:Int) (t4 t5:ByteArray) (W:World)
  (HL8:∀ W',Below W.heap.size W W'→Calls Tryz.prog 226 #[.slice s8 n8 c8] W' fun e w'=>∃ v',e=.returned v'∧(∃ a n c,v'=.slice a n c)∧R8 w' (Bn W' w') v' l8∧Below W'.heap.size W' w')
  : Calls Tryz.prog 228 #[.agg #[.int .u8 i0,.int .i64 i1,.int .u64 i2,.int .u64 i3,.string t4,.string t5,.int .i64 i6,.int .i64 i7,.slice s8 n8 c8,.int .i64 i9]] W fun e w'=>∃ v8,e=.returned (.agg #[.int .u8 i0,.int .i64 i1,.int .u64 i2,.int .u64 i3,.string t4,.string t5,.int .i64 i6,.int .i64 i7,v8,.int .i64 i9])∧(∃ a n c,v8=.slice a n c)∧R8 w' (Bn W w') v8 l8∧Below W.heap.size W w':=by
 have HC8:=hide HL8
 clear HL8
 go_enter Tryz.func228,Tryz.ntmps228
 go_wp2
 have hS0:TwX W 49 10 #[.int .u8 i0,.int .i64 i1,.int .u64 i2,.int .u64 i3,.string t4,.string t5,.int .i64 i6,.int .i64 i7,.slice s8 n8 c8,.int .i64 i9] ((W.alloc (.cells #[.int .u8 i0,.int .i64 i1,.int .u64 i2,.int .u64 i3,.string t4,.string t5,.int .i64 i6,.int .i64 i7,.slice s8 n8 c8,.int .i64 i9] 49)).alloc (.cells #[.int .u8 0,.int .i64 0,.int .u64 0,.int .u64 0,.string ⟨#[]⟩,.string ⟨#[]⟩,.int .i64 0,.int .i64 0,.slice none 0 0,.int .i64 0] 49)).drew:=TwX.start rfl
 generalize (W.alloc (.cells #[.int .u8 i0,.int .i64 i1,.int .u64 i2,.int .u64 i3,.string t4,.string t5,.int .i64 i6,.int .i64 i7,.slice s8 n8 c8,.int .i64 i9] 49)).alloc (.cells #[.int .u8 0,.int .i64 0,.int .u64 0,.int .u64 0,.string ⟨#[]⟩,.string ⟨#[]⟩,.int .i64 0,.int .i64 0,.slice none 0 0,.int .i64 0] 49)=w1 at *
 refine wp_region_noPanic ?_
 refine wp_region_held_drew (S:=TwX W 49 10 #[.int .u8 i0,.int .i64 i1,.int .u64 i2,.int .u64 i3,.string t4,.string t5,.int .i64 i6,.int .i64 i7,.slice s8 n8 c8,.int .i64 i9]) (by kernel_rfl) hS0 (fun hHeld=>?_)
 clear hS0
 generalize w1.drew=w2 at *
 refine wpAnyH_take (i:=0) (v:=?_) rfl (by kernel_rfl) (by kernel_rfl) (by kernel_rfl) (fun _ _ _ h=>h) (Or.inl ⟨by rfl,?_⟩) hHeld ?_
 rotate_left
 ·(intro w hSw;clear hSw;go_simp;try (with_reducible rfl))
 refine wpAnyH_take (i:=1) (v:=?_) rfl (by kernel_rfl) (by kernel_rfl) (by kernel_rfl) (fun _ _ _ h=>h) (Or.inl ⟨by rfl,?_⟩) hHeld ?_
 rotate_left
 ·(intro w hSw;have hc0:=cel_of hSw.2.1 0 rfl;clear hSw;go_simp;try (with_reducible rfl))
 refine wpAnyH_take (i:=2) (v:=?_) rfl (by kernel_rfl) (by kernel_rfl) (by kernel_rfl) (fun _ _ _ h=>h) (Or.inl ⟨by rfl,?_⟩) hHeld ?_
 rotate_left
 ·(intro w hSw;clear hSw;go_simp;try (with_reducible rfl))
 refine wpAnyH_take (i:=3) (v:=?_) rfl (by kernel_rfl) (by kernel_rfl) (by kernel_rfl) (fun _ _ _ h=>h) (Or.inl ⟨by rfl,?_⟩) hHeld ?_
 rotate_left
 ·(intro w hSw;have hc1:=cel_of hSw.2.1 1 rfl;have hc2:=cel_of hSw.2.1 2 rfl;have hc3:=cel_of hSw.2.1 3 rfl;clear hSw;go_simp;try (with_reducible rfl))
 refine wpAnyH_take (i:=4) (v:=?_) rfl (by kernel_rfl) (by kernel_rfl) (by kernel_rfl) (fun _ _ _ h=>h) (Or.inl ⟨by rfl,?_⟩) hHeld ?_
 rotate_left
 ·(intro w hSw;clear hSw;go_simp;try (with_reducible rfl))
 refine wpAnyH_take (i:=5) (v:=?_) rfl (by kernel_rfl) (by kernel_rfl) (by kernel_rfl) (fun _ _ _ h=>h) (Or.inl ⟨by rfl,?_⟩) hHeld ?_
 rotate_left
 ·(intro w hSw;have hc4:=cel_of hSw.2.1 4 rfl;clear hSw;go_simp;try (with_reducible rfl))
 refine wpAnyH_take (i:=6) (v:=?_) rfl (by kernel_rfl) (by kernel_rfl) (by kernel_rfl) (fun _ _ _ h=>h) (Or.inl ⟨by rfl,?_⟩) hHeld ?_
 rotate_left
 ·(intro w hSw;clear hSw;go_simp;try (with_reducible rfl))
 refine wpAnyH_take (i:=7) (v:=?_) rfl (by kernel_rfl) (by kernel_rfl) (by kernel_rfl) (fun _ _ _ h=>h) (Or.inl ⟨by rfl,?_⟩) hHeld ?_
 rotate_left
 ·(intro w hSw;have hc5:=cel_of hSw.2.1 5 rfl;clear hSw;go_simp;try (with_reducible rfl))
 refine wpAnyH_take (i:=8) (v:=?_) rfl (by kernel_rfl) (by kernel_rfl) (by kernel_rfl) (fun _ _ _ h=>h) (Or.inl ⟨by rfl,?_⟩) hHeld ?_
 rotate_left
 ·(intro w hSw;clear hSw;go_simp;try (with_reducible rfl))
 refine wpAnyH_take (i:=9) (v:=?_) rfl (by kernel_rfl) (by kernel_rfl) (by kernel_rfl) (fun _ _ _ h=>h) (Or.inl ⟨by rfl,?_⟩) hHeld ?_
 rotate_left
 ·(intro w hSw;have hc6:=cel_of hSw.2.1 6 rfl;clear hSw;go_simp;try (with_reducible rfl))
 refine wpAnyH_take (i:=10) (v:=?_) rfl (by kernel_rfl) (by kernel_rfl) (by kernel_rfl) (fun _ _ _ h=>h) (Or.inl ⟨by rfl,?_⟩) hHeld ?_
 rotate_left
 ·(intro w hSw;clear hSw;go_simp;try (with_reducible rfl))
 refine wpAnyH_take (i:=11) (v:=?_) rfl (by kernel_rfl) (by kernel_rfl) (by kernel_rfl) (fun _ _ _ h=>h) (Or.inl ⟨by rfl,?_⟩) hHeld ?_
 rotate_left
 ·(intro w hSw;have hc7:=cel_of hSw.2.1 7 rfl;clear hSw;go_simp;try (with_reducible rfl))
 refine wpAnyH_take (i:=12) (v:=?_) rfl (by kernel_rfl) (by kernel_rfl) (by kernel_rfl) (fun _ _ _ h=>h) (Or.inl ⟨by rfl,?_⟩) hHeld ?_
 rotate_left
 ·(intro w hSw;clear hSw;go_simp;try (with_reducible rfl))
 refine wpAnyH_take (i:=13) (v:=?_) rfl (by kernel_rfl) (by kernel_rfl) (by kernel_rfl) (fun _ _ _ h=>h) (Or.inl ⟨by rfl,?_⟩) hHeld ?_
 rotate_left
 ·(intro w hSw;have hc8:=cel_of hSw.2.1 8 rfl;clear hSw;go_simp;try (with_reducible rfl))
 refine wpAnyH_take (i:=15) (v:=?_) rfl (by kernel_rfl) (by kernel_rfl) (by kernel_rfl) (fun _ _ _ h=>h) (Or.inl ⟨by rfl,?_⟩) hHeld ?_
 rotate_left
 ·(intro w hSw;clear hSw;go_simp;try (with_reducible rfl))
 refine wpAnyH_take (i:=16) (v:=?_) rfl (by kernel_rfl) (by kernel_rfl) (by kernel_rfl) (fun _ _ _ h=>h) (Or.inl ⟨by rfl,?_⟩) hHeld ?_
 rotate_left
 ·(intro w hSw;have hc9:=cel_of hSw.2.1 9 rfl;clear hSw;go_simp;try (with_reducible rfl))
 refine wpAnyH_ready (rs:=[14]) (by kernel_rfl) (by simp) ?_
 refine AllReadyH.cons rfl (fun K hK=>?_) AllReadyH.nil
 go_simp
 refine (HC8.out _ hHeld.1).mono ?_
 rintro e y8 ⟨v8,rfl,⟨a8,m8,d8,rfl⟩,r8,b8⟩
 have r8':=hide r8;have b8':=hide b8;have z8:=hide hHeld.2.2.2
 replace hHeld:=hHeld.next b8
 clear r8 b8
 go_wp2_with fail
 refine hK.out _ _ hHeld (fun _=>?_)
 clear hK K
 refine wpAnyH_take (i:=17) (v:=?_) rfl (by kernel_rfl) (by kernel_rfl) (by kernel_rfl) (fun _ _ _ h=>h) (Or.inl ⟨by rfl,?_⟩) hHeld ?_
 rotate_left
 ·(intro w hSw;clear hSw;go_simp;try (with_reducible rfl))
 obtain ⟨cur,hcur,hcs⟩:=hHeld.2.2.1
 refine wpAnyH_ready (rs:=[18]) (by kernel_rfl) (by simp) ?_
 refine AllReadyH.cons rfl (fun K hK=>?_) AllReadyH.nil
 refine step_storeA rfl 49 _ _ rfl (W.heap.size+1) [.int .u8 i0,.int .i64 i1,.int .u64 i2,.int .u64 i3,.string t4,.string t5,.int .i64 i6,.int .i64 i7,.slice a8 m8 d8,.int .i64 i9] cur 49 rfl rfl (fun w=>by rfl) hcur hcs (by simp [Value.oneCell']) ?_
 intro w9 hw9
 have h9:=hHeld.store (cs:=[.int .u8 i0,.int .i64 i1,.int .u64 i2,.int .u64 i3,.string t4,.string t5,.int .i64 i6,.int .i64 i7,.slice a8 m8 d8,.int .i64 i9]) rfl hw9
 refine hK.out _ _ h9.1 (fun _=>?_)
 clear hK K
 refine wpAnyH_done (by kernel_rfl) ?_ _
 refine NoPanic.normal ?_
 have H1:=hide h9.1.1;have H2:=hide h9.2.1;have H3:=hide h9.2.2.1;have H4:=hide h9.2.2.2
 clear hw9 h9 hHeld hcur hcs
 go_wp2
 exact bodyPost_ret (res_cell (cs:=[.int .u8 i0,.int .i64 i1,.int .u64 i2,.int .u64 i3,.string t4,.string t5,.int .i64 i6,.int .i64 i7,.slice a8 m8 d8,.int .i64 i9]) (e:=49) Tryz.results228 rfl ag_expr sz_expr H2.out) rfl ⟨_,rfl,⟨_,_,_,rfl⟩,twR hR8 r8'.out z8.out (Below.refl _ _) H3.out H4.out,H1.out⟩
def lnV (p:Bool) (i:Int):Prop:=p=true→i=0
def exZ (x:Ex) (va:Value) (ln:Int):List Value:=[.int .u8 (x.op:Int),.int .i64 (x.w:Int),.int .u64 (wHi x.v),.int .u64 (wLo x.v),.string (txt x.name),.string (txt x.field),.int .i64 (x.n:Int),.int .i64 (x.m:Int),va,.int .i64 ln]
def exV (p:Bool) (R:Rep (List Ex)):Rep Ex:=fun W X v x=>∃ va ln,v=mkAgg (exZ x va ln)∧lnV p ln∧R W X va x.args
def xL (p:Bool):Nat→Rep (List Ex)
 | 0=>fun _ _ _ _=>False
 | d+1=>ListT (exV p (xL p d)) mkAgg 10 49
theorem exV_ok {p:Bool} {R:Rep (List Ex)} (h:RepOk R):RepOk (exV p R):=⟨fun ⟨va,ln,h1,h2,h3⟩ hm=>⟨va,ln,h1,h2,h.mono h3 hm⟩,fun ⟨va,ln,h1,h2,h3⟩ hs hf=>⟨va,ln,h1,h2,h.frame h3 hs hf⟩⟩
theorem xL_ok (p:Bool):∀ d,RepOk (xL p d)
 | 0=>⟨fun h _=>h,fun h _ _=>h⟩
 | d+1=>ListT.ok (exV_ok (xL_ok p d)) _ _ _
theorem ListT.form {α:Type} {rep:Rep α} {mk:List Value→Value} {K e:Nat} {W:World} {X:Nat→Prop} {v:Value} {l:List α} (h:ListT rep mk K e W X v l):∃ a n c,v=.slice a n c:=by
 obtain ⟨g,c,_,_,h1,_⟩:=h
 exact ⟨_,_,_,h1⟩
theorem xL_form {p:Bool}:∀ {d:Nat} {W:World} {X:Nat→Prop} {v:Value} {l:List Ex},xL p d W X v l→∃ a n c,v=.slice a n c
 | 0,_,_,_,_,h=>h.elim
 | _+1,_,_,_,_,h=>ListT.form h
def lsX:Nat→List Ex→Prop
 | 0=>fun l=>l.length≤1000000
 | d+1=>fun l=>l.length≤1000000∧∀ x ∈ l,lsX d x.args
theorem lsX_len:∀ {d:Nat} {l:List Ex},lsX d l→l.length≤1000000
 | 0,_,h=>h
 | _+1,_,h=>h.1
theorem mkAgg_inj {cs cs':List Value} (h:mkAgg cs=mkAgg cs'):cs=cs':=by
 unfold mkAgg at h
 injection h with h
 exact List.toArray_inj h
theorem twinEx {R R':Rep (List Ex)} (hR:RepOk R) (hR':RepOk R') (hF:∀ {W X v l},R W X v l→∃ a n c,v=.slice a n c) (hF':∀ {W X v l},R' W X v l→∃ a n c,v=.slice a n c) (x:Ex)
  (HL:∀ (W:World) (X:Nat→Prop) (va:Value),R W X va x.args→Calls Tryz.prog 226 #[va] W fun e w'=>∃ v',e=.returned v'∧R' w' (Bn W w') v' x.args∧Below W.heap.size W w')
  (W:World) (X:Nat→Prop) (va:Value) (h:R W X va x.args) :
  Calls Tryz.prog 228 #[mkAgg (exC x va)] W fun e w'=>∃ v',e=.returned (mkAgg (exZ x v' (x.line:Int)))∧(∃ a n c,v'=.slice a n c)∧R' w' (Bn W w') v' x.args∧Below W.heap.size W w':=by
 obtain ⟨a,n,c,rfl⟩:=hF h
 exact twinExpr_raw hR' x.args a n c _ _ _ _ _ _ _ _ _ W (fun W' hb=>(HL W' X _ (hR.frame h hb.size (fun b _ hl=>hb.block b hl))).mono fun e w' ⟨v',e1,e2,e3⟩=>⟨v',e1,hF' e2,e2,e3⟩)
theorem twinX:∀ (d:Nat) (l:List Ex),lsX d l→∀ (W:World) (X:Nat→Prop) (v:Value),ListR (exR d) mkAgg 10 W X v l→Calls Tryz.prog 226 #[v] W fun e w'=>∃ v',e=.returned v'∧xL false (d+1) w' (Bn W w') v' l∧Below W.heap.size W w'
 | 0,l,hl,W,X,v,h=>twinExprs_ok (rep:=exR 0) (rep':=exV false (xL false 0)) (exR_ok 0) (exV_ok (xL_ok _ 0)) l (fun _ _ _ _ _ _ h=>h.elim) W X v (lsX_len hl) h
 | d+1,l,hl,W,X,v,h=>twinExprs_ok (rep:=exR (d+1)) (rep':=exV false (xL false (d+1))) (exR_ok _) (exV_ok (xL_ok _ _)) l (fun x hx W X cs _ hr=>by
   obtain ⟨va,e,hr⟩:=hr
   obtain rfl:=mkAgg_inj e
   refine (twinEx (ListR.ok (exR_ok d) mkAgg 10) (xL_ok false (d+1)) (fun h=>ListR.form h) (fun h=>xL_form h) x (fun W X va h=>twinX d x.args (hl.2 x hx) W X va h) W X va hr).mono ?_
   rintro e w' ⟨v',rfl,⟨a,n,c,rfl⟩,h1,h2⟩
   exact ⟨_,rfl,rfl,by simp [exZ,Value.oneCell'],⟨_,_,rfl,(fun h=>by cases h),h1⟩,h2⟩) W X v (lsX_len hl) h
end Go.Proofs.YtabkimknlifdoaaGreatDoor
