/- Pieces of the proof: PaTb. -/
import Derived.Test.YtabkimknlifdoaaGreatDoorJ16
import Derived.Test.YtabkimknlifdoaaGreatDoorJ28
import Derived.Laws.AppendOwnNone
import Derived.Deep.RegionLaw
namespace Go.Proofs.YtabkimknlifdoaaGreatDoor
open Go.RowKit
def sv (l:List UInt8):Value:=.string (txt l)
theorem sv_one (ls:List (List UInt8)):∀ u ∈ ls.map sv,u.oneCell'=true:=fun u hu=>by
 obtain ⟨l,_,rfl⟩:=List.mem_map.1 hu
 rfl
def RowS (B0:Nat):Rep (List (List UInt8)):=fun W X v l=>W.ownsRow B0 9 1 v l.length (l.map sv)∧∀ b,v.ownBlock=some b→X b
theorem rowS_ok (B0:Nat):RepOk (RowS B0):=⟨fun h hm=>⟨h.1,fun b hb=>hm b (h.2 b hb)⟩,fun {W W' X v l} h hs hf=>by
 refine ⟨⟨h.1.1,?_⟩,h.2⟩
 rcases h.1.2 with h0 | ⟨gr,cap,cur,rfl,hg,hcur,rest⟩
 ·exact .inl h0
 ·exact .inr ⟨gr,cap,cur,rfl,hg,(hf gr (h.2 gr rfl) (Array.getElem?_eq_some_iff.1 hcur).1).trans hcur,rest⟩⟩
theorem RowS.nil (B0:Nat) (W:World) (X:Nat→Prop):RowS B0 W X (.slice none 0 0) []:=⟨World.ownsRow_nil _ _ _ _,fun b hb=>by cases hb⟩
theorem RowS.form {B0:Nat} {W:World} {X:Nat→Prop} {v:Value} {l:List (List UInt8)} (h:RowS B0 W X v l):∃ s n c,v=.slice s n c:=by
 rcases h.1.2 with ⟨rfl,_⟩ | ⟨gr,cap,cur,rfl,_⟩
 ·exact ⟨_,_,_,rfl⟩
 ·exact ⟨_,_,_,rfl⟩
theorem flat_sv:∀ l:List (List UInt8),(l.map fun s=>[sv s]).flatten=l.map sv
 | []=>rfl
 | s :: l=>by simp [flat_sv l]
theorem RowS.list {B0:Nat} {W:World} {X:Nat→Prop} {v:Value} {l:List (List UInt8)} (h:RowS B0 W X v l):ListR StrV mkOne 1 W X v l:=by
 refine ⟨l.map fun s=>[sv s],?_,by simp,fun i hi hi'=>?_⟩
 ·rw [flat_sv]
  exact Sl.own h.1 X (fun b hb _ _=>h.2 b hb)
 ·simp only [List.getElem_map]
  exact ⟨rfl,rfl⟩
theorem strs_cells {W:World} {X:Nat→Prop} {v:Value} {l:List (List UInt8)} (h:ListR StrV mkOne 1 W X v l):Sl W X v l.length 1 (l.map sv):=by
 obtain ⟨css,h1,h2,h3⟩:=h
 have e:css=l.map fun s=>[sv s]:=by
  apply List.ext_getElem (by simp [h2])
  intro i a b
  obtain ⟨c1,c2⟩:=h3 i a (by rw [← h2];exact a)
  simp only [List.getElem_map]
  match hc:css[i],c1 with
  | [u],_ =>
   rw [hc] at c2
   have:u=.string (txt l[i]):=c2
   rw [this];rfl
 rw [e,flat_sv] at h1
 exact h1
theorem step_appS {ops:Array Oper} {o:Oper} {a:Act} {w:World} {K:Act→World→Prop} {Q:Exit→Act→World→Prop} {E:Prop} (hg:o.guard=none) (s x:Operand) (hop:o.op=Op.call { callee:=Callee.builtin Builtin.append,args:=#[s,x],argTypes:=#[44,44] })
  (B:Nat) (v:Value) (n:Nat) (xs:List Value) (hs:a.eval s=v) (hown:w.ownsRow B 9 1 v n xs) (X:Nat→Prop) (v2:Value) (m:Nat) (ys:List Value) (hx:a.eval x=v2) (hy:Sl w X v2 m 1 ys) (hone:∀ u ∈ ys,u.oneCell'=true)
  (hl:n+m≤1000000000) (hB:B≤w.heap.size)
  (hK:∀ v' w',w'.ownsRow B 9 1 v' (n+m) (xs ++ ys)→w.grownBy w' v.ownBlock→(v'.ownBlock=v.ownBlock ∨ v'.ownBlock=some w.heap.size)→K (a.put o.dst v') w') :
  if Region.wanted o (yielded ops a.tmps)=true then Oper.wp Tryz.prog o a w K Q else E:=by
 have hw:Region.wanted o (yielded ops a.tmps)=true:=by simp [Region.wanted,hg]
 rw [if_pos hw]
 obtain ⟨i0,hi0,hz0,hz1,hz2⟩:=info_parts Tryz.infostringN
 obtain ⟨sa,cap,rfl,hyl,hcap,hnone,hcase⟩:=hy
 have hc:(∃ q,sa=some q∧∀ j u,ys[j]? = some u→w.cell? (q.add j)=some u) ∨ (sa=none∧m=0):=by
  rcases hcase with rfl | ⟨b,rfl,_,_,hc⟩
  ·have:ys=[]:=List.length_eq_zero_iff.1 (by omega)
   subst this
   cases sa with
   | none=>exact .inr ⟨rfl,rfl⟩
   | some q=>exact .inl ⟨q,rfl,fun j u h=>by simp at h⟩
  ·refine .inl ⟨_,rfl,fun j u h=>?_⟩
   obtain ⟨hj,rfl⟩:=List.getElem?_eq_some_iff.1 h
   rw [add0];exact hc j hj
 rcases hc with ⟨q,rfl,hc⟩ | ⟨rfl,rfl⟩
 rotate_left
 ·have hx2:a.eval x=.slice none 0 0:=by rw [hx,hnone rfl]
  have hys:ys=[]:=List.length_eq_zero_iff.1 (by omega)
  subst hys
  have hrun:=run_append_owned_none (P:=Tryz.prog) (w:=w) B 44 o.type 9 i0 1 Tryz.underlying44 hi0 v n xs hown
  unfold Oper.wp
  simp [execOp,hop,resolve,invoke,builtin,hs,hx2,hrun,Result.andThen]
  exact hK v w (by rw [List.append_nil];exact hown) ⟨rfl,rfl,rfl,Nat.le_refl _,fun _ _ _=>rfl⟩ (.inl rfl)
 ·obtain ⟨v',w',hrun,r1,r2,_,r4⟩:=run_append_own_at (P:=Tryz.prog) w B 44 o.type 9 i0 (.string ⟨#[]⟩) 1 16 Tryz.underlying44 hi0 hz0 hz1 hz2 rfl (by decide) v n xs hown q m cap ys hyl hc hone (by unfold maxLen;omega) (by omega) hB
  unfold Oper.wp
  simp [execOp,hop,resolve,invoke,builtin,hs,hx,hrun,Result.andThen]
  exact hK v' w' r1 r2 r4
theorem row_block {W:World} {B0 b:Nat} {t:ByteArray} (hb:W.heap[b]? = some (.cells #[.string t] 9 (0,0))) (hB:B0≤b):W.ownsRow B0 9 1 (.slice (some ⟨b,0,none⟩) 1 1) 1 [.string t] :=
 ⟨rfl,.inr ⟨b,1,_,rfl,hB,hb,Nat.le_refl _,by unfold maxLen;omega,rfl,rfl⟩⟩
theorem Sp.grown {w W W':World} {p q:Nat} {L:List (Wd × Nat)} {k:Nat} {dm sm:Value} {b:Nat} {o:Obj} {B:List (Nat × Obj)} {K:Kp} (s:Sp w W p q L k dm sm ((b,o) :: B) K) (hg:W.grownBy W' (some b)):Sp w W' p q L k dm sm B K∧(∀ y ∈ B,y.1 ≠ b):=by
 have hm:(b,o) ∈ (b,o) :: B:=List.mem_cons_self ..
 have hbw:=(s.bl _ hm).1
 have hnb:∀ y ∈ B,y.1 ≠ b:=fun y hy e=>(List.nodup_cons.1 s.nd).1 (List.mem_map.2 ⟨y,hy,e⟩)
 refine ⟨⟨s.rr.grown hg (fun r e=>by injection e with e;omega),fun y hy=>?_,(List.nodup_cons.1 s.nd).2,s.ok,?_⟩,hnb⟩
 ·have hy':=List.mem_cons_of_mem (b,o) hy
  exact ⟨(s.bl y hy').1,(hg.block y.1 (s.lt y hy') (fun e=>hnb y hy (Option.some.inj e))).trans (s.bl y hy').2⟩
 ·refine s.ok.mono (s.ok.frame s.kp hg.size (fun c hc hl=>hg.block c hl (fun e=>hc.2 _ hm (Option.some.inj e).symm))) (fun c hc=>⟨⟨hc.1.1,Nat.lt_of_lt_of_le hc.1.2 hg.size⟩,fun y hy=>hc.2 y (List.mem_cons_of_mem _ hy)⟩)
theorem step_appT {ops:Array Oper} {o:Oper} {a:Act} {w W:World} {K0:Act→World→Prop} {Q:Exit→Act→World→Prop} {E:Prop} (hg:o.guard=none) (sx x:Operand) (hop:o.op=Op.call { callee:=Callee.builtin Builtin.append,args:=#[sx,x],argTypes:=#[44,44] })
  {p q:Nat} {L:List (Wd × Nat)} {k:Nat} {dm sm:Value} {b:Nat} {t:ByteArray} {B:List (Nat × Obj)} {K:Kp} {v2:Value} {x1:List UInt8} {l2:List (List UInt8)} (hs:a.eval sx=.slice (some ⟨b,0,none⟩) 1 1) (hx:a.eval x=v2)
  (s:Sp w W p q L k dm sm ((b,.cells #[.string t] 9 (0,0)) :: B) (fun W X=>ListR StrV mkOne 1 W X v2 l2∧K W X)) (ht:t=txt x1) (hl:l2.length≤100000)
  (hK:∀ v' W',Sp w W' p q L k dm sm B (fun W X=>ListR StrV mkOne 1 W X v' (x1 :: l2)∧ListR StrV mkOne 1 W X v2 l2∧K W X)→K0 (a.put o.dst v') W') :
  if Region.wanted o (yielded ops a.tmps)=true then Oper.wp Tryz.prog o a W K0 Q else E:=by
 refine step_appS hg sx x hop w.heap.size _ 1 [.string t] hs (row_block s.b0 s.l0.1) _ v2 l2.length (l2.map sv) hx (strs_cells s.kp.1) (sv_one l2) (by omega) s.rr.fr.size (fun v' W' r1 r2 r4=>hK v' W' ?_)
 obtain ⟨g,hnb⟩:=s.grown r2
 refine ⟨g.rr,g.bl,g.nd,KpOk.and (ListR.ok strV_ok _ _) s.ok _ _,⟨RowS.list (B0:=w.heap.size) ⟨?_,fun c hc=>?_⟩,g.kp⟩⟩
 ·rw [ht] at r1
  have e:1+l2.length=(x1 :: l2).length:=by simp [Nat.add_comm]
  rw [e] at r1
  exact r1
 ·have hlt:=World.ownsRow.lt r1 c hc
  refine ⟨hlt,fun y hy e=>?_⟩
  rcases r4 with r4 | r4
  ·rw [r4] at hc
   have hc':b=c:=by injection hc
   exact hnb y hy (by rw [e,hc'])
  ·rw [r4] at hc
   have hc':W.heap.size=c:=by injection hc
   have:=s.lt y (List.mem_cons_of_mem _ hy)
   omega
theorem step_appR {ops:Array Oper} {o:Oper} {a:Act} {w W:World} {K0:Act→World→Prop} {Q:Exit→Act→World→Prop} {E:Prop} (hg:o.guard=none) (sx x:Operand) (hop:o.op=Op.call { callee:=Callee.builtin Builtin.append,args:=#[sx,x],argTypes:=#[44,44] })
  {p q:Nat} {L:List (Wd × Nat)} {k:Nat} {dm sm:Value} {b:Nat} {t:ByteArray} {B:List (Nat × Obj)} {K:Kp} {v:Value} {x1:List UInt8} {l:List (List UInt8)} (hs:a.eval sx=v) (hx:a.eval x=.slice (some ⟨b,0,none⟩) 1 1)
  (s:Sp w W p q L k dm sm ((b,.cells #[.string t] 9 (0,0)) :: B) (fun W X=>StrV W X (.string t) x1∧RowS w.heap.size W X v l∧K W X)) (hKK:∀ W W' X Y,K W X→K W' Y) (hl:l.length≤100000)
  (hK:∀ v' W',Sp w W' p q L k dm sm B (fun W X=>RowS w.heap.size W X v' (l ++ [x1])∧K W X)→K0 (a.put o.dst v') W') :
  if Region.wanted o (yielded ops a.tmps)=true then Oper.wp Tryz.prog o a W K0 Q else E:=by
 have ht:=StrV.eq s.kp.1
 have hrow:=s.kp.2.1
 have hb:=s.b0
 have hsl:Sl W (fun _=>True) (.slice (some ⟨b,0,none⟩) 1 1) 1 1 [.string t]:=⟨some ⟨b,0,none⟩,1,rfl,rfl,⟨Nat.le_refl _,by unfold maxLen;omega⟩,fun e=>by (cases e),.inr ⟨b,rfl,trivial,(Array.getElem?_eq_some_iff.1 hb).1,fun i hi=>by
  obtain rfl:i=0:=by simp at hi;omega
  rw [cellA hb];rfl⟩⟩
 refine step_appS hg sx x hop w.heap.size v l.length (l.map sv) hs hrow.1 _ _ 1 [.string t] hx hsl (by intro u hu;simp at hu;subst hu;rfl) (by omega) s.rr.fr.size (fun v' W' r1 r2 r4=>hK v' W' ?_)
 have hob:∀ r,v.ownBlock=some r→w.heap.size≤r∧∀ y ∈ B,y.1 ≠ r:=fun r e=>⟨(hrow.2 r e).1.1,fun y hy=>(hrow.2 r e).2 y (List.mem_cons_of_mem _ hy)⟩
 refine ⟨s.rr.grown r2 (fun r e=>(hob r e).1),fun y hy=>?_,(List.nodup_cons.1 s.nd).2,?_,⟨⟨?_,fun c hc=>?_⟩,hKK _ _ _ _ s.kp.2.2⟩⟩
 ·have hy':=List.mem_cons_of_mem (b,Obj.cells #[.string t] 9 (0,0)) hy
  exact ⟨(s.bl y hy').1,(r2.block y.1 (s.lt y hy') (fun e=>(hob y.1 e.symm).2 y hy rfl)).trans (s.bl y hy').2⟩
 ·exact KpOk.and (rowS_ok _) ⟨fun h _=>hKK _ _ _ _ h,fun h _ _=>hKK _ _ _ _ h⟩ _ _
 ·rw [ht] at r1
  rw [List.length_append,List.map_append]
  exact r1
 ·have hlt:=World.ownsRow.lt r1 c hc
  refine ⟨hlt,fun y hy e=>?_⟩
  rcases r4 with r4 | r4
  ·rw [r4] at hc
   exact (hob c hc).2 y hy e
  ·rw [r4] at hc
   have hc':W.heap.size=c:=by injection hc
   have:=s.lt y (List.mem_cons_of_mem _ hy)
   omega
def whF {α:Type} (sep:List UInt8) (f:Pf α):Nat→Pf (List α)
 | 0=>fun _ k=>.error k
 | g+1=>fun L k=>if passedP sep L k then (match f L (k+1) with
  | .error e=>.error e
  | .ok (x,k1)=>(match whF sep f g L k1 with
   | .error e=>.error e
   | .ok (xs,k2)=>.ok (x :: xs,k2))) else .ok ([],k)
def whR {α:Type} (sep:List UInt8) (f:Pf α) (g:Nat) (l:List α):Pf (List α):=fun L k=>preL l (whF sep f g L k)
def whP {α:Type} (sep:List UInt8) (f:Pf α):Pf (List α):=fun L k=>whF sep f (L.length+1 - k) L k
theorem whR_start {α β:Type} {sep:List UInt8} {f:Pf α} {C:List α→Pf β} {L:List (Wd × Nat)} {k:Nat}:((whP sep f).bind C) L k=((whR sep f (L.length+1 - k) []).bind C) L k:=by
 unfold Pf.bind whP whR
 rw [preL_nil]
theorem whR_end {α β:Type} {sep:List UInt8} {f:Pf α} {C:List α→Pf β} {L:List (Wd × Nat)} {k g:Nat} {l:List α} (hg:0 < g) (h:passedP sep L k=false):((whR sep f g l).bind C) L k=C l L k:=by
 obtain ⟨g,rfl⟩:∃ g',g=g'+1:=⟨g - 1,by omega⟩
 unfold Pf.bind whR
 rw [whF]
 simp only [h,Bool.false_eq_true,if_false,preL,List.append_nil]
theorem whR_err {α β:Type} {sep:List UInt8} {f:Pf α} {C:List α→Pf β} {L:List (Wd × Nat)} {k g e:Nat} {l:List α} (hg:0 < g) (h:passedP sep L k=true) (hf:f L (k+1)=.error e):((whR sep f g l).bind C) L k=.error e:=by
 obtain ⟨g,rfl⟩:∃ g',g=g'+1:=⟨g - 1,by omega⟩
 unfold Pf.bind whR
 rw [whF]
 simp only [h,if_true,hf,preL]
theorem whR_go {α β:Type} {sep:List UInt8} {f:Pf α} {C:List α→Pf β} {L:List (Wd × Nat)} {k g k1:Nat} {l:List α} {x:α} (hg:0 < g) (h:passedP sep L k=true) (hf:f L (k+1)=.ok (x,k1)):((whR sep f g l).bind C) L k=((whR sep f (g - 1) (l ++ [x])).bind C) L k1:=by
 obtain ⟨g,rfl⟩:∃ g',g=g'+1:=⟨g - 1,by omega⟩
 unfold Pf.bind whR
 rw [whF,Nat.add_sub_cancel]
 simp only [h,if_true,hf]
 rw [preL_cons]
 cases whF sep f g L k1 with
 | error e=>rfl
 | ok y=>rfl
theorem untilF_len {α:Type} {en:List UInt8} {f:Pf α} (hf:Goes f):∀ {g:Nat} {L:List (Wd × Nat)} {k k2:Nat} {l:List α},untilF en f g L k=.ok (l,k2)→l.length+k < k2
 | 0,L,k,k2,l,h=>by rw [untilF] at h;cases h
 | g+1,L,k,k2,l,h=>by
  rw [untilF] at h
  split at h
  ·cases h;simp
  ·split at h
   ·cases h
   ·rename_i x k1 e1
    split at h
    ·cases h
    ·rename_i xs k3 e2
     have:=untilF_len hf e2
     have:=hf _ _ _ _ e1
     cases h
     simp
     omega
end Go.Proofs.YtabkimknlifdoaaGreatDoor
