/- Pieces of the proof: LGd, LYm, LAm, PLd, TWa, TWb. -/
import Derived.Test.YtabkimknlifdoaaGreatDoorM38
import Derived.Test.YtabkimknlifdoaaGreatDoorM34
namespace Go.Proofs.YtabkimknlifdoaaGreatDoor
open Go.RowKit
def Good (x:Wd):Prop:=(∃ c l,x=⟨1,c :: l,0,0⟩∧(∀ y ∈ c :: l,isW y=true)∧isD c=false∧(c :: l).length≤255) ∨ (∃ n,x=⟨2,[],64,n⟩∧n≤2147483647) ∨ (∃ n v,x=⟨3,[],n,v⟩∧okN (n:Int) v=true) ∨ (∃ j,j < 27∧x=⟨4,sgs.getD j [],0,0⟩)
theorem sgn_mem {r:List UInt8} (h:sgn r ≠ []):∃ j,j < 27∧sgn r=sgs.getD j []:=by
 unfold sgn at h ⊢
 cases hf:sgs.find? (fun s=>s.isPrefixOf r) with
 | none=>rw [hf] at h;exact absurd rfl h
 | some s =>
  have hm:=List.mem_of_find?_eq_some hf
  obtain ⟨j,hj,e⟩:=List.mem_iff_getElem.1 hm
  refine ⟨j,hj,?_⟩
  simp [List.getD,List.getElem?_eq_getElem hj,e]
theorem tw_all {P:UInt8→Bool}:∀ (l:List UInt8),∀ y ∈ l.takeWhile P,P y=true
 | [],y,h=>by simp at h
 | c :: l,y,h=>by
  rw [List.takeWhile_cons] at h
  split at h
  ·rename_i hc
   rcases List.mem_cons.1 h with rfl | h
   ·exact hc
   ·exact tw_all l y h
  ·simp at h
theorem wdA_good {r r':List UInt8} {x:Wd} (h:wdA r=(some x,r')):Good x:=by
 unfold wdA at h
 have hall:=tw_all (P:=isW) r
 cases hr:r.takeWhile isW with
 | nil =>
  rw [hr] at h
  simp only [wd1,Prod.mk.injEq] at h
  obtain ⟨h1,_⟩:=h
  unfold signW at h1
  split at h1
  ·cases h1
  ·rename_i hne
   injection h1 with h1
   obtain ⟨j,hj,e⟩:=sgn_mem hne
   exact .inr (.inr (.inr ⟨j,hj,by rw [← h1,e]⟩))
 | cons c l =>
  rw [hr] at h hall
  unfold wd1 at h
  simp only at h
  split at h
  ·split at h
   ·have h1:=(Prod.mk.inj h).1
    unfold wholeW at h1
    split at h1
    ·rename_i n hn
     split at h1
     ·injection h1 with h1
      exact .inr (.inl ⟨n,h1.symm,puE_lt31 hn⟩)
     ·cases h1
    ·cases h1
   ·have h1:=(Prod.mk.inj h).1
    unfold numW at h1
    split at h1
    ·rename_i n v hp
     injection h1 with h1
     exact .inr (.inr (.inl ⟨n,v,h1.symm,(prs_some hp).1⟩))
    ·cases h1
  ·rename_i hD
   have h1:=(Prod.mk.inj h).1
   unfold nameW at h1
   split at h1
   ·rename_i hlen
    injection h1 with h1
    exact .inl ⟨c,l,h1.symm,hall,by simpa using hD,hlen⟩
   ·cases h1
theorem tk_good:∀ (m:Nat) (r:List UInt8) (n:Nat) (xs:List (Wd × Nat)),r.length=m→tk r n=.ok xs→(∀ x ∈ xs,Good x.1∧n≤x.2)∧xs.Pairwise (fun a b=>a.2≤b.2):=by
 intro m
 induction m using Nat.strongRecOn with
 | _ m ih =>
  intro r n xs hm h
  by_cases h0:r=[]
  ·rw [h0,tk_nil] at h;cases h;exact ⟨fun x hx=>by simp at hx,List.Pairwise.nil⟩
  ·cases hw:wdA r with
   | mk o r' =>
    cases o with
    | none=>rw [tk_none h0 hw] at h;cases h
    | some y =>
     have hless:=wdA_less hw
     have hsk:=skip_le r'
     have hc:=skip_c10 r'
     rw [tk_some h0 hw] at h
     cases ht:tk (skip r') (n+c10 r' - c10 (skip r')) with
     | error k=>rw [ht] at h;cases h
     | ok ws =>
      rw [ht] at h
      cases h
      obtain ⟨i1,i2⟩:=ih _ (by omega) _ _ _ rfl ht
      refine ⟨fun x hx=>?_,List.Pairwise.cons (fun b hb=>?_) i2⟩
      ·rcases List.mem_cons.1 hx with rfl | hx
       ·exact ⟨wdA_good hw,Nat.le_refl _⟩
       ·have:=i1 x hx;exact ⟨this.1,by omega⟩
      ·have:=(i1 b hb).2
       show n≤b.2
       omega
theorem toks_good {s:List UInt8} {xs:List (Wd × Nat)} (h:toks s=.ok xs):(∀ x ∈ xs,Good x.1)∧xs.Pairwise (fun a b=>a.2≤b.2):=by
 have:=tk_good _ _ _ _ rfl h
 exact ⟨fun x hx=>(this.1 x hx).1,this.2⟩
theorem skip_of {r r':List UInt8} (h1:r.dropWhile isBl=r') (h2:isRem r'=false):skip r=r':=by unfold skip;rw [h1,skR_no h2]
theorem dc_D (n:Nat):∀ c ∈ Lib.decDigits n,isD c=true∧isW c=true:=by
 have h:∀ d:Fin 10,isD (UInt8.ofNat (48+d.val))=true∧isW (UInt8.ofNat (48+d.val))=true:=by decide +kernel
 induction n using Nat.strongRecOn with
 | _ n ih =>
  by_cases hs:n < 10
  ·rw [dc_small hs]
   intro c hc
   rw [List.mem_singleton] at hc
   subst hc
   exact h ⟨n,hs⟩
  ·rw [dc_big hs]
   intro c hc
   rw [List.mem_append,List.mem_singleton] at hc
   rcases hc with hc | rfl
   ·exact ih _ (by omega) c hc
   ·exact h ⟨n % 10,Nat.mod_lt _ (by decide)⟩
theorem hx_W (v:Nat):∀ c ∈ hx v,isW c=true:=by
 have h:∀ d:Fin 16,isW (dig d.val).toUInt8=true:=by decide +kernel
 induction v using Nat.strongRecOn with
 | _ n ih =>
  by_cases hs:n < 16
  ·rw [hx_small hs]
   intro c hc
   rw [List.mem_singleton] at hc
   subst hc
   exact h ⟨n,hs⟩
  ·rw [hx_big hs]
   intro c hc
   rw [List.mem_append,List.mem_singleton] at hc
   rcases hc with hc | rfl
   ·exact ih _ (by omega) c hc
   ·exact h ⟨n % 16,Nat.mod_lt _ (by decide)⟩
theorem tx_W (n v:Nat):∀ c ∈ tx n v,isW c=true:=by
 intro c hc
 unfold tx at hc
 rw [List.mem_append,List.mem_cons] at hc
 rcases hc with hc | rfl | hc
 ·exact (dc_D n c hc).2
 ·decide +kernel
 ·exact hx_W v c hc
theorem dc_cons (n:Nat):∃ c l,Lib.decDigits n=c :: l∧isD c=true:=by
 cases h:Lib.decDigits n with
 | nil=>exact absurd h (dc_nil n)
 | cons c l=>exact ⟨c,l,rfl,(dc_D n c (by rw [h];simp)).1⟩
theorem skip_D {c:UInt8} (l:List UInt8) (h:isBl c=false) (h2:c ≠ 47):skip (c :: l)=c :: l:=by
 refine skip_of (by rw [List.dropWhile_cons,h];simp) ?_
 unfold isRem
 cases hh:Lib.hasPrefix (c :: l) [47,47] with
 | false=>rfl
 | true =>
  obtain ⟨r',e⟩:=isRem_cons (r:=c :: l) hh
  injection e with e1 e2
  exact absurd e1 h2
theorem tw_run {run rest:List UInt8} {c:UInt8} (h:∀ x ∈ run,isW x=true) (hc:isW c=false):(run ++ c :: rest).takeWhile isW=run∧(run ++ c :: rest).dropWhile isW=c :: rest:=by
 constructor
 ·rw [List.takeWhile_append_of_pos h,List.takeWhile_cons,hc];simp
 ·rw [List.dropWhile_append_of_pos h,List.dropWhile_cons,hc];simp
theorem whole_dc {n:Nat} (h:n≤2147483647):wholeW (Lib.decDigits n)=some ⟨2,[],64,n⟩:=by
 have e:puE 2147483647 (Lib.decDigits n) 10=.ok n:=by
  obtain ⟨c,l,hd,_⟩:=dc_cons n
  have:=pu_dc 2147483647 n h
  rw [hd] at this ⊢
  exact this
 unfold wholeW
 rw [e]
 simp only
 rw [if_pos trivial]
theorem c10_W {l:List UInt8} (h:∀ x ∈ l,isW x=true):c10 l=0:=by
 unfold c10
 rw [List.count_eq_zero]
 intro hx
 have:=h 10 hx
 rw [isW_ten] at this
 cases this
def toldW (x:Wd):List UInt8:=if x.k=2 then Lib.decDigits x.v else if x.k=3 then tx x.w x.v else x.s
theorem W_facts:∀ c:UInt8,isW c=true→isBl c=false∧c ≠ 47:=by
 intro c h
 have hm:c ∈ anL:=(isIn_iff anL c).1 h
 have key:∀ c ∈ anL,isBl c=false∧c ≠ 47:=by decide +kernel
 exact key c hm
theorem told_head {x:Wd} (h:Good x):∃ c l,toldW x=c :: l∧isBl c=false∧c ≠ 47:=by
 rcases h with ⟨c,l,rfl,h1,_,_⟩ | ⟨n,rfl,_⟩ | ⟨n,v,rfl,_⟩ | ⟨j,hj,rfl⟩
 ·exact ⟨c,l,rfl,W_facts c (h1 c (by simp))⟩
 ·obtain ⟨c,l,e,_⟩:=dc_cons n
  exact ⟨c,l,e,W_facts c (dc_D n c (by rw [e];simp)).2⟩
 ·obtain ⟨c,l,e,_⟩:=dc_cons n
  exact ⟨c,l ++ 119 :: hx v,by show tx n v=_;unfold tx;rw [e];rfl,W_facts c (dc_D n c (by rw [e];simp)).2⟩
 ·have key:∀ j:Fin 27,∃ c l,sgs.getD j.val []=c :: l∧isBl c=false∧c ≠ 47:=by
   have k2:∀ j:Fin 27,(match sgs.getD j.val [] with | []=>false | c :: _=>!isBl c && c != 47)=true:=by decide +kernel
   intro j
   have:=k2 j
   cases hh:sgs.getD j.val [] with
   | nil=>rw [hh] at this;cases this
   | cons c l=>rw [hh] at this;simp at this;exact ⟨c,l,rfl,by simpa using this.1,this.2⟩
  exact key ⟨j,hj⟩
theorem told_10 {x:Wd} (h:Good x):c10 (toldW x)=0:=by
 rcases h with ⟨c,l,rfl,h1,_,_⟩ | ⟨n,rfl,_⟩ | ⟨n,v,rfl,_⟩ | ⟨j,hj,rfl⟩
 ·exact c10_W h1
 ·exact c10_W fun y hy=>(dc_D n y hy).2
 ·exact c10_W (tx_W n v)
 ·have key:∀ j:Fin 27,c10 (sgs.getD j.val [])=0:=by decide +kernel
  exact key ⟨j,hj⟩
def tl (q:List Wd):List UInt8:=(q.map fun y=>32 :: toldW y).flatten
theorem tl_cases (q:List Wd):tl q=[]∧q=[] ∨ ∃ y q',q=y :: q'∧tl q=32 :: (toldW y ++ tl q'):=by
 cases q with
 | nil=>exact .inl ⟨rfl,rfl⟩
 | cons y q'=>exact .inr ⟨y,q',rfl,by simp [tl]⟩
theorem tw_tl {run:List UInt8} (q:List Wd) (h:∀ x ∈ run,isW x=true):(run ++ tl q).takeWhile isW=run∧(run ++ tl q).dropWhile isW=tl q:=by
 rcases tl_cases q with ⟨e,_⟩ | ⟨y,q',_,e⟩
 ·rw [e,List.append_nil]
  have h2:=takeW_split isW run
  have h3:run.takeWhile isW=run:=by
   have:=List.takeWhile_append_of_pos (p:=isW) (l₁:=run) (l₂:=[]) h
   simpa using this
  have h4:run.dropWhile isW=[]:=by
   have:=List.dropWhile_append_of_pos (p:=isW) (l₁:=run) (l₂:=[]) h
   simpa using this
  exact ⟨h3,h4⟩
 ·rw [e]
  exact tw_run h (by decide +kernel)
theorem sg_told (j:Nat) (hj:j < 27) (q:List Wd):sgn (sgs.getD j [] ++ tl q)=sgs.getD j []∧(sgs.getD j [] ++ tl q).takeWhile isW=[]∧(sgs.getD j [] ++ tl q).dropWhile isW=sgs.getD j [] ++ tl q:=by
 have k1:∀ j:Fin 27,sgn (sgs.getD j.val [])=sgs.getD j.val []∧(match sgs.getD j.val [] with | []=>false | c :: _=>!isW c)=true:=by decide +kernel
 have k1':=k1 ⟨j,hj⟩
 simp only at k1'
 have hcons:∃ c l,sgs.getD j []=c :: l∧isW c=false:=by
  have:=k1'.2
  cases hh:sgs.getD j [] with
  | nil=>rw [hh] at this;cases this
  | cons c l=>rw [hh] at this;exact ⟨c,l,rfl,by simpa using this⟩
 refine ⟨?_,?_,?_⟩
 ·rcases tl_cases q with ⟨e,_⟩ | ⟨y,q',_,e⟩
  ·rw [e,List.append_nil];exact k1'.1
  ·rw [e]
   generalize toldW y ++ tl q'=R
   clear k1' hcons e k1
   have key:∀ j:Fin 27,∀ R:List UInt8,sgn (sgs.getD j.val [] ++ 32 :: R)=sgs.getD j.val []:=by
    intro j R
    match j with
    | ⟨0,_⟩ | ⟨1,_⟩ | ⟨2,_⟩ | ⟨3,_⟩ | ⟨4,_⟩ | ⟨5,_⟩ | ⟨6,_⟩ | ⟨7,_⟩ | ⟨8,_⟩ | ⟨9,_⟩ | ⟨10,_⟩ | ⟨11,_⟩ | ⟨12,_⟩ | ⟨13,_⟩ | ⟨14,_⟩ | ⟨15,_⟩ | ⟨16,_⟩ | ⟨17,_⟩ | ⟨18,_⟩ | ⟨19,_⟩ | ⟨20,_⟩ | ⟨21,_⟩ | ⟨22,_⟩ | ⟨23,_⟩ | ⟨24,_⟩ | ⟨25,_⟩ | ⟨26,_⟩=>simp [sgn,sgs,List.find?,List.isPrefixOf]
    | ⟨k+27,h⟩=>omega
   exact key ⟨j,hj⟩ R
 ·obtain ⟨c,l,e,hc⟩:=hcons
  rw [e,List.cons_append,List.takeWhile_cons,hc];simp
 ·obtain ⟨c,l,e,hc⟩:=hcons
  rw [e,List.cons_append,List.dropWhile_cons,hc];simp
theorem wdA_told {x:Wd} (h:Good x) (q:List Wd):wdA (toldW x ++ tl q)=(some x,tl q):=by
 rcases h with ⟨c,l,rfl,h1,hD,hlen⟩ | ⟨n,rfl,hn⟩ | ⟨n,v,rfl,ho⟩ | ⟨j,hj,rfl⟩
 ·obtain ⟨e1,e2⟩:=tw_tl q h1
  unfold wdA
  show wd1 (((c :: l) ++ tl q).takeWhile isW) (((c :: l) ++ tl q).dropWhile isW)=_
  rw [e1,e2]
  unfold wd1
  simp only
  rw [hD]
  simp only [Bool.false_eq_true,if_false]
  unfold nameW
  rw [if_pos hlen]
 ·obtain ⟨e1,e2⟩:=tw_tl q (fun y hy=>(dc_D n y hy).2)
  unfold wdA
  show wd1 ((Lib.decDigits n ++ tl q).takeWhile isW) ((Lib.decDigits n ++ tl q).dropWhile isW)=_
  rw [e1,e2]
  have ha:(Lib.decDigits n).all isD=true:=List.all_eq_true.2 fun x hx=>(dc_D n x hx).1
  have hw:=whole_dc hn
  obtain ⟨d,l,hd,hD⟩:=dc_cons n
  rw [hd] at ha hw ⊢
  simp only [wd1]
  rw [hD,ha,hw]
  rfl
 ·obtain ⟨e1,e2⟩:=tw_tl q (tx_W n v)
  unfold wdA
  show wd1 ((tx n v ++ tl q).takeWhile isW) ((tx n v ++ tl q).dropWhile isW)=_
  rw [e1,e2]
  have ha:(tx n v).all isD=false:=by
   cases hh:(tx n v).all isD with
   | false=>rfl
   | true =>
    have:=List.all_eq_true.1 hh 119 (by unfold tx;simp)
    exact absurd this (by decide +kernel)
  have hp:=prs_tx ho
  obtain ⟨d,l,hd,hD⟩:=dc_cons n
  have ht:tx n v=d :: (l ++ 119 :: hx v):=by unfold tx;rw [hd];rfl
  rw [ht] at ha hp ⊢
  simp only [wd1]
  rw [hD,ha]
  simp only [if_true,Bool.false_eq_true,if_false]
  unfold numW
  rw [hp]
 ·obtain ⟨e0,e1,e2⟩:=sg_told j hj q
  unfold wdA
  show wd1 ((sgs.getD j [] ++ tl q).takeWhile isW) ((sgs.getD j [] ++ tl q).dropWhile isW)=_
  rw [e1,e2]
  simp only [wd1]
  rw [e0]
  have hne:sgs.getD j [] ≠ []:=by
   have k:∀ j:Fin 27,sgs.getD j.val [] ≠ []:=by decide +kernel
   exact k ⟨j,hj⟩
  unfold signW
  rw [if_neg hne,List.drop_left]
def ag:List Wd→List UInt8
 | []=>[]
 | x :: q=>toldW x ++ tl q
theorem skip_told {x:Wd} (h:Good x) (r:List UInt8):skip (toldW x ++ r)=toldW x ++ r:=by
 obtain ⟨c,l,e,h1,h2⟩:=told_head h
 rw [e]
 exact skip_D _ h1 h2
theorem skip_32 {x:Wd} (h:Good x) (r:List UInt8):skip (32 :: (toldW x ++ r))=toldW x ++ r:=by
 have h1:=skip_told h r
 unfold skip at h1 ⊢
 rw [List.dropWhile_cons,show isBl 32=true by decide +kernel]
 exact h1
theorem tk_ag:∀ (q:List Wd) (x:Wd),Good x→(∀ y ∈ q,Good y)→tk (toldW x ++ tl q) 0=.ok ((x :: q).map fun y=>(y,0))
 | [],x,hx,_=>by
  have hne:toldW x ++ tl [] ≠ []:=by obtain ⟨c,l,e,_⟩:=told_head hx;rw [e];simp
  rw [tk_some hne (wdA_told hx [])]
  rw [show tl []=[] from rfl,skip_of (r:=[]) (r':=[]) rfl rfl,tk_nil]
  rfl
 | y :: q,x,hx,hq=>by
  have hne:toldW x ++ tl (y :: q) ≠ []:=by obtain ⟨c,l,e,_⟩:=told_head hx;rw [e];simp
  rw [tk_some hne (wdA_told hx (y :: q))]
  have hy:=hq y (by simp)
  have et:tl (y :: q)=32 :: (toldW y ++ tl q):=by simp [tl]
  rw [et,skip_32 hy]
  have ec:0+c10 (32 :: (toldW y ++ tl q)) - c10 (toldW y ++ tl q)=0:=by simp [c10]
  rw [ec,tk_ag q y hy (fun z hz=>hq z (by simp [hz]))]
  rfl
theorem toks_ag (l:List Wd) (h:∀ y ∈ l,Good y):toks (ag l)=.ok (l.map fun y=>(y,0)):=by
 cases l with
 | nil=>unfold toks;rw [show ag []=[] from rfl,skip_of (r:=[]) (r':=[]) rfl rfl,tk_nil];rfl
 | cons x q =>
  unfold toks
  rw [show ag (x :: q)=toldW x ++ tl q from rfl,skip_told (h x (by simp)),Nat.sub_self]
  exact tk_ag q x (h x (by simp)) (fun y hy=>h y (by simp [hy]))
def num:Nat→List Wd→List (Wd × Nat)
 | _,[]=>[]
 | n,y :: ys=>(y,n) :: num (n+1) ys
theorem num_len:∀ (ws:List Wd) (n:Nat),(num n ws).length=ws.length
 | [],_=>rfl
 | _ :: ws,n=>by rw [num,List.length_cons,num_len ws,List.length_cons]
theorem num_fst:∀ (ws:List Wd) (n:Nat),(num n ws).map (·.1)=ws
 | [],_=>rfl
 | y :: ws,n=>by rw [num,List.map_cons,num_fst ws]
theorem shift_num (d:Nat):∀ (ws:List Wd) (n:Nat),(num n ws).map (fun x=>(x.1,x.2+d))=num (n+d) ws
 | [],_=>rfl
 | y :: ws,n=>by
  rw [num,List.map_cons,shift_num d ws,num]
  rw [show n+1+d=n+d+1 by omega]
def ahT (ws:List Wd):List UInt8:=(ws.map fun y=>toldW y ++ [10]).flatten
theorem ahT_snoc (ws:List Wd) (y:Wd):ahT (ws ++ [y])=ahT ws ++ toldW y ++ [10]:=by
 unfold ahT;simp
theorem toks_one1 {y:Wd} (h:Good y):toks (toldW y)=.ok [(y,0)]:=by
 have:=toks_ag [y] (by simpa using h)
 have e:ag [y]=toldW y:=by simp [ag,tl]
 rw [e] at this
 exact this
theorem toks_nil:toks []=.ok []:=by
 unfold toks
 have:skip []=[]:=skip_of rfl rfl
 rw [this];exact tk_nil _
theorem toks_ah:∀ (ws:List Wd),(∀ y ∈ ws,Good y)→toks (ahT ws)=.ok (num 0 ws)
 | [],_=>toks_nil
 | y :: ws,h=>by
  have e:ahT (y :: ws)=toldW y ++ 10 :: ahT ws:=by unfold ahT;simp
  rw [e,toks_join,toks_one1 (h y (by simp)),toks_ah ws (fun z hz=>h z (by simp [hz])),told_10 (h y (by simp))]
  show LR.app [(y,0)] (.ok ((num 0 ws).map fun x=>(x.1,x.2+(0+1))))=_
  rw [shift_num]
  rfl
def Lx (xs:List (Wd × Nat)):List (Wd × Nat):=xs ++ [endW xs]
theorem Lx_len (xs:List (Wd × Nat)):(Lx xs).length=xs.length+1:=by simp [Lx]
theorem Lx_end (xs:List (Wd × Nat)):(Lx xs)[xs.length]? = some (endW xs):=by unfold Lx;rw [List.getElem?_append_right (Nat.le_refl _)];simp
theorem Lx_le (xs:List (Wd × Nat)):Le (Lx xs):=by
 intro k x hx hn
 have hk:k < (Lx xs).length:=(List.getElem?_eq_some_iff.1 hx).1
 rw [Lx_len] at hk ⊢
 by_cases e:k=xs.length
 ·subst e
  rw [Lx_end] at hx
  injection hx with hx
  subst hx
  rcases hn with hn | hn <;> exact absurd rfl hn
 ·omega
theorem Lx_ag {xs ys:List (Wd × Nat)} (h:xs.map (·.1)=ys.map (·.1)) (n:Nat):Ag (Lx xs) (Lx ys) n:=by
 intro j _
 have e:(Lx xs).map (·.1)=(Lx ys).map (·.1):=by unfold Lx;rw [List.map_append,List.map_append,h];rfl
 rw [← List.getElem?_map,← List.getElem?_map,e]
theorem foldl_lq {α:Type} {g:α→TS→TS}:∀ {l l':List α},LQ (fun a b=>∀ S,g a S=g b S) l l'→∀ S,l.foldl (fun S y=>g y S) S=l'.foldl (fun S y=>g y S) S
 | [],[],_,_=>rfl
 | x :: xs,y :: ys,h,S=>by rw [List.foldl_cons,List.foldl_cons,h.1 S];exact foldl_lq h.2 _
 | [],_ :: _,h,_=>by cases h
 | _ :: _,[],h,_=>by cases h
theorem LQ.imp {α:Type} {R S:α→α→Prop} (hR:∀ x y,R x y→S x y):∀ {l l':List α},LQ R l l'→LQ S l l'
 | [],[],_=>trivial
 | _ :: _,_ :: _,h=>⟨hR _ _ h.1,LQ.imp hR h.2⟩
 | [],_ :: _,h=>by cases h
 | _ :: _,[],h=>by cases h
def xT (a b:Ex):Prop:=∀ f deep S,exT f deep a S=exT f deep b S
def sT (a b:Sm):Prop:=∀ f deep S,smT f deep a S=smT f deep b S
theorem exT_args {a b:Ex} (h:LQ xT a.args b.args):xT a b:=by
 intro f deep S
 cases f with
 | zero=>rfl
 | succ f =>
  rw [exT,exT,foldl_lq (LQ.imp (fun x y h=>h f (deep+1)) h)]
theorem smT_args {a b:Sm} (h:LQ xT a.args b.args) (h2:LQ sT a.body b.body) (h3:LQ sT a.els b.els):sT a b:=by
 intro f deep S
 cases f with
 | zero=>rfl
 | succ f =>
  have e1:∀ S,exsT f (deep+1) a.args S=exsT f (deep+1) b.args S:=foldl_lq (LQ.imp (fun x y h=>h f (deep+1)) h)
  rw [smT,smT,e1,foldl_lq (LQ.imp (fun x y h=>h f (deep+1)) h2),foldl_lq (LQ.imp (fun x y h=>h f (deep+1)) h3)]
def TQ:Rels where
 x:=xT
 s:=sT
 t:=fun a b=>∀ S,stT a S=stT b S
 d:=fun a b=>∀ S,dcT a S=dcT b S
 xx:=fun _ _ _ _=>rfl
 ss:=fun _ _ _ _=>rfl
 tt:=fun _ _=>rfl
 dd:=fun _ _=>rfl
 hx:=fun _ _ _ _ _ _ _ _ _ _ _ h=>exT_args h
 xl:=fun a b l l' h f deep S=>by
  have e:∀ (c:Ex) (n:Nat),exT f deep (exLn c n) S=exT f deep c S:=fun c n=>by cases f <;> rfl
  rw [e,e];exact h f deep S
 hs:=fun _ _ _ _ _ _ _ _ _ _ _ _ _ h h2 h3=>smT_args h h2 h3
 sl:=fun a b l l' h f deep S=>by
  have e:∀ (c:Sm) (n:Nat),smT f deep (smLn c n) S=smT f deep c S:=fun c n=>by cases f <;> rfl
  rw [e,e];exact h f deep S
 ht:=fun n hd cs ds l l' a1 a2 h S=>by
  have e1:∀ S,exsT 63 3 a1 S=exsT 63 3 a2 S:=foldl_lq (LQ.imp (fun x y h=>h 63 3) h)
  unfold stT
  simp only [e1]
 hd:=fun kind name fields w n rate burst s1 s2 k1 k2 acts dflt args b1 b2 emits l l' h1 h2 h3 S=>by
  have e1:∀ S,s1.foldl (fun S y=>stT y S) S=s2.foldl (fun S y=>stT y S) S:=foldl_lq h1
  have e2:∀ S,k1.foldl (fun S y=>exT 64 2 y.1 S) S=k2.foldl (fun S y=>exT 64 2 y.1 S) S:=foldl_lq (g:=fun (y:Ex × Nat) S=>exT 64 2 y.1 S) (LQ.imp (fun x y h=>h.1 64 2) h2)
  have e3:∀ S,smsT 64 2 b1 S=smsT 64 2 b2 S:=foldl_lq (LQ.imp (fun x y h=>h 64 2) h3)
  unfold dcT
  simp only [e1,e2,e3]
 dl:=fun a b l l' h S=>h S
theorem lim_q {l l':List Dc} (h:LQ TQ.d l l'):limT l=limT l':=by
 unfold limT
 rw [foldl_lq h]
theorem prog_err {xs ys:List (Wd × Nat)} {e:Nat} (h:progA (Lx xs) 0=.error e):e≤xs.length∧(Ag (Lx xs) (Lx ys) e→progA (Lx ys) 0=.error e):=by
 have p:=(lc_prog TQ (L':=Lx ys) (Lx_le xs) (k0:=0) 0 (Nat.le_refl _) (by rw [Lx_len];omega)).1 e h
 have:=p.2.1
 rw [Lx_len] at this
 exact ⟨by omega,p.2.2⟩
theorem prog_ok {xs ys:List (Wd × Nat)} {ds:List Dc} {k:Nat} (h:progA (Lx xs) 0=.ok (ds,k)) (hA:∀ n,Ag (Lx xs) (Lx ys) n):∃ ds',progA (Lx ys) 0=.ok (ds',k)∧limT ds=limT ds':=by
 have p:=(lc_prog TQ (L':=Lx ys) (Lx_le xs) (k0:=0) 0 (Nat.le_refl _) (by rw [Lx_len];omega)).2 ds k h
 obtain ⟨ds',e,q⟩:=p.2.2 (hA _)
 exact ⟨ds',e,lim_q q⟩
theorem parse_of {s:List UInt8} {xs:List (Wd × Nat)} (hl:s.length≤65536) (h:toks s=.ok xs):parseL s=match progA (Lx xs) 0 with
  | .error k=>.error (lineP (Lx xs) k,5)
  | .ok (ds,_)=>if limT ds then .error (0,3) else .ok ds:=by
 unfold parseL
 rw [if_neg (by omega),h]
 rfl
def lnAt (e o:Nat):Prop:=(e=49∧o % 10=9) ∨ (e=72∧o % 9=8) ∨ (e=79∧o % 6=5) ∨ (e=85∧o % 11=9) ∨ (e=69∧o % 15=14)
structure LZ (X:Nat→Prop) (W W':World):Prop where
 fr:Fr X W W'
 ln:∀ (b:Nat) (cur:Array Value) (e:TypeId),W.heap[b]? = some (.cells cur e (0,0))→∃ cur':Array Value,W'.heap[b]? = some (.cells cur' e (0,0))∧cur'.size=cur.size∧∀ o:Nat,cur'[o]? = cur[o]? ∨ (lnAt e o∧cur'[o]? = some (.int .i64 0))
theorem LZ.of {X:Nat→Prop} {W W':World} (h:Below W.heap.size W W'):LZ X W W' where
 fr:=⟨h.os,h.tape,h.output,h.size,fun b hb _=>h.block b hb⟩
 ln:=fun b cur _ hb=>⟨cur,(h.block b (Array.getElem?_eq_some_iff.1 hb).1).trans hb,rfl,fun _=>.inl rfl⟩
theorem LZ.trans {X:Nat→Prop} {W W1 W2:World} (h:LZ X W W1) (k:LZ X W1 W2):LZ X W W2 where
 fr:=h.fr.trans k.fr (fun _ _ e=>e)
 ln:=fun b cur e hb=>by
  obtain ⟨c1,h1,h2,h3⟩:=h.ln b cur e hb
  obtain ⟨c2,k1,k2,k3⟩:=k.ln b c1 e h1
  refine ⟨c2,k1,k2.trans h2,fun o=>?_⟩
  rcases k3 o with e1 | e1
  ·rcases h3 o with e2 | ⟨e2,e3⟩
   ·exact .inl (e1.trans e2)
   ·exact .inr ⟨e2,e1.trans e3⟩
  ·exact .inr e1
theorem LZ.set {X:Nat→Prop} {W:World} {g o e:Nat} {cur:Array Value} (hg:W.heap[g]? = some (.cells cur e (0,0))) (hX:X g) (hl:lnAt e o) (ho:o < cur.size):LZ X W (W.setCell ⟨g,o,none⟩ (.int .i64 0)) where
 fr:=(Fr.refl X W).set _ _ hX
 ln:=fun b c e' hb=>by
  by_cases hbg:b=g
  ·subst hbg
   rw [hg] at hb
   injection hb with hb
   injection hb with h1 h2
   subst h1 h2
   refine ⟨cur.setIfInBounds o (.int .i64 0),?_,by simp,fun o'=>?_⟩
   ·exact heap_setCell_same (k:=o) hg (.int .i64 0)
   ·by_cases hoo:o=o'
    ·subst hoo
     exact .inr ⟨hl,by simp [ho]⟩
    ·exact .inl (by simp [hoo])
  ·exact ⟨c,(Below.heap_setCell _ _ _ _ (fun e=>hbg e)).trans hb,rfl,fun _=>.inl rfl⟩
def ListI {α:Type} (rep:Nat→Rep α) (mk:List Value→Value) (K e:Nat):Rep (List α):=fun W X v l =>
 ∃ (g c:Nat) (cur:Array Value) (css:List (List Value)),v=.slice (some ⟨g,0,none⟩) l.length c∧X g∧W.heap[g]? = some (.cells cur e (0,0))∧(css.length=l.length∧cur.size=c * K∧l.length≤c∧c≤maxLen)∧∀ i (h:i < css.length) (h':i < l.length),css[i].length=K∧(∀ j u,css[i][j]? = some u→cur[i * K+j]? = some u)∧rep i W X (mk css[i]) l[i]
theorem ListT.toI {α:Type} {rep:Rep α} {mk:List Value→Value} {K e:Nat} {W:World} {X:Nat→Prop} {v:Value} {l:List α} (h:ListT rep mk K e W X v l):ListI (fun _=>rep) mk K e W X v l:=h
theorem ListI.toT {α:Type} {rep:Nat→Rep α} {rep':Rep α} {mk:List Value→Value} {K e:Nat} {W:World} {X:Nat→Prop} {v:Value} {l:List α} (h:ListI rep mk K e W X v l) (hr:∀ i,i < l.length→∀ v x,rep i W X v x→rep' W X v x):ListT rep' mk K e W X v l:=by
 obtain ⟨g,c,cur,css,h1,h2,h3,h4,h5⟩:=h
 exact ⟨g,c,cur,css,h1,h2,h3,h4,fun i hi hi'=>⟨(h5 i hi hi').1,(h5 i hi hi').2.1,hr i hi' _ _ (h5 i hi hi').2.2⟩⟩
theorem ListI.lz {α:Type} {rep rep':Nat→Rep α} {mk:List Value→Value} {K e j0:Nat} {W W':World} {X:Nat→Prop} {v:Value} {l:List α} (hj:∀ o,lnAt e o→o % K=j0) (hz:LZ X W W') (h:ListI rep mk K e W X v l)
  (hr:∀ i (hi:i < l.length) (cs cs':List Value),cs.length=K→(cs'=cs ∨ cs'=cs.set j0 (.int .i64 0))→(∀ g c cur',v=.slice (some ⟨g,0,none⟩) l.length c→W'.heap[g]? = some (.cells cur' e (0,0))→∀ j u,cs'[j]? = some u→cur'[i * K+j]? = some u)→rep i W X (mk cs) l[i]→rep' i W' X (mk cs') l[i]):ListI rep' mk K e W' X v l:=by
 obtain ⟨g,c,cur,css,h1,h2,h3,h4,h5⟩:=h
 obtain ⟨cur',k1,k2,k3⟩:=hz.ln g cur e h3
 have key:∀ i (hi:i < css.length),∃ cs':List Value,(cs'=css[i] ∨ cs'=css[i].set j0 (.int .i64 0))∧∀ j u,cs'[j]? = some u→cur'[i * K+j]? = some u:=fun i hi=>by
  obtain ⟨a1,a2,a3⟩:=h5 i hi (by omega)
  have ne:∀ j,j < K→j ≠ j0→cur'[i * K+j]? = cur[i * K+j]?:=fun j hjK hjn=>by
   rcases k3 (i * K+j) with e1 | ⟨e1,_⟩
   ·exact e1
   ·have h6:=hj _ e1
    rw [Nat.mul_comm,Nat.mul_add_mod,Nat.mod_eq_of_lt hjK] at h6
    exact absurd h6 hjn
  rcases k3 (i * K+j0) with e1 | ⟨_,e1⟩
  ·refine ⟨css[i],.inl rfl,fun j u hu=>?_⟩
   have hjK:j < K:=by have:=(List.getElem?_eq_some_iff.1 hu).1;omega
   by_cases hjn:j=j0
   ·subst hjn;rw [e1];exact a2 j u hu
   ·rw [ne j hjK hjn];exact a2 j u hu
  ·refine ⟨css[i].set j0 (.int .i64 0),.inr rfl,fun j u hu=>?_⟩
   have hjK:j < K:=by have:=(List.getElem?_eq_some_iff.1 hu).1;simp at this;omega
   by_cases hjn:j=j0
   ·subst hjn
    rw [List.getElem?_set_self (by omega)] at hu
    injection hu with hu
    rw [e1,hu]
   ·rw [List.getElem?_set_ne (fun e=>hjn e.symm)] at hu
    rw [ne j hjK hjn];exact a2 j u hu
 have pick:∃ css':List (List Value),css'.length=css.length∧∀ i (hi:i < css.length) (hi':i < css'.length),(css'[i]=css[i] ∨ css'[i]=css[i].set j0 (.int .i64 0))∧∀ j u,css'[i][j]? = some u→cur'[i * K+j]? = some u:=by
  refine ⟨(List.range css.length).map fun i=>if hi:i < css.length then (key i hi).choose else [],by simp,fun i hi hi'=>?_⟩
  have e:((List.range css.length).map fun i=>if hi:i < css.length then (key i hi).choose else [])[i]=(key i hi).choose:=by simp [hi]
  rw [e]
  exact (key i hi).choose_spec
 obtain ⟨css',p1,p2⟩:=pick
 refine ⟨g,c,cur',css',h1,h2,k1,⟨p1.trans h4.1,k2.trans h4.2.1,h4.2.2⟩,fun i hi hi'=>?_⟩
 have hi2:i < css.length:=by omega
 obtain ⟨q1,q2⟩:=p2 i hi2 hi
 obtain ⟨a1,_,a3⟩:=h5 i hi2 hi'
 refine ⟨by rcases q1 with q1 | q1 <;> rw [q1] <;> simp [a1],q2,hr i hi' css[i] _ a1 q1 (fun g' c' cur2 e1 e2=>?_) a3⟩
 rw [h1] at e1
 injection e1 with e1
 injection e1 with e1
 injection e1 with e1
 subst e1
 rw [k1] at e2
 injection e2 with e2
 injection e2 with e2
 subst e2
 exact q2
theorem exV_lz {p:Bool} {R:Rep (List Ex)} {W W':World} {X:Nat→Prop} {cs cs':List Value} {x:Ex} (hR:∀ v l,R W X v l→R W' X v l) (hc:cs'=cs ∨ cs'=cs.set 9 (.int .i64 0)) (h:exV p R W X (mkAgg cs) x):exV p R W' X (mkAgg cs') x:=by
 obtain ⟨va,ln,e,h1,h2⟩:=h
 obtain rfl:=mkAgg_inj e
 rcases hc with rfl | rfl
 ·exact ⟨va,ln,rfl,h1,hR _ _ h2⟩
 ·exact ⟨va,0,rfl,fun _=>rfl,hR _ _ h2⟩
theorem at_expr:∀ o,lnAt 49 o→o % 10=9:=fun o h=>by unfold lnAt at h;omega
theorem xL_lz {p:Bool} {W W':World} {X:Nat→Prop} (hz:LZ X W W'):∀ (d:Nat) (v:Value) (l:List Ex),xL p d W X v l→xL p d W' X v l
 | 0,_,_,h=>h.elim
 | d+1,_,_,h=>(ListI.lz (rep':=fun _=>exV p (xL p d)) at_expr hz (ListT.toI h) (fun _ _ _ _ _ hc _ hr=>exV_lz (fun v l h=>xL_lz hz d v l h) hc hr)).toT (fun _ _ _ _ h=>h)
theorem LSX.len {l:List Ex} (h:LSX l):l.length≤1000000:=lsX_len (h 0)
theorem LSX.arg {l:List Ex} (h:LSX l) {x:Ex} (hx:x ∈ l):LSX x.args:=fun d=>(h (d+1)).2 x hx
def Ze {α:Type} (F:Nat) (R R':Rep α) (l:α):Prop:=∀ (W:World) (X:Nat→Prop) (v:Value),R W X v l→Calls Tryz.prog F #[v] W fun e w'=>e=.returned (.tuple #[])∧LZ X W w'∧R' w' X v l
theorem blk_cell {w:World} {g o:Nat} {cur:Array Value} {e:TypeId} (h:w.heap[g]? = some (.cells cur e (0,0))):w.cell? ⟨g,o,none⟩=cur[o]?:=by unfold World.cell?;simp only [h];rfl
theorem blk_frz {w:World} {b:Nat} {A:Array Value} {e:TypeId} (h:w.heap[b]? = some (.cells A e (0,0))):∀ o,w.frozen? ⟨b,o,none⟩=false:=fun o=>by unfold World.frozen?;simp only [h];simp
theorem LZ.cell {X:Nat→Prop} {W W':World} (hz:LZ X W W') {g o:Nat} {cur:Array Value} {e:TypeId} (h:W.heap[g]? = some (.cells cur e (0,0))):W'.cell? ⟨g,o,none⟩=cur[o]? ∨ (lnAt e o∧W'.cell? ⟨g,o,none⟩=some (.int .i64 0)):=by
 obtain ⟨cur',h1,_,h3⟩:=hz.ln g cur e h
 rw [blk_cell h1]
 exact h3 o
set_option maxRecDepth 100000 in
set_option maxHeartbeats 4000000 in
theorem expr_zero {d:Nat} {x:Ex} (HX:Ze 26 (xL false d) (xL true d) x.args) (W:World) (X:Nat→Prop) (g o e:Nat) (cur:Array Value) (va:Value) (ln:Int) (hg:W.heap[g]? = some (.cells cur e (0,0))) (hX:X g) (hl:lnAt e (o+9)) (hl8:¬ lnAt e (o+8))
  (hc:∀ j u,(exZ x va ln)[j]? = some u→cur[o+j]? = some u) (hr:xL false d W X va x.args) :
  Calls Tryz.prog 27 #[.pointer (some ⟨g,o,none⟩)] W fun e w'=>e=.returned (.tuple #[])∧LZ X W w'∧xL true d w' X va x.args∧w'.cell? ⟨g,o+9,none⟩=some (.int .i64 0)∧w'.cell? ⟨g,o+8,none⟩=some va:=by
 obtain ⟨a,n,c,rfl⟩:=xL_form hr
 have h8:=hc 8 _ rfl
 have h9:=hc 9 _ rfl
 have ho:o+9 < cur.size:=(Array.getElem?_eq_some_iff.1 h9).1
 have Z1:=LZ.set (X:=X) hg hX hl ho
 have g1:=heap_setCell_same (k:=o+9) hg (.int .i64 0)
 have c9:W.cell? ⟨g,o+9,none⟩=some (.int .i64 ln):=(blk_cell hg).trans h9
 have f9:=blk_frz hg (o+9)
 have c8:(W.setCell ⟨g,o+9,none⟩ (.int .i64 0)).cell? ⟨g,o+8,none⟩=some (.slice a n c):=(blk_cell g1).trans (by rw [Array.getElem?_setIfInBounds_ne (by omega)];exact h8)
 have HC:=hide (HX _ X _ (xL_lz Z1 d _ _ hr))
 have P9:Hid (∀ w',LZ X (W.setCell ⟨g,o+9,none⟩ (.int .i64 0)) w'→w'.cell? ⟨g,o+9,none⟩=some (.int .i64 0)):=fun w' hz=>by
  rcases hz.cell g1 (o:=o+9) with e1 | ⟨_,e1⟩
  ·rw [e1];simp [ho]
  ·exact e1
 have P8:Hid (∀ w',LZ X (W.setCell ⟨g,o+9,none⟩ (.int .i64 0)) w'→w'.cell? ⟨g,o+8,none⟩=some (.slice a n c)):=fun w' hz=>by
  rcases hz.cell g1 (o:=o+8) with e1 | ⟨e1,_⟩
  ·rw [e1,Array.getElem?_setIfInBounds_ne (by omega)];exact h8
  ·exact absurd e1 hl8
 have ZZ:=hide Z1
 clear hc hr h8 h9 Z1 g1 hg HX
 go_enter Tryz.func27,Tryz.ntmps27
 go_wp2_with fail
 refine HC.out.mono ?_
 rintro e w2 ⟨rfl,hz,h2⟩
 have H2:=hide h2
 have HZ:=hide hz
 clear h2 hz c9 c8 f9
 go_wp2
 go_end0
 exact ⟨rfl,ZZ.out.trans HZ.out,H2.out,P9.out _ HZ.out,P8.out _ HZ.out⟩
set_option maxRecDepth 100000 in
set_option maxHeartbeats 4000000 in
theorem exprs_zero:∀ (d:Nat) (l:List Ex),LSX l→Ze 26 (xL false d) (xL true d) l
 | 0,_,_,_,_,_,h=>h.elim
 | d+1,l,hs,W,X,v,h=>by
  have HE:=hide (fun (x:Ex) (hx:x ∈ l)=>exprs_zero d x.args (hs.arg hx))
  have hlen:=hs.len
  have hI:ListI (fun i=>exV (decide (i < 0)) (xL (decide (i < 0)) d)) mkAgg 10 49 W X v l:=by simpa using ListT.toI h
  have H0:=hide hI
  obtain ⟨g,c,_,_,rfl,_⟩:=h
  clear hs hI
  go_enter Tryz.func26,Tryz.ntmps26
  go_wp2
  go_loopw [2] (fun vi wr=>∃ (k:Nat),vi=.int .i64 (k:Int)∧k≤l.length∧Hid (LZ X W wr)∧Hid (ListI (fun i=>exV (decide (i < k)) (xL (decide (i < k)) d)) mkAgg 10 49 wr X (.slice (some ⟨g,0,none⟩) l.length c) l)) (fun vi _=>l.length - (intOf vi).toNat)
  case atStart=>exact ⟨0,rfl,Nat.zero_le _,LZ.of (Below.refl _ _),H0⟩
  case round =>
   obtain ⟨k,rfl,hk,HZ,HI⟩:=hrel
   clear H0
   by_cases hlt:k < l.length
   ·have hkI:(k:Int) < (l.length:Int):=by omega
    obtain ⟨g',c',cur,css,e1,hX,hg,hcl,h5⟩:=HI.out
    injection e1 with e1 _ e2
    injection e1 with e1
    injection e1 with e1
    subst e1 e2
    obtain ⟨q1,q2,q3⟩:=h5 k (by omega) hlt
    obtain ⟨va,ln,e3,_,q4⟩:=q3
    have e4:=mkAgg_inj e3
    rw [e4] at q2
    have e5:decide (k < k)=false:=by simp
    simp only [e5] at q4
    have HC:=hide (expr_zero (HE.out _ (List.getElem_mem hlt)) wr X g (k * 10) 49 cur va ln hg hX (by unfold lnAt;omega) (by unfold lnAt;omega) q2 q4)
    have HG:=hide hg
    clear h5 q1 q2 e3 q4 e4 hg hcl e5
    go_wp2_with fail
    refine HC.out.mono ?_
    rintro e w2 ⟨rfl,hz,h1,h2,h3⟩
    have HZ2:=hide (HZ.out.trans hz)
    have HI2:Hid (ListI (fun i=>exV (decide (i < k+1)) (xL (decide (i < k+1)) d)) mkAgg 10 49 w2 X (.slice (some ⟨g,0,none⟩) l.length c) l):=ListI.lz at_expr hz HI.out (fun i hi cs cs' hK hc hcell hr=>by
     by_cases hik:i=k
     ·subst hik
      obtain ⟨va',ln',e,_,_⟩:=hr
      obtain rfl:=mkAgg_inj e
      obtain ⟨cur',k1,_,_⟩:=hz.ln g cur _ HG.out
      have hcc:=hcell g c cur' rfl k1
      rw [blk_cell k1] at h2 h3
      have e7:decide (i < i+1)=true:=by simp
      simp only [e7]
      rcases hc with rfl | rfl
      ·have u9:=(hcc 9 _ rfl).symm.trans h2
       have u8:=(hcc 8 _ rfl).symm.trans h3
       injection u9 with u9
       injection u9 with _ u9
       injection u8 with u8
       subst u9 u8
       exact ⟨_,0,rfl,fun _=>rfl,h1⟩
      ·have u8:=(hcc 8 _ rfl).symm.trans h3
       injection u8 with u8
       subst u8
       exact ⟨_,0,rfl,fun _=>rfl,h1⟩
     ·have e6:decide (i < k+1)=decide (i < k):=by congr 1;simp;omega
      rw [e6]
      exact exV_lz (fun v l h=>xL_lz hz d v l h) hc hr)
    clear hz h1 h2 h3 HI HZ HC
    go_wp2
    exact ⟨⟨k+1,by congr 1,by omega,HZ2,HI2⟩,by simp [intOf];omega⟩
   ·obtain rfl:k=l.length:=by omega
    have HT:=hide (ListI.toT (rep':=exV true (xL true d)) HI.out (fun i hi v x h=>by
     have e:decide (i < l.length)=true:=by simp [hi]
     simp only [e] at h
     exact h))
    go_wp2
    go_end0
    exact ⟨rfl,HZ.out,HT.out⟩
end Go.Proofs.YtabkimknlifdoaaGreatDoor
