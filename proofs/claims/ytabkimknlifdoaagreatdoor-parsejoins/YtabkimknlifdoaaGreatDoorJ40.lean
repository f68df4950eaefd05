/- Pieces of the proof: TWe, TEb. -/
import Derived.Test.YtabkimknlifdoaaGreatDoorJ39
import Derived.Test.YtabkimknlifdoaaGreatDoorJ34
namespace Go.Proofs.YtabkimknlifdoaaGreatDoor
open Go.RowKit
theorem ListI.at {α:Type} {rep:Nat→Rep α} {mk:List Value→Value} {K e:Nat} {W:World} {X:Nat→Prop} {g n c:Nat} {l:List α} (h:ListI rep mk K e W X (.slice (some ⟨g,0,none⟩) n c) l):X g∧∃ cur:Array Value,W.heap[g]? = some (.cells cur e (0,0))∧∀ i (hi:i < l.length),∃ cs:List Value,cs.length=K∧(∀ j u,cs[j]? = some u→cur[i * K+j]? = some u)∧rep i W X (mk cs) l[i]:=by
 obtain ⟨g',c',cur,css,e1,hX,hg,hcl,h5⟩:=h
 injection e1 with e1 _ e2
 injection e1 with e1
 injection e1 with e1
 subst e1 e2
 exact ⟨hX,cur,hg,fun i hi=>⟨css[i]'(by omega),h5 i (by omega) hi⟩⟩
set_option maxRecDepth 100000 in
set_option maxHeartbeats 8000000 in
theorem bare_any {l:List Dc} (hl:l.length≤1000000) (hx:∀ x ∈ l,lsD x):TwL 13 (ListR DeclR mkAgg 15) (ListT (dcV true) mkAgg 15 69) l:=fun W X0 v h=>by
 have HC:=hide (twProgram hl hx W X0 v h)
 have HX:=hide hx
 obtain ⟨_,_,_,rfl⟩:=h.form
 clear h hx
 go_enter Tryz.func13,Tryz.ntmps13
 go_wp2_with fail
 refine HC.out.mono ?_
 rintro e w1 ⟨v',rfl,h1,h2⟩
 obtain ⟨X,hXe⟩:∃ X,X=Bn W w1:=⟨_,rfl⟩
 rw [← hXe] at h1
 have HXE:=hide hXe
 have HB:=hide h2
 have hI:ListI (fun i=>dcV (decide (i < 0))) mkAgg 15 69 w1 X v' l:=by simpa using ListT.toI h1
 have H0:=hide hI
 obtain ⟨g,c,_,_,rfl,_⟩:=h1
 clear hI h2 HC hXe
 go_wp2
 go_loopw [4] (fun vi wr=>∃ (k:Nat),vi=.int .i64 (k:Int)∧k≤l.length∧Hid (LZ X w1 wr)∧Hid (ListI (fun i=>dcV (decide (i < k))) mkAgg 15 69 wr X (.slice (some ⟨g,0,none⟩) l.length c) l)) (fun vi _=>l.length - (intOf vi).toNat)
 case atStart=>exact ⟨0,rfl,Nat.zero_le _,LZ.of (Below.refl _ _),H0⟩
 case round =>
  rename World=>wo
  obtain ⟨k,rfl,hk,HZ,HI⟩:=hrel
  clear H0
  by_cases hlt:k < l.length
  ·have hkI:(k:Int) < (l.length:Int):=by omega
   obtain ⟨hX,cur,hg,h5⟩:=HI.out.at
   obtain ⟨cs,q1,q2,q3⟩:=h5 k hlt
   obtain ⟨vf,vs,vk,va,vg,vb,ve,ln,e3,_,D⟩:=q3
   have e4:=mkAgg_inj e3
   rw [e4] at q2
   have e5:decide (k < k)=false:=by simp
   simp only [e5] at D
   have hs:=HX.out _ (List.getElem_mem hlt)
   have HS:=hide hs
   generalize hxx:l[k]=x at *
   have h7:=q2 7 _ rfl
   have h8:=q2 8 _ rfl
   have h12:=q2 12 _ rfl
   have h14:=q2 14 _ rfl
   have ho:k * 15+14 < cur.size:=(Array.getElem?_eq_some_iff.1 h14).1
   have n7:¬ lnAt 69 (k * 15+7):=by unfold lnAt;omega
   have n8:¬ lnAt 69 (k * 15+8):=by unfold lnAt;omega
   have n12:¬ lnAt 69 (k * 15+12):=by unfold lnAt;omega
   have n14:lnAt 69 (k * 15+14):=by unfold lnAt;omega
   have Z1:=LZ.set (X:=X) hg hX n14 ho
   have c14:wo.cell? ⟨g,k * 15+14,none⟩=some (.int .i64 ln):=(blk_cell hg).trans h14
   have f14:=blk_frz hg (k * 15+14)
   have lS:=hs.s
   have lK:=hs.k
   have DS0:ListI (fun i=>stV (decide (i < 0))) mkAgg 6 79 (wo.setCell ⟨g,k * 15+14,none⟩ (.int .i64 0)) X vs x.states:=by simpa using ListT.toI (stL_lz Z1 D.s)
   have DK0:=keL_lz Z1 D.k
   have DB0:=SL_lz Z1 D.b
   obtain ⟨gs,cS,_,_,rfl,_⟩:=D.s
   obtain ⟨gk,cK,_,_,rfl,_⟩:=D.k
   obtain ⟨ab,nb,cb,rfl⟩:=SL_form D.b
   have K7:=hide (fun w' (hz:LZ X wo w')=>hz.keep hg h7 n7)
   have K8:=hide (fun w' (hz:LZ X wo w')=>hz.keep hg h8 n8)
   have K12:=hide (fun w' (hz:LZ X wo w')=>hz.keep hg h12 n12)
   have K14:=hide (fun w' hz=>LZ.zero (X:=X) (W':=w') hg ho hz)
   have HG:=hide hg
   have ZZ:=hide Z1
   have SS0:=hide DS0;have SK0:=hide DK0;have SB0:=hide DB0
   have HXX:=hide hxx
   clear h5 q1 q2 e3 e4 hg e5 D h7 h8 h12 h14 ho n7 n8 n12 n14 Z1 DS0 DK0 DB0 hs hxx
   go_wp2
   go_loopw [5] (fun vj wt=>∃ (k2:Nat),vj=.int .i64 (k2:Int)∧k2≤x.states.length∧Hid (LZ X (wo.setCell ⟨g,k * 15+14,none⟩ (.int .i64 0)) wt)∧Hid (ListI (fun i=>stV (decide (i < k2))) mkAgg 6 79 wt X (.slice (some ⟨gs,0,none⟩) x.states.length cS) x.states)) (fun vj _=>x.states.length - (intOf vj).toNat)
   case atStart=>exact ⟨0,rfl,Nat.zero_le _,LZ.of (Below.refl _ _),SS0⟩
   case round =>
    rename World=>wt
    obtain ⟨k2,rfl,hk2,HZ2,HI2⟩:=hrel
    have c7:=K7.out wt (ZZ.out.trans HZ2.out)
    clear SS0
    by_cases hlt2:k2 < x.states.length
    ·have hkI2:(k2:Int) < (x.states.length:Int):=by omega
     obtain ⟨hX2,cur2,hg2,h52⟩:=HI2.out.at
     obtain ⟨cs2,_,q22,q32⟩:=h52 k2 hlt2
     obtain ⟨vh,vse,vc,ln2,e32,_,dh,ds,dc⟩:=q32
     have e42:=mkAgg_inj e32
     rw [e42] at q22
     have e52:decide (k2 < k2)=false:=by simp
     simp only [e52] at ds
     have hs2:=(HS.out.t _ (List.getElem_mem hlt2)).2.1
     have m2:=q22 2 _ rfl
     have m5:=q22 5 _ rfl
     have ho2:k2 * 6+5 < cur2.size:=(Array.getElem?_eq_some_iff.1 m5).1
     have j2:¬ lnAt 79 (k2 * 6+2):=by unfold lnAt;omega
     have j5:lnAt 79 (k2 * 6+5):=by unfold lnAt;omega
     have Z2:=LZ.set (X:=X) hg2 hX2 j5 ho2
     have d5:wt.cell? ⟨gs,k2 * 6+5,none⟩=some (.int .i64 ln2):=(blk_cell hg2).trans m5
     have f5:=blk_frz hg2 (k2 * 6+5)
     obtain ⟨ase,nse,cse,rfl⟩:=XL_form ds
     have d2:=Z2.keep hg2 m2 j2
     have c7':=K7.out _ ((ZZ.out.trans HZ2.out).trans Z2)
     have E1:=hide (zeX hs2 _ X _ (XL_lz Z2 ds))
     have M2:=hide (fun w' (hz:LZ X wt w')=>hz.keep hg2 m2 j2)
     have M5:=hide (fun w' hz=>LZ.zero (X:=X) (W':=w') hg2 ho2 hz)
     have HG2:=hide hg2
     have ZZ2:=hide Z2
     clear h52 q22 e32 e42 e52 dh ds dc hs2 m2 m5 ho2 j2 j5 Z2 hg2
     go_wp2_with fail
     refine E1.out.mono ?_
     rintro e w5 ⟨rfl,z5,r5⟩
     have Y5:=hide z5
     have Z5:=hide (ZZ2.out.trans z5)
     have R5:=hide r5
     have HZ5:=hide (HZ2.out.trans Z5.out)
     have HI5:Hid (ListI (fun i=>stV (decide (i < k2+1))) mkAgg 6 79 w5 X (.slice (some ⟨gs,0,none⟩) x.states.length cS) x.states):=ListI.lz at_state Z5.out HI2.out (fun i hi cs cs' hK hc hcell hr=>by
      by_cases hik:i=k2
      ·subst hik
       obtain ⟨vh',vs',vc',ln',e,_,t1,t2,t3⟩:=hr
       obtain rfl:=mkAgg_inj e
       obtain ⟨cur',k1,_,_⟩:=Z5.out.ln gs cur2 _ HG2.out
       have hcc:=hcell gs cS cur' rfl k1
       have k2':=M2.out w5 Z5.out
       have k5':=M5.out w5 Y5.out
       rw [blk_cell k1] at k2' k5'
       have e7:decide (i < i+1)=true:=by simp
       simp only [e7]
       rcases hc with rfl | rfl
       ·have u5:=(hcc 5 _ rfl).symm.trans k5'
        have u2:=(hcc 2 _ rfl).symm.trans k2'
        injection u5 with u5
        injection u5 with _ u5
        injection u2 with u2
        subst u5 u2
        exact ⟨_,_,_,0,rfl,fun _=>rfl,TxL_lz Z5.out t1,R5.out,CkL_lz Z5.out t3⟩
       ·have u2:=(hcc 2 _ rfl).symm.trans k2'
        injection u2 with u2
        subst u2
        exact ⟨_,_,_,0,rfl,fun _=>rfl,TxL_lz Z5.out t1,R5.out,CkL_lz Z5.out t3⟩
      ·have e6:decide (i < k2+1)=decide (i < k2):=by congr 1;simp;omega
       rw [e6]
       exact stV_lz Z5.out hc hr)
     clear z5 r5 M2 M5 HG2 ZZ2 Y5 Z5 R5 E1 c7 c7' d2 d5 f5 HI2 HZ2
     go_wp2
     exact ⟨⟨k2+1,by congr 1,by omega,HZ5,HI5⟩,by simp [intOf];omega⟩
    ·have hkn2:¬ (k2:Int) < (x.states.length:Int):=by omega
     have HT2:=hide (ListI.toT (rep':=stV true) HI2.out (fun i hi v x h=>by
      have e:decide (i < k2)=true:=by simp;omega
      simp only [e] at h
      exact h))
     have hK0:ListI (fun i=>keV (decide (i < 0))) mkAgg 11 85 wt X (.slice (some ⟨gk,0,none⟩) x.keys.length cK) x.keys:=by simpa using ListT.toI (keL_lz HZ2.out SK0.out)
     have SK1:=hide hK0
     clear hK0
     go_wp2
     go_loopw [6] (fun vj wu=>∃ (k3:Nat),vj=.int .i64 (k3:Int)∧k3≤x.keys.length∧Hid (LZ X wt wu)∧Hid (ListI (fun i=>keV (decide (i < k3))) mkAgg 11 85 wu X (.slice (some ⟨gk,0,none⟩) x.keys.length cK) x.keys)) (fun vj _=>x.keys.length - (intOf vj).toNat)
     case atStart=>exact ⟨0,rfl,Nat.zero_le _,LZ.of (Below.refl _ _),SK1⟩
     case round =>
      rename World=>wu
      obtain ⟨k3,rfl,hk3,HZ3,HI3⟩:=hrel
      have c8:=K8.out wu ((ZZ.out.trans HZ2.out).trans HZ3.out)
      clear SK1 c7
      by_cases hlt3:k3 < x.keys.length
      ·have hkI3:(k3:Int) < (x.keys.length:Int):=by omega
       obtain ⟨hX3,cur3,hg3,h53⟩:=HI3.out.at
       obtain ⟨cs3,_,q23,q33⟩:=h53 k3 hlt3
       obtain ⟨va3,ln3,e33,_,d3,dx⟩:=q33
       have e43:=mkAgg_inj e33
       rw [e43] at q23
       have e53:decide (k3 < k3)=false:=by simp
       simp only [e53] at dx
       have hs3:=HS.out.y _ (List.getElem_mem hlt3)
       have E3:=hide (expr_zero (exprs_zero d3 _ hs3) wu X gk (k3 * 11) 85 cur3 va3 ln3 hg3 hX3 (by unfold lnAt;omega) (by unfold lnAt;omega) (fun j u hu=>q23 j u ((List.getElem?_append_left (List.getElem?_eq_some_iff.1 hu).1).trans hu)) dx)
       have HG3:=hide hg3
       clear h53 q23 e33 e43 e53 dx hs3 hg3
       go_wp2_with fail
       refine E3.out.mono ?_
       rintro e w6 ⟨rfl,z6,r6,g9,g8⟩
       have Z6:=hide z6
       have HZ6:=hide (HZ3.out.trans z6)
       have HI6:Hid (ListI (fun i=>keV (decide (i < k3+1))) mkAgg 11 85 w6 X (.slice (some ⟨gk,0,none⟩) x.keys.length cK) x.keys):=ListI.lz at_key Z6.out HI3.out (fun i hi cs cs' hK hc hcell hr=>by
        by_cases hik:i=k3
        ·subst hik
         obtain ⟨va',ln',e,_,_⟩:=hr
         obtain rfl:=mkAgg_inj e
         obtain ⟨cur',k1,_,_⟩:=Z6.out.ln gk cur3 _ HG3.out
         have hcc:=hcell gk cK cur' rfl k1
         rw [blk_cell k1] at g8 g9
         have e7:decide (i < i+1)=true:=by simp
         simp only [e7]
         rcases hc with rfl | rfl
         ·have u9:=(hcc 9 _ rfl).symm.trans g9
          have u8:=(hcc 8 _ rfl).symm.trans g8
          injection u9 with u9
          injection u9 with _ u9
          injection u8 with u8
          subst u9 u8
          exact ⟨_,0,rfl,fun _=>rfl,d3,r6⟩
         ·have u8:=(hcc 8 _ rfl).symm.trans g8
          injection u8 with u8
          subst u8
          exact ⟨_,0,rfl,fun _=>rfl,d3,r6⟩
        ·have e6:decide (i < k3+1)=decide (i < k3):=by congr 1;simp;omega
         rw [e6]
         exact keV_lz Z6.out hc hr)
       clear z6 r6 g9 g8 HG3 Z6 E3 c8 HI3 HZ3
       go_wp2
       exact ⟨⟨k3+1,by congr 1,by omega,HZ6,HI6⟩,by simp [intOf];omega⟩
      ·have hkn3:¬ (k3:Int) < (x.keys.length:Int):=by omega
       have HT3:=hide (ListI.toT (rep':=keV true) HI3.out (fun i hi v x h=>by
        have e:decide (i < k3)=true:=by simp;omega
        simp only [e] at h
        exact h))
       have c12:=K12.out wu ((ZZ.out.trans HZ2.out).trans HZ3.out)
       have E7:=hide (zeS HS.out.b wu X _ (SL_lz (HZ2.out.trans HZ3.out) SB0.out))
       go_wp2_with fail
       refine E7.out.mono ?_
       rintro e w7 ⟨rfl,z7,r7⟩
       have Y7:=hide ((HZ2.out.trans HZ3.out).trans z7)
       have Z7:=hide (ZZ.out.trans Y7.out)
       have FSt:=hide (stL_lz (HZ3.out.trans z7) HT2.out)
       have FK:=hide (keL_lz z7 HT3.out)
       have FB:=hide r7
       have HZ8:=hide (HZ.out.trans Z7.out)
       have HI8:Hid (ListI (fun i=>dcV (decide (i < k+1))) mkAgg 15 69 w7 X (.slice (some ⟨g,0,none⟩) l.length c) l):=ListI.lz at_decl Z7.out HI.out (fun i hi cs cs' hK hc hcell hr=>by
        by_cases hik:i=k
        ·subst hik
         obtain ⟨vf',vs',vk',va',vg',vb',ve',ln',e,_,D'⟩:=hr
         obtain rfl:=mkAgg_inj e
         obtain ⟨cur',k1,_,_⟩:=Z7.out.ln g cur _ HG.out
         have hcc:=hcell g c cur' rfl k1
         have k7:=K7.out w7 Z7.out
         have k8:=K8.out w7 Z7.out
         have k12:=K12.out w7 Z7.out
         have k14:=K14.out w7 Y7.out
         rw [blk_cell k1] at k7 k8 k12 k14
         have D2:=D'.lz Z7.out
         have hxx:=HXX.out
         subst hxx
         have e7:decide (i < i+1)=true:=by simp
         simp only [e7]
         rcases hc with rfl | rfl
         ·have u14:=(hcc 14 _ rfl).symm.trans k14
          have u7:=(hcc 7 _ rfl).symm.trans k7
          have u8:=(hcc 8 _ rfl).symm.trans k8
          have u12:=(hcc 12 _ rfl).symm.trans k12
          injection u14 with u14
          injection u14 with _ u14
          injection u7 with u7
          injection u8 with u8
          injection u12 with u12
          subst u14 u7 u8 u12
          exact ⟨_,_,_,_,_,_,_,0,rfl,fun _=>rfl,⟨D2.f,FSt.out,FK.out,D2.a,D2.g,FB.out,D2.e⟩⟩
         ·have u7:=(hcc 7 _ rfl).symm.trans k7
          have u8:=(hcc 8 _ rfl).symm.trans k8
          have u12:=(hcc 12 _ rfl).symm.trans k12
          injection u7 with u7
          injection u8 with u8
          injection u12 with u12
          subst u7 u8 u12
          exact ⟨_,_,_,_,_,_,_,0,rfl,fun _=>rfl,⟨D2.f,FSt.out,FK.out,D2.a,D2.g,FB.out,D2.e⟩⟩
        ·have e6:decide (i < k+1)=decide (i < k):=by congr 1;simp;omega
         rw [e6]
         exact dcV_lz Z7.out hc hr)
       clear z7 r7 Y7 Z7 FSt FK FB E7 HT3 HT2 c12 c8 HI3 HZ3 HI2 HZ2 HI HZ SB0 SK0 K7 K8 K12 K14 HG ZZ
       go_wp2
       exact ⟨⟨k+1,by congr 1,by omega,HZ8,HI8⟩,by simp [intOf];omega⟩
  ·obtain rfl:k=l.length:=by omega
   have HT:=hide (ListI.toT (rep':=dcV true) HI.out (fun i hi v x h=>by
    have e:decide (i < l.length)=true:=by simp [hi]
    simp only [e] at h
    exact h))
   have BB:Hid (Below W.heap.size W wo):=by
    have F:=HZ.out.fr
    have B:=HB.out
    have hXE:=HXE.out
    subst hXE
    refine ⟨F.os.trans B.os,F.tape.trans B.tape,F.output.trans B.output,Nat.le_trans B.size F.size,fun b hb=>(F.block b (Nat.lt_of_lt_of_le hb B.size) (fun h=>?_)).trans (B.block b hb)⟩
    have:=h.1
    omega
   have HM:Hid (ListT (dcV true) mkAgg 15 69 wo (Bn W wo) (.slice (some ⟨g,0,none⟩) l.length c) l):=(ListT.ok (dcV_ok true) _ _ _).mono HT.out (fun b hb=>by
    have F:=HZ.out.fr.size
    rw [HXE.out] at hb
    exact ⟨hb.1,Nat.lt_of_lt_of_le hb.2 F⟩)
   go_wp2
   go_ret
   exact ⟨_,rfl,HM.out,BB.out⟩
set_option maxRecDepth 100000 in
set_option maxHeartbeats 4000000 in
theorem sameTexts_ok {eq:World→List Value→List Value→Prop} (hnx:∀ W W' cs cs',Below W.heap.size W W'→eq W cs cs'→eq W' cs cs') (HX:∀ W cs cs',eq W cs cs'→cs=cs'∧∃ s,cs=[Value.string s]):SaL 93 1 eq:=by
 rintro W _ _ ⟨nn,a,b,ca,cb,rfl,rfl,hn,h4⟩
 have H4:=hide h4
 have HE:=hide HX
 clear h4 HX
 go_enter Tryz.func93,Tryz.ntmps93
 go_wp2
 go_loopw [5] (fun vi wr=>∃ (k:Nat),vi=.int .i64 (k:Int)∧k≤nn∧Hid (Below W.heap.size W wr)) (fun vi _=>nn - (intOf vi).toNat)
 case atStart=>exact ⟨0,rfl,Nat.zero_le _,Below.refl _ _⟩
 case round =>
  obtain ⟨k,rfl,hk,HB⟩:=hrel
  by_cases hlt:k < nn
  ·have hI:(k:Int) < (nn:Int):=by omega
   rcases H4.out with h0 | ⟨pa,pb,rfl,rfl,l1,l2,h5⟩
   ·omega
   ·obtain ⟨cs,cs',k1,k2,k3,k4,k5⟩:=h5 k hlt
    have HQ:=hide (hnx _ _ _ _ HB.out k5)
    have hA:∀ j u,cs[j]? = some u→wr.cell? ⟨pa,k * 1+j,none⟩=some u:=fun j u hu=>(HB.out.cell (p:=⟨pa,k * 1+j,none⟩) l1).trans (k3 j u hu)
    have hB:∀ j u,cs'[j]? = some u→wr.cell? ⟨pb,k * 1+j,none⟩=some u:=fun j u hu=>(HB.out.cell (p:=⟨pb,k * 1+j,none⟩) l2).trans (k4 j u hu)
    have l1':pa < wr.heap.size:=Nat.lt_of_lt_of_le l1 HB.out.size
    have l2':pb < wr.heap.size:=Nat.lt_of_lt_of_le l2 HB.out.size
    obtain ⟨rfl,s,rfl⟩:=HE.out _ _ _ HQ.out
    have HS:Hid (∀ w',Below wr.heap.size wr w'→Below wr.heap.size wr w'∧w'.cell? ⟨pa,k,none⟩=some (Value.string s)∧w'.cell? ⟨pb,k,none⟩=some (Value.string s)):=fun w' h=>by
     have ca':∀ j u,[Value.string s][j]? = some u→w'.cell? ⟨pa,k * 1+j,none⟩=some u:=fun j u hu=>(h.cell (p:=⟨pa,k * 1+j,none⟩) l1').trans (hA j u hu)
     have cb':∀ j u,[Value.string s][j]? = some u→w'.cell? ⟨pb,k * 1+j,none⟩=some u:=fun j u hu=>(h.cell (p:=⟨pb,k * 1+j,none⟩) l2').trans (hB j u hu)
     exact ⟨h,(by have h:=ca' 0 _ rfl;rw [Nat.mul_one,Nat.add_zero] at h;exact h),(by have h:=cb' 0 _ rfl;rw [Nat.mul_one,Nat.add_zero] at h;exact h)⟩
    clear h5 k3 k4 k5 hA hB HQ k1 k2
    go_wp2
    go_region_held3 (fun w'=>Below wr.heap.size wr w'∧w'.cell? ⟨pa,k,none⟩=some (Value.string s)∧w'.cell? ⟨pb,k,none⟩=some (Value.string s)) (first | exact HS.out _ (Below.refl _ _).drew | assumption) (fail)
    all_goals
     have BW:Hid (Below W.heap.size W wr.drew):=HB.out.drew
     go_wp2
     exact ⟨⟨k+1,by congr 1,by omega,BW⟩,by simp [intOf];omega⟩
  ·have hI:¬ (k:Int) < (nn:Int):=by omega
   go_wp2
   go_ret
   exact ⟨rfl,HB.out⟩
set_option maxRecDepth 100000 in
set_option maxHeartbeats 4000000 in
theorem sameNumbers_ok {eq:World→List Value→List Value→Prop} (hnx:∀ W W' cs cs',Below W.heap.size W W'→eq W cs cs'→eq W' cs cs') (HX:∀ W cs cs',eq W cs cs'→cs=cs'∧∃ w hi lo,cs=[Value.int .i64 w,.int .u64 hi,.int .u64 lo]):SaL 94 3 eq:=by
 rintro W _ _ ⟨nn,a,b,ca,cb,rfl,rfl,hn,h4⟩
 have H4:=hide h4
 have HE:=hide HX
 clear h4 HX
 go_enter Tryz.func94,Tryz.ntmps94
 go_wp2
 go_loopw [5] (fun vi wr=>∃ (k:Nat),vi=.int .i64 (k:Int)∧k≤nn∧Hid (Below W.heap.size W wr)) (fun vi _=>nn - (intOf vi).toNat)
 case atStart=>exact ⟨0,rfl,Nat.zero_le _,Below.refl _ _⟩
 case round =>
  obtain ⟨k,rfl,hk,HB⟩:=hrel
  by_cases hlt:k < nn
  ·have hI:(k:Int) < (nn:Int):=by omega
   rcases H4.out with h0 | ⟨pa,pb,rfl,rfl,l1,l2,h5⟩
   ·omega
   ·obtain ⟨cs,cs',k1,k2,k3,k4,k5⟩:=h5 k hlt
    have HQ:=hide (hnx _ _ _ _ HB.out k5)
    have hA:∀ j u,cs[j]? = some u→wr.cell? ⟨pa,k * 3+j,none⟩=some u:=fun j u hu=>(HB.out.cell (p:=⟨pa,k * 3+j,none⟩) l1).trans (k3 j u hu)
    have hB:∀ j u,cs'[j]? = some u→wr.cell? ⟨pb,k * 3+j,none⟩=some u:=fun j u hu=>(HB.out.cell (p:=⟨pb,k * 3+j,none⟩) l2).trans (k4 j u hu)
    have l1':pa < wr.heap.size:=Nat.lt_of_lt_of_le l1 HB.out.size
    have l2':pb < wr.heap.size:=Nat.lt_of_lt_of_le l2 HB.out.size
    obtain ⟨rfl,w,hi,lo,rfl⟩:=HE.out _ _ _ HQ.out
    have HS:Hid (∀ w',Below wr.heap.size wr w'→Below wr.heap.size wr w'∧w'.cell? ⟨pa,k * 3,none⟩=some (Value.int .i64 w)∧w'.cell? ⟨pa,k * 3+1,none⟩=some (Value.int .u64 hi)∧w'.cell? ⟨pa,k * 3+2,none⟩=some (Value.int .u64 lo)∧w'.cell? ⟨pb,k * 3,none⟩=some (Value.int .i64 w)∧w'.cell? ⟨pb,k * 3+1,none⟩=some (Value.int .u64 hi)∧w'.cell? ⟨pb,k * 3+2,none⟩=some (Value.int .u64 lo)):=fun w' h=>by
     have ca':∀ j u,[Value.int .i64 w,Value.int .u64 hi,Value.int .u64 lo][j]? = some u→w'.cell? ⟨pa,k * 3+j,none⟩=some u:=fun j u hu=>(h.cell (p:=⟨pa,k * 3+j,none⟩) l1').trans (hA j u hu)
     have cb':∀ j u,[Value.int .i64 w,Value.int .u64 hi,Value.int .u64 lo][j]? = some u→w'.cell? ⟨pb,k * 3+j,none⟩=some u:=fun j u hu=>(h.cell (p:=⟨pb,k * 3+j,none⟩) l2').trans (hB j u hu)
     exact ⟨h,ca' 0 _ rfl,ca' 1 _ rfl,ca' 2 _ rfl,cb' 0 _ rfl,cb' 1 _ rfl,cb' 2 _ rfl⟩
    clear h5 k3 k4 k5 hA hB HQ k1 k2
    go_wp2
    go_region_held3 (fun w'=>Below wr.heap.size wr w'∧w'.cell? ⟨pa,k * 3,none⟩=some (Value.int .i64 w)∧w'.cell? ⟨pa,k * 3+1,none⟩=some (Value.int .u64 hi)∧w'.cell? ⟨pa,k * 3+2,none⟩=some (Value.int .u64 lo)∧w'.cell? ⟨pb,k * 3,none⟩=some (Value.int .i64 w)∧w'.cell? ⟨pb,k * 3+1,none⟩=some (Value.int .u64 hi)∧w'.cell? ⟨pb,k * 3+2,none⟩=some (Value.int .u64 lo)) (first | exact HS.out _ (Below.refl _ _).drew | assumption) (fail)
    all_goals
     have BW:Hid (Below W.heap.size W wr.drew):=HB.out.drew
     go_wp2
     exact ⟨⟨k+1,by congr 1,by omega,BW⟩,by simp [intOf];omega⟩
  ·have hI:¬ (k:Int) < (nn:Int):=by omega
   go_wp2
   go_ret
   exact ⟨rfl,HB.out⟩
set_option maxRecDepth 100000 in
set_option maxHeartbeats 4000000 in
theorem sameFields_ok {eq:World→List Value→List Value→Prop} (hnx:∀ W W' cs cs',Below W.heap.size W W'→eq W cs cs'→eq W' cs cs') (HX:∀ W cs cs',eq W cs cs'→cs=cs'∧∃ s w,cs=[Value.string s,.int .i64 w]):SaL 90 2 eq:=by
 rintro W _ _ ⟨nn,a,b,ca,cb,rfl,rfl,hn,h4⟩
 have H4:=hide h4
 have HE:=hide HX
 clear h4 HX
 go_enter Tryz.func90,Tryz.ntmps90
 go_wp2
 go_loopw [5] (fun vi wr=>∃ (k:Nat),vi=.int .i64 (k:Int)∧k≤nn∧Hid (Below W.heap.size W wr)) (fun vi _=>nn - (intOf vi).toNat)
 case atStart=>exact ⟨0,rfl,Nat.zero_le _,Below.refl _ _⟩
 case round =>
  obtain ⟨k,rfl,hk,HB⟩:=hrel
  by_cases hlt:k < nn
  ·have hI:(k:Int) < (nn:Int):=by omega
   rcases H4.out with h0 | ⟨pa,pb,rfl,rfl,l1,l2,h5⟩
   ·omega
   ·obtain ⟨cs,cs',k1,k2,k3,k4,k5⟩:=h5 k hlt
    have HQ:=hide (hnx _ _ _ _ HB.out k5)
    have hA:∀ j u,cs[j]? = some u→wr.cell? ⟨pa,k * 2+j,none⟩=some u:=fun j u hu=>(HB.out.cell (p:=⟨pa,k * 2+j,none⟩) l1).trans (k3 j u hu)
    have hB:∀ j u,cs'[j]? = some u→wr.cell? ⟨pb,k * 2+j,none⟩=some u:=fun j u hu=>(HB.out.cell (p:=⟨pb,k * 2+j,none⟩) l2).trans (k4 j u hu)
    have l1':pa < wr.heap.size:=Nat.lt_of_lt_of_le l1 HB.out.size
    have l2':pb < wr.heap.size:=Nat.lt_of_lt_of_le l2 HB.out.size
    obtain ⟨rfl,s,w,rfl⟩:=HE.out _ _ _ HQ.out
    have HS:Hid (∀ w',Below wr.heap.size wr w'→Below wr.heap.size wr w'∧w'.cell? ⟨pa,k * 2,none⟩=some (Value.string s)∧w'.cell? ⟨pa,k * 2+1,none⟩=some (Value.int .i64 w)∧w'.cell? ⟨pb,k * 2,none⟩=some (Value.string s)∧w'.cell? ⟨pb,k * 2+1,none⟩=some (Value.int .i64 w)):=fun w' h=>by
     have ca':∀ j u,[Value.string s,Value.int .i64 w][j]? = some u→w'.cell? ⟨pa,k * 2+j,none⟩=some u:=fun j u hu=>(h.cell (p:=⟨pa,k * 2+j,none⟩) l1').trans (hA j u hu)
     have cb':∀ j u,[Value.string s,Value.int .i64 w][j]? = some u→w'.cell? ⟨pb,k * 2+j,none⟩=some u:=fun j u hu=>(h.cell (p:=⟨pb,k * 2+j,none⟩) l2').trans (hB j u hu)
     exact ⟨h,ca' 0 _ rfl,ca' 1 _ rfl,cb' 0 _ rfl,cb' 1 _ rfl⟩
    clear h5 k3 k4 k5 hA hB HQ k1 k2
    go_wp2
    go_region_held3 (fun w'=>Below wr.heap.size wr w'∧w'.cell? ⟨pa,k * 2,none⟩=some (Value.string s)∧w'.cell? ⟨pa,k * 2+1,none⟩=some (Value.int .i64 w)∧w'.cell? ⟨pb,k * 2,none⟩=some (Value.string s)∧w'.cell? ⟨pb,k * 2+1,none⟩=some (Value.int .i64 w)) (first | exact HS.out _ (Below.refl _ _).drew | assumption) (fail)
    all_goals
     have BW:Hid (Below W.heap.size W wr.drew):=HB.out.drew
     go_wp2
     exact ⟨⟨k+1,by congr 1,by omega,BW⟩,by simp [intOf];omega⟩
  ·have hI:¬ (k:Int) < (nn:Int):=by omega
   go_wp2
   go_ret
   exact ⟨rfl,HB.out⟩
set_option maxRecDepth 100000 in
set_option maxHeartbeats 4000000 in
theorem sameCases_ok {eq:World→List Value→List Value→Prop} (hnx:∀ W W' cs cs',Below W.heap.size W W'→eq W cs cs'→eq W' cs cs') (HX:∀ W cs cs',eq W cs cs'→cs=cs'∧∃ w hi lo mw mh ml s,cs=[Value.int .i64 w,.int .u64 hi,.int .u64 lo,.int .i64 mw,.int .u64 mh,.int .u64 ml,.string s]):SaL 190 7 eq:=by
 rintro W _ _ ⟨nn,a,b,ca,cb,rfl,rfl,hn,h4⟩
 have H4:=hide h4
 have HE:=hide HX
 clear h4 HX
 go_enter Tryz.func190,Tryz.ntmps190
 go_wp2
 go_loopw [5] (fun vi wr=>∃ (k:Nat),vi=.int .i64 (k:Int)∧k≤nn∧Hid (Below W.heap.size W wr)) (fun vi _=>nn - (intOf vi).toNat)
 case atStart=>exact ⟨0,rfl,Nat.zero_le _,Below.refl _ _⟩
 case round =>
  obtain ⟨k,rfl,hk,HB⟩:=hrel
  by_cases hlt:k < nn
  ·have hI:(k:Int) < (nn:Int):=by omega
   rcases H4.out with h0 | ⟨pa,pb,rfl,rfl,l1,l2,h5⟩
   ·omega
   ·obtain ⟨cs,cs',k1,k2,k3,k4,k5⟩:=h5 k hlt
    have HQ:=hide (hnx _ _ _ _ HB.out k5)
    have hA:∀ j u,cs[j]? = some u→wr.cell? ⟨pa,k * 7+j,none⟩=some u:=fun j u hu=>(HB.out.cell (p:=⟨pa,k * 7+j,none⟩) l1).trans (k3 j u hu)
    have hB:∀ j u,cs'[j]? = some u→wr.cell? ⟨pb,k * 7+j,none⟩=some u:=fun j u hu=>(HB.out.cell (p:=⟨pb,k * 7+j,none⟩) l2).trans (k4 j u hu)
    have l1':pa < wr.heap.size:=Nat.lt_of_lt_of_le l1 HB.out.size
    have l2':pb < wr.heap.size:=Nat.lt_of_lt_of_le l2 HB.out.size
    obtain ⟨rfl,w,hi,lo,mw,mh,ml,s,rfl⟩:=HE.out _ _ _ HQ.out
    have HS:Hid (∀ w',Below wr.heap.size wr w'→Below wr.heap.size wr w'∧w'.cell? ⟨pa,k * 7,none⟩=some (Value.int .i64 w)∧w'.cell? ⟨pa,k * 7+1,none⟩=some (Value.int .u64 hi)∧w'.cell? ⟨pa,k * 7+2,none⟩=some (Value.int .u64 lo)∧w'.cell? ⟨pa,k * 7+3,none⟩=some (Value.int .i64 mw)∧w'.cell? ⟨pa,k * 7+4,none⟩=some (Value.int .u64 mh)∧w'.cell? ⟨pa,k * 7+5,none⟩=some (Value.int .u64 ml)∧w'.cell? ⟨pa,k * 7+6,none⟩=some (Value.string s)∧w'.cell? ⟨pb,k * 7,none⟩=some (Value.int .i64 w)∧w'.cell? ⟨pb,k * 7+1,none⟩=some (Value.int .u64 hi)∧w'.cell? ⟨pb,k * 7+2,none⟩=some (Value.int .u64 lo)∧w'.cell? ⟨pb,k * 7+3,none⟩=some (Value.int .i64 mw)∧w'.cell? ⟨pb,k * 7+4,none⟩=some (Value.int .u64 mh)∧w'.cell? ⟨pb,k * 7+5,none⟩=some (Value.int .u64 ml)∧w'.cell? ⟨pb,k * 7+6,none⟩=some (Value.string s)):=fun w' h=>by
     have ca':∀ j u,[Value.int .i64 w,Value.int .u64 hi,Value.int .u64 lo,Value.int .i64 mw,Value.int .u64 mh,Value.int .u64 ml,Value.string s][j]? = some u→w'.cell? ⟨pa,k * 7+j,none⟩=some u:=fun j u hu=>(h.cell (p:=⟨pa,k * 7+j,none⟩) l1').trans (hA j u hu)
     have cb':∀ j u,[Value.int .i64 w,Value.int .u64 hi,Value.int .u64 lo,Value.int .i64 mw,Value.int .u64 mh,Value.int .u64 ml,Value.string s][j]? = some u→w'.cell? ⟨pb,k * 7+j,none⟩=some u:=fun j u hu=>(h.cell (p:=⟨pb,k * 7+j,none⟩) l2').trans (hB j u hu)
     exact ⟨h,ca' 0 _ rfl,ca' 1 _ rfl,ca' 2 _ rfl,ca' 3 _ rfl,ca' 4 _ rfl,ca' 5 _ rfl,ca' 6 _ rfl,cb' 0 _ rfl,cb' 1 _ rfl,cb' 2 _ rfl,cb' 3 _ rfl,cb' 4 _ rfl,cb' 5 _ rfl,cb' 6 _ rfl⟩
    clear h5 k3 k4 k5 hA hB HQ k1 k2
    go_wp2
    go_region_held3 (fun w'=>Below wr.heap.size wr w'∧w'.cell? ⟨pa,k * 7,none⟩=some (Value.int .i64 w)∧w'.cell? ⟨pa,k * 7+1,none⟩=some (Value.int .u64 hi)∧w'.cell? ⟨pa,k * 7+2,none⟩=some (Value.int .u64 lo)∧w'.cell? ⟨pa,k * 7+3,none⟩=some (Value.int .i64 mw)∧w'.cell? ⟨pa,k * 7+4,none⟩=some (Value.int .u64 mh)∧w'.cell? ⟨pa,k * 7+5,none⟩=some (Value.int .u64 ml)∧w'.cell? ⟨pa,k * 7+6,none⟩=some (Value.string s)∧w'.cell? ⟨pb,k * 7,none⟩=some (Value.int .i64 w)∧w'.cell? ⟨pb,k * 7+1,none⟩=some (Value.int .u64 hi)∧w'.cell? ⟨pb,k * 7+2,none⟩=some (Value.int .u64 lo)∧w'.cell? ⟨pb,k * 7+3,none⟩=some (Value.int .i64 mw)∧w'.cell? ⟨pb,k * 7+4,none⟩=some (Value.int .u64 mh)∧w'.cell? ⟨pb,k * 7+5,none⟩=some (Value.int .u64 ml)∧w'.cell? ⟨pb,k * 7+6,none⟩=some (Value.string s)) (first | exact HS.out _ (Below.refl _ _).drew | assumption) (fail)
    all_goals
     have BW:Hid (Below W.heap.size W wr.drew):=HB.out.drew
     go_wp2
     exact ⟨⟨k+1,by congr 1,by omega,BW⟩,by simp [intOf];omega⟩
  ·have hI:¬ (k:Int) < (nn:Int):=by omega
   go_wp2
   go_ret
   exact ⟨rfl,HB.out⟩
end Go.Proofs.YtabkimknlifdoaaGreatDoor
