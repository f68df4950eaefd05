/- Pieces of the proof: PaTd, PaTe. -/
import Derived.Test.YtabkimknlifdoaaGreatDoorJ17
import Derived.Deep.LoopGhost
namespace Go.Proofs.YtabkimknlifdoaaGreatDoor
open Go.RowKit
def smT:Nat→Nat→Sm→TS→TS
 | 0,_,_,S=>S
 | f+1,deep,x,S=>if (addT S deep).2 then addT S deep else x.els.foldl (fun S y=>smT f (deep+1) y S) (x.body.foldl (fun S y=>smT f (deep+1) y S) (exsT f (deep+1) x.args (addT S deep)))
def smsT (f deep:Nat) (l:List Sm) (S:TS):TS:=l.foldl (fun S y=>smT f deep y S) S
theorem SmR.lists {W:World} {X:Nat→Prop} {z4a:Int} {z4b:ByteArray} {z4c:ByteArray} {z4d:ByteArray} {z4e:Int} {s4f:Option Addr} {n4f:Nat} {c4f:Nat} {s4g:Option Addr} {n4g:Nat} {c4g:Nat} {s4h:Option Addr} {n4h:Nat} {c4h:Nat} {z4i:Int} {x:Sm} (h:SmR W X (.agg #[.int .u8 z4a,.string z4b,.string z4c,.string z4d,.int .i64 z4e,.slice s4f n4f c4f,.slice s4g n4g c4g,.slice s4h n4h c4h,.int .i64 z4i]) x):ListR ExR mkAgg 10 W X (.slice s4f n4f c4f) x.args∧ListR SmR mkAgg 9 W X (.slice s4g n4g c4g) x.body∧ListR SmR mkAgg 9 W X (.slice s4h n4h c4h) x.els:=by
 obtain ⟨va,vb,ve,e,h1,h2,h3⟩:=h.open
 unfold mkAgg smC at e
 injection e with e
 have e:=congrArg Array.toList e
 simp only [List.cons.injEq] at e
 obtain ⟨_,_,_,_,_,rfl,rfl,rfl,_,_⟩:=e
 exact ⟨h1,h2,h3⟩
set_option maxRecDepth 100000 in
set_option maxHeartbeats 4000000 in
theorem tstmts_ok {pt f deep:Nat} (hd:deep≤66) (HXs:deep≤64→TOk 121 pt (ListR ExR mkAgg 10) (deep+1) (exsT f (deep+1))) (HSs:deep≤64→TOk 72 pt (ListR SmR mkAgg 9) (deep+1) (smsT f (deep+1))):TOk 72 pt (ListR SmR mkAgg 9) deep (smsT (f+1) deep):=by
 intro W X v l S hl hX hT
 obtain ⟨s,c,rfl,hmax,hit⟩:=list_items hl (by decide)
 unfold maxLen at hmax
 have HIT:=hide hit
 have HXX:=hide hX
 have HX1:=hide HXs
 have HS1:=hide HSs
 have HT0:=hide hT
 obtain ⟨N,hN⟩:∃ N,N=l.length:=⟨_,rfl⟩
 have HNN:=hide hN
 rw [← hN]
 have hmx:N≤9223372036854775807:=by omega
 have HD:=hide hd
 have hw:IntKind.i64.wrap ((deep:Int)+1)=((deep+1:Nat):Int):=by rw [IntKind.wrap_i64];omega
 clear hl hit hX hT hN HXs HSs hmax
 go_enter Tryz.func72,Tryz.ntmps72
 go_wp2
 go_loopg [10] N (fun g i wr=>∃ j:Nat,j+g=N∧i=.int .i64 (j:Int)∧Hid (Fr (·=pt) W wr)∧Hid (Tl wr pt ((l.take j).foldl (fun S y=>smT (f+1) deep y S) S)))
 case atStart=>exact ⟨0,by omega,rfl,Fr.refl _ _,HT0.out⟩
 case round =>
  obtain ⟨j,hj,rfl,HF,HT⟩:=hrel
  have HJ:=hide hj
  clear hj HT0
  by_cases hlt:j < N
  ·have hjl:j < l.length:=by have:=HNN.out;omega
   have hjI:(j:Int) < (N:Int):=by omega
   have dj:decide (j < N)=true:=by simp;omega
   obtain ⟨b,rfl,hXb,hbl,hel⟩:∃ b,s=some ⟨b,0,none⟩∧X b∧b < W.heap.size∧∀ j (hj:j < l.length),∃ cs,cs.length=9∧SmR W X (mkAgg cs) l[j]∧∀ i (hi:i < cs.length),W.cell? ⟨b,j * 9+i,none⟩=some cs[i]:=by
    rcases HIT.out with h | h
    ·rw [h] at hjl;simp at hjl
    ·exact h
   obtain ⟨cs,hcl,hrep,hcells⟩:=hel j hjl
   have hne:b ≠ pt:=fun e=>HXX.out (by rw [← e];exact hXb)
   have hcells':∀ i (hi:i < cs.length),wr.cell? ⟨b,j * 9+i,none⟩=some cs[i]:=fun i hi=>HF.out.cell (hcells i hi) hne
   have hrep':=rep_fr smRep_ok hrep HF.out HXX.out
   obtain ⟨z4a,z4b,z4c,z4d,z4e,s4f,n4f,c4f,s4g,n4g,c4g,s4h,n4h,c4h,z4i,hv⟩:=SmR.form hrep'
   have hcs:cs=[.int .u8 z4a,.string z4b,.string z4c,.string z4d,.int .i64 z4e,.slice s4f n4f c4f,.slice s4g n4g c4g,.slice s4h n4h c4h,.int .i64 z4i]:=by unfold mkAgg at hv;injection hv with hv;have:=congrArg Array.toList hv;simpa using this
   subst hcs
   have HC:=hide hcells'
   have HR:=hide (smRep_ok.frame hrep' (W':=wr.alloc (.cells #[.int .u8 z4a,.string z4b,.string z4c,.string z4d,.int .i64 z4e,.slice s4f n4f c4f,.slice s4g n4g c4g,.slice s4h n4h c4h,.int .i64 z4i] 72)) (by rw [World.size_alloc];omega) (fun b hb hl=>heap_alloc_old _ _ hl))
   have HTa:=hide (HT.out.alloc (.cells #[.int .u8 z4a,.string z4b,.string z4c,.string z4d,.int .i64 z4e,.slice s4f n4f c4f,.slice s4g n4g c4g,.slice s4h n4h c4h,.int .i64 z4i] 72))
   have HBa:=hide (heap_alloc_new wr (.cells #[.int .u8 z4a,.string z4b,.string z4c,.string z4d,.int .i64 z4e,.slice s4f n4f c4f,.slice s4g n4g c4g,.slice s4h n4h c4h,.int .i64 z4i] 72))
   have HPT:=hide HT.out.lt
   have HG:Hid ((l.take (j+1)).foldl (fun S y=>smT (f+1) deep y S) S=smT (f+1) deep l[j] ((l.take j).foldl (fun S y=>smT (f+1) deep y S) S)):=by
    unfold Hid;rw [List.take_succ_eq_append_getElem hjl,List.foldl_append];rfl
   have HFa:Hid (Fr (·=pt) W (wr.alloc (.cells #[.int .u8 z4a,.string z4b,.string z4c,.string z4d,.int .i64 z4e,.slice s4f n4f c4f,.slice s4g n4g c4g,.slice s4h n4h c4h,.int .i64 z4i] 72))):=HF.out.alloc _
   generalize (l.take j).foldl (fun S y=>smT (f+1) deep y S) S=S1 at *
   generalize hlj:l[j]=y at *
   have HAdd:=hide (tadd_any HTa.out deep (by have:=HD.out;omega))
   clear hlj hcells hcells' hrep hrep' hv hcl hel hXb hbl HT HF
   cases hb:(addT S1 deep).2 with
   | true =>
    rw [hb] at HAdd
    have HG2:Hid (smT (f+1) deep y S1=addT S1 deep):=by unfold Hid;rw [smT,hb,if_pos rfl]
    clear hb
    go_wp2_with (first | (refine wpList_loadO rfl 72 _ rfl b (j * 9) [.int .u8 z4a,.string z4b,.string z4c,.string z4d,.int .i64 z4e,.slice s4f n4f c4f,.slice s4g n4g c4g,.slice s4h n4h c4h,.int .i64 z4i] (by simp [go_sem];try omega) ag_stmt sz_stmt HC.out ?_))
    refine HAdd.out.mono ?_
    rintro e w2 ⟨rfl,hf,ht⟩
    have HF2:Hid (Fr (·=pt) W w2):=HFa.out.trans hf (fun _ _ e=>e)
    have HT2:=hide ht
    clear hf ht
    go_wp2
    go_roundg (gk - 1)
    case measure=>have:=HJ.out;omega
    case rel=>exact ⟨j+1,by have:=HJ.out;omega,by go_num,HF2.out,by unfold Hid;rw [HG.out,HG2.out];exact HT2.out⟩
   | false =>
    rw [hb] at HAdd
    have HG2:Hid (smT (f+1) deep y S1=smsT f (deep+1) y.els (smsT f (deep+1) y.body (exsT f (deep+1) y.args (addT S1 deep)))):=by unfold Hid;rw [smT,hb,if_neg (by decide)];rfl
    have HXk:=hide (HX1.out (not_deep hb))
    have HSk:=hide (HS1.out (not_deep hb))
    obtain ⟨ha,hbd,hels⟩:=HR.out.lists
    have HA:=hide ha;have HBd:=hide hbd;have HEl:=hide hels
    clear hb ha hbd hels
    go_wp2_with (first | (refine wpList_loadO rfl 72 _ rfl b (j * 9) [.int .u8 z4a,.string z4b,.string z4c,.string z4d,.int .i64 z4e,.slice s4f n4f c4f,.slice s4g n4g c4g,.slice s4h n4h c4h,.int .i64 z4i] (by simp [go_sem];try omega) ag_stmt sz_stmt HC.out ?_))
    refine HAdd.out.mono ?_
    rintro e w2 ⟨rfl,hf,ht⟩
    have HF2:Hid (Fr (·=pt) W w2):=HFa.out.trans hf (fun _ _ e=>e)
    have HT2:=hide ht
    have HB2:=hide ((hf.block wr.heap.size (by rw [World.size_alloc];omega) (fun e=>by have e':wr.heap.size=pt:=e;have:=HPT.out;omega)).trans HBa.out)
    have HA2:=hide (rep_fr (ListR.ok exRep_ok mkAgg 10) HA.out hf HXX.out)
    have HBd2:=hide (rep_fr (ListR.ok smRep_ok mkAgg 9) HBd.out hf HXX.out)
    have HEl2:=hide (rep_fr (ListR.ok smRep_ok mkAgg 9) HEl.out hf HXX.out)
    have g5:=cellA HB2.out 5
    clear hf ht
    go_wp2_with fail
    refine (HXk.out _ _ _ _ _ HA2.out HXX.out HT2.out).mono ?_
    rintro e w3 ⟨rfl,hf,ht⟩
    have HF3:Hid (Fr (·=pt) W w3):=HF2.out.trans hf (fun _ _ e=>e)
    have HT3:=hide ht
    have HB3:=hide ((hf.block wr.heap.size (Array.getElem?_eq_some_iff.1 HB2.out).1 (fun e=>by have e':wr.heap.size=pt:=e;have:=HPT.out;omega)).trans HB2.out)
    have HBd3:=hide (rep_fr (ListR.ok smRep_ok mkAgg 9) HBd2.out hf HXX.out)
    have HEl3:=hide (rep_fr (ListR.ok smRep_ok mkAgg 9) HEl2.out hf HXX.out)
    clear hf ht g5
    have g6:=cellA HB3.out 6
    go_wp2_with fail
    refine (HSk.out _ _ _ _ _ HBd3.out HXX.out HT3.out).mono ?_
    rintro e w4 ⟨rfl,hf,ht⟩
    have HF4:Hid (Fr (·=pt) W w4):=HF3.out.trans hf (fun _ _ e=>e)
    have HT4:=hide ht
    have HB4:=hide ((hf.block wr.heap.size (Array.getElem?_eq_some_iff.1 HB3.out).1 (fun e=>by have e':wr.heap.size=pt:=e;have:=HPT.out;omega)).trans HB3.out)
    have HEl4:=hide (rep_fr (ListR.ok smRep_ok mkAgg 9) HEl3.out hf HXX.out)
    clear hf ht g6
    have g7:=cellA HB4.out 7
    go_wp2_with fail
    refine (HSk.out _ _ _ _ _ HEl4.out HXX.out HT4.out).mono ?_
    rintro e w5 ⟨rfl,hf,ht⟩
    have HF5:Hid (Fr (·=pt) W w5):=HF4.out.trans hf (fun _ _ e=>e)
    have HT5:=hide ht
    clear hf ht g7
    go_wp2
    go_roundg (gk - 1)
    case measure=>have:=HJ.out;omega
    case rel=>exact ⟨j+1,by have:=HJ.out;omega,by go_num,HF5.out,by unfold Hid;rw [HG.out,HG2.out];exact HT5.out⟩
  ·have dj:decide (j < N)=false:=by simp;omega
   have hjI:¬ ((j:Int) < (N:Int)):=by omega
   have HE:Hid (l.take j=l):=List.take_of_length_le (by have:=HNN.out;omega)
   go_wp2
   go_end0
   refine ⟨rfl,HF.out,?_⟩
   have:=HT.out
   rw [HE.out] at this
   exact this
theorem tsms_any {pt:Nat}:∀ f deep,f+deep=66→TOk 72 pt (ListR SmR mkAgg 9) deep (smsT f deep) ∨ f=0
 | 0,_,_=>.inr rfl
 | f+1,deep,h=>.inl (tstmts_ok (by omega) (fun hd=>(texs_any f (deep+1) (by omega)).resolve_right (by omega)) (fun hd=>(tsms_any f (deep+1) (by omega)).resolve_right (by omega)))
def stT (x:Ts) (S:TS):TS:=x.cases.foldl (fun S _=>addT S 3) (exsT 63 3 x.sel (addT S 2))
def dcT (x:Dc) (S:TS):TS:=smsT 64 2 x.body (x.keys.foldl (fun S y=>exT 64 2 y.1 S) (x.states.foldl (fun S y=>stT y S) (x.fields.foldl (fun S _=>addT S 2) (addT S 1))))
theorem key_expr {W:World} {X:Nat→Prop} {a0 a1 a2 a3 a4 a5 a6 a7 a8 a9 b:Value} {y:Ex × Nat} (h:KeyR W X (.agg #[a0,a1,a2,a3,a4,a5,a6,a7,a8,a9,b]) y):ExR W X (.agg #[a0,a1,a2,a3,a4,a5,a6,a7,a8,a9]) y.1:=by
 obtain ⟨c0,c1,c2,c3,c4,c5,c6,c7,c8,c9,h,e⟩:=h
 injection e with e
 have e:=congrArg Array.toList e
 simp only [List.cons.injEq] at e
 obtain ⟨rfl,rfl,rfl,rfl,rfl,rfl,rfl,rfl,rfl,rfl,_,_⟩:=e
 exact h
set_option maxRecDepth 100000 in
set_option maxHeartbeats 8000000 in
theorem tstate_ok {pt:Nat}:TOk 70 pt StateR 2 stT:=by
 intro W X v x S hx hX hT
 obtain ⟨z4a,s4b,n4b,c4b,s4c,n4c,c4c,s4d,n4d,c4d,z4e,z4f,rfl⟩:=StateR.form hx
 obtain ⟨vh,vs,vc,e,hh,hs,hc⟩:=hx
 unfold mkAgg tsC at e
 injection e with e
 replace e:=congrArg Array.toList e
 simp only [List.cons.injEq] at e
 obtain ⟨-,rfl,rfl,rfl,-,-,-⟩:=e
 have HS:=hide ((ListR.ok exRep_ok mkAgg 10).frame hs (W':=W.alloc (.cells #[.string z4a,.slice s4b n4b c4b,.slice s4c n4c c4c,.slice s4d n4d c4d,.string z4e,.int .i64 z4f] 79)) (by rw [World.size_alloc];omega) (fun b hb hl=>heap_alloc_old _ _ hl))
 have HC0:=hide ((ListR.ok caseV_ok mkAgg 7).frame hc (W':=W.alloc (.cells #[.string z4a,.slice s4b n4b c4b,.slice s4c n4c c4c,.slice s4d n4d c4d,.string z4e,.int .i64 z4f] 79)) (by rw [World.size_alloc];omega) (fun b hb hl=>heap_alloc_old _ _ hl))
 have HXX:=hide hX
 have HBX0:Hid (W.heap.size < (W.alloc (.cells #[.string z4a,.slice s4b n4b c4b,.slice s4c n4c c4c,.slice s4d n4d c4d,.string z4e,.int .i64 z4f] 79)).heap.size∧¬ (W.heap.size=pt)∧(W.alloc (.cells #[.string z4a,.slice s4b n4b c4b,.slice s4c n4c c4c,.slice s4d n4d c4d,.string z4e,.int .i64 z4f] 79)).heap[W.heap.size]? = some (.cells #[.string z4a,.slice s4b n4b c4b,.slice s4c n4c c4c,.slice s4d n4d c4d,.string z4e,.int .i64 z4f] 79 (0,0))):=⟨by rw [World.size_alloc];omega,fun e=>by have:=hT.lt;omega,heap_alloc_new W _⟩
 have HT1:=hide (hT.alloc (.cells #[.string z4a,.slice s4b n4b c4b,.slice s4c n4c c4c,.slice s4d n4d c4d,.string z4e,.int .i64 z4f] 79))
 have HW1:Hid (Fr (·=pt) W (W.alloc (.cells #[.string z4a,.slice s4b n4b c4b,.slice s4c n4c c4c,.slice s4d n4d c4d,.string z4e,.int .i64 z4f] 79))):=(Fr.refl _ W).alloc _
 have HXs:Hid (TOk 121 pt (ListR ExR mkAgg 10) 3 (exsT 63 3)):=(texs_any 63 3 rfl).resolve_right (by decide)
 obtain ⟨RR,hRR⟩:∃ RR,RR=stT x S:=⟨_,rfl⟩
 rw [← hRR]
 have HRR:=hide hRR
 clear hX hT hRR hh hs hc
 go_enter Tryz.func70,Tryz.ntmps70
 go_wp2_with fail
 refine (tadd_any HT1.out 2 (by omega)).mono ?_
 generalize W.alloc (.cells #[.string z4a,.slice s4b n4b c4b,.slice s4c n4c c4c,.slice s4d n4d c4d,.string z4e,.int .i64 z4f] 79)=W1 at *
 generalize W.heap.size=bx at *
 rintro e w2 ⟨rfl,hf,ht⟩
 have HF2:=hide hf
 have HT2:=hide ht
 have HS2:=hide (rep_fr (ListR.ok exRep_ok mkAgg 10) HS.out hf HXX.out)
 have gs:=cellA ((hf.block bx HBX0.out.1 HBX0.out.2.1).trans HBX0.out.2.2) 2
 clear hf ht HT1
 go_wp2_with fail
 refine (HXs.out _ _ _ _ _ HS2.out HXX.out HT2.out).mono ?_
 rintro e w3 ⟨rfl,hf,ht⟩
 have HF3:Hid (Fr (·=pt) W1 w3):=HF2.out.trans hf (fun _ _ e=>e)
 have HT3:=hide ht
 have HBX:=hide HBX0.out
 clear hf ht gs HS2 HT2 HF2
 have HCa:=HC0
 have HC:=HC0
 obtain ⟨sx,cx,hvC,hmaxC,hitC⟩:=list_items HC.out (by decide)
 unfold maxLen at hmaxC
 injection hvC with e1 e2 e3
 subst e1 e2 e3
 obtain ⟨NC,hNC⟩:∃ N,N=x.cases.length:=⟨_,rfl⟩
 have HNC:=hide hNC
 have hmxC:NC≤9223372036854775807:=by omega
 have HITC:=hide hitC
 have gbC:=cellA ((HF3.out.block bx HBX.out.1 HBX.out.2.1).trans HBX.out.2.2) 3
 have hNrC:x.cases.length=NC:=hNC.symm
 rw [hNrC] at gbC
 clear hNC hNrC hitC hmaxC
 go_wp2
 go_loopg [18] NC (fun g i wr=>∃ j:Nat,j+g=NC∧i=.int .i64 (j:Int)∧Hid (Fr (·=pt) W1 wr)∧Hid (Tl wr pt ((x.cases.take j).foldl (fun S _=>addT S 3) (exsT 63 3 x.sel (addT S 2)))))
 case atStart=>exact ⟨0,by omega,rfl,HF3.out,HT3.out⟩
 case round =>
  obtain ⟨j,hj,rfl,HFC,HTC⟩:=hrel
  have HJ:=hide hj
  clear hj gbC
  by_cases hlt:j < NC
  ·have hjl:j < x.cases.length:=by have:=HNC.out;omega
   have hjI:(j:Int) < (NC:Int):=by omega
   have dj:decide (j < NC)=true:=by simp;omega
   have HG:Hid ((x.cases.take (j+1)).foldl (fun S _=>addT S 3) (exsT 63 3 x.sel (addT S 2))=(fun S _=>addT S 3) ((x.cases.take j).foldl (fun S _=>addT S 3) (exsT 63 3 x.sel (addT S 2))) x.cases[j]):=by unfold Hid;rw [List.take_succ_eq_append_getElem hjl,List.foldl_append];rfl
   generalize (x.cases.take j).foldl (fun S _=>addT S 3) (exsT 63 3 x.sel (addT S 2))=S1 at *
   go_wp2_with fail
   refine (tadd_any HTC.out 3 (by omega)).mono ?_
   rintro e w2 ⟨rfl,hf,ht⟩
   have HF2:Hid (Fr (·=pt) W1 w2):=HFC.out.trans hf (fun _ _ e=>e)
   have HT2:=hide ht
   clear hf ht
   go_wp2
   go_roundg (gk - 1)
   case measure=>have:=HJ.out;omega
   case rel=>exact ⟨j+1,by have:=HJ.out;omega,by go_num,HF2.out,by unfold Hid;rw [HG.out];exact HT2.out⟩
  ·have dj:decide (j < NC)=false:=by simp;omega
   have hjI:¬ ((j:Int) < (NC:Int)):=by omega
   have HE:Hid (x.cases.take j=x.cases):=List.take_of_length_le (by have:=HNC.out;omega)
   have HTCb:=HTC.out
   rw [HE.out] at HTCb
   have HTCe:=hide HTCb
   clear HTCb HE HJ
   go_wp2
   go_end0
   exact ⟨rfl,HW1.out.trans HFC.out (fun _ _ e=>e),by rw [HRR.out];exact HTCe.out⟩
set_option maxRecDepth 100000 in
set_option maxHeartbeats 8000000 in
theorem tdecl_ok {pt:Nat}:TOk 32 pt DeclR 1 dcT:=by
 intro W X v x S hx hX hT
 obtain ⟨z4a,z4b,s4c,n4c,c4c,z4d,z4e,z4f,z4g,s4h,n4h,c4h,s4i,n4i,c4i,s4j,n4j,c4j,z4k,s4l,n4l,c4l,s4m,n4m,c4m,s4n,n4n,c4n,z4o,rfl⟩:=DeclR.form hx
 obtain ⟨vf,vs,vk,va,vg,vb,ve,e,hd⟩:=hx
 unfold mkAgg dcC at e
 injection e with e
 replace e:=congrArg Array.toList e
 simp only [List.cons.injEq] at e
 obtain ⟨-,-,rfl,-,-,-,-,rfl,rfl,rfl,-,rfl,rfl,rfl,-,-⟩:=e
 have HF:=hide ((ListR.ok fieldV_ok mkAgg 2).frame hd.f (W':=W.alloc (.cells #[.int .u8 z4a,.string z4b,.slice s4c n4c c4c,.int .i64 z4d,.int .i64 z4e,.int .i64 z4f,.int .i64 z4g,.slice s4h n4h c4h,.slice s4i n4i c4i,.slice s4j n4j c4j,.string z4k,.slice s4l n4l c4l,.slice s4m n4m c4m,.slice s4n n4n c4n,.int .i64 z4o] 69)) (by rw [World.size_alloc];omega) (fun b hb hl=>heap_alloc_old _ _ hl))
 have HS:=hide ((ListR.ok stateR_ok mkAgg 6).frame hd.s (W':=W.alloc (.cells #[.int .u8 z4a,.string z4b,.slice s4c n4c c4c,.int .i64 z4d,.int .i64 z4e,.int .i64 z4f,.int .i64 z4g,.slice s4h n4h c4h,.slice s4i n4i c4i,.slice s4j n4j c4j,.string z4k,.slice s4l n4l c4l,.slice s4m n4m c4m,.slice s4n n4n c4n,.int .i64 z4o] 69)) (by rw [World.size_alloc];omega) (fun b hb hl=>heap_alloc_old _ _ hl))
 have HK:=hide ((ListR.ok keyR_ok mkAgg 11).frame hd.k (W':=W.alloc (.cells #[.int .u8 z4a,.string z4b,.slice s4c n4c c4c,.int .i64 z4d,.int .i64 z4e,.int .i64 z4f,.int .i64 z4g,.slice s4h n4h c4h,.slice s4i n4i c4i,.slice s4j n4j c4j,.string z4k,.slice s4l n4l c4l,.slice s4m n4m c4m,.slice s4n n4n c4n,.int .i64 z4o] 69)) (by rw [World.size_alloc];omega) (fun b hb hl=>heap_alloc_old _ _ hl))
 have HB:=hide ((ListR.ok smRep_ok mkAgg 9).frame hd.b (W':=W.alloc (.cells #[.int .u8 z4a,.string z4b,.slice s4c n4c c4c,.int .i64 z4d,.int .i64 z4e,.int .i64 z4f,.int .i64 z4g,.slice s4h n4h c4h,.slice s4i n4i c4i,.slice s4j n4j c4j,.string z4k,.slice s4l n4l c4l,.slice s4m n4m c4m,.slice s4n n4n c4n,.int .i64 z4o] 69)) (by rw [World.size_alloc];omega) (fun b hb hl=>heap_alloc_old _ _ hl))
 have HXX:=hide hX
 have HBX0:Hid (W.heap.size < (W.alloc (.cells #[.int .u8 z4a,.string z4b,.slice s4c n4c c4c,.int .i64 z4d,.int .i64 z4e,.int .i64 z4f,.int .i64 z4g,.slice s4h n4h c4h,.slice s4i n4i c4i,.slice s4j n4j c4j,.string z4k,.slice s4l n4l c4l,.slice s4m n4m c4m,.slice s4n n4n c4n,.int .i64 z4o] 69)).heap.size∧¬ (W.heap.size=pt)∧(W.alloc (.cells #[.int .u8 z4a,.string z4b,.slice s4c n4c c4c,.int .i64 z4d,.int .i64 z4e,.int .i64 z4f,.int .i64 z4g,.slice s4h n4h c4h,.slice s4i n4i c4i,.slice s4j n4j c4j,.string z4k,.slice s4l n4l c4l,.slice s4m n4m c4m,.slice s4n n4n c4n,.int .i64 z4o] 69)).heap[W.heap.size]? = some (.cells #[.int .u8 z4a,.string z4b,.slice s4c n4c c4c,.int .i64 z4d,.int .i64 z4e,.int .i64 z4f,.int .i64 z4g,.slice s4h n4h c4h,.slice s4i n4i c4i,.slice s4j n4j c4j,.string z4k,.slice s4l n4l c4l,.slice s4m n4m c4m,.slice s4n n4n c4n,.int .i64 z4o] 69 (0,0))):=⟨by rw [World.size_alloc];omega,fun e=>by have:=hT.lt;omega,heap_alloc_new W _⟩
 have HT1:=hide (hT.alloc (.cells #[.int .u8 z4a,.string z4b,.slice s4c n4c c4c,.int .i64 z4d,.int .i64 z4e,.int .i64 z4f,.int .i64 z4g,.slice s4h n4h c4h,.slice s4i n4i c4i,.slice s4j n4j c4j,.string z4k,.slice s4l n4l c4l,.slice s4m n4m c4m,.slice s4n n4n c4n,.int .i64 z4o] 69))
 have HW1:Hid (Fr (·=pt) W (W.alloc (.cells #[.int .u8 z4a,.string z4b,.slice s4c n4c c4c,.int .i64 z4d,.int .i64 z4e,.int .i64 z4f,.int .i64 z4g,.slice s4h n4h c4h,.slice s4i n4i c4i,.slice s4j n4j c4j,.string z4k,.slice s4l n4l c4l,.slice s4m n4m c4m,.slice s4n n4n c4n,.int .i64 z4o] 69))):=(Fr.refl _ W).alloc _
 have HXe:Hid (TOk 71 pt ExR 2 (exT 64 2)):=tex_any rfl
 have HXb:Hid (TOk 72 pt (ListR SmR mkAgg 9) 2 (smsT 64 2)):=(tsms_any 64 2 rfl).resolve_right (by decide)
 have HXt:Hid (TOk 70 pt StateR 2 stT):=tstate_ok
 obtain ⟨RR,hRR⟩:∃ RR,RR=dcT x S:=⟨_,rfl⟩
 rw [← hRR]
 have HRR:=hide hRR
 clear hX hT hRR hd
 go_enter Tryz.func32,Tryz.ntmps32
 go_wp2_with fail
 refine (tadd_any HT1.out 1 (by omega)).mono ?_
 generalize W.alloc (.cells #[.int .u8 z4a,.string z4b,.slice s4c n4c c4c,.int .i64 z4d,.int .i64 z4e,.int .i64 z4f,.int .i64 z4g,.slice s4h n4h c4h,.slice s4i n4i c4i,.slice s4j n4j c4j,.string z4k,.slice s4l n4l c4l,.slice s4m n4m c4m,.slice s4n n4n c4n,.int .i64 z4o] 69)=W1 at *
 generalize W.heap.size=bx at *
 rintro e w2 ⟨rfl,hf,ht⟩
 have HF3:=hide hf
 have HT3:=hide ht
 have HBX:=hide HBX0.out
 clear hf ht HT1 HBX0
 obtain ⟨sx,cx,hvF,hmaxF,hitF⟩:=list_items HF.out (by decide)
 unfold maxLen at hmaxF
 injection hvF with e1 e2 e3
 subst e1 e2 e3
 obtain ⟨NF,hNF⟩:∃ N,N=x.fields.length:=⟨_,rfl⟩
 have HNF:=hide hNF
 have hmxF:NF≤9223372036854775807:=by omega
 have HITF:=hide hitF
 have gbF:=cellA ((HF3.out.block bx HBX.out.1 HBX.out.2.1).trans HBX.out.2.2) 2
 have hNrF:x.fields.length=NF:=hNF.symm
 rw [hNrF] at gbF
 clear hNF hNrF hitF hmaxF
 go_wp2
 go_loopg [16] NF (fun g i wr=>∃ j:Nat,j+g=NF∧i=.int .i64 (j:Int)∧Hid (Fr (·=pt) W1 wr)∧Hid (Tl wr pt ((x.fields.take j).foldl (fun S _=>addT S 2) (addT S 1))))
 case atStart=>exact ⟨0,by omega,rfl,HF3.out,HT3.out⟩
 case round =>
  obtain ⟨j,hj,rfl,HFF,HTF⟩:=hrel
  have HJ:=hide hj
  clear hj gbF
  by_cases hlt:j < NF
  ·have hjl:j < x.fields.length:=by have:=HNF.out;omega
   have hjI:(j:Int) < (NF:Int):=by omega
   have dj:decide (j < NF)=true:=by simp;omega
   have HG:Hid ((x.fields.take (j+1)).foldl (fun S _=>addT S 2) (addT S 1)=(fun S _=>addT S 2) ((x.fields.take j).foldl (fun S _=>addT S 2) (addT S 1)) x.fields[j]):=by unfold Hid;rw [List.take_succ_eq_append_getElem hjl,List.foldl_append];rfl
   generalize (x.fields.take j).foldl (fun S _=>addT S 2) (addT S 1)=S1 at *
   go_wp2_with fail
   refine (tadd_any HTF.out 2 (by omega)).mono ?_
   rintro e w2 ⟨rfl,hf,ht⟩
   have HF2:Hid (Fr (·=pt) W1 w2):=HFF.out.trans hf (fun _ _ e=>e)
   have HT2:=hide ht
   clear hf ht
   go_wp2
   go_roundg (gk - 1)
   case measure=>have:=HJ.out;omega
   case rel=>exact ⟨j+1,by have:=HJ.out;omega,by go_num,HF2.out,by unfold Hid;rw [HG.out];exact HT2.out⟩
  ·have dj:decide (j < NF)=false:=by simp;omega
   have hjI:¬ ((j:Int) < (NF:Int)):=by omega
   have HE:Hid (x.fields.take j=x.fields):=List.take_of_length_le (by have:=HNF.out;omega)
   have HTFb:=HTF.out
   rw [HE.out] at HTFb
   have HTFe:=hide HTFb
   clear HTFb HE HJ
   obtain ⟨sx,cx,hvS,hmaxS,hitS⟩:=list_items HS.out (by decide)
   unfold maxLen at hmaxS
   injection hvS with e1 e2 e3
   subst e1 e2 e3
   obtain ⟨NS,hNS⟩:∃ N,N=x.states.length:=⟨_,rfl⟩
   have HNS:=hide hNS
   have hmxS:NS≤9223372036854775807:=by omega
   have HITS:=hide hitS
   have gbS:=cellA ((HFF.out.block bx HBX.out.1 HBX.out.2.1).trans HBX.out.2.2) 7
   have hNrS:x.states.length=NS:=hNS.symm
   rw [hNrS] at gbS
   clear hNS hNrS hitS hmaxS
   go_wp2
   go_loopg [26] NS (fun g i wr=>∃ j:Nat,j+g=NS∧i=.int .i64 (j:Int)∧Hid (Fr (·=pt) W1 wr)∧Hid (Tl wr pt ((x.states.take j).foldl (fun S y=>stT y S) (x.fields.foldl (fun S _=>addT S 2) (addT S 1)))))
   case atStart=>exact ⟨0,by omega,rfl,HFF.out,HTFe.out⟩
   case round =>
    obtain ⟨j,hj,rfl,HFS,HTS⟩:=hrel
    have HJ:=hide hj
    clear hj gbS
    by_cases hlt:j < NS
    ·have hjl:j < x.states.length:=by have:=HNS.out;omega
     have hjI:(j:Int) < (NS:Int):=by omega
     have dj:decide (j < NS)=true:=by simp;omega
     have HG:Hid ((x.states.take (j+1)).foldl (fun S y=>stT y S) (x.fields.foldl (fun S _=>addT S 2) (addT S 1))=(fun S y=>stT y S) ((x.states.take j).foldl (fun S y=>stT y S) (x.fields.foldl (fun S _=>addT S 2) (addT S 1))) x.states[j]):=by unfold Hid;rw [List.take_succ_eq_append_getElem hjl,List.foldl_append];rfl
     generalize (x.states.take j).foldl (fun S y=>stT y S) (x.fields.foldl (fun S _=>addT S 2) (addT S 1))=S1 at *
     obtain ⟨b,rfl,hXb,hbl,hel⟩:∃ b,s4h=some ⟨b,0,none⟩∧X b∧b < W1.heap.size∧∀ j (hj:j < x.states.length),∃ cs,cs.length=6∧StateR W1 X (mkAgg cs) x.states[j]∧∀ i (hi:i < cs.length),W1.cell? ⟨b,j * 6+i,none⟩=some cs[i]:=by
      rcases HITS.out with h | h
      ·rw [h] at hjl;simp at hjl
      ·exact h
     obtain ⟨cs,hcl,hrep,hcells⟩:=hel j hjl
     have hne:b ≠ pt:=fun e=>HXX.out (by rw [← e];exact hXb)
     have hcells':∀ i (hi:i < cs.length),wr.cell? ⟨b,j * 6+i,none⟩=some cs[i]:=fun i hi=>HFS.out.cell (hcells i hi) hne
     have hrep':=rep_fr stateR_ok hrep HFS.out HXX.out
     obtain ⟨z5a,s5b,n5b,c5b,s5c,n5c,c5c,s5d,n5d,c5d,z5e,z5f,hv⟩:=StateR.form hrep'
     have hcs:cs=[.string z5a,.slice s5b n5b c5b,.slice s5c n5c c5c,.slice s5d n5d c5d,.string z5e,.int .i64 z5f]:=by unfold mkAgg at hv;injection hv with hv;have:=congrArg Array.toList hv;simpa using this
     subst hcs
     have HC:=hide hcells'
     have HR:=hide (stateR_ok.frame hrep' (W':=wr.alloc (.cells #[.string z5a,.slice s5b n5b c5b,.slice s5c n5c c5c,.slice s5d n5d c5d,.string z5e,.int .i64 z5f] 79)) (by rw [World.size_alloc];omega) (fun b hb hl=>heap_alloc_old _ _ hl))
     have HTa:=hide (HTS.out.alloc (.cells #[.string z5a,.slice s5b n5b c5b,.slice s5c n5c c5c,.slice s5d n5d c5d,.string z5e,.int .i64 z5f] 79))
     generalize hlj:x.states[j]=y at *
     clear hlj hcells hcells' hrep hrep' hv hcl hel hXb hbl
     have HFa:Hid (Fr (·=pt) W1 (wr.alloc (.cells #[.string z5a,.slice s5b n5b c5b,.slice s5c n5c c5c,.slice s5d n5d c5d,.string z5e,.int .i64 z5f] 79))):=HFS.out.alloc _
     go_wp2_with (first | (refine wpList_loadO rfl 79 _ rfl b (j * 6) [.string z5a,.slice s5b n5b c5b,.slice s5c n5c c5c,.slice s5d n5d c5d,.string z5e,.int .i64 z5f] (by simp [go_sem];try omega) ag_state sz_state HC.out ?_))
     refine (HXt.out _ _ _ _ _ HR.out HXX.out HTa.out).mono ?_
     rintro e w2 ⟨rfl,hf,ht⟩
     have HF2:Hid (Fr (·=pt) W1 w2):=HFa.out.trans hf (fun _ _ e=>e)
     have HT2:=hide ht
     clear hf ht
     go_wp2
     go_roundg (gk - 1)
     case measure=>have:=HJ.out;omega
     case rel=>exact ⟨j+1,by have:=HJ.out;omega,by go_num,HF2.out,by unfold Hid;rw [HG.out];exact HT2.out⟩
    ·have dj:decide (j < NS)=false:=by simp;omega
     have hjI:¬ ((j:Int) < (NS:Int)):=by omega
     have HE:Hid (x.states.take j=x.states):=List.take_of_length_le (by have:=HNS.out;omega)
     have HTSb:=HTS.out
     rw [HE.out] at HTSb
     have HTSe:=hide HTSb
     clear HTSb HE HJ
     obtain ⟨sx,cx,hvK,hmaxK,hitK⟩:=list_items HK.out (by decide)
     unfold maxLen at hmaxK
     injection hvK with e1 e2 e3
     subst e1 e2 e3
     obtain ⟨NK,hNK⟩:∃ N,N=x.keys.length:=⟨_,rfl⟩
     have HNK:=hide hNK
     have hmxK:NK≤9223372036854775807:=by omega
     have HITK:=hide hitK
     have gbK:=cellA ((HFS.out.block bx HBX.out.1 HBX.out.2.1).trans HBX.out.2.2) 8
     have hNrK:x.keys.length=NK:=hNK.symm
     rw [hNrK] at gbK
     clear hNK hNrK hitK hmaxK
     go_wp2
     go_loopg [39] NK (fun g i wr=>∃ j:Nat,j+g=NK∧i=.int .i64 (j:Int)∧Hid (Fr (·=pt) W1 wr)∧Hid (Tl wr pt ((x.keys.take j).foldl (fun S y=>exT 64 2 y.1 S) (x.states.foldl (fun S y=>stT y S) (x.fields.foldl (fun S _=>addT S 2) (addT S 1))))))
     case atStart=>exact ⟨0,by omega,rfl,HFS.out,HTSe.out⟩
     case round =>
      obtain ⟨j,hj,rfl,HFK,HTK⟩:=hrel
      have HJ:=hide hj
      clear hj gbK
      by_cases hlt:j < NK
      ·have hjl:j < x.keys.length:=by have:=HNK.out;omega
       have hjI:(j:Int) < (NK:Int):=by omega
       have dj:decide (j < NK)=true:=by simp;omega
       have HG:Hid ((x.keys.take (j+1)).foldl (fun S y=>exT 64 2 y.1 S) (x.states.foldl (fun S y=>stT y S) (x.fields.foldl (fun S _=>addT S 2) (addT S 1)))=(fun S y=>exT 64 2 y.1 S) ((x.keys.take j).foldl (fun S y=>exT 64 2 y.1 S) (x.states.foldl (fun S y=>stT y S) (x.fields.foldl (fun S _=>addT S 2) (addT S 1)))) x.keys[j]):=by unfold Hid;rw [List.take_succ_eq_append_getElem hjl,List.foldl_append];rfl
       generalize (x.keys.take j).foldl (fun S y=>exT 64 2 y.1 S) (x.states.foldl (fun S y=>stT y S) (x.fields.foldl (fun S _=>addT S 2) (addT S 1)))=S1 at *
       obtain ⟨b,rfl,hXb,hbl,hel⟩:∃ b,s4i=some ⟨b,0,none⟩∧X b∧b < W1.heap.size∧∀ j (hj:j < x.keys.length),∃ cs,cs.length=11∧KeyR W1 X (mkAgg cs) x.keys[j]∧∀ i (hi:i < cs.length),W1.cell? ⟨b,j * 11+i,none⟩=some cs[i]:=by
        rcases HITK.out with h | h
        ·rw [h] at hjl;simp at hjl
        ·exact h
       obtain ⟨cs,hcl,hrep,hcells⟩:=hel j hjl
       have hne:b ≠ pt:=fun e=>HXX.out (by rw [← e];exact hXb)
       have hcells':∀ i (hi:i < cs.length),wr.cell? ⟨b,j * 11+i,none⟩=some cs[i]:=fun i hi=>HFK.out.cell (hcells i hi) hne
       have hrep':=rep_fr keyR_ok hrep HFK.out HXX.out
       obtain ⟨z5a,z5b,z5c,z5d,z5e,z5f,z5g,z5h,s5i,n5i,c5i,z5j,z5k,hv⟩:=KeyR.form hrep'
       have hcs:cs=[.int .u8 z5a,.int .i64 z5b,.int .u64 z5c,.int .u64 z5d,.string z5e,.string z5f,.int .i64 z5g,.int .i64 z5h,.slice s5i n5i c5i,.int .i64 z5j,.int .u8 z5k]:=by unfold mkAgg at hv;injection hv with hv;have:=congrArg Array.toList hv;simpa using this
       subst hcs
       have HC:=hide hcells'
       have HR:=hide (keyR_ok.frame hrep' (W':=wr.alloc (.cells #[.int .u8 z5a,.int .i64 z5b,.int .u64 z5c,.int .u64 z5d,.string z5e,.string z5f,.int .i64 z5g,.int .i64 z5h,.slice s5i n5i c5i,.int .i64 z5j,.int .u8 z5k] 85)) (by rw [World.size_alloc];omega) (fun b hb hl=>heap_alloc_old _ _ hl))
       have HTa:=hide (HTK.out.alloc (.cells #[.int .u8 z5a,.int .i64 z5b,.int .u64 z5c,.int .u64 z5d,.string z5e,.string z5f,.int .i64 z5g,.int .i64 z5h,.slice s5i n5i c5i,.int .i64 z5j,.int .u8 z5k] 85))
       generalize hlj:x.keys[j]=y at *
       clear hlj hcells hcells' hrep hrep' hv hcl hel hXb hbl
       have HFa:Hid (Fr (·=pt) W1 (wr.alloc (.cells #[.int .u8 z5a,.int .i64 z5b,.int .u64 z5c,.int .u64 z5d,.string z5e,.string z5f,.int .i64 z5g,.int .i64 z5h,.slice s5i n5i c5i,.int .i64 z5j,.int .u8 z5k] 85))):=HFK.out.alloc _
       have HRe:=hide (key_expr HR.out)
       go_wp2_with (first | (refine wpList_loadO rfl 85 _ rfl b (j * 11) [.int .u8 z5a,.int .i64 z5b,.int .u64 z5c,.int .u64 z5d,.string z5e,.string z5f,.int .i64 z5g,.int .i64 z5h,.slice s5i n5i c5i,.int .i64 z5j,.int .u8 z5k] (by simp [go_sem];try omega) ag_key sz_key HC.out ?_))
       refine (HXe.out _ _ _ _ _ HRe.out HXX.out HTa.out).mono ?_
       rintro e w2 ⟨rfl,hf,ht⟩
       have HF2:Hid (Fr (·=pt) W1 w2):=HFa.out.trans hf (fun _ _ e=>e)
       have HT2:=hide ht
       clear hf ht
       go_wp2
       go_roundg (gk - 1)
       case measure=>have:=HJ.out;omega
       case rel=>exact ⟨j+1,by have:=HJ.out;omega,by go_num,HF2.out,by unfold Hid;rw [HG.out];exact HT2.out⟩
      ·have dj:decide (j < NK)=false:=by simp;omega
       have hjI:¬ ((j:Int) < (NK:Int)):=by omega
       have HE:Hid (x.keys.take j=x.keys):=List.take_of_length_le (by have:=HNK.out;omega)
       have HTKb:=HTK.out
       rw [HE.out] at HTKb
       have HTKe:=hide HTKb
       clear HTKb HE HJ
       have HB3:=hide (rep_fr (ListR.ok smRep_ok mkAgg 9) HB.out HFK.out HXX.out)
       have gb:=cellA ((HFK.out.block bx HBX.out.1 HBX.out.2.1).trans HBX.out.2.2) 12
       go_wp2_with fail
       refine (HXb.out _ _ _ _ _ HB3.out HXX.out HTKe.out).mono ?_
       rintro e w9 ⟨rfl,hf,ht⟩
       have HF9:Hid (Fr (·=pt) W1 w9):=HFK.out.trans hf (fun _ _ e=>e)
       have HT9:=hide ht
       clear hf ht gb
       go_wp2
       go_end0
       exact ⟨rfl,HW1.out.trans HF9.out (fun _ _ e=>e),by rw [HRR.out];exact HT9.out⟩
def limT (l:List Dc):Bool:=(l.foldl (fun S y=>dcT y S) ((0:Int),false)).2
set_option maxRecDepth 100000 in
set_option maxHeartbeats 8000000 in
theorem above_ok {W:World} {X:Nat→Prop} {v:Value} {l:List Dc} (hl:ListR DeclR mkAgg 15 W X v l) (hX:¬ X W.heap.size):Calls Tryz.prog 19 #[v] W fun e w'=>e=.returned (.bool (limT l))∧Below W.heap.size W w':=by
 obtain ⟨s,c,rfl,hmax,hit⟩:=list_items ((ListR.ok declR_ok mkAgg 15).frame hl (W':=W.alloc (.cells #[.int .i64 0,.bool false] 95)) (by rw [World.size_alloc];omega) (fun b hb hl=>heap_alloc_old _ _ hl)) (by decide)
 unfold maxLen at hmax
 obtain ⟨pt,hpt⟩:∃ pt,pt=W.heap.size:=⟨_,rfl⟩
 have HIT:=hide hit
 have HXX:Hid (¬ X pt):=by rw [hpt];exact hX
 have HXk:Hid (TOk 32 pt DeclR 1 dcT):=tdecl_ok
 have HT0:Hid (Tl (W.alloc (.cells #[.int .i64 0,.bool false] 95)) pt (0,false)):=by rw [hpt];exact heap_alloc_new W _
 have HW1:Hid (Below W.heap.size W (W.alloc (.cells #[.int .i64 0,.bool false] 95))):=(Below.refl _ _).alloc (Nat.le_refl _) _
 have HPT:=hide hpt
 obtain ⟨N,hN⟩:∃ N,N=l.length:=⟨_,rfl⟩
 have HNN:=hide hN
 rw [← hN]
 have hmx:N≤9223372036854775807:=by omega
 clear hl hit hX hN hmax
 go_enter Tryz.func19,Tryz.ntmps19
 go_wp2
 rw [← hpt]
 clear hpt
 generalize W.alloc (.cells #[.int .i64 0,.bool false] 95)=W1 at *
 go_loopg [8] N (fun g i wr=>∃ j:Nat,j+g=N∧i=.int .i64 (j:Int)∧Hid (Fr (·=pt) W1 wr)∧Hid (Tl wr pt ((l.take j).foldl (fun S y=>dcT y S) ((0:Int),false))))
 case atStart=>exact ⟨0,by omega,rfl,Fr.refl _ _,HT0.out⟩
 case round =>
  obtain ⟨j,hj,rfl,HF,HT⟩:=hrel
  have HJ:=hide hj
  clear hj HT0
  by_cases hlt:j < N
  ·have hjl:j < l.length:=by have:=HNN.out;omega
   have hjI:(j:Int) < (N:Int):=by omega
   have dj:decide (j < N)=true:=by simp;omega
   obtain ⟨b,rfl,hXb,hbl,hel⟩:∃ b,s=some ⟨b,0,none⟩∧X b∧b < W1.heap.size∧∀ j (hj:j < l.length),∃ cs,cs.length=15∧DeclR W1 X (mkAgg cs) l[j]∧∀ i (hi:i < cs.length),W1.cell? ⟨b,j * 15+i,none⟩=some cs[i]:=by
    rcases HIT.out with h | h
    ·rw [h] at hjl;simp at hjl
    ·exact h
   obtain ⟨cs,hcl,hrep,hcells⟩:=hel j hjl
   have hne:b ≠ pt:=fun e=>HXX.out (by rw [← e];exact hXb)
   have hcells':∀ i (hi:i < cs.length),wr.cell? ⟨b,j * 15+i,none⟩=some cs[i]:=fun i hi=>HF.out.cell (hcells i hi) hne
   have hrep':=rep_fr declR_ok hrep HF.out HXX.out
   obtain ⟨z5a,z5b,s5c,n5c,c5c,z5d,z5e,z5f,z5g,s5h,n5h,c5h,s5i,n5i,c5i,s5j,n5j,c5j,z5k,s5l,n5l,c5l,s5m,n5m,c5m,s5n,n5n,c5n,z5o,hv⟩:=DeclR.form hrep'
   have hcs:cs=[.int .u8 z5a,.string z5b,.slice s5c n5c c5c,.int .i64 z5d,.int .i64 z5e,.int .i64 z5f,.int .i64 z5g,.slice s5h n5h c5h,.slice s5i n5i c5i,.slice s5j n5j c5j,.string z5k,.slice s5l n5l c5l,.slice s5m n5m c5m,.slice s5n n5n c5n,.int .i64 z5o]:=by unfold mkAgg at hv;injection hv with hv;have:=congrArg Array.toList hv;simpa using this
   subst hcs
   have HC:=hide hcells'
   have HR:=hide (declR_ok.frame hrep' (W':=wr.alloc (.cells #[.int .u8 z5a,.string z5b,.slice s5c n5c c5c,.int .i64 z5d,.int .i64 z5e,.int .i64 z5f,.int .i64 z5g,.slice s5h n5h c5h,.slice s5i n5i c5i,.slice s5j n5j c5j,.string z5k,.slice s5l n5l c5l,.slice s5m n5m c5m,.slice s5n n5n c5n,.int .i64 z5o] 69)) (by rw [World.size_alloc];omega) (fun b hb hl=>heap_alloc_old _ _ hl))
   have HTa:=hide (HT.out.alloc (.cells #[.int .u8 z5a,.string z5b,.slice s5c n5c c5c,.int .i64 z5d,.int .i64 z5e,.int .i64 z5f,.int .i64 z5g,.slice s5h n5h c5h,.slice s5i n5i c5i,.slice s5j n5j c5j,.string z5k,.slice s5l n5l c5l,.slice s5m n5m c5m,.slice s5n n5n c5n,.int .i64 z5o] 69))
   have HBa:=hide (heap_alloc_new wr (.cells #[.int .u8 z5a,.string z5b,.slice s5c n5c c5c,.int .i64 z5d,.int .i64 z5e,.int .i64 z5f,.int .i64 z5g,.slice s5h n5h c5h,.slice s5i n5i c5i,.slice s5j n5j c5j,.string z5k,.slice s5l n5l c5l,.slice s5m n5m c5m,.slice s5n n5n c5n,.int .i64 z5o] 69))
   have HG:Hid ((l.take (j+1)).foldl (fun S y=>dcT y S) ((0:Int),false)=dcT l[j] ((l.take j).foldl (fun S y=>dcT y S) ((0:Int),false))):=by
    unfold Hid;rw [List.take_succ_eq_append_getElem hjl,List.foldl_append];rfl
   generalize hlj:l[j]=y at *
   clear hlj hcells hcells' hrep hrep' hv hcl hel hXb hbl
   go_wp2_with (first | (refine wpList_loadO rfl 69 _ rfl b (j * 15) [.int .u8 z5a,.string z5b,.slice s5c n5c c5c,.int .i64 z5d,.int .i64 z5e,.int .i64 z5f,.int .i64 z5g,.slice s5h n5h c5h,.slice s5i n5i c5i,.slice s5j n5j c5j,.string z5k,.slice s5l n5l c5l,.slice s5m n5m c5m,.slice s5n n5n c5n,.int .i64 z5o] (by simp [go_sem];try omega) ag_decl sz_decl HC.out ?_) | (refine wpList_loadA rfl 69 _ rfl _ [.int .u8 z5a,.string z5b,.slice s5c n5c c5c,.int .i64 z5d,.int .i64 z5e,.int .i64 z5f,.int .i64 z5g,.slice s5h n5h c5h,.slice s5i n5i c5i,.slice s5j n5j c5j,.string z5k,.slice s5l n5l c5l,.slice s5m n5m c5m,.slice s5n n5n c5n,.int .i64 z5o] 69 rfl ag_decl sz_decl HBa.out ?_))
   refine (HXk.out _ _ _ _ _ HR.out HXX.out HTa.out).mono ?_
   rintro e w2 ⟨rfl,hf,ht⟩
   have HF2:Hid (Fr (·=pt) W1 w2):=(HF.out.alloc _).trans hf (fun _ _ e=>e)
   have HT2:=hide ht
   clear hf ht
   go_wp2
   go_roundg (gk - 1)
   case measure=>have:=HJ.out;omega
   case rel=>exact ⟨j+1,by have:=HJ.out;omega,by go_num,HF2.out,by unfold Hid;rw [HG.out];exact HT2.out⟩
  ·have dj:decide (j < N)=false:=by simp;omega
   have hjI:¬ ((j:Int) < (N:Int)):=by omega
   have hE:l.take j=l:=List.take_of_length_le (by have:=HNN.out;omega)
   have hT9:=HT.out
   rw [hE] at hT9
   unfold Tl at hT9
   have g1:=cellA hT9 1
   have HL:Hid (limT l=(l.foldl (fun S y=>dcT y S) ((0:Int),false)).2):=rfl
   have HB9:Hid (Below W.heap.size W wr):=HW1.out.trans (HF.out.below (fun b e=>by have e':b=pt:=e;have:=HPT.out;omega) HW1.out.size)
   clear hE hT9
   generalize (l.foldl (fun S y=>dcT y S) ((0:Int),false)).2=bb at *
   go_wp2
   go_ret
   exact ⟨by rw [HL.out];rfl,HB9.out⟩
end Go.Proofs.YtabkimknlifdoaaGreatDoor
