/- Pieces of the proof: PaJk, PaJl, PaNd. -/
import Derived.Test.YtabkimknlifdoaaGreatDoorJ14
import Derived.Test.YtabkimknlifdoaaGreatDoorJ16
import Derived.Deep.LoopGhost
namespace Go.Proofs.YtabkimknlifdoaaGreatDoor
open Go.RowKit
def ifIs {α:Type} (n:List UInt8) (a b:Pf α):Pf α:=fun L k=>if decide (n=metaL)=false∧passedP [40] L k=true then a L k else b L k
theorem ifIs_meta {α:Type} {n:List UInt8} {a b:Pf α} {L:List (Wd × Nat)} {k:Nat} (h:decide (n=metaL)=true):ifIs n a b L k=b L k:=by unfold ifIs;rw [if_neg (fun x=>by rw [h] at x;exact Bool.noConfusion x.1)]
theorem ifIs_yes {α:Type} {n:List UInt8} {a b:Pf α} {L:List (Wd × Nat)} {k:Nat} (h:decide (n=metaL)=false) (h':passedP [40] L k=true):ifIs n a b L k=a L k:=by unfold ifIs;rw [if_pos ⟨h,h'⟩]
theorem ifIs_no {α:Type} {n:List UInt8} {a b:Pf α} {L:List (Wd × Nat)} {k:Nat} (_h:decide (n=metaL)=false) (h':passedP [40] L k=false):ifIs n a b L k=b L k:=by unfold ifIs;rw [if_neg (fun x=>by rw [h'] at x;exact Bool.noConfusion x.2)]
def setOrCallP (ex:Pf Ex) (be:Pf (List Ex)):Pf Sm:=ownerP.bind fun n=>ifIs n ((callP be n).bind Pf.ret) (fieldOfP.bind fun f=>(passP [[61]]).bind fun _=>(closedP ex).bind fun x=>Pf.ret { sm0 1 with name:=n,field:=f,args:=[x] })
theorem str_meta {W:World} {X:Nat→Prop} {t:ByteArray} {x:List UInt8} (h:StrV W X (.string t) x):(t.toList == [109,101,116,97])=decide (x=metaL):=by
 rw [StrV.eq h,Lib.toList_data,txt_data]
 by_cases e:x=metaL
 ·rw [decide_eq_true e,e];rfl
 ·rw [decide_eq_false e];exact beq_eq_false_iff_ne.2 e
set_option maxRecDepth 100000 in
set_option maxHeartbeats 4000000 in
theorem setOrCall_ok {p q:Nat} {L:List (Wd × Nat)} {dm sm:Value} {I:World→Prop} {ex:Pf Ex} {be:Pf (List Ex)} (hL:OkL L) (hI:Stb I p q L dm sm) (hCl:∀ n,PfI I 230 #[.pointer (some ⟨p,0,none⟩),.string (txt n)] p q L dm sm 0 (callP be n) (SmR)) (HCx:PfI I 117 #[.pointer (some ⟨p,0,none⟩),.func (Fn.func 112) #[.pointer (some ⟨p,0,none⟩)] #[]] p q L dm sm 0 (closedP ex) (ExR)) :
  PfI I 202 #[.pointer (some ⟨p,0,none⟩)] p q L dm sm 0 (setOrCallP ex be) (SmR):=by
 intro w k hk h hi
 have HI:Hid (∀ W k',Rp w W p q L k' dm sm→I W):=fun W k' r=>hI w W k' r hi
 have HL:=hide hL
 have HKK:=hide hk
 have HOw:=hide (owner_i (I:=I) (p:=p) (q:=q) (dm:=dm) (sm:=sm) (k0:=0) hL)
 have HFo:=hide (fieldOf_i (I:=I) (p:=p) (q:=q) (dm:=dm) (sm:=sm) (k0:=0) hL)
 have HCx:=hide HCx
 have HCl:=hCl
 clear hCl
 have S0:=hide (Sp.start h)
 obtain ⟨RR,hRR⟩:∃ RR,RR=(setOrCallP ex be) L k:=⟨_,rfl⟩
 rw [← hRR]
 have Q0:=hide hRR
 clear hRR h hi hk hL hI
 go_enter Tryz.func202,Tryz.ntmps202
 have C1:Hid (Sp w _ p q L k dm sm [(w.heap.size,.cells #[.int .u8 0,.string ⟨#[]⟩,.string ⟨#[]⟩,.string ⟨#[]⟩,.int .i64 0,.slice none 0 0,.slice none 0 0,.slice none 0 0,.int .i64 0] 72 (0,0))] _):=(S0.out.alloc #[.int .u8 0,.string ⟨#[]⟩,.string ⟨#[]⟩,.string ⟨#[]⟩,.int .i64 0,.slice none 0 0,.slice none 0 0,.slice none 0 0,.int .i64 0] 72 (w.heap.size) rfl)
 go_wp2_with fail
 refine (HOw.out _ _ (Nat.zero_le _) C1.out.rr.here (HI.out _ _ C1.out.rr)).mono ?_
 rintro e w1 (⟨x1,k1,v,h1,rfl,hv,hr⟩ | ⟨k1,h1,rfl,hr⟩)
 ·obtain ⟨t1,rfl⟩:=StrV.form hv
  have S1:=hide (C1.out.call strV_ok hr hv)
  have Q1:=hide (Q0.out.trans (bind_ok h1))
  have HB1:=hide (str_meta hv)
  have HT1:=hide (StrV.eq hv)
  clear hr h1 hv C1
  cases hm:decide (x1=metaL) with
  | true =>
   have Q2:=hide (Q1.out.trans (ifIs_meta hm))
   have hb1:=HB1.out
   rw [hm] at hb1
   clear hm
   go_wp2_with fail
   refine (HFo.out _ _ (Nat.zero_le _) S1.out.rr.here (HI.out _ _ S1.out.rr)).mono ?_
   rintro e w3 (⟨x3,k3,v,h3,rfl,hv,hr⟩ | ⟨k3,h3,rfl,hr⟩)
   ·obtain ⟨t3,rfl⟩:=StrV.form hv
    have S3:=hide (S1.out.call strV_ok hr hv)
    have Q3:=hide (Q2.out.trans (bind_ok h3))
    clear hr h3 hv
    have C4:Hid (Sp w _ p q L k3 dm sm [(w3.heap.size,.cells #[.int .u8 1,.string t1,.string t3,.string ⟨#[]⟩,.int .i64 0,.slice none 0 0,.slice none 0 0,.slice none 0 0,.int .i64 0] 72 (0,0)),(w.heap.size,.cells #[.int .u8 0,.string ⟨#[]⟩,.string ⟨#[]⟩,.string ⟨#[]⟩,.int .i64 0,.slice none 0 0,.slice none 0 0,.slice none 0 0,.int .i64 0] 72 (0,0))] _):=(S3.out.alloc #[.int .u8 1,.string t1,.string t3,.string ⟨#[]⟩,.int .i64 0,.slice none 0 0,.slice none 0 0,.slice none 0 0,.int .i64 0] 72 (w3.heap.size) rfl)
    go_wp2_with fail
    refine (pass_lay C4.out.rr HL.out [[61]] (by decide) (by decide) #[.string ⟨#[61]⟩] rfl 9 _ 1 (by first | rfl | simp | simp [World.size_alloc] | simp [World.setCell] | simp [World.setCell,World.size_alloc]) rfl).mono ?_
    rintro e w4 (⟨x4,k4,v,h4,rfl,hv,hr⟩ | ⟨k4,h4,rfl,hr⟩)
    ·obtain rfl:v=.tuple #[]:=hv
     have S4:=hide (C4.out.go hr)
     have Q4:=hide (Q3.out.trans (bind_ok h4))
     clear hr h4 C4
     go_wp2_with fail
     refine (HCx.out _ _ (Nat.zero_le _) S4.out.rr.here (HI.out _ _ S4.out.rr)).mono ?_
     rintro e w5 (⟨x5,k5,v,h5,rfl,hv,hr⟩ | ⟨k5,h5,rfl,hr⟩)
     ·obtain ⟨z5a,z5b,z5c,z5d,z5e,z5f,z5g,z5h,s5i,n5i,c5i,z5j,rfl⟩:=ExR.form hv
      have S5:=hide (S4.out.call exRep_ok hr hv)
      have Q5:=hide (Q4.out.trans (bind_ok h5))
      clear hr h5 hv
      have Q6:Hid (RR=.ok (({ sm0 1 with name:=x1,field:=x3,args:=[x5] }:Sm),k5)):=Q5.out.trans rfl
      have XL:Hid (∀ W,((ExR) W (Bn w W) (.agg #[.int .u8 z5a,.int .i64 z5b,.int .u64 z5c,.int .u64 z5d,.string z5e,.string z5f,.int .i64 z5g,.int .i64 z5h,.slice s5i n5i c5i,.int .i64 z5j]) x5∧(StrV) W (Bn w W) (.string t3) x3∧(StrV) W (Bn w W) (.string t1) x1∧True)→W.heap[w5.heap.size]? = some (.cells #[.int .u8 z5a,.int .i64 z5b,.int .u64 z5c,.int .u64 z5d,.string z5e,.string z5f,.int .i64 z5g,.int .i64 z5h,.slice s5i n5i c5i,.int .i64 z5j] 49 (0,0))→Bn w W (w5.heap.size)→(SmR) W (Bn w W) (.agg #[.int .u8 1,.string t1,.string t3,.string ⟨#[]⟩,.int .i64 0,.slice (some ⟨w5.heap.size,0,none⟩) 1 1,.slice none 0 0,.slice none 0 0,.int .i64 0]) ({ sm0 1 with name:=x1,field:=x3,args:=[x5] }:Sm)):=by
       rintro W ⟨X5,X3,X1,_⟩ hb0 hx0
       obtain rfl:=StrV.eq X3
       obtain rfl:=StrV.eq X1
       exact SmR.mk (x:=({ sm0 1 with name:=x1,field:=x3,args:=[x5] }:Sm)) (lit1 (mk:=mkAgg) (cs:=[.int .u8 z5a,.int .i64 z5b,.int .u64 z5c,.int .u64 z5d,.string z5e,.string z5f,.int .i64 z5g,.int .i64 z5h,.slice s5i n5i c5i,.int .i64 z5j]) hb0 hx0 rfl X5) ListR.none ListR.none
      have CF:Hid (Sp w _ p q L k5 dm sm [(w5.heap.size,.cells #[.int .u8 z5a,.int .i64 z5b,.int .u64 z5c,.int .u64 z5d,.string z5e,.string z5f,.int .i64 z5g,.int .i64 z5h,.slice s5i n5i c5i,.int .i64 z5j] 49 (0,0)),(w3.heap.size,.cells #[.int .u8 1,.string t1,.string t3,.string ⟨#[]⟩,.int .i64 0,.slice (some ⟨w5.heap.size,0,none⟩) 1 1,.slice none 0 0,.slice none 0 0,.int .i64 0] 72 (0,0)),(w.heap.size,.cells #[.int .u8 0,.string ⟨#[]⟩,.string ⟨#[]⟩,.string ⟨#[]⟩,.int .i64 0,.slice none 0 0,.slice none 0 0,.slice none 0 0,.int .i64 0] 72 (0,0))] _):=((S5.out.alloc #[.int .u8 z5a,.int .i64 z5b,.int .u64 z5c,.int .u64 z5d,.string z5e,.string z5f,.int .i64 z5g,.int .i64 z5h,.slice s5i n5i c5i,.int .i64 z5j] 49 (w5.heap.size) rfl).set1 5 (.slice (some ⟨w5.heap.size,0,none⟩) 1 1))
      have P1:Hid (Sp w _ p q L k5 dm sm [(w5.heap.size,.cells #[.int .u8 z5a,.int .i64 z5b,.int .u64 z5c,.int .u64 z5d,.string z5e,.string z5f,.int .i64 z5g,.int .i64 z5h,.slice s5i n5i c5i,.int .i64 z5j] 49 (0,0)),(w3.heap.size,.cells #[.int .u8 1,.string t1,.string t3,.string ⟨#[]⟩,.int .i64 0,.slice none 0 0,.slice none 0 0,.slice none 0 0,.int .i64 0] 72 (0,0)),(w.heap.size,.cells #[.int .u8 0,.string ⟨#[]⟩,.string ⟨#[]⟩,.string ⟨#[]⟩,.int .i64 0,.slice none 0 0,.slice none 0 0,.slice none 0 0,.int .i64 0] 72 (0,0))] _):=(S5.out.alloc #[.int .u8 z5a,.int .i64 z5b,.int .u64 z5c,.int .u64 z5d,.string z5e,.string z5f,.int .i64 z5g,.int .i64 z5h,.slice s5i n5i c5i,.int .i64 z5j] 49 (w5.heap.size) rfl)
      have gc2:=cellA P1.out.b1 5;have gs2:=softA P1.out.b1 5
      go_wp2_with (first | (refine wpList_loadA rfl 72 _ rfl _ [.int .u8 1,.string t1,.string t3,.string ⟨#[]⟩,.int .i64 0,.slice (some ⟨w5.heap.size,0,none⟩) 1 1,.slice none 0 0,.slice none 0 0,.int .i64 0] 72 rfl ag_stmt sz_stmt CF.out.b1 ?_) | (refine wpList_storeA rfl 72 _ _ rfl _ [.int .u8 1,.string t1,.string t3,.string ⟨#[]⟩,.int .i64 0,.slice (some ⟨w5.heap.size,0,none⟩) 1 1,.slice none 0 0,.slice none 0 0,.int .i64 0] #[.int .u8 0,.string ⟨#[]⟩,.string ⟨#[]⟩,.string ⟨#[]⟩,.int .i64 0,.slice none 0 0,.slice none 0 0,.slice none 0 0,.int .i64 0] 72 rfl rfl sz_stmt CF.out.b2 rfl (by intro u hu;simp at hu;rcases hu with rfl | rfl | rfl | rfl | rfl | rfl | rfl | rfl | rfl <;> rfl) ?_;intro w9 hw9;have HW9:=hide hw9;clear hw9))
      have SF:=CF.out.fill2 [.int .u8 1,.string t1,.string t3,.string ⟨#[]⟩,.int .i64 0,.slice (some ⟨w5.heap.size,0,none⟩) 1 1,.slice none 0 0,.slice none 0 0,.int .i64 0] rfl
      rw [← HW9.out] at SF
      have HXE:=hide (XL.out _ SF.fin SF.b0 SF.l0)
      have HRR:=hide SF.rr
      have HBB:=SF.b2
      clear SF
      refine bodyPost_ret (v:=.agg #[.int .u8 1,.string t1,.string t3,.string ⟨#[]⟩,.int .i64 0,.slice (some ⟨w5.heap.size,0,none⟩) 1 1,.slice none 0 0,.slice none 0 0,.int .i64 0]) (res_cell (cs:=[.int .u8 1,.string t1,.string t3,.string ⟨#[]⟩,.int .i64 0,.slice (some ⟨w5.heap.size,0,none⟩) 1 1,.slice none 0 0,.slice none 0 0,.int .i64 0]) (e:=72) Tryz.results202 rfl ag_stmt sz_stmt HBB) rfl ?_
      exact .inl ⟨({ sm0 1 with name:=x1,field:=x3,args:=[x5] }:Sm),k5,_,Q6.out,rfl,HXE.out,HRR.out⟩
     ·have R5:=hide (S4.out.rr.from hr)
      have Q5:=hide (Q4.out.trans (bind_err h5))
      clear hr h5
      go_wp2
      exact ⟨rfl,.inr ⟨_,Q5.out,rfl,R5.out⟩⟩
    ·have R4:=hide (C4.out.rr.from hr)
     have Q4:=hide (Q3.out.trans (bind_err h4))
     clear hr h4
     go_wp2
     exact ⟨rfl,.inr ⟨_,Q4.out,rfl,R4.out⟩⟩
   ·have R3:=hide (S1.out.rr.from hr)
    have Q3:=hide (Q2.out.trans (bind_err h3))
    clear hr h3
    go_wp2
    exact ⟨rfl,.inr ⟨_,Q3.out,rfl,R3.out⟩⟩
  | false =>
   have hb1:=HB1.out
   rw [hm] at hb1
   have HMM:=hide hm
   clear hm
   have HIs:=hide (isP_any S1.out.rr [40])
   have hT:txt [40]=⟨#[40]⟩:=rfl
   rw [hT] at HIs
   clear hT
   cases hp:passedP [40] L k1 with
   | true =>
    rw [hp] at HIs
    have Q2:=hide (Q1.out.trans (ifIs_yes HMM.out hp))
    clear hp
    go_wp2_with fail
    refine HIs.out.mono ?_
    rintro e w2 ⟨rfl,hr⟩
    have S2:=hide (S1.out.go hr)
    clear hr
    have HC1:=hide (HCl x1)
    rw [← HT1.out] at HC1
    go_wp2_with fail
    refine (HC1.out _ _ (Nat.zero_le _) S2.out.rr.here (HI.out _ _ S2.out.rr)).mono ?_
    rintro e w3 (⟨x3,k3,v,h3,rfl,hv,hr⟩ | ⟨k3,h3,rfl,hr⟩)
    ·obtain ⟨z3a,z3b,z3c,z3d,z3e,s3f,n3f,c3f,s3g,n3g,c3g,s3h,n3h,c3h,z3i,rfl⟩:=SmR.form hv
     have S3:=hide (S2.out.call smRep_ok hr hv)
     have Q3:=hide (Q2.out.trans (bind_ok h3))
     clear hr h3 hv
     have Q4:Hid (RR=.ok (x3,k3)):=Q3.out.trans rfl
     have XL:Hid (∀ W,((SmR) W (Bn w W) (.agg #[.int .u8 z3a,.string z3b,.string z3c,.string z3d,.int .i64 z3e,.slice s3f n3f c3f,.slice s3g n3g c3g,.slice s3h n3h c3h,.int .i64 z3i]) x3∧(StrV) W (Bn w W) (.string t1) x1∧True)→(SmR) W (Bn w W) (.agg #[.int .u8 z3a,.string z3b,.string z3c,.string z3d,.int .i64 z3e,.slice s3f n3f c3f,.slice s3g n3g c3g,.slice s3h n3h c3h,.int .i64 z3i]) x3):=by
      rintro W ⟨X3,X1,_⟩
      obtain rfl:=StrV.eq X1
      exact X3
     have CF:Hid (Sp w _ p q L k3 dm sm [(w.heap.size,.cells #[.int .u8 0,.string ⟨#[]⟩,.string ⟨#[]⟩,.string ⟨#[]⟩,.int .i64 0,.slice none 0 0,.slice none 0 0,.slice none 0 0,.int .i64 0] 72 (0,0))] _):=S3.out
     go_wp2_with (first | (refine wpList_storeA rfl 72 _ _ rfl _ [.int .u8 z3a,.string z3b,.string z3c,.string z3d,.int .i64 z3e,.slice s3f n3f c3f,.slice s3g n3g c3g,.slice s3h n3h c3h,.int .i64 z3i] #[.int .u8 0,.string ⟨#[]⟩,.string ⟨#[]⟩,.string ⟨#[]⟩,.int .i64 0,.slice none 0 0,.slice none 0 0,.slice none 0 0,.int .i64 0] 72 rfl rfl sz_stmt CF.out.b0 rfl (by intro u hu;simp at hu;rcases hu with rfl | rfl | rfl | rfl | rfl | rfl | rfl | rfl | rfl <;> rfl) ?_;intro w9 hw9;have HW9:=hide hw9;clear hw9))
     have SF:=CF.out.fill0 [.int .u8 z3a,.string z3b,.string z3c,.string z3d,.int .i64 z3e,.slice s3f n3f c3f,.slice s3g n3g c3g,.slice s3h n3h c3h,.int .i64 z3i] rfl
     rw [← HW9.out] at SF
     have HXE:=hide (XL.out _ SF.fin)
     have HRR:=hide SF.rr
     have HBB:=SF.b0
     clear SF
     refine bodyPost_ret (v:=.agg #[.int .u8 z3a,.string z3b,.string z3c,.string z3d,.int .i64 z3e,.slice s3f n3f c3f,.slice s3g n3g c3g,.slice s3h n3h c3h,.int .i64 z3i]) (res_cell (cs:=[.int .u8 z3a,.string z3b,.string z3c,.string z3d,.int .i64 z3e,.slice s3f n3f c3f,.slice s3g n3g c3g,.slice s3h n3h c3h,.int .i64 z3i]) (e:=72) Tryz.results202 rfl ag_stmt sz_stmt HBB) rfl ?_
     exact .inl ⟨x3,k3,_,Q4.out,rfl,HXE.out,HRR.out⟩
    ·have R3:=hide (S2.out.rr.from hr)
     have Q3:=hide (Q2.out.trans (bind_err h3))
     clear hr h3
     go_wp2
     exact ⟨rfl,.inr ⟨_,Q3.out,rfl,R3.out⟩⟩
   | false =>
    rw [hp] at HIs
    have Q2:=hide (Q1.out.trans (ifIs_no HMM.out hp))
    clear hp
    go_wp2_with fail
    refine HIs.out.mono ?_
    rintro e w2 ⟨rfl,hr⟩
    have S2:=hide (S1.out.go hr)
    clear hr
    go_wp2_with fail
    refine (HFo.out _ _ (Nat.zero_le _) S2.out.rr.here (HI.out _ _ S2.out.rr)).mono ?_
    rintro e w3 (⟨x3,k3,v,h3,rfl,hv,hr⟩ | ⟨k3,h3,rfl,hr⟩)
    ·obtain ⟨t3,rfl⟩:=StrV.form hv
     have S3:=hide (S2.out.call strV_ok hr hv)
     have Q3:=hide (Q2.out.trans (bind_ok h3))
     clear hr h3 hv
     have C4:Hid (Sp w _ p q L k3 dm sm [(w3.heap.size,.cells #[.int .u8 1,.string t1,.string t3,.string ⟨#[]⟩,.int .i64 0,.slice none 0 0,.slice none 0 0,.slice none 0 0,.int .i64 0] 72 (0,0)),(w.heap.size,.cells #[.int .u8 0,.string ⟨#[]⟩,.string ⟨#[]⟩,.string ⟨#[]⟩,.int .i64 0,.slice none 0 0,.slice none 0 0,.slice none 0 0,.int .i64 0] 72 (0,0))] _):=(S3.out.alloc #[.int .u8 1,.string t1,.string t3,.string ⟨#[]⟩,.int .i64 0,.slice none 0 0,.slice none 0 0,.slice none 0 0,.int .i64 0] 72 (w3.heap.size) rfl)
     go_wp2_with fail
     refine (pass_lay C4.out.rr HL.out [[61]] (by decide) (by decide) #[.string ⟨#[61]⟩] rfl 9 _ 1 (by first | rfl | simp | simp [World.size_alloc] | simp [World.setCell] | simp [World.setCell,World.size_alloc]) rfl).mono ?_
     rintro e w4 (⟨x4,k4,v,h4,rfl,hv,hr⟩ | ⟨k4,h4,rfl,hr⟩)
     ·obtain rfl:v=.tuple #[]:=hv
      have S4:=hide (C4.out.go hr)
      have Q4:=hide (Q3.out.trans (bind_ok h4))
      clear hr h4 C4
      go_wp2_with fail
      refine (HCx.out _ _ (Nat.zero_le _) S4.out.rr.here (HI.out _ _ S4.out.rr)).mono ?_
      rintro e w5 (⟨x5,k5,v,h5,rfl,hv,hr⟩ | ⟨k5,h5,rfl,hr⟩)
      ·obtain ⟨z5a,z5b,z5c,z5d,z5e,z5f,z5g,z5h,s5i,n5i,c5i,z5j,rfl⟩:=ExR.form hv
       have S5:=hide (S4.out.call exRep_ok hr hv)
       have Q5:=hide (Q4.out.trans (bind_ok h5))
       clear hr h5 hv
       have Q6:Hid (RR=.ok (({ sm0 1 with name:=x1,field:=x3,args:=[x5] }:Sm),k5)):=Q5.out.trans rfl
       have XL:Hid (∀ W,((ExR) W (Bn w W) (.agg #[.int .u8 z5a,.int .i64 z5b,.int .u64 z5c,.int .u64 z5d,.string z5e,.string z5f,.int .i64 z5g,.int .i64 z5h,.slice s5i n5i c5i,.int .i64 z5j]) x5∧(StrV) W (Bn w W) (.string t3) x3∧(StrV) W (Bn w W) (.string t1) x1∧True)→W.heap[w5.heap.size]? = some (.cells #[.int .u8 z5a,.int .i64 z5b,.int .u64 z5c,.int .u64 z5d,.string z5e,.string z5f,.int .i64 z5g,.int .i64 z5h,.slice s5i n5i c5i,.int .i64 z5j] 49 (0,0))→Bn w W (w5.heap.size)→(SmR) W (Bn w W) (.agg #[.int .u8 1,.string t1,.string t3,.string ⟨#[]⟩,.int .i64 0,.slice (some ⟨w5.heap.size,0,none⟩) 1 1,.slice none 0 0,.slice none 0 0,.int .i64 0]) ({ sm0 1 with name:=x1,field:=x3,args:=[x5] }:Sm)):=by
        rintro W ⟨X5,X3,X1,_⟩ hb0 hx0
        obtain rfl:=StrV.eq X3
        obtain rfl:=StrV.eq X1
        exact SmR.mk (x:=({ sm0 1 with name:=x1,field:=x3,args:=[x5] }:Sm)) (lit1 (mk:=mkAgg) (cs:=[.int .u8 z5a,.int .i64 z5b,.int .u64 z5c,.int .u64 z5d,.string z5e,.string z5f,.int .i64 z5g,.int .i64 z5h,.slice s5i n5i c5i,.int .i64 z5j]) hb0 hx0 rfl X5) ListR.none ListR.none
       have CF:Hid (Sp w _ p q L k5 dm sm [(w5.heap.size,.cells #[.int .u8 z5a,.int .i64 z5b,.int .u64 z5c,.int .u64 z5d,.string z5e,.string z5f,.int .i64 z5g,.int .i64 z5h,.slice s5i n5i c5i,.int .i64 z5j] 49 (0,0)),(w3.heap.size,.cells #[.int .u8 1,.string t1,.string t3,.string ⟨#[]⟩,.int .i64 0,.slice (some ⟨w5.heap.size,0,none⟩) 1 1,.slice none 0 0,.slice none 0 0,.int .i64 0] 72 (0,0)),(w.heap.size,.cells #[.int .u8 0,.string ⟨#[]⟩,.string ⟨#[]⟩,.string ⟨#[]⟩,.int .i64 0,.slice none 0 0,.slice none 0 0,.slice none 0 0,.int .i64 0] 72 (0,0))] _):=((S5.out.alloc #[.int .u8 z5a,.int .i64 z5b,.int .u64 z5c,.int .u64 z5d,.string z5e,.string z5f,.int .i64 z5g,.int .i64 z5h,.slice s5i n5i c5i,.int .i64 z5j] 49 (w5.heap.size) rfl).set1 5 (.slice (some ⟨w5.heap.size,0,none⟩) 1 1))
       have P3:Hid (Sp w _ p q L k5 dm sm [(w5.heap.size,.cells #[.int .u8 z5a,.int .i64 z5b,.int .u64 z5c,.int .u64 z5d,.string z5e,.string z5f,.int .i64 z5g,.int .i64 z5h,.slice s5i n5i c5i,.int .i64 z5j] 49 (0,0)),(w3.heap.size,.cells #[.int .u8 1,.string t1,.string t3,.string ⟨#[]⟩,.int .i64 0,.slice none 0 0,.slice none 0 0,.slice none 0 0,.int .i64 0] 72 (0,0)),(w.heap.size,.cells #[.int .u8 0,.string ⟨#[]⟩,.string ⟨#[]⟩,.string ⟨#[]⟩,.int .i64 0,.slice none 0 0,.slice none 0 0,.slice none 0 0,.int .i64 0] 72 (0,0))] _):=(S5.out.alloc #[.int .u8 z5a,.int .i64 z5b,.int .u64 z5c,.int .u64 z5d,.string z5e,.string z5f,.int .i64 z5g,.int .i64 z5h,.slice s5i n5i c5i,.int .i64 z5j] 49 (w5.heap.size) rfl)
       have gc4:=cellA P3.out.b1 5;have gs4:=softA P3.out.b1 5
       go_wp2_with (first | (refine wpList_loadA rfl 72 _ rfl _ [.int .u8 1,.string t1,.string t3,.string ⟨#[]⟩,.int .i64 0,.slice (some ⟨w5.heap.size,0,none⟩) 1 1,.slice none 0 0,.slice none 0 0,.int .i64 0] 72 rfl ag_stmt sz_stmt CF.out.b1 ?_) | (refine wpList_storeA rfl 72 _ _ rfl _ [.int .u8 1,.string t1,.string t3,.string ⟨#[]⟩,.int .i64 0,.slice (some ⟨w5.heap.size,0,none⟩) 1 1,.slice none 0 0,.slice none 0 0,.int .i64 0] #[.int .u8 0,.string ⟨#[]⟩,.string ⟨#[]⟩,.string ⟨#[]⟩,.int .i64 0,.slice none 0 0,.slice none 0 0,.slice none 0 0,.int .i64 0] 72 rfl rfl sz_stmt CF.out.b2 rfl (by intro u hu;simp at hu;rcases hu with rfl | rfl | rfl | rfl | rfl | rfl | rfl | rfl | rfl <;> rfl) ?_;intro w9 hw9;have HW9:=hide hw9;clear hw9))
       have SF:=CF.out.fill2 [.int .u8 1,.string t1,.string t3,.string ⟨#[]⟩,.int .i64 0,.slice (some ⟨w5.heap.size,0,none⟩) 1 1,.slice none 0 0,.slice none 0 0,.int .i64 0] rfl
       rw [← HW9.out] at SF
       have HXE:=hide (XL.out _ SF.fin SF.b0 SF.l0)
       have HRR:=hide SF.rr
       have HBB:=SF.b2
       clear SF
       refine bodyPost_ret (v:=.agg #[.int .u8 1,.string t1,.string t3,.string ⟨#[]⟩,.int .i64 0,.slice (some ⟨w5.heap.size,0,none⟩) 1 1,.slice none 0 0,.slice none 0 0,.int .i64 0]) (res_cell (cs:=[.int .u8 1,.string t1,.string t3,.string ⟨#[]⟩,.int .i64 0,.slice (some ⟨w5.heap.size,0,none⟩) 1 1,.slice none 0 0,.slice none 0 0,.int .i64 0]) (e:=72) Tryz.results202 rfl ag_stmt sz_stmt HBB) rfl ?_
       exact .inl ⟨({ sm0 1 with name:=x1,field:=x3,args:=[x5] }:Sm),k5,_,Q6.out,rfl,HXE.out,HRR.out⟩
      ·have R5:=hide (S4.out.rr.from hr)
       have Q5:=hide (Q4.out.trans (bind_err h5))
       clear hr h5
       go_wp2
       exact ⟨rfl,.inr ⟨_,Q5.out,rfl,R5.out⟩⟩
     ·have R4:=hide (C4.out.rr.from hr)
      have Q4:=hide (Q3.out.trans (bind_err h4))
      clear hr h4
      go_wp2
      exact ⟨rfl,.inr ⟨_,Q4.out,rfl,R4.out⟩⟩
    ·have R3:=hide (S2.out.rr.from hr)
     have Q3:=hide (Q2.out.trans (bind_err h3))
     clear hr h3
     go_wp2
     exact ⟨rfl,.inr ⟨_,Q3.out,rfl,R3.out⟩⟩
 ·have R1:=hide (C1.out.rr.from hr)
  have Q1:=hide (Q0.out.trans (bind_err h1))
  clear hr h1
  go_wp2
  exact ⟨rfl,.inr ⟨_,Q1.out,rfl,R1.out⟩⟩
def caseP:Pf Ck:=litP.bind fun v=>ifP [38] (litP.bind fun m=>(passP [[58]]).bind fun _=>nameP.bind fun t=>Pf.ret ⟨v.1,v.2,m.1,m.2,t⟩) ((passP [[58]]).bind fun _=>nameP.bind fun t=>Pf.ret ⟨v.1,v.2,v.1,2 ^ v.1 - 1,t⟩)
theorem lit_wd {L:List (Wd × Nat)} (hL:OkL L) {k k1:Nat} {x:Nat × Nat} (h:litP L k=.ok (x,k1)):x.1≤128:=by
 unfold litP at h
 split at h
 ·rename_i y hy
  split at h
  ·cases h
   obtain ⟨hk,e⟩:=List.getElem?_eq_some_iff.1 hy
   have:=hL.wd k hk
   rw [e] at this
   exact this
  ·cases h
 ·cases h
set_option maxRecDepth 100000 in
set_option maxHeartbeats 4000000 in
theorem caseOf_ok {p q:Nat} {L:List (Wd × Nat)} {dm sm:Value} {I:World→Prop} (hL:OkL L) (hI:Stb I p q L dm sm) :
  PfI I 157 #[.pointer (some ⟨p,0,none⟩)] p q L dm sm 0 caseP (CaseV):=by
 intro w k hk h hi
 have HI:Hid (∀ W k',Rp w W p q L k' dm sm→I W):=fun W k' r=>hI w W k' r hi
 have HL:=hide hL
 have HKK:=hide hk
 have HLt:=hide (lit_i (I:=I) (p:=p) (q:=q) (dm:=dm) (sm:=sm) (k0:=0) hL)
 have HNm:=hide (name_i (I:=I) (p:=p) (q:=q) (dm:=dm) (sm:=sm) (k0:=0) hL)
 have S0:=hide (Sp.start h)
 obtain ⟨RR,hRR⟩:∃ RR,RR=caseP L k:=⟨_,rfl⟩
 rw [← hRR]
 have Q0:=hide hRR
 clear hRR h hi hk hL hI
 go_enter Tryz.func157,Tryz.ntmps157
 have C1:Hid (Sp w _ p q L k dm sm [(w.heap.size,.cells #[.int .i64 0,.int .u64 0,.int .u64 0,.int .i64 0,.int .u64 0,.int .u64 0,.string ⟨#[]⟩] 194 (0,0))] _):=(S0.out.alloc #[.int .i64 0,.int .u64 0,.int .u64 0,.int .i64 0,.int .u64 0,.int .u64 0,.string ⟨#[]⟩] 194 (w.heap.size) rfl)
 go_wp2_with fail
 refine (HLt.out _ _ (Nat.zero_le _) C1.out.rr.here (HI.out _ _ C1.out.rr)).mono ?_
 rintro e w1 (⟨x1,k1,v,h1,rfl,hv,hr⟩ | ⟨k1,h1,rfl,hr⟩)
 ·obtain ⟨a1,b1,c1,rfl⟩:=LitV.form hv
  have S1:=hide (C1.out.call litV_ok hr hv)
  have Q1:=hide (Q0.out.trans (bind_ok h1))
  have HWB:=hide (lit_wd HL.out h1)
  have HWA:=hide (LitV.eq hv).1
  have HLH:=hide (wHi_low _ HWB.out).1
  have HLL:=hide (wHi_low _ HWB.out).2
  clear hr h1 hv C1
  have C2:Hid (Sp w _ p q L k1 dm sm [(w1.heap.size,.cells #[.int .i64 a1,.int .u64 b1,.int .u64 c1,.int .i64 0,.int .u64 0,.int .u64 0,.string ⟨#[]⟩] 194 (0,0)),(w.heap.size,.cells #[.int .i64 0,.int .u64 0,.int .u64 0,.int .i64 0,.int .u64 0,.int .u64 0,.string ⟨#[]⟩] 194 (0,0))] _):=(S1.out.alloc #[.int .i64 a1,.int .u64 b1,.int .u64 c1,.int .i64 0,.int .u64 0,.int .u64 0,.string ⟨#[]⟩] 194 (w1.heap.size) rfl)
  go_wp2_with fail
  refine (allSet_any _ _ HWB.out _ HWA.out).mono ?_
  rintro e w2 ⟨rfl,hb⟩
  have S2:=hide (C2.out.go (C2.out.rr.here.next hb))
  clear hb C2
  generalize (lowN (x1.1 - 64):Int)=lh at *
  generalize (lowN x1.1:Int)=ll at *
  have C3:Hid (Sp w _ p q L k1 dm sm [(w1.heap.size,.cells #[.int .i64 a1,.int .u64 b1,.int .u64 c1,.int .i64 a1,.int .u64 lh,.int .u64 ll,.string ⟨#[]⟩] 194 (0,0)),(w.heap.size,.cells #[.int .i64 0,.int .u64 0,.int .u64 0,.int .i64 0,.int .u64 0,.int .u64 0,.string ⟨#[]⟩] 194 (0,0))] _):=(((S2.out.set0 3 (.int .i64 a1)).set0 4 (.int .u64 lh)).set0 5 (.int .u64 ll))
  have gc1:=cellA S2.out.b0 3;have gs1:=softA S2.out.b0 3
  have P2:Hid (Sp w _ p q L k1 dm sm [(w1.heap.size,.cells #[.int .i64 a1,.int .u64 b1,.int .u64 c1,.int .i64 a1,.int .u64 0,.int .u64 0,.string ⟨#[]⟩] 194 (0,0)),(w.heap.size,.cells #[.int .i64 0,.int .u64 0,.int .u64 0,.int .i64 0,.int .u64 0,.int .u64 0,.string ⟨#[]⟩] 194 (0,0))] _):=(S2.out.set0 3 (.int .i64 a1))
  have gc3:=cellA P2.out.b0 4;have gs3:=softA P2.out.b0 4
  have P4:Hid (Sp w _ p q L k1 dm sm [(w1.heap.size,.cells #[.int .i64 a1,.int .u64 b1,.int .u64 c1,.int .i64 a1,.int .u64 lh,.int .u64 0,.string ⟨#[]⟩] 194 (0,0)),(w.heap.size,.cells #[.int .i64 0,.int .u64 0,.int .u64 0,.int .i64 0,.int .u64 0,.int .u64 0,.string ⟨#[]⟩] 194 (0,0))] _):=((S2.out.set0 3 (.int .i64 a1)).set0 4 (.int .u64 lh))
  have gc5:=cellA P4.out.b0 5;have gs5:=softA P4.out.b0 5
  go_wp2_with fail
  refine (passed_two C3.out.rr HL.out [38] (by decide) ⟨#[38]⟩ rfl).mono ?_
  rintro e w3 (⟨h3,rfl,hr⟩ | ⟨h3,rfl,hr⟩)
  ·have S3:=hide (C3.out.go hr)
   have Q3:=hide (Q1.out.trans (ifP_yes h3))
   clear hr h3 Q1 S2 C3
   go_wp2_with fail
   refine (HLt.out _ _ (Nat.zero_le _) S3.out.rr.here (HI.out _ _ S3.out.rr)).mono ?_
   rintro e w4 (⟨x4,k4,v,h4,rfl,hv,hr⟩ | ⟨k4,h4,rfl,hr⟩)
   ·obtain ⟨a4,b4,c4,rfl⟩:=LitV.form hv
    have S4:=hide (S3.out.call litV_ok hr hv)
    have Q4:=hide (Q3.out.trans (bind_ok h4))
    clear hr h4 hv
    have C5:Hid (Sp w _ p q L k4 dm sm [(w1.heap.size,.cells #[.int .i64 a1,.int .u64 b1,.int .u64 c1,.int .i64 a4,.int .u64 b4,.int .u64 c4,.string ⟨#[]⟩] 194 (0,0)),(w.heap.size,.cells #[.int .i64 0,.int .u64 0,.int .u64 0,.int .i64 0,.int .u64 0,.int .u64 0,.string ⟨#[]⟩] 194 (0,0))] _):=(((S4.out.set0 3 (.int .i64 a4)).set0 4 (.int .u64 b4)).set0 5 (.int .u64 c4))
    have gc6:=cellA S4.out.b0 3;have gs6:=softA S4.out.b0 3
    have P7:Hid (Sp w _ p q L k4 dm sm [(w1.heap.size,.cells #[.int .i64 a1,.int .u64 b1,.int .u64 c1,.int .i64 a4,.int .u64 lh,.int .u64 ll,.string ⟨#[]⟩] 194 (0,0)),(w.heap.size,.cells #[.int .i64 0,.int .u64 0,.int .u64 0,.int .i64 0,.int .u64 0,.int .u64 0,.string ⟨#[]⟩] 194 (0,0))] _):=(S4.out.set0 3 (.int .i64 a4))
    have gc8:=cellA P7.out.b0 4;have gs8:=softA P7.out.b0 4
    have P9:Hid (Sp w _ p q L k4 dm sm [(w1.heap.size,.cells #[.int .i64 a1,.int .u64 b1,.int .u64 c1,.int .i64 a4,.int .u64 b4,.int .u64 ll,.string ⟨#[]⟩] 194 (0,0)),(w.heap.size,.cells #[.int .i64 0,.int .u64 0,.int .u64 0,.int .i64 0,.int .u64 0,.int .u64 0,.string ⟨#[]⟩] 194 (0,0))] _):=((S4.out.set0 3 (.int .i64 a4)).set0 4 (.int .u64 b4))
    have gc10:=cellA P9.out.b0 5;have gs10:=softA P9.out.b0 5
    go_wp2_with fail
    refine (pass_lay C5.out.rr HL.out [[58]] (by decide) (by decide) #[.string ⟨#[58]⟩] rfl 9 _ 1 (by first | rfl | simp | simp [World.size_alloc] | simp [World.setCell] | simp [World.setCell,World.size_alloc]) rfl).mono ?_
    rintro e w5 (⟨x5,k5,v,h5,rfl,hv,hr⟩ | ⟨k5,h5,rfl,hr⟩)
    ·obtain rfl:v=.tuple #[]:=hv
     have S5:=hide (C5.out.go hr)
     have Q5:=hide (Q4.out.trans (bind_ok h5))
     clear hr h5 C5
     go_wp2_with fail
     refine (HNm.out _ _ (Nat.zero_le _) S5.out.rr.here (HI.out _ _ S5.out.rr)).mono ?_
     rintro e w6 (⟨x6,k6,v,h6,rfl,hv,hr⟩ | ⟨k6,h6,rfl,hr⟩)
     ·obtain ⟨t6,rfl⟩:=StrV.form hv
      have S6:=hide (S5.out.call strV_ok hr hv)
      have Q6:=hide (Q5.out.trans (bind_ok h6))
      clear hr h6 hv
      have Q7:Hid (RR=.ok ((⟨x1.1,x1.2,x4.1,x4.2,x6⟩:Ck),k6)):=Q6.out.trans rfl
      have XL:Hid (∀ W,((StrV) W (Bn w W) (.string t6) x6∧(LitV) W (Bn w W) (.agg #[.int .i64 a4,.int .u64 b4,.int .u64 c4]) x4∧(LitV) W (Bn w W) (.agg #[.int .i64 a1,.int .u64 b1,.int .u64 c1]) x1∧True)→(CaseV) W (Bn w W) (.agg #[.int .i64 a1,.int .u64 b1,.int .u64 c1,.int .i64 a4,.int .u64 b4,.int .u64 c4,.string t6]) (⟨x1.1,x1.2,x4.1,x4.2,x6⟩:Ck)):=by
       rintro W ⟨X6,X4,X1,_⟩
       obtain rfl:=StrV.eq X6
       obtain ⟨rfl,rfl,rfl⟩:=LitV.eq X4
       obtain ⟨rfl,rfl,rfl⟩:=LitV.eq X1
       exact rfl
      have CF:Hid (Sp w _ p q L k6 dm sm [(w1.heap.size,.cells #[.int .i64 a1,.int .u64 b1,.int .u64 c1,.int .i64 a4,.int .u64 b4,.int .u64 c4,.string t6] 194 (0,0)),(w.heap.size,.cells #[.int .i64 0,.int .u64 0,.int .u64 0,.int .i64 0,.int .u64 0,.int .u64 0,.string ⟨#[]⟩] 194 (0,0))] _):=(S6.out.set0 6 (.string t6))
      have gc11:=cellA S6.out.b0 6;have gs11:=softA S6.out.b0 6
      go_wp2_with (first | (refine wpList_loadA rfl 194 _ rfl _ [.int .i64 a1,.int .u64 b1,.int .u64 c1,.int .i64 a4,.int .u64 b4,.int .u64 c4,.string t6] 194 rfl ag_case sz_case CF.out.b0 ?_) | (refine wpList_storeA rfl 194 _ _ rfl _ [.int .i64 a1,.int .u64 b1,.int .u64 c1,.int .i64 a4,.int .u64 b4,.int .u64 c4,.string t6] #[.int .i64 0,.int .u64 0,.int .u64 0,.int .i64 0,.int .u64 0,.int .u64 0,.string ⟨#[]⟩] 194 rfl rfl sz_case CF.out.b1 rfl (by intro u hu;simp at hu;rcases hu with rfl | rfl | rfl | rfl | rfl | rfl | rfl <;> rfl) ?_;intro w9 hw9;have HW9:=hide hw9;clear hw9))
      have SF:=CF.out.fill1 [.int .i64 a1,.int .u64 b1,.int .u64 c1,.int .i64 a4,.int .u64 b4,.int .u64 c4,.string t6] rfl
      rw [← HW9.out] at SF
      have HXE:=hide (XL.out _ SF.fin)
      have HRR:=hide SF.rr
      have HBB:=SF.b1
      clear SF
      refine bodyPost_ret (v:=.agg #[.int .i64 a1,.int .u64 b1,.int .u64 c1,.int .i64 a4,.int .u64 b4,.int .u64 c4,.string t6]) (res_cell (cs:=[.int .i64 a1,.int .u64 b1,.int .u64 c1,.int .i64 a4,.int .u64 b4,.int .u64 c4,.string t6]) (e:=194) Tryz.results157 rfl ag_case sz_case HBB) rfl ?_
      exact .inl ⟨(⟨x1.1,x1.2,x4.1,x4.2,x6⟩:Ck),k6,_,Q7.out,rfl,HXE.out,HRR.out⟩
     ·have R6:=hide (S5.out.rr.from hr)
      have Q6:=hide (Q5.out.trans (bind_err h6))
      clear hr h6
      go_wp2
      exact ⟨rfl,.inr ⟨_,Q6.out,rfl,R6.out⟩⟩
    ·have R5:=hide (C5.out.rr.from hr)
     have Q5:=hide (Q4.out.trans (bind_err h5))
     clear hr h5
     go_wp2
     exact ⟨rfl,.inr ⟨_,Q5.out,rfl,R5.out⟩⟩
   ·have R4:=hide (S3.out.rr.from hr)
    have Q4:=hide (Q3.out.trans (bind_err h4))
    clear hr h4
    go_wp2
    exact ⟨rfl,.inr ⟨_,Q4.out,rfl,R4.out⟩⟩
  ·have S3:=hide (C3.out.go hr)
   have Q3:=hide (Q1.out.trans (ifP_no h3))
   clear hr h3 Q1 S2 C3
   go_wp2_with fail
   refine (pass_lay S3.out.rr HL.out [[58]] (by decide) (by decide) #[.string ⟨#[58]⟩] rfl 9 _ 1 (by first | rfl | simp | simp [World.size_alloc] | simp [World.setCell] | simp [World.setCell,World.size_alloc]) rfl).mono ?_
   rintro e w4 (⟨x4,k4,v,h4,rfl,hv,hr⟩ | ⟨k4,h4,rfl,hr⟩)
   ·obtain rfl:v=.tuple #[]:=hv
    have S4:=hide (S3.out.go hr)
    have Q4:=hide (Q3.out.trans (bind_ok h4))
    clear hr h4
    go_wp2_with fail
    refine (HNm.out _ _ (Nat.zero_le _) S4.out.rr.here (HI.out _ _ S4.out.rr)).mono ?_
    rintro e w5 (⟨x5,k5,v,h5,rfl,hv,hr⟩ | ⟨k5,h5,rfl,hr⟩)
    ·obtain ⟨t5,rfl⟩:=StrV.form hv
     have S5:=hide (S4.out.call strV_ok hr hv)
     have Q5:=hide (Q4.out.trans (bind_ok h5))
     clear hr h5 hv
     have Q6:Hid (RR=.ok ((⟨x1.1,x1.2,x1.1,2 ^ x1.1 - 1,x5⟩:Ck),k5)):=Q5.out.trans rfl
     have XL:Hid (∀ W,((StrV) W (Bn w W) (.string t5) x5∧(LitV) W (Bn w W) (.agg #[.int .i64 a1,.int .u64 b1,.int .u64 c1]) x1∧True)→(CaseV) W (Bn w W) (.agg #[.int .i64 a1,.int .u64 b1,.int .u64 c1,.int .i64 a1,.int .u64 lh,.int .u64 ll,.string t5]) (⟨x1.1,x1.2,x1.1,2 ^ x1.1 - 1,x5⟩:Ck)):=by
      rintro W ⟨X5,X1,_⟩
      obtain rfl:=StrV.eq X5
      obtain ⟨rfl,rfl,rfl⟩:=LitV.eq X1
      exact (by rw [← HLH.out,← HLL.out];rfl)
     have CF:Hid (Sp w _ p q L k5 dm sm [(w1.heap.size,.cells #[.int .i64 a1,.int .u64 b1,.int .u64 c1,.int .i64 a1,.int .u64 lh,.int .u64 ll,.string t5] 194 (0,0)),(w.heap.size,.cells #[.int .i64 0,.int .u64 0,.int .u64 0,.int .i64 0,.int .u64 0,.int .u64 0,.string ⟨#[]⟩] 194 (0,0))] _):=(S5.out.set0 6 (.string t5))
     have gc12:=cellA S5.out.b0 6;have gs12:=softA S5.out.b0 6
     go_wp2_with (first | (refine wpList_loadA rfl 194 _ rfl _ [.int .i64 a1,.int .u64 b1,.int .u64 c1,.int .i64 a1,.int .u64 lh,.int .u64 ll,.string t5] 194 rfl ag_case sz_case CF.out.b0 ?_) | (refine wpList_storeA rfl 194 _ _ rfl _ [.int .i64 a1,.int .u64 b1,.int .u64 c1,.int .i64 a1,.int .u64 lh,.int .u64 ll,.string t5] #[.int .i64 0,.int .u64 0,.int .u64 0,.int .i64 0,.int .u64 0,.int .u64 0,.string ⟨#[]⟩] 194 rfl rfl sz_case CF.out.b1 rfl (by intro u hu;simp at hu;rcases hu with rfl | rfl | rfl | rfl | rfl | rfl | rfl <;> rfl) ?_;intro w9 hw9;have HW9:=hide hw9;clear hw9))
     have SF:=CF.out.fill1 [.int .i64 a1,.int .u64 b1,.int .u64 c1,.int .i64 a1,.int .u64 lh,.int .u64 ll,.string t5] rfl
     rw [← HW9.out] at SF
     have HXE:=hide (XL.out _ SF.fin)
     have HRR:=hide SF.rr
     have HBB:=SF.b1
     clear SF
     refine bodyPost_ret (v:=.agg #[.int .i64 a1,.int .u64 b1,.int .u64 c1,.int .i64 a1,.int .u64 lh,.int .u64 ll,.string t5]) (res_cell (cs:=[.int .i64 a1,.int .u64 b1,.int .u64 c1,.int .i64 a1,.int .u64 lh,.int .u64 ll,.string t5]) (e:=194) Tryz.results157 rfl ag_case sz_case HBB) rfl ?_
     exact .inl ⟨(⟨x1.1,x1.2,x1.1,2 ^ x1.1 - 1,x5⟩:Ck),k5,_,Q6.out,rfl,HXE.out,HRR.out⟩
    ·have R5:=hide (S4.out.rr.from hr)
     have Q5:=hide (Q4.out.trans (bind_err h5))
     clear hr h5
     go_wp2
     exact ⟨rfl,.inr ⟨_,Q5.out,rfl,R5.out⟩⟩
   ·have R4:=hide (S3.out.rr.from hr)
    have Q4:=hide (Q3.out.trans (bind_err h4))
    clear hr h4
    go_wp2
    exact ⟨rfl,.inr ⟨_,Q4.out,rfl,R4.out⟩⟩
 ·have R1:=hide (C1.out.rr.from hr)
  have Q1:=hide (Q0.out.trans (bind_err h1))
  clear hr h1
  go_wp2
  exact ⟨rfl,.inr ⟨_,Q1.out,rfl,R1.out⟩⟩
theorem Tryz.infostringN:(Tryz.prog.info? 9).map (fun i=>(i.zero,i.size,i.bytes))=some (some (.string ⟨#[]⟩),1,16):=by kernel_rfl
set_option maxRecDepth 100000 in
set_option maxHeartbeats 4000000 in
theorem until_str {p q:Nat} {L:List (Wd × Nat)} {dm sm:Value} {I:World→Prop} {k0:Nat} {f:Pf (List UInt8)} {b3 b5:Nat} (hL:OkL L) (hI:Stb I p q L dm sm) (hgo:Goes f) (en:List UInt8) (hen:en ≠ []) (T:ByteArray) (hT:T=txt en) (HTh:PfI I 166 #[.pointer (some ⟨b3,0,none⟩),.pointer (some ⟨b5,0,none⟩)] p q L dm sm k0 f StrV) :
  PfI I 108 #[.pointer (some ⟨p,0,none⟩),.string T,.func (Fn.func 166) #[] #[.pointer (some ⟨b3,0,none⟩),.pointer (some ⟨b5,0,none⟩)]] p q L dm sm k0 (untilP en f) (ListR StrV mkOne 1):=by
 intro w k hk h hi
 obtain ⟨i0',hi0,hz0,hz1,hz2⟩:=info_parts Tryz.infostringN
 have hsm:=h.sml
 have hkl:=h.kl
 have HLS:Hid (Lp StrV mkOne 1 9 w w p q L dm sm k 0 (.slice none 0 0) [] []):=Lp.start h
 have HP:=hide (fun W k' (r:Rp w W p q L k' dm sm)=>passed_two r hL en hen T hT)
 have HN:=hide (fun W k' (hkk:k≤k') (r:Rp w W p q L k' dm sm)=>HTh W k' (Nat.le_trans hk hkk) r.here (hI w W k' r hi))
 have HSM:=hide hsm
 have HGO:=hide (fun k' x k1 he=>hgo L k' x k1 he)
 have HU:Hid (untilP en f L k=untilF en f (L.length+1 - k) L k):=rfl
 obtain ⟨RR,hRR⟩:∃ RR,RR=untilP en f L k:=⟨_,rfl⟩
 rw [← hRR]
 rw [← hRR] at HU
 clear h hL hen hsm hRR hT hi hk hI hgo HTh
 go_enter Tryz.func108,Tryz.ntmps108
 go_wp2
 go_loopg [7] (L.length+1 - k) (fun g v wr=>∃ (v1:Value) (k' n:Nat) (l:List (List UInt8)) (css:List (List Value)),v1=v∧L.length+1≤g+k'∧k≤k'∧n≤k'∧Hid (RR=preL l (untilF en f g L k'))∧Hid (Lp StrV mkOne 1 9 w wr p q L dm sm k' n v1 l css))
 case atStart=>exact ⟨_,k,0,[],[],rfl,by omega,Nat.le_refl _,Nat.zero_le _,by unfold Hid;rw [preL_nil];exact HU.out,HLS.out⟩
 case round =>
  obtain ⟨v,k',n,l,css,rfl,hg,hkk,hn,HQ,HL⟩:=hrel
  have HG:=hide hg
  have HNK:=hide hn
  have HKK:=hide hkk
  have hkl':=HL.out.rr.kl
  have hg0:0 < gk:=by omega
  have HG0:=hide hg0
  clear hg hn hg0 hkl HLS HU hkk
  go_wp2_with fail
  refine (HP.out _ _ HL.out.rr).mono ?_
  rintro e w1 (⟨hp,rfl,hr⟩ | ⟨hp,rfl,hr⟩)
  ·have HE:Hid (RR=.ok (l,k'+1)):=by unfold Hid;rw [HQ.out,untilF_end HG0.out hp];simp [preL]
   have L1:=hide (HL.out.go strV_ok hr)
   clear hr hp HQ
   go_wp2
   go_ret
   exact .inl ⟨l,k'+1,_,HE.out,rfl,L1.out.done strV_ok,L1.out.rr⟩
  ·have HE1:Hid (∀ e,f L k'=.error e→RR=.error e):=fun e he=>by rw [HQ.out,untilF_err HG0.out hp he];rfl
   have HE2:Hid (∀ x k1,f L k'=.ok (x,k1)→RR=preL (l ++ [x]) (untilF en f (gk - 1) L k1)∧k' < k1):=fun x k1 he=>⟨by rw [HQ.out,untilF_go HG0.out hp he],HGO.out k' x k1 he⟩
   have L1:=hide (HL.out.go strV_ok hr)
   clear hr HL hp HQ
   go_wp2_with fail
   refine (HN.out _ _ HKK.out L1.out.rr).mono ?_
   rintro e w2 (⟨x,k2,v2,h2,rfl,hv,hr⟩ | ⟨k2,h2,rfl,hr⟩)
   ·obtain ⟨t2,rfl⟩:=StrV.form hv
    have H2:=hide (HE2.out _ _ h2)
    have R2:=hide hr
    have O2:=hide (L1.out.go strV_ok hr).own
    have Z2:Hid (w.heap.size≤w2.heap.size):=Nat.le_trans L1.out.rr.fr.size hr.fr.size
    have HSx:Hid (StrV w2 (Bn w1 w2) (mkOne [.string t2]) x):=hv
    clear hr h2 hv
    go_wp2_with (at_builtin;refine wpList_appC rfl _ _ 44 rfl 9 i0' (.string ⟨#[]⟩) 1 16 Tryz.underlying44 hi0 hz0 hz1 hz2 rfl (by decide) (by decide) w.heap.size _ n css.flatten rfl (ownR_below O2.out ((Below.refl _ _).alloc (Nat.le_refl _) _)) w2.heap.size [.string t2] rfl rfl (cells_newC _ [.string t2] _) (by intro u hu;simp at hu;subst hu;rfl) (by have:=HNK.out;have:=HSM.out;omega) (by have:=Z2.out;simp;omega) ?_;intro v8 w8 O8 D8;have L8:=hide (L1.out.step strV_ok R2.out HSx.out rfl O8 D8);clear O8 D8)
    go_roundg (gk - 1)
    case measure=>have:=HG0.out;omega
    case rel=>exact ⟨_,k2,n+1,l ++ [x],_,rfl,by have:=HG.out;have:=H2.out.2;omega,by have:=HKK.out;have:=H2.out.2;omega,by have:=HNK.out;have:=H2.out.2;omega,H2.out.1,L8.out⟩
   ·have R2:=hide (L1.out.rr.from hr)
    have H2:=hide (HE1.out _ h2)
    clear hr h2
    go_wp2
    exact ⟨rfl,.inr ⟨k2,H2.out,rfl,R2.out⟩⟩
end Go.Proofs.YtabkimknlifdoaaGreatDoor
