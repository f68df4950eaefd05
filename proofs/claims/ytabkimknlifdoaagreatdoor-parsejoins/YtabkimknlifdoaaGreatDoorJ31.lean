/- Pieces of the proof: PaJn, PaNa. -/
import Derived.Test.YtabkimknlifdoaaGreatDoorJ29
import Derived.Test.YtabkimknlifdoaaGreatDoorJ14
import Derived.Deep.LoopGhost
namespace Go.Proofs.YtabkimknlifdoaaGreatDoor
open Go.RowKit
def stateC (ex:Pf Ex) (cp:Pf (List Ck)) (ln:Nat) (n:List UInt8):List (List UInt8)→Pf Ts:=fun hs=>ifP [115,101,108,101,99,116] (ex.bind fun x=>(passP [[123]]).bind fun _=>cp.bind fun cs=>(closedP nameP).bind fun t=>(passP [[125]]).bind fun _=>(passP [[125]]).bind fun _=>Pf.ret ⟨n,hs,[x],cs,t,ln⟩) ((passP [[103,111]]).bind fun _=>(closedP nameP).bind fun t=>(passP [[125]]).bind fun _=>Pf.ret ⟨n,hs,[],[],t,ln⟩)
def stateP (ex:Pf Ex) (cp:Pf (List Ck)):Pf Ts:=fun L k=>(nameP.bind fun n=>(passP [[123]]).bind fun _=>(whP [116,97,107,101] (closedP nameP)).bind (stateC ex cp (lineP L k) n)) L k
theorem closed_goes {α:Type} {f:Pf α} (h:Goes f):Goes (closedP f):=goes_bind h fun _=>stays_bind (stays_pass _) fun _=>stays_ret _
set_option maxRecDepth 100000 in
set_option maxHeartbeats 4000000 in
theorem state_ok {p q:Nat} {L:List (Wd × Nat)} {dm sm:Value} {I:World→Prop} {ex:Pf Ex} {cp:Pf (List Ck)} (hL:OkL L) (hI:Stb I p q L dm sm) (HX:PfI I 112 #[.pointer (some ⟨p,0,none⟩)] p q L dm sm 0 ex (ExR)) (HRc:PfI I 156 #[.pointer (some ⟨p,0,none⟩),.string ⟨#[101,108,115,101]⟩,.func (Fn.func 157) #[.pointer (some ⟨p,0,none⟩)] #[]] p q L dm sm 0 cp (ListR CaseV mkAgg 7)) :
  PfI I 102 #[.pointer (some ⟨p,0,none⟩)] p q L dm sm 0 (stateP ex cp) (StateR):=by
 intro w k hk h hi
 have HI:Hid (∀ W k',Rp w W p q L k' dm sm→I W):=fun W k' r=>hI w W k' r hi
 have HL:=hide hL
 have HKK:=hide hk
 have HNm:=hide (name_i (I:=I) (p:=p) (q:=q) (dm:=dm) (sm:=sm) (k0:=0) hL)
 have HCs:=hide (cstr_i (I:=I) (p:=p) (q:=q) (dm:=dm) (sm:=sm) (k0:=0) hL)
 have HX:=hide HX
 have HRc:=hide HRc
 have S0:=hide (Sp.start h)
 obtain ⟨RR,hRR⟩:∃ RR,RR=(stateP ex cp) L k:=⟨_,rfl⟩
 rw [← hRR]
 have Q0:=hide hRR
 clear hRR h hi hk hL hI
 go_enter Tryz.func102,Tryz.ntmps102
 have C1:Hid (Sp w _ p q L k dm sm [(w.heap.size,.cells #[.string ⟨#[]⟩,.slice none 0 0,.slice none 0 0,.slice none 0 0,.string ⟨#[]⟩,.int .i64 0] 79 (0,0))] _):=(S0.out.alloc #[.string ⟨#[]⟩,.slice none 0 0,.slice none 0 0,.slice none 0 0,.string ⟨#[]⟩,.int .i64 0] 79 (w.heap.size) rfl)
 go_wp2_with fail
 refine (aheadL C1.out.rr).mono ?_
 rintro e w1 ⟨a10,a11,a12,a13,a14,rfl,hr⟩
 have S1:=hide (C1.out.go hr)
 clear hr C1
 obtain ⟨_,_,_,fl1⟩:=fldW a10 a11 a12 a13 a14 (.int .i64 (lineP L k:Int))
 have C2:Hid (Sp w _ p q L k dm sm [(w1.heap.size,.cells #[.string ⟨#[]⟩,.slice none 0 0,.slice none 0 0,.slice none 0 0,.string ⟨#[]⟩,.int .i64 (lineP L k:Int)] 79 (0,0)),(w.heap.size,.cells #[.string ⟨#[]⟩,.slice none 0 0,.slice none 0 0,.slice none 0 0,.string ⟨#[]⟩,.int .i64 0] 79 (0,0))] _):=(S1.out.alloc #[.string ⟨#[]⟩,.slice none 0 0,.slice none 0 0,.slice none 0 0,.string ⟨#[]⟩,.int .i64 (lineP L k:Int)] 79 (w1.heap.size) rfl)
 go_wp2_with fail
 refine (HNm.out _ _ (Nat.zero_le _) C2.out.rr.here (HI.out _ _ C2.out.rr)).mono ?_
 rintro e w2 (⟨x2,k2,v,h2,rfl,hv,hr⟩ | ⟨k2,h2,rfl,hr⟩)
 ·obtain ⟨t2,rfl⟩:=StrV.form hv
  have S2:=hide (C2.out.call strV_ok hr hv)
  have Q2:=hide (Q0.out.trans (bind_ok h2))
  clear hr h2 hv C2
  have C3:Hid (Sp w _ p q L k2 dm sm [(w1.heap.size,.cells #[.string t2,.slice none 0 0,.slice none 0 0,.slice none 0 0,.string ⟨#[]⟩,.int .i64 (lineP L k:Int)] 79 (0,0)),(w.heap.size,.cells #[.string ⟨#[]⟩,.slice none 0 0,.slice none 0 0,.slice none 0 0,.string ⟨#[]⟩,.int .i64 0] 79 (0,0))] _):=(S2.out.set0 0 (.string t2))
  have gc1:=cellA S2.out.b0 0;have gs1:=softA S2.out.b0 0
  go_wp2_with fail
  refine (pass_lay C3.out.rr HL.out [[123]] (by decide) (by decide) #[.string ⟨#[123]⟩] rfl 9 _ 1 (by first | rfl | simp | simp [World.size_alloc] | simp [World.setCell] | simp [World.setCell,World.size_alloc]) rfl).mono ?_
  rintro e w3 (⟨x3,k3,v,h3,rfl,hv,hr⟩ | ⟨k3,h3,rfl,hr⟩)
  ·obtain rfl:v=.tuple #[]:=hv
   have S3:=hide (C3.out.go hr)
   have Q3:=hide (Q2.out.trans (bind_ok h3))
   clear hr h3 C3
   have Q3b:=hide (Q3.out.trans whR_start)
   have hk3:=S3.out.rr.kl
   have S3b:Hid (Sp w _ p q L k3 dm sm [(w1.heap.size,.cells #[.string t2,.slice none 0 0,.slice none 0 0,.slice none 0 0,.string ⟨#[]⟩,.int .i64 (lineP L k:Int)] 79 (0,0)),(w.heap.size,.cells #[.string ⟨#[]⟩,.slice none 0 0,.slice none 0 0,.slice none 0 0,.string ⟨#[]⟩,.int .i64 0] 79 (0,0))] (fun W X=>RowS w.heap.size W X (.slice none 0 0) []∧(StrV) W X (.string t2) x2∧True)):=S3.out.weak (KpOk.and (rowS_ok _) (KpOk.and strV_ok KpOk.top _ _) _ _) (fun X h=>⟨RowS.nil _ _ _,h⟩)
   go_wp2
   go_loopg [] (L.length+1 - k3) (fun g wr=>∃ (k':Nat) (v1:Value) (l:List (List UInt8)),L.length+1≤g+k'∧l.length≤k'∧Hid (RR=((whR [116,97,107,101] (closedP nameP) g l).bind (stateC ex cp (lineP L k) x2)) L k')∧Hid (∃ s n c,v1=Value.slice s n c)∧Hid (Sp w wr p q L k' dm sm [(w1.heap.size,.cells #[.string t2,v1,.slice none 0 0,.slice none 0 0,.string ⟨#[]⟩,.int .i64 (lineP L k:Int)] 79 (0,0)),(w.heap.size,.cells #[.string ⟨#[]⟩,.slice none 0 0,.slice none 0 0,.slice none 0 0,.string ⟨#[]⟩,.int .i64 0] 79 (0,0))] (fun W X=>RowS w.heap.size W X v1 l∧(StrV) W X (.string t2) x2∧True)))
   case atStart=>exact ⟨k3,_,[],by omega,Nat.zero_le _,Q3b.out,⟨_,_,_,rfl⟩,S3b.out⟩
   case round =>
    obtain ⟨k',v1,l,hg,hn,HQ,HV,HS⟩:=hrel
    obtain ⟨s90,n90,c90,rfl⟩:=HV.out
    have HG:=hide hg
    have HNK:=hide hn
    have hkl':=HS.out.rr.kl
    have hsm':=HS.out.rr.sml
    have hg0:0 < gk:=by omega
    have HG0:=hide hg0
    have HLL:Hid (l.length≤100000):=by unfold Hid;omega
    clear hg hn hg0 hk3 hkl' hsm' HV Q3b S3b
    go_wp2_with fail
    refine (passed_two HS.out.rr HL.out [116,97,107,101] (by decide) ⟨#[116,97,107,101]⟩ rfl).mono ?_
    rintro e w4 (⟨h4,rfl,hr⟩ | ⟨h4,rfl,hr⟩)
    ·have S4:=hide (HS.out.go hr)
     have QE:Hid (∀ e,closedP nameP L (k'+1)=.error e→RR=.error e):=fun e he=>HQ.out.trans (whR_err HG0.out h4 he)
     have QO:Hid (∀ x k1,closedP nameP L (k'+1)=.ok (x,k1)→RR=((whR [116,97,107,101] (closedP nameP) (gk - 1) (l ++ [x])).bind (stateC ex cp (lineP L k) x2)) L k1∧k'+1 < k1):=fun x k1 he=>⟨HQ.out.trans (whR_go HG0.out h4 he),closed_goes nameP_goes _ _ _ _ he⟩
     clear hr h4 HQ HS
     go_wp2
     refine wp_region_any (by kernel_rfl) ?_
     change wpAny _ _ _ _ _ _ _ (World.drew _)
     have D2:=hide S4.out.drew
     refine wpAny_take (i:=0) (v:=?_) rfl (by kernel_rfl) (by kernel_rfl) (by kernel_rfl) (fun _ _ _ h=>h) (Or.inl ⟨by rfl,?_⟩) ?_
     rotate_left
     ·(intro w;go_simp;try (with_reducible rfl))
     refine wpAny_take (i:=2) (v:=?_) rfl (by kernel_rfl) (by kernel_rfl) (by kernel_rfl) (fun _ _ _ h=>h) (Or.inl ⟨by rfl,?_⟩) ?_
     rotate_left
     ·(intro w;go_simp;try (with_reducible rfl))
     refine wpAny_take (i:=3) (v:=?_) rfl (by kernel_rfl) (by kernel_rfl) (by kernel_rfl) (fun _ _ _ h=>h) (Or.inl ⟨by rfl,?_⟩) ?_
     rotate_left
     ·(intro w;go_simp;try (with_reducible rfl))
     refine wpAny_take (i:=4) (v:=?_) rfl (by kernel_rfl) (by kernel_rfl) (by kernel_rfl) (fun _ _ _ h=>h) (Or.inl ⟨by rfl,?_⟩) ?_
     rotate_left
     ·(intro w;go_simp;try (with_reducible rfl))
     refine wpAny_ready (rs:=[1,5]) (by kernel_rfl) (by simp) ?_
     refine AllReady.cons rfl (fun K hK=>?_) ?_
     ·refine step_load1 rfl 44 _ rfl _ 1 (.slice s90 n90 c90) rfl ag_strs (cellA D2.out.b0 1) ?_
      refine hK _ _ ?_;clear hK K
      refine wpAny_ready (rs:=[5]) (by kernel_rfl) (by simp) ?_
      refine AllReady.cons rfl (fun K hK=>?_) ?_
      ·go_simp
       refine (HCs.out _ _ (Nat.zero_le _) D2.out.rr.here (HI.out _ _ D2.out.rr)).mono ?_
       rintro e w5 (⟨x5,k5,v,h5,rfl,hv,hr⟩ | ⟨k5,h5,rfl,hr⟩)
       ·obtain ⟨t5,rfl⟩:=StrV.form hv
        have S5:=hide (D2.out.call strV_ok hr hv)
        have Q5:=hide (QO.out _ _ h5).1
        have G5:=hide (QO.out _ _ h5).2
        clear hr h5 hv
        refine hK _ _ ?_;clear hK K
        refine wpAny_ready (rs:=[6]) (by kernel_rfl) (by simp) ?_
        refine AllReady.cons rfl (fun K hK=>?_) ?_
        ·go_simp
         refine hK _ _ ?_;clear hK K
         refine wpAny_ready (rs:=[7]) (by kernel_rfl) (by simp) ?_
         refine AllReady.cons rfl (fun K hK=>?_) ?_
         ·have E4:Hid (Sp w _ p q L k5 dm sm [(w5.heap.size,.cells #[.string t5] 9 (0,0)),(w1.heap.size,.cells #[.string t2,.slice s90 n90 c90,.slice none 0 0,.slice none 0 0,.string ⟨#[]⟩,.int .i64 (lineP L k:Int)] 79 (0,0)),(w.heap.size,.cells #[.string ⟨#[]⟩,.slice none 0 0,.slice none 0 0,.slice none 0 0,.string ⟨#[]⟩,.int .i64 0] 79 (0,0))] _):=(S5.out.alloc #[.string t5] 9 (w5.heap.size) rfl)
          refine step_appR rfl _ _ rfl rfl rfl E4.out (fun _ _ _ _ h=>h) HLL.out ?_
          intro v103 w103 hs
          obtain ⟨s103,n103,c103,rfl⟩:=RowS.form hs.kp.1
          have S103:=hide hs
          clear hs E4
          refine hK _ _ ?_;clear hK K
          refine wpAny_take (i:=8) (v:=?_) rfl (by kernel_rfl) (by kernel_rfl) (by kernel_rfl) (fun _ _ _ h=>h) (Or.inl ⟨by rfl,?_⟩) ?_
          rotate_left
          ·(intro w;go_simp;try (with_reducible rfl))
          refine wpAny_ready (rs:=[9]) (by kernel_rfl) (by simp) ?_
          refine AllReady.cons rfl (fun K hK=>?_) ?_
          ·refine step_store1 rfl 44 _ _ rfl _ 1 (.slice s103 n103 c103) rfl rfl rfl sz_strs (by rw [cellA S103.out.b0];rfl) (softA S103.out.b0 1) rfl ?_
           refine hK _ _ ?_;clear hK K
           refine wpAny_done (by kernel_rfl) ?_ _
           have F6:Hid (Sp w _ p q L k5 dm sm [(w1.heap.size,.cells #[.string t2,.slice s103 n103 c103,.slice none 0 0,.slice none 0 0,.string ⟨#[]⟩,.int .i64 (lineP L k:Int)] 79 (0,0)),(w.heap.size,.cells #[.string ⟨#[]⟩,.slice none 0 0,.slice none 0 0,.slice none 0 0,.string ⟨#[]⟩,.int .i64 0] 79 (0,0))] _):=(S103.out.set0 1 (.slice s103 n103 c103))
           go_wp2
           go_roundg (gk - 1)
           case measure=>have:=HG0.out;omega
           case rel=>exact ⟨k5,_,l ++ [x5],by have:=HG.out;have:=G5.out;omega,by have:=HNK.out;have:=G5.out;simp;omega,Q5.out,⟨_,_,_,rfl⟩,F6.out⟩
          exact AllReady.nil
         exact AllReady.nil
        exact AllReady.nil
       ·have R5:=hide (D2.out.rr.from hr)
        have Q5:=hide (QE.out _ h5)
        clear hr h5
        exact ⟨rfl,.inr ⟨_,Q5.out,rfl,R5.out⟩⟩
      exact AllReady.nil
     refine AllReady.cons rfl (fun K hK=>?_) ?_
     ·go_simp
      refine (HCs.out _ _ (Nat.zero_le _) D2.out.rr.here (HI.out _ _ D2.out.rr)).mono ?_
      rintro e w5 (⟨x5,k5,v,h5,rfl,hv,hr⟩ | ⟨k5,h5,rfl,hr⟩)
      ·obtain ⟨t5,rfl⟩:=StrV.form hv
       have S5:=hide (D2.out.call strV_ok hr hv)
       have Q5:=hide (QO.out _ _ h5).1
       have G5:=hide (QO.out _ _ h5).2
       clear hr h5 hv
       refine hK _ _ ?_;clear hK K
       refine wpAny_ready (rs:=[1,6]) (by kernel_rfl) (by simp) ?_
       refine AllReady.cons rfl (fun K hK=>?_) ?_
       ·refine step_load1 rfl 44 _ rfl _ 1 (.slice s90 n90 c90) rfl ag_strs (cellA S5.out.b0 1) ?_
        refine hK _ _ ?_;clear hK K
        refine wpAny_ready (rs:=[6]) (by kernel_rfl) (by simp) ?_
        refine AllReady.cons rfl (fun K hK=>?_) ?_
        ·go_simp
         refine hK _ _ ?_;clear hK K
         refine wpAny_ready (rs:=[7]) (by kernel_rfl) (by simp) ?_
         refine AllReady.cons rfl (fun K hK=>?_) ?_
         ·have E8:Hid (Sp w _ p q L k5 dm sm [(w5.heap.size,.cells #[.string t5] 9 (0,0)),(w1.heap.size,.cells #[.string t2,.slice s90 n90 c90,.slice none 0 0,.slice none 0 0,.string ⟨#[]⟩,.int .i64 (lineP L k:Int)] 79 (0,0)),(w.heap.size,.cells #[.string ⟨#[]⟩,.slice none 0 0,.slice none 0 0,.slice none 0 0,.string ⟨#[]⟩,.int .i64 0] 79 (0,0))] _):=(S5.out.alloc #[.string t5] 9 (w5.heap.size) rfl)
          refine step_appR rfl _ _ rfl rfl rfl E8.out (fun _ _ _ _ h=>h) HLL.out ?_
          intro v107 w107 hs
          obtain ⟨s107,n107,c107,rfl⟩:=RowS.form hs.kp.1
          have S107:=hide hs
          clear hs E8
          refine hK _ _ ?_;clear hK K
          refine wpAny_take (i:=8) (v:=?_) rfl (by kernel_rfl) (by kernel_rfl) (by kernel_rfl) (fun _ _ _ h=>h) (Or.inl ⟨by rfl,?_⟩) ?_
          rotate_left
          ·(intro w;go_simp;try (with_reducible rfl))
          refine wpAny_ready (rs:=[9]) (by kernel_rfl) (by simp) ?_
          refine AllReady.cons rfl (fun K hK=>?_) ?_
          ·refine step_store1 rfl 44 _ _ rfl _ 1 (.slice s107 n107 c107) rfl rfl rfl sz_strs (by rw [cellA S107.out.b0];rfl) (softA S107.out.b0 1) rfl ?_
           refine hK _ _ ?_;clear hK K
           refine wpAny_done (by kernel_rfl) ?_ _
           have F10:Hid (Sp w _ p q L k5 dm sm [(w1.heap.size,.cells #[.string t2,.slice s107 n107 c107,.slice none 0 0,.slice none 0 0,.string ⟨#[]⟩,.int .i64 (lineP L k:Int)] 79 (0,0)),(w.heap.size,.cells #[.string ⟨#[]⟩,.slice none 0 0,.slice none 0 0,.slice none 0 0,.string ⟨#[]⟩,.int .i64 0] 79 (0,0))] _):=(S107.out.set0 1 (.slice s107 n107 c107))
           go_wp2
           go_roundg (gk - 1)
           case measure=>have:=HG0.out;omega
           case rel=>exact ⟨k5,_,l ++ [x5],by have:=HG.out;have:=G5.out;omega,by have:=HNK.out;have:=G5.out;simp;omega,Q5.out,⟨_,_,_,rfl⟩,F10.out⟩
          exact AllReady.nil
         exact AllReady.nil
        exact AllReady.nil
       refine AllReady.cons rfl (fun K hK=>?_) ?_
       ·go_simp
        refine hK _ _ ?_;clear hK K
        refine wpAny_ready (rs:=[1]) (by kernel_rfl) (by simp) ?_
        refine AllReady.cons rfl (fun K hK=>?_) ?_
        ·have E11:Hid (Sp w _ p q L k5 dm sm [(w5.heap.size,.cells #[.string t5] 9 (0,0)),(w1.heap.size,.cells #[.string t2,.slice s90 n90 c90,.slice none 0 0,.slice none 0 0,.string ⟨#[]⟩,.int .i64 (lineP L k:Int)] 79 (0,0)),(w.heap.size,.cells #[.string ⟨#[]⟩,.slice none 0 0,.slice none 0 0,.slice none 0 0,.string ⟨#[]⟩,.int .i64 0] 79 (0,0))] _):=(S5.out.alloc #[.string t5] 9 (w5.heap.size) rfl)
         refine step_load1 rfl 44 _ rfl _ 1 (.slice s90 n90 c90) rfl ag_strs (cellA E11.out.b1 1) ?_
         refine hK _ _ ?_;clear hK K
         refine wpAny_ready (rs:=[7]) (by kernel_rfl) (by simp) ?_
         refine AllReady.cons rfl (fun K hK=>?_) ?_
         ·have E13:Hid (Sp w _ p q L k5 dm sm [(w5.heap.size,.cells #[.string t5] 9 (0,0)),(w1.heap.size,.cells #[.string t2,.slice s90 n90 c90,.slice none 0 0,.slice none 0 0,.string ⟨#[]⟩,.int .i64 (lineP L k:Int)] 79 (0,0)),(w.heap.size,.cells #[.string ⟨#[]⟩,.slice none 0 0,.slice none 0 0,.slice none 0 0,.string ⟨#[]⟩,.int .i64 0] 79 (0,0))] _):=(S5.out.alloc #[.string t5] 9 (w5.heap.size) rfl)
          refine step_appR rfl _ _ rfl rfl rfl E13.out (fun _ _ _ _ h=>h) HLL.out ?_
          intro v112 w112 hs
          obtain ⟨s112,n112,c112,rfl⟩:=RowS.form hs.kp.1
          have S112:=hide hs
          clear hs E13
          refine hK _ _ ?_;clear hK K
          refine wpAny_take (i:=8) (v:=?_) rfl (by kernel_rfl) (by kernel_rfl) (by kernel_rfl) (fun _ _ _ h=>h) (Or.inl ⟨by rfl,?_⟩) ?_
          rotate_left
          ·(intro w;go_simp;try (with_reducible rfl))
          refine wpAny_ready (rs:=[9]) (by kernel_rfl) (by simp) ?_
          refine AllReady.cons rfl (fun K hK=>?_) ?_
          ·refine step_store1 rfl 44 _ _ rfl _ 1 (.slice s112 n112 c112) rfl rfl rfl sz_strs (by rw [cellA S112.out.b0];rfl) (softA S112.out.b0 1) rfl ?_
           refine hK _ _ ?_;clear hK K
           refine wpAny_done (by kernel_rfl) ?_ _
           have F15:Hid (Sp w _ p q L k5 dm sm [(w1.heap.size,.cells #[.string t2,.slice s112 n112 c112,.slice none 0 0,.slice none 0 0,.string ⟨#[]⟩,.int .i64 (lineP L k:Int)] 79 (0,0)),(w.heap.size,.cells #[.string ⟨#[]⟩,.slice none 0 0,.slice none 0 0,.slice none 0 0,.string ⟨#[]⟩,.int .i64 0] 79 (0,0))] _):=(S112.out.set0 1 (.slice s112 n112 c112))
           go_wp2
           go_roundg (gk - 1)
           case measure=>have:=HG0.out;omega
           case rel=>exact ⟨k5,_,l ++ [x5],by have:=HG.out;have:=G5.out;omega,by have:=HNK.out;have:=G5.out;simp;omega,Q5.out,⟨_,_,_,rfl⟩,F15.out⟩
          exact AllReady.nil
         exact AllReady.nil
        exact AllReady.nil
       exact AllReady.nil
      ·have R5:=hide (D2.out.rr.from hr)
       have Q5:=hide (QE.out _ h5)
       clear hr h5
       exact ⟨rfl,.inr ⟨_,Q5.out,rfl,R5.out⟩⟩
     exact AllReady.nil
    ·have S4:=hide (HS.out.go hr)
     have Q4:=hide (HQ.out.trans (whR_end HG0.out h4))
     clear hr h4 HQ HS HG0 HG
     go_wp2_with fail
     refine (passed_two S4.out.rr HL.out [115,101,108,101,99,116] (by decide) ⟨#[115,101,108,101,99,116]⟩ rfl).mono ?_
     rintro e w5 (⟨h5,rfl,hr⟩ | ⟨h5,rfl,hr⟩)
     ·have S5:=hide (S4.out.go hr)
      have Q5:=hide (Q4.out.trans (ifP_yes h5))
      clear hr h5 S4 Q4
      go_wp2_with fail
      refine (HX.out _ _ (Nat.zero_le _) S5.out.rr.here (HI.out _ _ S5.out.rr)).mono ?_
      rintro e w6 (⟨x6,k6,v,h6,rfl,hv,hr⟩ | ⟨k6,h6,rfl,hr⟩)
      ·obtain ⟨z6a,z6b,z6c,z6d,z6e,z6f,z6g,z6h,s6i,n6i,c6i,z6j,rfl⟩:=ExR.form hv
       have S6:=hide (S5.out.call exRep_ok hr hv)
       have Q6:=hide (Q5.out.trans (bind_ok h6))
       clear hr h6 hv
       have C7:Hid (Sp w _ p q L k6 dm sm [(w6.heap.size,.cells #[.int .u8 z6a,.int .i64 z6b,.int .u64 z6c,.int .u64 z6d,.string z6e,.string z6f,.int .i64 z6g,.int .i64 z6h,.slice s6i n6i c6i,.int .i64 z6j] 49 (0,0)),(w1.heap.size,.cells #[.string t2,.slice s90 n90 c90,.slice (some ⟨w6.heap.size,0,none⟩) 1 1,.slice none 0 0,.string ⟨#[]⟩,.int .i64 (lineP L k:Int)] 79 (0,0)),(w.heap.size,.cells #[.string ⟨#[]⟩,.slice none 0 0,.slice none 0 0,.slice none 0 0,.string ⟨#[]⟩,.int .i64 0] 79 (0,0))] _):=((S6.out.alloc #[.int .u8 z6a,.int .i64 z6b,.int .u64 z6c,.int .u64 z6d,.string z6e,.string z6f,.int .i64 z6g,.int .i64 z6h,.slice s6i n6i c6i,.int .i64 z6j] 49 (w6.heap.size) rfl).set1 2 (.slice (some ⟨w6.heap.size,0,none⟩) 1 1))
       have P16:Hid (Sp w _ p q L k6 dm sm [(w6.heap.size,.cells #[.int .u8 z6a,.int .i64 z6b,.int .u64 z6c,.int .u64 z6d,.string z6e,.string z6f,.int .i64 z6g,.int .i64 z6h,.slice s6i n6i c6i,.int .i64 z6j] 49 (0,0)),(w1.heap.size,.cells #[.string t2,.slice s90 n90 c90,.slice none 0 0,.slice none 0 0,.string ⟨#[]⟩,.int .i64 (lineP L k:Int)] 79 (0,0)),(w.heap.size,.cells #[.string ⟨#[]⟩,.slice none 0 0,.slice none 0 0,.slice none 0 0,.string ⟨#[]⟩,.int .i64 0] 79 (0,0))] _):=(S6.out.alloc #[.int .u8 z6a,.int .i64 z6b,.int .u64 z6c,.int .u64 z6d,.string z6e,.string z6f,.int .i64 z6g,.int .i64 z6h,.slice s6i n6i c6i,.int .i64 z6j] 49 (w6.heap.size) rfl)
       have gc17:=cellA P16.out.b1 2;have gs17:=softA P16.out.b1 2
       go_wp2_with fail
       refine (pass_lay C7.out.rr HL.out [[123]] (by decide) (by decide) #[.string ⟨#[123]⟩] rfl 9 _ 1 (by first | rfl | simp | simp [World.size_alloc] | simp [World.setCell] | simp [World.setCell,World.size_alloc]) rfl).mono ?_
       rintro e w7 (⟨x7,k7,v,h7,rfl,hv,hr⟩ | ⟨k7,h7,rfl,hr⟩)
       ·obtain rfl:v=.tuple #[]:=hv
        have S7:=hide (C7.out.go hr)
        have Q7:=hide (Q6.out.trans (bind_ok h7))
        clear hr h7 C7
        go_wp2_with fail
        refine (HRc.out _ _ (Nat.zero_le _) S7.out.rr.here (HI.out _ _ S7.out.rr)).mono ?_
        rintro e w8 (⟨x8,k8,v,h8,rfl,hv,hr⟩ | ⟨k8,h8,rfl,hr⟩)
        ·obtain ⟨s8,n8,c8,rfl⟩:=ListR.form hv
         have S8:=hide (S7.out.call (ListR.ok caseV_ok mkAgg 7) hr hv)
         have Q8:=hide (Q7.out.trans (bind_ok h8))
         clear hr h8 hv
         have C9:Hid (Sp w _ p q L k8 dm sm [(w6.heap.size,.cells #[.int .u8 z6a,.int .i64 z6b,.int .u64 z6c,.int .u64 z6d,.string z6e,.string z6f,.int .i64 z6g,.int .i64 z6h,.slice s6i n6i c6i,.int .i64 z6j] 49 (0,0)),(w1.heap.size,.cells #[.string t2,.slice s90 n90 c90,.slice (some ⟨w6.heap.size,0,none⟩) 1 1,.slice s8 n8 c8,.string ⟨#[]⟩,.int .i64 (lineP L k:Int)] 79 (0,0)),(w.heap.size,.cells #[.string ⟨#[]⟩,.slice none 0 0,.slice none 0 0,.slice none 0 0,.string ⟨#[]⟩,.int .i64 0] 79 (0,0))] _):=(S8.out.set1 3 (.slice s8 n8 c8))
         have gc18:=cellA S8.out.b1 3;have gs18:=softA S8.out.b1 3
         go_wp2_with fail
         refine (HCs.out _ _ (Nat.zero_le _) C9.out.rr.here (HI.out _ _ C9.out.rr)).mono ?_
         rintro e w9 (⟨x9,k9,v,h9,rfl,hv,hr⟩ | ⟨k9,h9,rfl,hr⟩)
         ·obtain ⟨t9,rfl⟩:=StrV.form hv
          have S9:=hide (C9.out.call strV_ok hr hv)
          have Q9:=hide (Q8.out.trans (bind_ok h9))
          clear hr h9 hv C9
          have C10:Hid (Sp w _ p q L k9 dm sm [(w6.heap.size,.cells #[.int .u8 z6a,.int .i64 z6b,.int .u64 z6c,.int .u64 z6d,.string z6e,.string z6f,.int .i64 z6g,.int .i64 z6h,.slice s6i n6i c6i,.int .i64 z6j] 49 (0,0)),(w1.heap.size,.cells #[.string t2,.slice s90 n90 c90,.slice (some ⟨w6.heap.size,0,none⟩) 1 1,.slice s8 n8 c8,.string t9,.int .i64 (lineP L k:Int)] 79 (0,0)),(w.heap.size,.cells #[.string ⟨#[]⟩,.slice none 0 0,.slice none 0 0,.slice none 0 0,.string ⟨#[]⟩,.int .i64 0] 79 (0,0))] _):=(S9.out.set1 4 (.string t9))
          have gc19:=cellA S9.out.b1 4;have gs19:=softA S9.out.b1 4
          go_wp2_with fail
          refine (pass_lay C10.out.rr HL.out [[125]] (by decide) (by decide) #[.string ⟨#[125]⟩] rfl 9 _ 1 (by first | rfl | simp | simp [World.size_alloc] | simp [World.setCell] | simp [World.setCell,World.size_alloc]) rfl).mono ?_
          rintro e w10 (⟨x10,k10,v,h10,rfl,hv,hr⟩ | ⟨k10,h10,rfl,hr⟩)
          ·obtain rfl:v=.tuple #[]:=hv
           have S10:=hide (C10.out.go hr)
           have Q10:=hide (Q9.out.trans (bind_ok h10))
           clear hr h10 C10
           go_wp2_with fail
           refine (pass_lay S10.out.rr HL.out [[125]] (by decide) (by decide) #[.string ⟨#[125]⟩] rfl 9 _ 1 (by first | rfl | simp | simp [World.size_alloc] | simp [World.setCell] | simp [World.setCell,World.size_alloc]) rfl).mono ?_
           rintro e w11 (⟨x11,k11,v,h11,rfl,hv,hr⟩ | ⟨k11,h11,rfl,hr⟩)
           ·obtain rfl:v=.tuple #[]:=hv
            have S11:=hide (S10.out.go hr)
            have Q11:=hide (Q10.out.trans (bind_ok h11))
            clear hr h11
            have Q12:Hid (RR=.ok ((⟨x2,l,[x6],x8,x9,lineP L k⟩:Ts),k11)):=Q11.out.trans rfl
            have XL:Hid (∀ W,((StrV) W (Bn w W) (.string t9) x9∧(ListR CaseV mkAgg 7) W (Bn w W) (.slice s8 n8 c8) x8∧(ExR) W (Bn w W) (.agg #[.int .u8 z6a,.int .i64 z6b,.int .u64 z6c,.int .u64 z6d,.string z6e,.string z6f,.int .i64 z6g,.int .i64 z6h,.slice s6i n6i c6i,.int .i64 z6j]) x6∧(RowS w.heap.size) W (Bn w W) (.slice s90 n90 c90) l∧(StrV) W (Bn w W) (.string t2) x2∧True)→W.heap[w6.heap.size]? = some (.cells #[.int .u8 z6a,.int .i64 z6b,.int .u64 z6c,.int .u64 z6d,.string z6e,.string z6f,.int .i64 z6g,.int .i64 z6h,.slice s6i n6i c6i,.int .i64 z6j] 49 (0,0))→Bn w W (w6.heap.size)→(StateR) W (Bn w W) (.agg #[.string t2,.slice s90 n90 c90,.slice (some ⟨w6.heap.size,0,none⟩) 1 1,.slice s8 n8 c8,.string t9,.int .i64 (lineP L k:Int)]) (⟨x2,l,[x6],x8,x9,lineP L k⟩:Ts)):=by
             rintro W ⟨X9,X8,X6,X90,X2,_⟩ hb0 hx0
             obtain rfl:=StrV.eq X9
             obtain rfl:=StrV.eq X2
             exact ⟨_,_,_,rfl,RowS.list X90,(lit1 (mk:=mkAgg) (cs:=[.int .u8 z6a,.int .i64 z6b,.int .u64 z6c,.int .u64 z6d,.string z6e,.string z6f,.int .i64 z6g,.int .i64 z6h,.slice s6i n6i c6i,.int .i64 z6j]) hb0 hx0 rfl X6),X8⟩
            have CF:Hid (Sp w _ p q L k11 dm sm [(w6.heap.size,.cells #[.int .u8 z6a,.int .i64 z6b,.int .u64 z6c,.int .u64 z6d,.string z6e,.string z6f,.int .i64 z6g,.int .i64 z6h,.slice s6i n6i c6i,.int .i64 z6j] 49 (0,0)),(w1.heap.size,.cells #[.string t2,.slice s90 n90 c90,.slice (some ⟨w6.heap.size,0,none⟩) 1 1,.slice s8 n8 c8,.string t9,.int .i64 (lineP L k:Int)] 79 (0,0)),(w.heap.size,.cells #[.string ⟨#[]⟩,.slice none 0 0,.slice none 0 0,.slice none 0 0,.string ⟨#[]⟩,.int .i64 0] 79 (0,0))] _):=S11.out
            go_wp2_with (first | (refine wpList_loadA rfl 79 _ rfl _ [.string t2,.slice s90 n90 c90,.slice (some ⟨w6.heap.size,0,none⟩) 1 1,.slice s8 n8 c8,.string t9,.int .i64 (lineP L k:Int)] 79 rfl ag_state sz_state CF.out.b1 ?_) | (refine wpList_storeA rfl 79 _ _ rfl _ [.string t2,.slice s90 n90 c90,.slice (some ⟨w6.heap.size,0,none⟩) 1 1,.slice s8 n8 c8,.string t9,.int .i64 (lineP L k:Int)] #[.string ⟨#[]⟩,.slice none 0 0,.slice none 0 0,.slice none 0 0,.string ⟨#[]⟩,.int .i64 0] 79 rfl rfl sz_state CF.out.b2 rfl (by intro u hu;simp at hu;rcases hu with rfl | rfl | rfl | rfl | rfl | rfl <;> rfl) ?_;intro w9 hw9;have HW9:=hide hw9;clear hw9))
            have SF:=CF.out.fill2 [.string t2,.slice s90 n90 c90,.slice (some ⟨w6.heap.size,0,none⟩) 1 1,.slice s8 n8 c8,.string t9,.int .i64 (lineP L k:Int)] rfl
            rw [← HW9.out] at SF
            have HXE:=hide (XL.out _ SF.fin SF.b0 SF.l0)
            have HRR:=hide SF.rr
            have HBB:=SF.b2
            clear SF
            refine bodyPost_ret (v:=.agg #[.string t2,.slice s90 n90 c90,.slice (some ⟨w6.heap.size,0,none⟩) 1 1,.slice s8 n8 c8,.string t9,.int .i64 (lineP L k:Int)]) (res_cell (cs:=[.string t2,.slice s90 n90 c90,.slice (some ⟨w6.heap.size,0,none⟩) 1 1,.slice s8 n8 c8,.string t9,.int .i64 (lineP L k:Int)]) (e:=79) Tryz.results102 rfl ag_state sz_state HBB) rfl ?_
            exact .inl ⟨(⟨x2,l,[x6],x8,x9,lineP L k⟩:Ts),k11,_,Q12.out,rfl,HXE.out,HRR.out⟩
           ·have R11:=hide (S10.out.rr.from hr)
            have Q11:=hide (Q10.out.trans (bind_err h11))
            clear hr h11
            go_wp2
            exact ⟨rfl,.inr ⟨_,Q11.out,rfl,R11.out⟩⟩
          ·have R10:=hide (C10.out.rr.from hr)
           have Q10:=hide (Q9.out.trans (bind_err h10))
           clear hr h10
           go_wp2
           exact ⟨rfl,.inr ⟨_,Q10.out,rfl,R10.out⟩⟩
         ·have R9:=hide (C9.out.rr.from hr)
          have Q9:=hide (Q8.out.trans (bind_err h9))
          clear hr h9
          go_wp2
          exact ⟨rfl,.inr ⟨_,Q9.out,rfl,R9.out⟩⟩
        ·have R8:=hide (S7.out.rr.from hr)
         have Q8:=hide (Q7.out.trans (bind_err h8))
         clear hr h8
         go_wp2
         exact ⟨rfl,.inr ⟨_,Q8.out,rfl,R8.out⟩⟩
       ·have R7:=hide (C7.out.rr.from hr)
        have Q7:=hide (Q6.out.trans (bind_err h7))
        clear hr h7
        go_wp2
        exact ⟨rfl,.inr ⟨_,Q7.out,rfl,R7.out⟩⟩
      ·have R6:=hide (S5.out.rr.from hr)
       have Q6:=hide (Q5.out.trans (bind_err h6))
       clear hr h6
       go_wp2
       exact ⟨rfl,.inr ⟨_,Q6.out,rfl,R6.out⟩⟩
     ·have S5:=hide (S4.out.go hr)
      have Q5:=hide (Q4.out.trans (ifP_no h5))
      clear hr h5 S4 Q4
      go_wp2_with fail
      refine (pass_lay S5.out.rr HL.out [[103,111]] (by decide) (by decide) #[.string ⟨#[103,111]⟩] rfl 9 _ 1 (by first | rfl | simp | simp [World.size_alloc] | simp [World.setCell] | simp [World.setCell,World.size_alloc]) rfl).mono ?_
      rintro e w6 (⟨x6,k6,v,h6,rfl,hv,hr⟩ | ⟨k6,h6,rfl,hr⟩)
      ·obtain rfl:v=.tuple #[]:=hv
       have S6:=hide (S5.out.go hr)
       have Q6:=hide (Q5.out.trans (bind_ok h6))
       clear hr h6
       go_wp2_with fail
       refine (HCs.out _ _ (Nat.zero_le _) S6.out.rr.here (HI.out _ _ S6.out.rr)).mono ?_
       rintro e w7 (⟨x7,k7,v,h7,rfl,hv,hr⟩ | ⟨k7,h7,rfl,hr⟩)
       ·obtain ⟨t7,rfl⟩:=StrV.form hv
        have S7:=hide (S6.out.call strV_ok hr hv)
        have Q7:=hide (Q6.out.trans (bind_ok h7))
        clear hr h7 hv
        have C8:Hid (Sp w _ p q L k7 dm sm [(w1.heap.size,.cells #[.string t2,.slice s90 n90 c90,.slice none 0 0,.slice none 0 0,.string t7,.int .i64 (lineP L k:Int)] 79 (0,0)),(w.heap.size,.cells #[.string ⟨#[]⟩,.slice none 0 0,.slice none 0 0,.slice none 0 0,.string ⟨#[]⟩,.int .i64 0] 79 (0,0))] _):=(S7.out.set0 4 (.string t7))
        have gc20:=cellA S7.out.b0 4;have gs20:=softA S7.out.b0 4
        go_wp2_with fail
        refine (pass_lay C8.out.rr HL.out [[125]] (by decide) (by decide) #[.string ⟨#[125]⟩] rfl 9 _ 1 (by first | rfl | simp | simp [World.size_alloc] | simp [World.setCell] | simp [World.setCell,World.size_alloc]) rfl).mono ?_
        rintro e w8 (⟨x8,k8,v,h8,rfl,hv,hr⟩ | ⟨k8,h8,rfl,hr⟩)
        ·obtain rfl:v=.tuple #[]:=hv
         have S8:=hide (C8.out.go hr)
         have Q8:=hide (Q7.out.trans (bind_ok h8))
         clear hr h8 C8
         have Q9:Hid (RR=.ok ((⟨x2,l,[],[],x7,lineP L k⟩:Ts),k8)):=Q8.out.trans rfl
         have XL:Hid (∀ W,((StrV) W (Bn w W) (.string t7) x7∧(RowS w.heap.size) W (Bn w W) (.slice s90 n90 c90) l∧(StrV) W (Bn w W) (.string t2) x2∧True)→(StateR) W (Bn w W) (.agg #[.string t2,.slice s90 n90 c90,.slice none 0 0,.slice none 0 0,.string t7,.int .i64 (lineP L k:Int)]) (⟨x2,l,[],[],x7,lineP L k⟩:Ts)):=by
          rintro W ⟨X7,X90,X2,_⟩
          obtain rfl:=StrV.eq X7
          obtain rfl:=StrV.eq X2
          exact ⟨_,_,_,rfl,RowS.list X90,ListR.none,ListR.none⟩
         have CF:Hid (Sp w _ p q L k8 dm sm [(w1.heap.size,.cells #[.string t2,.slice s90 n90 c90,.slice none 0 0,.slice none 0 0,.string t7,.int .i64 (lineP L k:Int)] 79 (0,0)),(w.heap.size,.cells #[.string ⟨#[]⟩,.slice none 0 0,.slice none 0 0,.slice none 0 0,.string ⟨#[]⟩,.int .i64 0] 79 (0,0))] _):=S8.out
         go_wp2_with (first | (refine wpList_loadA rfl 79 _ rfl _ [.string t2,.slice s90 n90 c90,.slice none 0 0,.slice none 0 0,.string t7,.int .i64 (lineP L k:Int)] 79 rfl ag_state sz_state CF.out.b0 ?_) | (refine wpList_storeA rfl 79 _ _ rfl _ [.string t2,.slice s90 n90 c90,.slice none 0 0,.slice none 0 0,.string t7,.int .i64 (lineP L k:Int)] #[.string ⟨#[]⟩,.slice none 0 0,.slice none 0 0,.slice none 0 0,.string ⟨#[]⟩,.int .i64 0] 79 rfl rfl sz_state CF.out.b1 rfl (by intro u hu;simp at hu;rcases hu with rfl | rfl | rfl | rfl | rfl | rfl <;> rfl) ?_;intro w9 hw9;have HW9:=hide hw9;clear hw9))
         have SF:=CF.out.fill1 [.string t2,.slice s90 n90 c90,.slice none 0 0,.slice none 0 0,.string t7,.int .i64 (lineP L k:Int)] rfl
         rw [← HW9.out] at SF
         have HXE:=hide (XL.out _ SF.fin)
         have HRR:=hide SF.rr
         have HBB:=SF.b1
         clear SF
         refine bodyPost_ret (v:=.agg #[.string t2,.slice s90 n90 c90,.slice none 0 0,.slice none 0 0,.string t7,.int .i64 (lineP L k:Int)]) (res_cell (cs:=[.string t2,.slice s90 n90 c90,.slice none 0 0,.slice none 0 0,.string t7,.int .i64 (lineP L k:Int)]) (e:=79) Tryz.results102 rfl ag_state sz_state HBB) rfl ?_
         exact .inl ⟨(⟨x2,l,[],[],x7,lineP L k⟩:Ts),k8,_,Q9.out,rfl,HXE.out,HRR.out⟩
        ·have R8:=hide (C8.out.rr.from hr)
         have Q8:=hide (Q7.out.trans (bind_err h8))
         clear hr h8
         go_wp2
         exact ⟨rfl,.inr ⟨_,Q8.out,rfl,R8.out⟩⟩
       ·have R7:=hide (S6.out.rr.from hr)
        have Q7:=hide (Q6.out.trans (bind_err h7))
        clear hr h7
        go_wp2
        exact ⟨rfl,.inr ⟨_,Q7.out,rfl,R7.out⟩⟩
      ·have R6:=hide (S5.out.rr.from hr)
       have Q6:=hide (Q5.out.trans (bind_err h6))
       clear hr h6
       go_wp2
       exact ⟨rfl,.inr ⟨_,Q6.out,rfl,R6.out⟩⟩
  ·have R3:=hide (C3.out.rr.from hr)
   have Q3:=hide (Q2.out.trans (bind_err h3))
   clear hr h3
   go_wp2
   exact ⟨rfl,.inr ⟨_,Q3.out,rfl,R3.out⟩⟩
 ·have R2:=hide (C2.out.rr.from hr)
  have Q2:=hide (Q0.out.trans (bind_err h2))
  clear hr h2
  go_wp2
  exact ⟨rfl,.inr ⟨_,Q2.out,rfl,R2.out⟩⟩
theorem Tryz.infofieldN:(Tryz.prog.info? 137).map (fun i=>(i.zero,i.size,i.bytes))=some (some (.agg #[.string ⟨#[]⟩,.int .i64 0]),2,24):=by kernel_rfl
set_option maxRecDepth 100000 in
set_option maxHeartbeats 4000000 in
theorem until_field {p q:Nat} {L:List (Wd × Nat)} {dm sm:Value} {I:World→Prop} {k0:Nat} {f:Pf (List UInt8 × Nat)} {b3 b5:Nat} (hL:OkL L) (hI:Stb I p q L dm sm) (hgo:Goes f) (en:List UInt8) (hen:en ≠ []) (T:ByteArray) (hT:T=txt en) (HTh:PfI I 196 #[.pointer (some ⟨b3,0,none⟩),.pointer (some ⟨b5,0,none⟩)] p q L dm sm k0 f FieldV) :
  PfI I 195 #[.pointer (some ⟨p,0,none⟩),.string T,.func (Fn.func 196) #[] #[.pointer (some ⟨b3,0,none⟩),.pointer (some ⟨b5,0,none⟩)]] p q L dm sm k0 (untilP en f) (ListR FieldV mkAgg 2):=by
 intro w k hk h hi
 obtain ⟨i0',hi0,hz0,hz1,hz2⟩:=info_parts Tryz.infofieldN
 have hsm:=h.sml
 have hkl:=h.kl
 have HLS:Hid (Lp FieldV mkAgg 2 137 w w p q L dm sm k 0 (.slice none 0 0) [] []):=Lp.start h
 have HP:=hide (fun W k' (r:Rp w W p q L k' dm sm)=>passed_two r hL en hen T hT)
 have HN:=hide (fun W k' (hkk:k≤k') (r:Rp w W p q L k' dm sm)=>HTh W k' (Nat.le_trans hk hkk) r.here (hI w W k' r hi))
 have HSM:=hide hsm
 have HGO:=hide (fun k' x k1 he=>hgo L k' x k1 he)
 have HU:Hid (untilP en f L k=untilF en f (L.length+1 - k) L k):=rfl
 obtain ⟨RR,hRR⟩:∃ RR,RR=untilP en f L k:=⟨_,rfl⟩
 rw [← hRR]
 rw [← hRR] at HU
 clear h hL hen hsm hRR hT hi hk hI hgo HTh
 go_enter Tryz.func195,Tryz.ntmps195
 go_wp2
 go_loopg [7] (L.length+1 - k) (fun g v wr=>∃ (v1:Value) (k' n:Nat) (l:List (List UInt8 × Nat)) (css:List (List Value)),v1=v∧L.length+1≤g+k'∧k≤k'∧n≤k'∧Hid (RR=preL l (untilF en f g L k'))∧Hid (Lp FieldV mkAgg 2 137 w wr p q L dm sm k' n v1 l css))
 case atStart=>exact ⟨_,k,0,[],[],rfl,by omega,Nat.le_refl _,Nat.zero_le _,by unfold Hid;rw [preL_nil];exact HU.out,HLS.out⟩
 case round =>
  obtain ⟨v,k',n,l,css,rfl,hg,hkk,hn,HQ,HL⟩:=hrel
  have HG:=hide hg
  have HNK:=hide hn
  have HKK:=hide hkk
  have hkl':=HL.out.rr.kl
  have hg0:0 < gk:=by omega
  have HG0:=hide hg0
  clear hg hn hg0 hkl HLS HU hkk
  go_wp2_with fail
  refine (HP.out _ _ HL.out.rr).mono ?_
  rintro e w1 (⟨hp,rfl,hr⟩ | ⟨hp,rfl,hr⟩)
  ·have HE:Hid (RR=.ok (l,k'+1)):=by unfold Hid;rw [HQ.out,untilF_end HG0.out hp];simp [preL]
   have L1:=hide (HL.out.go fieldV_ok hr)
   clear hr hp HQ
   go_wp2
   go_ret
   exact .inl ⟨l,k'+1,_,HE.out,rfl,L1.out.done fieldV_ok,L1.out.rr⟩
  ·have HE1:Hid (∀ e,f L k'=.error e→RR=.error e):=fun e he=>by rw [HQ.out,untilF_err HG0.out hp he];rfl
   have HE2:Hid (∀ x k1,f L k'=.ok (x,k1)→RR=preL (l ++ [x]) (untilF en f (gk - 1) L k1)∧k' < k1):=fun x k1 he=>⟨by rw [HQ.out,untilF_go HG0.out hp he],HGO.out k' x k1 he⟩
   have L1:=hide (HL.out.go fieldV_ok hr)
   clear hr HL hp HQ
   go_wp2_with fail
   refine (HN.out _ _ HKK.out L1.out.rr).mono ?_
   rintro e w2 (⟨x,k2,v2,h2,rfl,hv,hr⟩ | ⟨k2,h2,rfl,hr⟩)
   ·obtain ⟨z2a,z2b,rfl⟩:=FieldV.form hv
    have H2:=hide (HE2.out _ _ h2)
    have R2:=hide hr
    have O2:=hide (L1.out.go fieldV_ok hr).own
    have Z2:Hid (w.heap.size≤w2.heap.size):=Nat.le_trans L1.out.rr.fr.size hr.fr.size
    have HSx:Hid (FieldV w2 (Bn w1 w2) (mkAgg [.string z2a,.int .i64 z2b]) x):=hv
    clear hr h2 hv
    go_wp2_with (at_builtin;refine wpList_appC rfl _ _ 63 rfl 137 i0' (.agg #[.string ⟨#[]⟩,.int .i64 0]) 2 24 Tryz.underlying63 hi0 hz0 hz1 hz2 rfl (by decide) (by decide) w.heap.size _ n css.flatten rfl (ownR_below O2.out ((Below.refl _ _).alloc (Nat.le_refl _) _)) w2.heap.size [.string z2a,.int .i64 z2b] rfl rfl (cells_newC _ [.string z2a,.int .i64 z2b] _) (by intro u hu;simp at hu;rcases hu with rfl | rfl <;> rfl) (by have:=HNK.out;have:=HSM.out;omega) (by have:=Z2.out;simp;omega) ?_;intro v8 w8 O8 D8;have L8:=hide (L1.out.step fieldV_ok R2.out HSx.out rfl O8 D8);clear O8 D8)
    go_roundg (gk - 1)
    case measure=>have:=HG0.out;omega
    case rel=>exact ⟨_,k2,n+1,l ++ [x],_,rfl,by have:=HG.out;have:=H2.out.2;omega,by have:=HKK.out;have:=H2.out.2;omega,by have:=HNK.out;have:=H2.out.2;omega,H2.out.1,L8.out⟩
   ·have R2:=hide (L1.out.rr.from hr)
    have H2:=hide (HE1.out _ h2)
    clear hr h2
    go_wp2
    exact ⟨rfl,.inr ⟨k2,H2.out,rfl,R2.out⟩⟩
end Go.Proofs.YtabkimknlifdoaaGreatDoor
