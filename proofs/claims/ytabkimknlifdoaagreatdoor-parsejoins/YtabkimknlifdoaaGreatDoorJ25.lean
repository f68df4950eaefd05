/- Pieces of the proof: PaJh. -/
import Derived.Test.YtabkimknlifdoaaGreatDoorJ14
namespace Go.Proofs.YtabkimknlifdoaaGreatDoor
open Go.RowKit
set_option maxRecDepth 100000 in
set_option maxHeartbeats 4000000 in
theorem count_ok {p q:Nat} {L:List (Wd × Nat)} {dm sm:Value} {I:World→Prop} {ex:Pf Ex} (hL:OkL L) (hI:Stb I p q L dm sm) (HCe:PfI I 115 #[.pointer (some ⟨p,0,none⟩)] p q L dm sm 0 (cellP ex) (ExR)) :
  PfI I 57 #[.pointer (some ⟨p,0,none⟩)] p q L dm sm 0 (countP ex) (SmR):=by
 intro w k hk h hi
 have HI:Hid (∀ W k',Rp w W p q L k' dm sm→I W):=fun W k' r=>hI w W k' r hi
 have HL:=hide hL
 have HKK:=hide hk
 have HNm:=hide (name_i (I:=I) (p:=p) (q:=q) (dm:=dm) (sm:=sm) (k0:=0) hL)
 have HCe:=hide HCe
 have S0:=hide (Sp.start h)
 obtain ⟨RR,hRR⟩:∃ RR,RR=(countP ex) L k:=⟨_,rfl⟩
 rw [← hRR]
 have Q0:=hide hRR
 clear hRR h hi hk hL hI
 go_enter Tryz.func57,Tryz.ntmps57
 have C1:Hid (Sp w _ p q L k dm sm [(w.heap.size,.cells #[.int .u8 0,.string ⟨#[]⟩,.string ⟨#[]⟩,.string ⟨#[]⟩,.int .i64 0,.slice none 0 0,.slice none 0 0,.slice none 0 0,.int .i64 0] 72 (0,0))] _):=(S0.out.alloc #[.int .u8 0,.string ⟨#[]⟩,.string ⟨#[]⟩,.string ⟨#[]⟩,.int .i64 0,.slice none 0 0,.slice none 0 0,.slice none 0 0,.int .i64 0] 72 (w.heap.size) rfl)
 go_wp2_with fail
 refine (HNm.out _ _ (Nat.zero_le _) C1.out.rr.here (HI.out _ _ C1.out.rr)).mono ?_
 rintro e w1 (⟨x1,k1,v,h1,rfl,hv,hr⟩ | ⟨k1,h1,rfl,hr⟩)
 ·obtain ⟨t1,rfl⟩:=StrV.form hv
  have S1:=hide (C1.out.call strV_ok hr hv)
  have Q1:=hide (Q0.out.trans (bind_ok h1))
  clear hr h1 hv C1
  have C2:Hid (Sp w _ p q L k1 dm sm [(w1.heap.size,.cells #[.int .u8 7,.string t1,.string ⟨#[]⟩,.string ⟨#[]⟩,.int .i64 0,.slice none 0 0,.slice none 0 0,.slice none 0 0,.int .i64 0] 72 (0,0)),(w.heap.size,.cells #[.int .u8 0,.string ⟨#[]⟩,.string ⟨#[]⟩,.string ⟨#[]⟩,.int .i64 0,.slice none 0 0,.slice none 0 0,.slice none 0 0,.int .i64 0] 72 (0,0))] _):=(S1.out.alloc #[.int .u8 7,.string t1,.string ⟨#[]⟩,.string ⟨#[]⟩,.int .i64 0,.slice none 0 0,.slice none 0 0,.slice none 0 0,.int .i64 0] 72 (w1.heap.size) rfl)
  go_wp2_with fail
  refine (HCe.out _ _ (Nat.zero_le _) C2.out.rr.here (HI.out _ _ C2.out.rr)).mono ?_
  rintro e w2 (⟨x2,k2,v,h2,rfl,hv,hr⟩ | ⟨k2,h2,rfl,hr⟩)
  ·obtain ⟨z2a,z2b,z2c,z2d,z2e,z2f,z2g,z2h,s2i,n2i,c2i,z2j,rfl⟩:=ExR.form hv
   have S2:=hide (C2.out.call exRep_ok hr hv)
   have Q2:=hide (Q1.out.trans (bind_ok h2))
   clear hr h2 hv C2
   have C3:Hid (Sp w _ p q L k2 dm sm [(w2.heap.size,.cells #[.int .u8 z2a,.int .i64 z2b,.int .u64 z2c,.int .u64 z2d,.string z2e,.string z2f,.int .i64 z2g,.int .i64 z2h,.slice s2i n2i c2i,.int .i64 z2j] 49 (0,0)),(w1.heap.size,.cells #[.int .u8 7,.string t1,.string ⟨#[]⟩,.string ⟨#[]⟩,.int .i64 0,.slice (some ⟨w2.heap.size,0,none⟩) 1 1,.slice none 0 0,.slice none 0 0,.int .i64 0] 72 (0,0)),(w.heap.size,.cells #[.int .u8 0,.string ⟨#[]⟩,.string ⟨#[]⟩,.string ⟨#[]⟩,.int .i64 0,.slice none 0 0,.slice none 0 0,.slice none 0 0,.int .i64 0] 72 (0,0))] _):=((S2.out.alloc #[.int .u8 z2a,.int .i64 z2b,.int .u64 z2c,.int .u64 z2d,.string z2e,.string z2f,.int .i64 z2g,.int .i64 z2h,.slice s2i n2i c2i,.int .i64 z2j] 49 (w2.heap.size) rfl).set1 5 (.slice (some ⟨w2.heap.size,0,none⟩) 1 1))
   have P1:Hid (Sp w _ p q L k2 dm sm [(w2.heap.size,.cells #[.int .u8 z2a,.int .i64 z2b,.int .u64 z2c,.int .u64 z2d,.string z2e,.string z2f,.int .i64 z2g,.int .i64 z2h,.slice s2i n2i c2i,.int .i64 z2j] 49 (0,0)),(w1.heap.size,.cells #[.int .u8 7,.string t1,.string ⟨#[]⟩,.string ⟨#[]⟩,.int .i64 0,.slice none 0 0,.slice none 0 0,.slice none 0 0,.int .i64 0] 72 (0,0)),(w.heap.size,.cells #[.int .u8 0,.string ⟨#[]⟩,.string ⟨#[]⟩,.string ⟨#[]⟩,.int .i64 0,.slice none 0 0,.slice none 0 0,.slice none 0 0,.int .i64 0] 72 (0,0))] _):=(S2.out.alloc #[.int .u8 z2a,.int .i64 z2b,.int .u64 z2c,.int .u64 z2d,.string z2e,.string z2f,.int .i64 z2g,.int .i64 z2h,.slice s2i n2i c2i,.int .i64 z2j] 49 (w2.heap.size) rfl)
   have gc2:=cellA P1.out.b1 5;have gs2:=softA P1.out.b1 5
   go_wp2_with fail
   refine (pass_lay C3.out.rr HL.out [[59]] (by decide) (by decide) #[.string ⟨#[59]⟩] rfl 9 _ 1 (by first | rfl | simp | simp [World.size_alloc] | simp [World.setCell] | simp [World.setCell,World.size_alloc]) rfl).mono ?_
   rintro e w3 (⟨x3,k3,v,h3,rfl,hv,hr⟩ | ⟨k3,h3,rfl,hr⟩)
   ·obtain rfl:v=.tuple #[]:=hv
    have S3:=hide (C3.out.go hr)
    have Q3:=hide (Q2.out.trans (bind_ok h3))
    clear hr h3 C3
    have Q4:Hid (RR=.ok (({ sm0 7 with name:=x1,args:=[x2] }:Sm),k3)):=Q3.out.trans rfl
    have XL:Hid (∀ W,((ExR) W (Bn w W) (.agg #[.int .u8 z2a,.int .i64 z2b,.int .u64 z2c,.int .u64 z2d,.string z2e,.string z2f,.int .i64 z2g,.int .i64 z2h,.slice s2i n2i c2i,.int .i64 z2j]) x2∧(StrV) W (Bn w W) (.string t1) x1∧True)→W.heap[w2.heap.size]? = some (.cells #[.int .u8 z2a,.int .i64 z2b,.int .u64 z2c,.int .u64 z2d,.string z2e,.string z2f,.int .i64 z2g,.int .i64 z2h,.slice s2i n2i c2i,.int .i64 z2j] 49 (0,0))→Bn w W (w2.heap.size)→(SmR) W (Bn w W) (.agg #[.int .u8 7,.string t1,.string ⟨#[]⟩,.string ⟨#[]⟩,.int .i64 0,.slice (some ⟨w2.heap.size,0,none⟩) 1 1,.slice none 0 0,.slice none 0 0,.int .i64 0]) ({ sm0 7 with name:=x1,args:=[x2] }:Sm)):=by
     rintro W ⟨X2,X1,_⟩ hb0 hx0
     obtain rfl:=StrV.eq X1
     exact SmR.mk (x:=({ sm0 7 with name:=x1,args:=[x2] }:Sm)) (lit1 (mk:=mkAgg) (cs:=[.int .u8 z2a,.int .i64 z2b,.int .u64 z2c,.int .u64 z2d,.string z2e,.string z2f,.int .i64 z2g,.int .i64 z2h,.slice s2i n2i c2i,.int .i64 z2j]) hb0 hx0 rfl X2) ListR.none ListR.none
    have CF:Hid (Sp w _ p q L k3 dm sm [(w2.heap.size,.cells #[.int .u8 z2a,.int .i64 z2b,.int .u64 z2c,.int .u64 z2d,.string z2e,.string z2f,.int .i64 z2g,.int .i64 z2h,.slice s2i n2i c2i,.int .i64 z2j] 49 (0,0)),(w1.heap.size,.cells #[.int .u8 7,.string t1,.string ⟨#[]⟩,.string ⟨#[]⟩,.int .i64 0,.slice (some ⟨w2.heap.size,0,none⟩) 1 1,.slice none 0 0,.slice none 0 0,.int .i64 0] 72 (0,0)),(w.heap.size,.cells #[.int .u8 0,.string ⟨#[]⟩,.string ⟨#[]⟩,.string ⟨#[]⟩,.int .i64 0,.slice none 0 0,.slice none 0 0,.slice none 0 0,.int .i64 0] 72 (0,0))] _):=S3.out
    go_wp2_with (first | (refine wpList_loadA rfl 72 _ rfl _ [.int .u8 7,.string t1,.string ⟨#[]⟩,.string ⟨#[]⟩,.int .i64 0,.slice (some ⟨w2.heap.size,0,none⟩) 1 1,.slice none 0 0,.slice none 0 0,.int .i64 0] 72 rfl ag_stmt sz_stmt CF.out.b1 ?_) | (refine wpList_storeA rfl 72 _ _ rfl _ [.int .u8 7,.string t1,.string ⟨#[]⟩,.string ⟨#[]⟩,.int .i64 0,.slice (some ⟨w2.heap.size,0,none⟩) 1 1,.slice none 0 0,.slice none 0 0,.int .i64 0] #[.int .u8 0,.string ⟨#[]⟩,.string ⟨#[]⟩,.string ⟨#[]⟩,.int .i64 0,.slice none 0 0,.slice none 0 0,.slice none 0 0,.int .i64 0] 72 rfl rfl sz_stmt CF.out.b2 rfl (by intro u hu;simp at hu;rcases hu with rfl | rfl | rfl | rfl | rfl | rfl | rfl | rfl | rfl <;> rfl) ?_;intro w9 hw9;have HW9:=hide hw9;clear hw9))
    have SF:=CF.out.fill2 [.int .u8 7,.string t1,.string ⟨#[]⟩,.string ⟨#[]⟩,.int .i64 0,.slice (some ⟨w2.heap.size,0,none⟩) 1 1,.slice none 0 0,.slice none 0 0,.int .i64 0] rfl
    rw [← HW9.out] at SF
    have HXE:=hide (XL.out _ SF.fin SF.b0 SF.l0)
    have HRR:=hide SF.rr
    have HBB:=SF.b2
    clear SF
    refine bodyPost_ret (v:=.agg #[.int .u8 7,.string t1,.string ⟨#[]⟩,.string ⟨#[]⟩,.int .i64 0,.slice (some ⟨w2.heap.size,0,none⟩) 1 1,.slice none 0 0,.slice none 0 0,.int .i64 0]) (res_cell (cs:=[.int .u8 7,.string t1,.string ⟨#[]⟩,.string ⟨#[]⟩,.int .i64 0,.slice (some ⟨w2.heap.size,0,none⟩) 1 1,.slice none 0 0,.slice none 0 0,.int .i64 0]) (e:=72) Tryz.results57 rfl ag_stmt sz_stmt HBB) rfl ?_
    exact .inl ⟨({ sm0 7 with name:=x1,args:=[x2] }:Sm),k3,_,Q4.out,rfl,HXE.out,HRR.out⟩
   ·have R3:=hide (C3.out.rr.from hr)
    have Q3:=hide (Q2.out.trans (bind_err h3))
    clear hr h3
    go_wp2
    exact ⟨rfl,.inr ⟨_,Q3.out,rfl,R3.out⟩⟩
  ·have R2:=hide (C2.out.rr.from hr)
   have Q2:=hide (Q1.out.trans (bind_err h2))
   clear hr h2
   go_wp2
   exact ⟨rfl,.inr ⟨_,Q2.out,rfl,R2.out⟩⟩
 ·have R1:=hide (C1.out.rr.from hr)
  have Q1:=hide (Q0.out.trans (bind_err h1))
  clear hr h1
  go_wp2
  exact ⟨rfl,.inr ⟨_,Q1.out,rfl,R1.out⟩⟩
set_option maxRecDepth 100000 in
set_option maxHeartbeats 4000000 in
theorem random_ok {p q:Nat} {L:List (Wd × Nat)} {dm sm:Value} {I:World→Prop} (hL:OkL L) (hI:Stb I p q L dm sm) (HOf:PfI I 118 #[.pointer (some ⟨p,0,none⟩),.int .u8 11] p q L dm sm 0 (ofFieldP 11) (SmR)) :
  PfI I 61 #[.pointer (some ⟨p,0,none⟩)] p q L dm sm 0 randomP (SmR):=by
 intro w k hk h hi
 have HI:Hid (∀ W k',Rp w W p q L k' dm sm→I W):=fun W k' r=>hI w W k' r hi
 have HL:=hide hL
 have HKK:=hide hk
 have HOf:=hide HOf
 have S0:=hide (Sp.start h)
 obtain ⟨RR,hRR⟩:∃ RR,RR=randomP L k:=⟨_,rfl⟩
 rw [← hRR]
 have Q0:=hide hRR
 clear hRR h hi hk hL hI
 go_enter Tryz.func61,Tryz.ntmps61
 have C1:Hid (Sp w _ p q L k dm sm [(w.heap.size,.cells #[.int .u8 0,.string ⟨#[]⟩,.string ⟨#[]⟩,.string ⟨#[]⟩,.int .i64 0,.slice none 0 0,.slice none 0 0,.slice none 0 0,.int .i64 0] 72 (0,0))] _):=(S0.out.alloc #[.int .u8 0,.string ⟨#[]⟩,.string ⟨#[]⟩,.string ⟨#[]⟩,.int .i64 0,.slice none 0 0,.slice none 0 0,.slice none 0 0,.int .i64 0] 72 (w.heap.size) rfl)
 go_wp2_with fail
 refine (HOf.out _ _ (Nat.zero_le _) C1.out.rr.here (HI.out _ _ C1.out.rr)).mono ?_
 rintro e w1 (⟨x1,k1,v,h1,rfl,hv,hr⟩ | ⟨k1,h1,rfl,hr⟩)
 ·obtain ⟨z1a,z1b,z1c,z1d,z1e,s1f,n1f,c1f,s1g,n1g,c1g,s1h,n1h,c1h,z1i,rfl⟩:=SmR.form hv
  have S1:=hide (C1.out.call smRep_ok hr hv)
  have Q1:=hide (Q0.out.trans (bind_ok h1))
  clear hr h1 hv C1
  have C2:Hid (Sp w _ p q L k1 dm sm [(w1.heap.size,.cells #[.int .u8 z1a,.string z1b,.string z1c,.string z1d,.int .i64 z1e,.slice s1f n1f c1f,.slice s1g n1g c1g,.slice s1h n1h c1h,.int .i64 z1i] 72 (0,0)),(w.heap.size,.cells #[.int .u8 0,.string ⟨#[]⟩,.string ⟨#[]⟩,.string ⟨#[]⟩,.int .i64 0,.slice none 0 0,.slice none 0 0,.slice none 0 0,.int .i64 0] 72 (0,0))] _):=(S1.out.alloc #[.int .u8 z1a,.string z1b,.string z1c,.string z1d,.int .i64 z1e,.slice s1f n1f c1f,.slice s1g n1g c1g,.slice s1h n1h c1h,.int .i64 z1i] 72 (w1.heap.size) rfl)
  go_wp2_with fail
  refine (pass_lay C2.out.rr HL.out [[59]] (by decide) (by decide) #[.string ⟨#[59]⟩] rfl 9 _ 1 (by first | rfl | simp | simp [World.size_alloc] | simp [World.setCell] | simp [World.setCell,World.size_alloc]) rfl).mono ?_
  rintro e w2 (⟨x2,k2,v,h2,rfl,hv,hr⟩ | ⟨k2,h2,rfl,hr⟩)
  ·obtain rfl:v=.tuple #[]:=hv
   have S2:=hide (C2.out.go hr)
   have Q2:=hide (Q1.out.trans (bind_ok h2))
   clear hr h2 C2
   have Q3:Hid (RR=.ok (x1,k2)):=Q2.out.trans rfl
   have XL:Hid (∀ W,((SmR) W (Bn w W) (.agg #[.int .u8 z1a,.string z1b,.string z1c,.string z1d,.int .i64 z1e,.slice s1f n1f c1f,.slice s1g n1g c1g,.slice s1h n1h c1h,.int .i64 z1i]) x1∧True)→(SmR) W (Bn w W) (.agg #[.int .u8 z1a,.string z1b,.string z1c,.string z1d,.int .i64 z1e,.slice s1f n1f c1f,.slice s1g n1g c1g,.slice s1h n1h c1h,.int .i64 z1i]) x1):=by
    rintro W ⟨X1,_⟩
    exact X1
   have CF:Hid (Sp w _ p q L k2 dm sm [(w1.heap.size,.cells #[.int .u8 z1a,.string z1b,.string z1c,.string z1d,.int .i64 z1e,.slice s1f n1f c1f,.slice s1g n1g c1g,.slice s1h n1h c1h,.int .i64 z1i] 72 (0,0)),(w.heap.size,.cells #[.int .u8 0,.string ⟨#[]⟩,.string ⟨#[]⟩,.string ⟨#[]⟩,.int .i64 0,.slice none 0 0,.slice none 0 0,.slice none 0 0,.int .i64 0] 72 (0,0))] _):=S2.out
   go_wp2_with (first | (refine wpList_loadA rfl 72 _ rfl _ [.int .u8 z1a,.string z1b,.string z1c,.string z1d,.int .i64 z1e,.slice s1f n1f c1f,.slice s1g n1g c1g,.slice s1h n1h c1h,.int .i64 z1i] 72 rfl ag_stmt sz_stmt CF.out.b0 ?_) | (refine wpList_storeA rfl 72 _ _ rfl _ [.int .u8 z1a,.string z1b,.string z1c,.string z1d,.int .i64 z1e,.slice s1f n1f c1f,.slice s1g n1g c1g,.slice s1h n1h c1h,.int .i64 z1i] #[.int .u8 0,.string ⟨#[]⟩,.string ⟨#[]⟩,.string ⟨#[]⟩,.int .i64 0,.slice none 0 0,.slice none 0 0,.slice none 0 0,.int .i64 0] 72 rfl rfl sz_stmt CF.out.b1 rfl (by intro u hu;simp at hu;rcases hu with rfl | rfl | rfl | rfl | rfl | rfl | rfl | rfl | rfl <;> rfl) ?_;intro w9 hw9;have HW9:=hide hw9;clear hw9))
   have SF:=CF.out.fill1 [.int .u8 z1a,.string z1b,.string z1c,.string z1d,.int .i64 z1e,.slice s1f n1f c1f,.slice s1g n1g c1g,.slice s1h n1h c1h,.int .i64 z1i] rfl
   rw [← HW9.out] at SF
   have HXE:=hide (XL.out _ SF.fin)
   have HRR:=hide SF.rr
   have HBB:=SF.b1
   clear SF
   refine bodyPost_ret (v:=.agg #[.int .u8 z1a,.string z1b,.string z1c,.string z1d,.int .i64 z1e,.slice s1f n1f c1f,.slice s1g n1g c1g,.slice s1h n1h c1h,.int .i64 z1i]) (res_cell (cs:=[.int .u8 z1a,.string z1b,.string z1c,.string z1d,.int .i64 z1e,.slice s1f n1f c1f,.slice s1g n1g c1g,.slice s1h n1h c1h,.int .i64 z1i]) (e:=72) Tryz.results61 rfl ag_stmt sz_stmt HBB) rfl ?_
   exact .inl ⟨x1,k2,_,Q3.out,rfl,HXE.out,HRR.out⟩
  ·have R2:=hide (C2.out.rr.from hr)
   have Q2:=hide (Q1.out.trans (bind_err h2))
   clear hr h2
   go_wp2
   exact ⟨rfl,.inr ⟨_,Q2.out,rfl,R2.out⟩⟩
 ·have R1:=hide (C1.out.rr.from hr)
  have Q1:=hide (Q0.out.trans (bind_err h1))
  clear hr h1
  go_wp2
  exact ⟨rfl,.inr ⟨_,Q1.out,rfl,R1.out⟩⟩
set_option maxRecDepth 100000 in
set_option maxHeartbeats 4000000 in
theorem digest_ok {p q:Nat} {L:List (Wd × Nat)} {dm sm:Value} {I:World→Prop} {so:Pf (List Ex)} (hL:OkL L) (hI:Stb I p q L dm sm) (HSo:PfI I 120 #[.pointer (some ⟨p,0,none⟩),.func (Fn.func 112) #[.pointer (some ⟨p,0,none⟩)] #[]] p q L dm sm 0 so (ListR ExR mkAgg 10)) :
  PfI I 65 #[.pointer (some ⟨p,0,none⟩)] p q L dm sm 0 (digestP so) (SmR):=by
 intro w k hk h hi
 have HI:Hid (∀ W k',Rp w W p q L k' dm sm→I W):=fun W k' r=>hI w W k' r hi
 have HL:=hide hL
 have HKK:=hide hk
 have HSo:=hide HSo
 have S0:=hide (Sp.start h)
 obtain ⟨RR,hRR⟩:∃ RR,RR=(digestP so) L k:=⟨_,rfl⟩
 rw [← hRR]
 have Q0:=hide hRR
 clear hRR h hi hk hL hI
 go_enter Tryz.func65,Tryz.ntmps65
 have C1:Hid (Sp w _ p q L k dm sm [(w.heap.size,.cells #[.int .u8 0,.string ⟨#[]⟩,.string ⟨#[]⟩,.string ⟨#[]⟩,.int .i64 0,.slice none 0 0,.slice none 0 0,.slice none 0 0,.int .i64 0] 72 (0,0))] _):=(S0.out.alloc #[.int .u8 0,.string ⟨#[]⟩,.string ⟨#[]⟩,.string ⟨#[]⟩,.int .i64 0,.slice none 0 0,.slice none 0 0,.slice none 0 0,.int .i64 0] 72 (w.heap.size) rfl)
 go_wp2_with fail
 refine (HSo.out _ _ (Nat.zero_le _) C1.out.rr.here (HI.out _ _ C1.out.rr)).mono ?_
 rintro e w1 (⟨x1,k1,v,h1,rfl,hv,hr⟩ | ⟨k1,h1,rfl,hr⟩)
 ·obtain ⟨s1,n1,c1,rfl⟩:=ListR.form hv
  have S1:=hide (C1.out.call (ListR.ok exRep_ok mkAgg 10) hr hv)
  have Q1:=hide (Q0.out.trans (bind_ok h1))
  clear hr h1 hv C1
  have C2:Hid (Sp w _ p q L k1 dm sm [(w1.heap.size,.cells #[.int .u8 13,.string ⟨#[]⟩,.string ⟨#[]⟩,.string ⟨#[]⟩,.int .i64 0,.slice s1 n1 c1,.slice none 0 0,.slice none 0 0,.int .i64 0] 72 (0,0)),(w.heap.size,.cells #[.int .u8 0,.string ⟨#[]⟩,.string ⟨#[]⟩,.string ⟨#[]⟩,.int .i64 0,.slice none 0 0,.slice none 0 0,.slice none 0 0,.int .i64 0] 72 (0,0))] _):=(S1.out.alloc #[.int .u8 13,.string ⟨#[]⟩,.string ⟨#[]⟩,.string ⟨#[]⟩,.int .i64 0,.slice s1 n1 c1,.slice none 0 0,.slice none 0 0,.int .i64 0] 72 (w1.heap.size) rfl)
  go_wp2_with fail
  refine (pass_lay C2.out.rr HL.out [[59]] (by decide) (by decide) #[.string ⟨#[59]⟩] rfl 9 _ 1 (by first | rfl | simp | simp [World.size_alloc] | simp [World.setCell] | simp [World.setCell,World.size_alloc]) rfl).mono ?_
  rintro e w2 (⟨x2,k2,v,h2,rfl,hv,hr⟩ | ⟨k2,h2,rfl,hr⟩)
  ·obtain rfl:v=.tuple #[]:=hv
   have S2:=hide (C2.out.go hr)
   have Q2:=hide (Q1.out.trans (bind_ok h2))
   clear hr h2 C2
   have Q3:Hid (RR=.ok (({ sm0 13 with args:=x1 }:Sm),k2)):=Q2.out.trans rfl
   have XL:Hid (∀ W,((ListR ExR mkAgg 10) W (Bn w W) (.slice s1 n1 c1) x1∧True)→(SmR) W (Bn w W) (.agg #[.int .u8 13,.string ⟨#[]⟩,.string ⟨#[]⟩,.string ⟨#[]⟩,.int .i64 0,.slice s1 n1 c1,.slice none 0 0,.slice none 0 0,.int .i64 0]) ({ sm0 13 with args:=x1 }:Sm)):=by
    rintro W ⟨X1,_⟩
    exact SmR.mk (x:=({ sm0 13 with args:=x1 }:Sm)) X1 ListR.none ListR.none
   have CF:Hid (Sp w _ p q L k2 dm sm [(w1.heap.size,.cells #[.int .u8 13,.string ⟨#[]⟩,.string ⟨#[]⟩,.string ⟨#[]⟩,.int .i64 0,.slice s1 n1 c1,.slice none 0 0,.slice none 0 0,.int .i64 0] 72 (0,0)),(w.heap.size,.cells #[.int .u8 0,.string ⟨#[]⟩,.string ⟨#[]⟩,.string ⟨#[]⟩,.int .i64 0,.slice none 0 0,.slice none 0 0,.slice none 0 0,.int .i64 0] 72 (0,0))] _):=S2.out
   go_wp2_with (first | (refine wpList_loadA rfl 72 _ rfl _ [.int .u8 13,.string ⟨#[]⟩,.string ⟨#[]⟩,.string ⟨#[]⟩,.int .i64 0,.slice s1 n1 c1,.slice none 0 0,.slice none 0 0,.int .i64 0] 72 rfl ag_stmt sz_stmt CF.out.b0 ?_) | (refine wpList_storeA rfl 72 _ _ rfl _ [.int .u8 13,.string ⟨#[]⟩,.string ⟨#[]⟩,.string ⟨#[]⟩,.int .i64 0,.slice s1 n1 c1,.slice none 0 0,.slice none 0 0,.int .i64 0] #[.int .u8 0,.string ⟨#[]⟩,.string ⟨#[]⟩,.string ⟨#[]⟩,.int .i64 0,.slice none 0 0,.slice none 0 0,.slice none 0 0,.int .i64 0] 72 rfl rfl sz_stmt CF.out.b1 rfl (by intro u hu;simp at hu;rcases hu with rfl | rfl | rfl | rfl | rfl | rfl | rfl | rfl | rfl <;> rfl) ?_;intro w9 hw9;have HW9:=hide hw9;clear hw9))
   have SF:=CF.out.fill1 [.int .u8 13,.string ⟨#[]⟩,.string ⟨#[]⟩,.string ⟨#[]⟩,.int .i64 0,.slice s1 n1 c1,.slice none 0 0,.slice none 0 0,.int .i64 0] rfl
   rw [← HW9.out] at SF
   have HXE:=hide (XL.out _ SF.fin)
   have HRR:=hide SF.rr
   have HBB:=SF.b1
   clear SF
   refine bodyPost_ret (v:=.agg #[.int .u8 13,.string ⟨#[]⟩,.string ⟨#[]⟩,.string ⟨#[]⟩,.int .i64 0,.slice s1 n1 c1,.slice none 0 0,.slice none 0 0,.int .i64 0]) (res_cell (cs:=[.int .u8 13,.string ⟨#[]⟩,.string ⟨#[]⟩,.string ⟨#[]⟩,.int .i64 0,.slice s1 n1 c1,.slice none 0 0,.slice none 0 0,.int .i64 0]) (e:=72) Tryz.results65 rfl ag_stmt sz_stmt HBB) rfl ?_
   exact .inl ⟨({ sm0 13 with args:=x1 }:Sm),k2,_,Q3.out,rfl,HXE.out,HRR.out⟩
  ·have R2:=hide (C2.out.rr.from hr)
   have Q2:=hide (Q1.out.trans (bind_err h2))
   clear hr h2
   go_wp2
   exact ⟨rfl,.inr ⟨_,Q2.out,rfl,R2.out⟩⟩
 ·have R1:=hide (C1.out.rr.from hr)
  have Q1:=hide (Q0.out.trans (bind_err h1))
  clear hr h1
  go_wp2
  exact ⟨rfl,.inr ⟨_,Q1.out,rfl,R1.out⟩⟩
set_option maxRecDepth 100000 in
set_option maxHeartbeats 4000000 in
theorem clone_ok {p q:Nat} {L:List (Wd × Nat)} {dm sm:Value} {I:World→Prop} (hL:OkL L) (hI:Stb I p q L dm sm) :
  PfI I 66 #[.pointer (some ⟨p,0,none⟩)] p q L dm sm 0 cloneP (SmR):=by
 intro w k hk h hi
 have HI:Hid (∀ W k',Rp w W p q L k' dm sm→I W):=fun W k' r=>hI w W k' r hi
 have HL:=hide hL
 have HKK:=hide hk
 have HCi:=hide (cint_i (I:=I) (p:=p) (q:=q) (dm:=dm) (sm:=sm) (k0:=0) hL)
 have S0:=hide (Sp.start h)
 obtain ⟨RR,hRR⟩:∃ RR,RR=cloneP L k:=⟨_,rfl⟩
 rw [← hRR]
 have Q0:=hide hRR
 clear hRR h hi hk hL hI
 go_enter Tryz.func66,Tryz.ntmps66
 have C1:Hid (Sp w _ p q L k dm sm [(w.heap.size,.cells #[.int .u8 0,.string ⟨#[]⟩,.string ⟨#[]⟩,.string ⟨#[]⟩,.int .i64 0,.slice none 0 0,.slice none 0 0,.slice none 0 0,.int .i64 0] 72 (0,0))] _):=(S0.out.alloc #[.int .u8 0,.string ⟨#[]⟩,.string ⟨#[]⟩,.string ⟨#[]⟩,.int .i64 0,.slice none 0 0,.slice none 0 0,.slice none 0 0,.int .i64 0] 72 (w.heap.size) rfl)
 go_wp2_with fail
 refine (HCi.out _ _ (Nat.zero_le _) C1.out.rr.here (HI.out _ _ C1.out.rr)).mono ?_
 rintro e w1 (⟨x1,k1,v,h1,rfl,hv,hr⟩ | ⟨k1,h1,rfl,hr⟩)
 ·obtain ⟨i1,rfl⟩:=IntV.form hv
  have S1:=hide (C1.out.call intV_ok hr hv)
  have Q1:=hide (Q0.out.trans (bind_ok h1))
  clear hr h1 hv C1
  have Q2:Hid (RR=.ok (({ sm0 14 with n:=x1 }:Sm),k1)):=Q1.out.trans rfl
  have XL:Hid (∀ W,((IntV) W (Bn w W) (.int .i64 i1) x1∧True)→(SmR) W (Bn w W) (.agg #[.int .u8 14,.string ⟨#[]⟩,.string ⟨#[]⟩,.string ⟨#[]⟩,.int .i64 i1,.slice none 0 0,.slice none 0 0,.slice none 0 0,.int .i64 0]) ({ sm0 14 with n:=x1 }:Sm)):=by
   rintro W ⟨X1,_⟩
   obtain rfl:=IntV.eq X1
   exact SmR.mk (x:=({ sm0 14 with n:=x1 }:Sm)) ListR.none ListR.none ListR.none
  have CF:Hid (Sp w _ p q L k1 dm sm [(w.heap.size,.cells #[.int .u8 0,.string ⟨#[]⟩,.string ⟨#[]⟩,.string ⟨#[]⟩,.int .i64 0,.slice none 0 0,.slice none 0 0,.slice none 0 0,.int .i64 0] 72 (0,0))] _):=S1.out
  go_wp2_with (first | (refine wpList_storeA rfl 72 _ _ rfl _ [.int .u8 14,.string ⟨#[]⟩,.string ⟨#[]⟩,.string ⟨#[]⟩,.int .i64 i1,.slice none 0 0,.slice none 0 0,.slice none 0 0,.int .i64 0] #[.int .u8 0,.string ⟨#[]⟩,.string ⟨#[]⟩,.string ⟨#[]⟩,.int .i64 0,.slice none 0 0,.slice none 0 0,.slice none 0 0,.int .i64 0] 72 rfl rfl sz_stmt CF.out.b0 rfl (by intro u hu;simp at hu;rcases hu with rfl | rfl | rfl | rfl | rfl | rfl | rfl | rfl | rfl <;> rfl) ?_;intro w9 hw9;have HW9:=hide hw9;clear hw9))
  have SF:=CF.out.fill0 [.int .u8 14,.string ⟨#[]⟩,.string ⟨#[]⟩,.string ⟨#[]⟩,.int .i64 i1,.slice none 0 0,.slice none 0 0,.slice none 0 0,.int .i64 0] rfl
  rw [← HW9.out] at SF
  have HXE:=hide (XL.out _ SF.fin)
  have HRR:=hide SF.rr
  have HBB:=SF.b0
  clear SF
  refine bodyPost_ret (v:=.agg #[.int .u8 14,.string ⟨#[]⟩,.string ⟨#[]⟩,.string ⟨#[]⟩,.int .i64 i1,.slice none 0 0,.slice none 0 0,.slice none 0 0,.int .i64 0]) (res_cell (cs:=[.int .u8 14,.string ⟨#[]⟩,.string ⟨#[]⟩,.string ⟨#[]⟩,.int .i64 i1,.slice none 0 0,.slice none 0 0,.slice none 0 0,.int .i64 0]) (e:=72) Tryz.results66 rfl ag_stmt sz_stmt HBB) rfl ?_
  exact .inl ⟨({ sm0 14 with n:=x1 }:Sm),k1,_,Q2.out,rfl,HXE.out,HRR.out⟩
 ·have R1:=hide (C1.out.rr.from hr)
  have Q1:=hide (Q0.out.trans (bind_err h1))
  clear hr h1
  go_wp2
  exact ⟨rfl,.inr ⟨_,Q1.out,rfl,R1.out⟩⟩
set_option maxRecDepth 100000 in
set_option maxHeartbeats 4000000 in
theorem fromArray_ok {p q:Nat} {L:List (Wd × Nat)} {dm sm:Value} {I:World→Prop} {ex:Pf Ex} {kd:Nat} (hL:OkL L) (hI:Stb I p q L dm sm) (HOf:PfI I 118 #[.pointer (some ⟨p,0,none⟩),.int .u8 (kd:Int)] p q L dm sm 0 (ofFieldP kd) (SmR)) (HCe:PfI I 115 #[.pointer (some ⟨p,0,none⟩)] p q L dm sm 0 (cellP ex) (ExR)) :
  PfI I 116 #[.pointer (some ⟨p,0,none⟩),.int .u8 (kd:Int)] p q L dm sm 0 (fromArrayP ex kd) (SmR):=by
 intro w k hk h hi
 have HI:Hid (∀ W k',Rp w W p q L k' dm sm→I W):=fun W k' r=>hI w W k' r hi
 have HL:=hide hL
 have HKK:=hide hk
 have HNm:=hide (name_i (I:=I) (p:=p) (q:=q) (dm:=dm) (sm:=sm) (k0:=0) hL)
 have HOf:=hide HOf
 have HCe:=hide HCe
 have S0:=hide (Sp.start h)
 obtain ⟨RR,hRR⟩:∃ RR,RR=(fromArrayP ex kd) L k:=⟨_,rfl⟩
 rw [← hRR]
 have Q0:=hide hRR
 clear hRR h hi hk hL hI
 go_enter Tryz.func116,Tryz.ntmps116
 have C1:Hid (Sp w _ p q L k dm sm [(w.heap.size,.cells #[.int .u8 0,.string ⟨#[]⟩,.string ⟨#[]⟩,.string ⟨#[]⟩,.int .i64 0,.slice none 0 0,.slice none 0 0,.slice none 0 0,.int .i64 0] 72 (0,0))] _):=(S0.out.alloc #[.int .u8 0,.string ⟨#[]⟩,.string ⟨#[]⟩,.string ⟨#[]⟩,.int .i64 0,.slice none 0 0,.slice none 0 0,.slice none 0 0,.int .i64 0] 72 (w.heap.size) rfl)
 go_wp2_with fail
 refine (HOf.out _ _ (Nat.zero_le _) C1.out.rr.here (HI.out _ _ C1.out.rr)).mono ?_
 rintro e w1 (⟨x1,k1,v,h1,rfl,hv,hr⟩ | ⟨k1,h1,rfl,hr⟩)
 ·obtain ⟨z1a,z1b,z1c,z1d,z1e,s1f,n1f,c1f,s1g,n1g,c1g,s1h,n1h,c1h,z1i,rfl⟩:=SmR.form hv
  have S1:=hide (C1.out.call smRep_ok hr hv)
  have Q1:=hide (Q0.out.trans (bind_ok h1))
  clear hr h1 hv C1
  have C2:Hid (Sp w _ p q L k1 dm sm [(w1.heap.size,.cells #[.int .u8 z1a,.string z1b,.string z1c,.string z1d,.int .i64 z1e,.slice s1f n1f c1f,.slice s1g n1g c1g,.slice s1h n1h c1h,.int .i64 z1i] 72 (0,0)),(w.heap.size,.cells #[.int .u8 0,.string ⟨#[]⟩,.string ⟨#[]⟩,.string ⟨#[]⟩,.int .i64 0,.slice none 0 0,.slice none 0 0,.slice none 0 0,.int .i64 0] 72 (0,0))] _):=(S1.out.alloc #[.int .u8 z1a,.string z1b,.string z1c,.string z1d,.int .i64 z1e,.slice s1f n1f c1f,.slice s1g n1g c1g,.slice s1h n1h c1h,.int .i64 z1i] 72 (w1.heap.size) rfl)
  go_wp2_with fail
  refine (pass_lay C2.out.rr HL.out [[61]] (by decide) (by decide) #[.string ⟨#[61]⟩] rfl 9 _ 1 (by first | rfl | simp | simp [World.size_alloc] | simp [World.setCell] | simp [World.setCell,World.size_alloc]) rfl).mono ?_
  rintro e w2 (⟨x2,k2,v,h2,rfl,hv,hr⟩ | ⟨k2,h2,rfl,hr⟩)
  ·obtain rfl:v=.tuple #[]:=hv
   have S2:=hide (C2.out.go hr)
   have Q2:=hide (Q1.out.trans (bind_ok h2))
   clear hr h2 C2
   go_wp2_with fail
   refine (HNm.out _ _ (Nat.zero_le _) S2.out.rr.here (HI.out _ _ S2.out.rr)).mono ?_
   rintro e w3 (⟨x3,k3,v,h3,rfl,hv,hr⟩ | ⟨k3,h3,rfl,hr⟩)
   ·obtain ⟨t3,rfl⟩:=StrV.form hv
    have S3:=hide (S2.out.call strV_ok hr hv)
    have Q3:=hide (Q2.out.trans (bind_ok h3))
    clear hr h3 hv
    have C4:Hid (Sp w _ p q L k3 dm sm [(w1.heap.size,.cells #[.int .u8 z1a,.string z1b,.string z1c,.string t3,.int .i64 z1e,.slice s1f n1f c1f,.slice s1g n1g c1g,.slice s1h n1h c1h,.int .i64 z1i] 72 (0,0)),(w.heap.size,.cells #[.int .u8 0,.string ⟨#[]⟩,.string ⟨#[]⟩,.string ⟨#[]⟩,.int .i64 0,.slice none 0 0,.slice none 0 0,.slice none 0 0,.int .i64 0] 72 (0,0))] _):=(S3.out.set0 3 (.string t3))
    have gc1:=cellA S3.out.b0 3;have gs1:=softA S3.out.b0 3
    go_wp2_with fail
    refine (HCe.out _ _ (Nat.zero_le _) C4.out.rr.here (HI.out _ _ C4.out.rr)).mono ?_
    rintro e w4 (⟨x4,k4,v,h4,rfl,hv,hr⟩ | ⟨k4,h4,rfl,hr⟩)
    ·obtain ⟨z4a,z4b,z4c,z4d,z4e,z4f,z4g,z4h,s4i,n4i,c4i,z4j,rfl⟩:=ExR.form hv
     have S4:=hide (C4.out.call exRep_ok hr hv)
     have Q4:=hide (Q3.out.trans (bind_ok h4))
     clear hr h4 hv C4
     have C5:Hid (Sp w _ p q L k4 dm sm [(w4.heap.size,.cells #[.int .u8 z4a,.int .i64 z4b,.int .u64 z4c,.int .u64 z4d,.string z4e,.string z4f,.int .i64 z4g,.int .i64 z4h,.slice s4i n4i c4i,.int .i64 z4j] 49 (0,0)),(w1.heap.size,.cells #[.int .u8 z1a,.string z1b,.string z1c,.string t3,.int .i64 z1e,.slice (some ⟨w4.heap.size,0,none⟩) 1 1,.slice s1g n1g c1g,.slice s1h n1h c1h,.int .i64 z1i] 72 (0,0)),(w.heap.size,.cells #[.int .u8 0,.string ⟨#[]⟩,.string ⟨#[]⟩,.string ⟨#[]⟩,.int .i64 0,.slice none 0 0,.slice none 0 0,.slice none 0 0,.int .i64 0] 72 (0,0))] _):=((S4.out.alloc #[.int .u8 z4a,.int .i64 z4b,.int .u64 z4c,.int .u64 z4d,.string z4e,.string z4f,.int .i64 z4g,.int .i64 z4h,.slice s4i n4i c4i,.int .i64 z4j] 49 (w4.heap.size) rfl).set1 5 (.slice (some ⟨w4.heap.size,0,none⟩) 1 1))
     have P2:Hid (Sp w _ p q L k4 dm sm [(w4.heap.size,.cells #[.int .u8 z4a,.int .i64 z4b,.int .u64 z4c,.int .u64 z4d,.string z4e,.string z4f,.int .i64 z4g,.int .i64 z4h,.slice s4i n4i c4i,.int .i64 z4j] 49 (0,0)),(w1.heap.size,.cells #[.int .u8 z1a,.string z1b,.string z1c,.string t3,.int .i64 z1e,.slice s1f n1f c1f,.slice s1g n1g c1g,.slice s1h n1h c1h,.int .i64 z1i] 72 (0,0)),(w.heap.size,.cells #[.int .u8 0,.string ⟨#[]⟩,.string ⟨#[]⟩,.string ⟨#[]⟩,.int .i64 0,.slice none 0 0,.slice none 0 0,.slice none 0 0,.int .i64 0] 72 (0,0))] _):=(S4.out.alloc #[.int .u8 z4a,.int .i64 z4b,.int .u64 z4c,.int .u64 z4d,.string z4e,.string z4f,.int .i64 z4g,.int .i64 z4h,.slice s4i n4i c4i,.int .i64 z4j] 49 (w4.heap.size) rfl)
     have gc3:=cellA P2.out.b1 5;have gs3:=softA P2.out.b1 5
     go_wp2_with fail
     refine (pass_lay C5.out.rr HL.out [[59]] (by decide) (by decide) #[.string ⟨#[59]⟩] rfl 9 _ 1 (by first | rfl | simp | simp [World.size_alloc] | simp [World.setCell] | simp [World.setCell,World.size_alloc]) rfl).mono ?_
     rintro e w5 (⟨x5,k5,v,h5,rfl,hv,hr⟩ | ⟨k5,h5,rfl,hr⟩)
     ·obtain rfl:v=.tuple #[]:=hv
      have S5:=hide (C5.out.go hr)
      have Q5:=hide (Q4.out.trans (bind_ok h5))
      clear hr h5 C5
      have Q6:Hid (RR=.ok (({ x1 with array:=x3,args:=[x4] }:Sm),k5)):=Q5.out.trans rfl
      have XL:Hid (∀ W,((ExR) W (Bn w W) (.agg #[.int .u8 z4a,.int .i64 z4b,.int .u64 z4c,.int .u64 z4d,.string z4e,.string z4f,.int .i64 z4g,.int .i64 z4h,.slice s4i n4i c4i,.int .i64 z4j]) x4∧(StrV) W (Bn w W) (.string t3) x3∧(SmR) W (Bn w W) (.agg #[.int .u8 z1a,.string z1b,.string z1c,.string z1d,.int .i64 z1e,.slice s1f n1f c1f,.slice s1g n1g c1g,.slice s1h n1h c1h,.int .i64 z1i]) x1∧True)→W.heap[w4.heap.size]? = some (.cells #[.int .u8 z4a,.int .i64 z4b,.int .u64 z4c,.int .u64 z4d,.string z4e,.string z4f,.int .i64 z4g,.int .i64 z4h,.slice s4i n4i c4i,.int .i64 z4j] 49 (0,0))→Bn w W (w4.heap.size)→(SmR) W (Bn w W) (.agg #[.int .u8 z1a,.string z1b,.string z1c,.string t3,.int .i64 z1e,.slice (some ⟨w4.heap.size,0,none⟩) 1 1,.slice s1g n1g c1g,.slice s1h n1h c1h,.int .i64 z1i]) ({ x1 with array:=x3,args:=[x4] }:Sm)):=by
       rintro W ⟨X4,X3,X1,_⟩ hb0 hx0
       obtain rfl:=StrV.eq X3
       exact smUpd X1 (lit1 (mk:=mkAgg) (cs:=[.int .u8 z4a,.int .i64 z4b,.int .u64 z4c,.int .u64 z4d,.string z4e,.string z4f,.int .i64 z4g,.int .i64 z4h,.slice s4i n4i c4i,.int .i64 z4j]) hb0 hx0 rfl X4)
      have CF:Hid (Sp w _ p q L k5 dm sm [(w4.heap.size,.cells #[.int .u8 z4a,.int .i64 z4b,.int .u64 z4c,.int .u64 z4d,.string z4e,.string z4f,.int .i64 z4g,.int .i64 z4h,.slice s4i n4i c4i,.int .i64 z4j] 49 (0,0)),(w1.heap.size,.cells #[.int .u8 z1a,.string z1b,.string z1c,.string t3,.int .i64 z1e,.slice (some ⟨w4.heap.size,0,none⟩) 1 1,.slice s1g n1g c1g,.slice s1h n1h c1h,.int .i64 z1i] 72 (0,0)),(w.heap.size,.cells #[.int .u8 0,.string ⟨#[]⟩,.string ⟨#[]⟩,.string ⟨#[]⟩,.int .i64 0,.slice none 0 0,.slice none 0 0,.slice none 0 0,.int .i64 0] 72 (0,0))] _):=S5.out
      go_wp2_with (first | (refine wpList_loadA rfl 72 _ rfl _ [.int .u8 z1a,.string z1b,.string z1c,.string t3,.int .i64 z1e,.slice (some ⟨w4.heap.size,0,none⟩) 1 1,.slice s1g n1g c1g,.slice s1h n1h c1h,.int .i64 z1i] 72 rfl ag_stmt sz_stmt CF.out.b1 ?_) | (refine wpList_storeA rfl 72 _ _ rfl _ [.int .u8 z1a,.string z1b,.string z1c,.string t3,.int .i64 z1e,.slice (some ⟨w4.heap.size,0,none⟩) 1 1,.slice s1g n1g c1g,.slice s1h n1h c1h,.int .i64 z1i] #[.int .u8 0,.string ⟨#[]⟩,.string ⟨#[]⟩,.string ⟨#[]⟩,.int .i64 0,.slice none 0 0,.slice none 0 0,.slice none 0 0,.int .i64 0] 72 rfl rfl sz_stmt CF.out.b2 rfl (by intro u hu;simp at hu;rcases hu with rfl | rfl | rfl | rfl | rfl | rfl | rfl | rfl | rfl <;> rfl) ?_;intro w9 hw9;have HW9:=hide hw9;clear hw9))
      have SF:=CF.out.fill2 [.int .u8 z1a,.string z1b,.string z1c,.string t3,.int .i64 z1e,.slice (some ⟨w4.heap.size,0,none⟩) 1 1,.slice s1g n1g c1g,.slice s1h n1h c1h,.int .i64 z1i] rfl
      rw [← HW9.out] at SF
      have HXE:=hide (XL.out _ SF.fin SF.b0 SF.l0)
      have HRR:=hide SF.rr
      have HBB:=SF.b2
      clear SF
      refine bodyPost_ret (v:=.agg #[.int .u8 z1a,.string z1b,.string z1c,.string t3,.int .i64 z1e,.slice (some ⟨w4.heap.size,0,none⟩) 1 1,.slice s1g n1g c1g,.slice s1h n1h c1h,.int .i64 z1i]) (res_cell (cs:=[.int .u8 z1a,.string z1b,.string z1c,.string t3,.int .i64 z1e,.slice (some ⟨w4.heap.size,0,none⟩) 1 1,.slice s1g n1g c1g,.slice s1h n1h c1h,.int .i64 z1i]) (e:=72) Tryz.results116 rfl ag_stmt sz_stmt HBB) rfl ?_
      exact .inl ⟨({ x1 with array:=x3,args:=[x4] }:Sm),k5,_,Q6.out,rfl,HXE.out,HRR.out⟩
     ·have R5:=hide (C5.out.rr.from hr)
      have Q5:=hide (Q4.out.trans (bind_err h5))
      clear hr h5
      go_wp2
      exact ⟨rfl,.inr ⟨_,Q5.out,rfl,R5.out⟩⟩
    ·have R4:=hide (C4.out.rr.from hr)
     have Q4:=hide (Q3.out.trans (bind_err h4))
     clear hr h4
     go_wp2
     exact ⟨rfl,.inr ⟨_,Q4.out,rfl,R4.out⟩⟩
   ·have R3:=hide (S2.out.rr.from hr)
    have Q3:=hide (Q2.out.trans (bind_err h3))
    clear hr h3
    go_wp2
    exact ⟨rfl,.inr ⟨_,Q3.out,rfl,R3.out⟩⟩
  ·have R2:=hide (C2.out.rr.from hr)
   have Q2:=hide (Q1.out.trans (bind_err h2))
   clear hr h2
   go_wp2
   exact ⟨rfl,.inr ⟨_,Q2.out,rfl,R2.out⟩⟩
 ·have R1:=hide (C1.out.rr.from hr)
  have Q1:=hide (Q0.out.trans (bind_err h1))
  clear hr h1
  go_wp2
  exact ⟨rfl,.inr ⟨_,Q1.out,rfl,R1.out⟩⟩
end Go.Proofs.YtabkimknlifdoaaGreatDoor
