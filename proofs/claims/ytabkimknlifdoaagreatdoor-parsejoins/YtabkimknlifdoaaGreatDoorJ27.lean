/- Pieces of the proof: PaJj. -/
import Derived.Test.YtabkimknlifdoaaGreatDoorJ14
namespace Go.Proofs.YtabkimknlifdoaaGreatDoor
open Go.RowKit
set_option maxRecDepth 100000 in
set_option maxHeartbeats 4000000 in
theorem write_ok {p q:Nat} {L:List (Wd × Nat)} {dm sm:Value} {I:World→Prop} {ex:Pf Ex} (hL:OkL L) (hI:Stb I p q L dm sm) (HCe:PfI I 115 #[.pointer (some ⟨p,0,none⟩)] p q L dm sm 0 (cellP ex) (ExR)) (HCx:PfI I 117 #[.pointer (some ⟨p,0,none⟩),.func (Fn.func 112) #[.pointer (some ⟨p,0,none⟩)] #[]] p q L dm sm 0 (closedP ex) (ExR)) :
  PfI I 59 #[.pointer (some ⟨p,0,none⟩)] p q L dm sm 0 (writeP ex) (SmR):=by
 intro w k hk h hi
 have HI:Hid (∀ W k',Rp w W p q L k' dm sm→I W):=fun W k' r=>hI w W k' r hi
 have HL:=hide hL
 have HKK:=hide hk
 have HNm:=hide (name_i (I:=I) (p:=p) (q:=q) (dm:=dm) (sm:=sm) (k0:=0) hL)
 have HCe:=hide HCe
 have HCx:=hide HCx
 have S0:=hide (Sp.start h)
 obtain ⟨RR,hRR⟩:∃ RR,RR=(writeP ex) L k:=⟨_,rfl⟩
 rw [← hRR]
 have Q0:=hide hRR
 clear hRR h hi hk hL hI
 go_enter Tryz.func59,Tryz.ntmps59
 have C1:Hid (Sp w _ p q L k dm sm [(w.heap.size,.cells #[.int .u8 0,.string ⟨#[]⟩,.string ⟨#[]⟩,.string ⟨#[]⟩,.int .i64 0,.slice none 0 0,.slice none 0 0,.slice none 0 0,.int .i64 0] 72 (0,0))] _):=(S0.out.alloc #[.int .u8 0,.string ⟨#[]⟩,.string ⟨#[]⟩,.string ⟨#[]⟩,.int .i64 0,.slice none 0 0,.slice none 0 0,.slice none 0 0,.int .i64 0] 72 (w.heap.size) rfl)
 go_wp2_with fail
 refine (HNm.out _ _ (Nat.zero_le _) C1.out.rr.here (HI.out _ _ C1.out.rr)).mono ?_
 rintro e w1 (⟨x1,k1,v,h1,rfl,hv,hr⟩ | ⟨k1,h1,rfl,hr⟩)
 ·obtain ⟨t1,rfl⟩:=StrV.form hv
  have S1:=hide (C1.out.call strV_ok hr hv)
  have Q1:=hide (Q0.out.trans (bind_ok h1))
  clear hr h1 hv C1
  have C2:Hid (Sp w _ p q L k1 dm sm [(w1.heap.size,.cells #[.int .u8 9,.string ⟨#[]⟩,.string ⟨#[]⟩,.string t1,.int .i64 0,.slice none 0 0,.slice none 0 0,.slice none 0 0,.int .i64 0] 72 (0,0)),(w.heap.size,.cells #[.int .u8 0,.string ⟨#[]⟩,.string ⟨#[]⟩,.string ⟨#[]⟩,.int .i64 0,.slice none 0 0,.slice none 0 0,.slice none 0 0,.int .i64 0] 72 (0,0))] _):=(S1.out.alloc #[.int .u8 9,.string ⟨#[]⟩,.string ⟨#[]⟩,.string t1,.int .i64 0,.slice none 0 0,.slice none 0 0,.slice none 0 0,.int .i64 0] 72 (w1.heap.size) rfl)
  go_wp2_with fail
  refine (HCe.out _ _ (Nat.zero_le _) C2.out.rr.here (HI.out _ _ C2.out.rr)).mono ?_
  rintro e w2 (⟨x2,k2,v,h2,rfl,hv,hr⟩ | ⟨k2,h2,rfl,hr⟩)
  ·obtain ⟨z2a,z2b,z2c,z2d,z2e,z2f,z2g,z2h,s2i,n2i,c2i,z2j,rfl⟩:=ExR.form hv
   have S2:=hide (C2.out.call exRep_ok hr hv)
   have Q2:=hide (Q1.out.trans (bind_ok h2))
   clear hr h2 hv C2
   have C3:Hid (Sp w _ p q L k2 dm sm [(w2.heap.size,.cells #[.int .u8 z2a,.int .i64 z2b,.int .u64 z2c,.int .u64 z2d,.string z2e,.string z2f,.int .i64 z2g,.int .i64 z2h,.slice s2i n2i c2i,.int .i64 z2j] 49 (0,0)),(w1.heap.size,.cells #[.int .u8 9,.string ⟨#[]⟩,.string ⟨#[]⟩,.string t1,.int .i64 0,.slice none 0 0,.slice none 0 0,.slice none 0 0,.int .i64 0] 72 (0,0)),(w.heap.size,.cells #[.int .u8 0,.string ⟨#[]⟩,.string ⟨#[]⟩,.string ⟨#[]⟩,.int .i64 0,.slice none 0 0,.slice none 0 0,.slice none 0 0,.int .i64 0] 72 (0,0))] _):=(S2.out.alloc #[.int .u8 z2a,.int .i64 z2b,.int .u64 z2c,.int .u64 z2d,.string z2e,.string z2f,.int .i64 z2g,.int .i64 z2h,.slice s2i n2i c2i,.int .i64 z2j] 49 (w2.heap.size) rfl)
   go_wp2_with fail
   refine (pass_lay C3.out.rr HL.out [[61]] (by decide) (by decide) #[.string ⟨#[61]⟩] rfl 9 _ 1 (by first | rfl | simp | simp [World.size_alloc] | simp [World.setCell] | simp [World.setCell,World.size_alloc]) rfl).mono ?_
   rintro e w3 (⟨x3,k3,v,h3,rfl,hv,hr⟩ | ⟨k3,h3,rfl,hr⟩)
   ·obtain rfl:v=.tuple #[]:=hv
    have S3:=hide (C3.out.go hr)
    have Q3:=hide (Q2.out.trans (bind_ok h3))
    clear hr h3 C3
    go_wp2
    refine wp_region_any (by kernel_rfl) ?_
    change wpAny _ _ _ _ _ _ _ (World.drew _)
    have D1:=hide S3.out.drew
    refine wpAny_take (i:=1) (v:=?_) rfl (by kernel_rfl) (by kernel_rfl) (by kernel_rfl) (fun _ _ _ h=>h) (Or.inl ⟨by rfl,?_⟩) ?_
    rotate_left
    ·(intro w;go_simp;try (with_reducible rfl))
    refine wpAny_take (i:=2) (v:=?_) rfl (by kernel_rfl) (by kernel_rfl) (by kernel_rfl) (fun _ _ _ h=>h) (Or.inl ⟨by rfl,?_⟩) ?_
    rotate_left
    ·(intro w;go_simp;try (with_reducible rfl))
    refine wpAny_take (i:=3) (v:=?_) rfl (by kernel_rfl) (by kernel_rfl) (by kernel_rfl) (fun _ _ _ h=>h) (Or.inl ⟨by rfl,?_⟩) ?_
    rotate_left
    ·(intro w;go_simp;try (with_reducible rfl))
    refine wpAny_ready (rs:=[0,4]) (by kernel_rfl) (by simp) ?_
    refine AllReady.cons rfl (fun K hK=>?_) ?_
    ·refine step_loadA rfl 49 _ rfl _ [.int .u8 z2a,.int .i64 z2b,.int .u64 z2c,.int .u64 z2d,.string z2e,.string z2f,.int .i64 z2g,.int .i64 z2h,.slice s2i n2i c2i,.int .i64 z2j] 49 rfl ag_expr sz_expr D1.out.b0 ?_
     refine hK _ _ ?_;clear hK K
     refine wpAny_ready (rs:=[4]) (by kernel_rfl) (by simp) ?_
     refine AllReady.cons rfl (fun K hK=>?_) ?_
     ·go_simp
      refine (HCx.out _ _ (Nat.zero_le _) D1.out.rr.here (HI.out _ _ D1.out.rr)).mono ?_
      rintro e w4 (⟨x4,k4,v,h4,rfl,hv,hr⟩ | ⟨k4,h4,rfl,hr⟩)
      ·obtain ⟨z4a,z4b,z4c,z4d,z4e,z4f,z4g,z4h,s4i,n4i,c4i,z4j,rfl⟩:=ExR.form hv
       have S4:=hide (D1.out.call exRep_ok hr hv)
       have Q4:=hide (Q3.out.trans (bind_ok h4))
       clear hr h4 hv
       refine hK _ _ ?_;clear hK K
       refine wpAny_ready (rs:=[5]) (by kernel_rfl) (by simp) ?_
       refine AllReady.cons rfl (fun K hK=>?_) ?_
       ·go_simp
        refine hK _ _ ?_;clear hK K
        refine wpAny_take (i:=6) (v:=?_) rfl (by kernel_rfl) (by kernel_rfl) (by kernel_rfl) (fun _ _ _ h=>h) (Or.inl ⟨by rfl,?_⟩) ?_
        rotate_left
        ·(intro w;go_simp;try (with_reducible rfl))
        refine wpAny_ready (rs:=[7]) (by kernel_rfl) (by simp) ?_
        refine AllReady.cons rfl (fun K hK=>?_) ?_
        ·have E2:Hid (Sp w _ p q L k4 dm sm [(w4.heap.size,.cells #[.int .u8 z2a,.int .i64 z2b,.int .u64 z2c,.int .u64 z2d,.string z2e,.string z2f,.int .i64 z2g,.int .i64 z2h,.slice s2i n2i c2i,.int .i64 z2j,.int .u8 z4a,.int .i64 z4b,.int .u64 z4c,.int .u64 z4d,.string z4e,.string z4f,.int .i64 z4g,.int .i64 z4h,.slice s4i n4i c4i,.int .i64 z4j] 49 (0,0)),(w2.heap.size,.cells #[.int .u8 z2a,.int .i64 z2b,.int .u64 z2c,.int .u64 z2d,.string z2e,.string z2f,.int .i64 z2g,.int .i64 z2h,.slice s2i n2i c2i,.int .i64 z2j] 49 (0,0)),(w1.heap.size,.cells #[.int .u8 9,.string ⟨#[]⟩,.string ⟨#[]⟩,.string t1,.int .i64 0,.slice none 0 0,.slice none 0 0,.slice none 0 0,.int .i64 0] 72 (0,0)),(w.heap.size,.cells #[.int .u8 0,.string ⟨#[]⟩,.string ⟨#[]⟩,.string ⟨#[]⟩,.int .i64 0,.slice none 0 0,.slice none 0 0,.slice none 0 0,.int .i64 0] 72 (0,0))] _):=(S4.out.alloc #[.int .u8 z2a,.int .i64 z2b,.int .u64 z2c,.int .u64 z2d,.string z2e,.string z2f,.int .i64 z2g,.int .i64 z2h,.slice s2i n2i c2i,.int .i64 z2j,.int .u8 z4a,.int .i64 z4b,.int .u64 z4c,.int .u64 z4d,.string z4e,.string z4f,.int .i64 z4g,.int .i64 z4h,.slice s4i n4i c4i,.int .i64 z4j] 49 (w4.heap.size) rfl)
         refine step_store1 rfl 47 _ _ rfl _ 5 (.slice (some ⟨w4.heap.size,0,none⟩) 2 2) rfl rfl rfl sz_exprs (by rw [cellA E2.out.b2];rfl) (softA E2.out.b2 5) rfl ?_
         refine hK _ _ ?_;clear hK K
         refine wpAny_done (by kernel_rfl) ?_ _
         have Q5:Hid (RR=.ok (({ sm0 9 with array:=x1,args:=[x2,x4] }:Sm),k4)):=Q4.out.trans rfl
         have XL:Hid (∀ W,((ExR) W (Bn w W) (.agg #[.int .u8 z4a,.int .i64 z4b,.int .u64 z4c,.int .u64 z4d,.string z4e,.string z4f,.int .i64 z4g,.int .i64 z4h,.slice s4i n4i c4i,.int .i64 z4j]) x4∧(ExR) W (Bn w W) (.agg #[.int .u8 z2a,.int .i64 z2b,.int .u64 z2c,.int .u64 z2d,.string z2e,.string z2f,.int .i64 z2g,.int .i64 z2h,.slice s2i n2i c2i,.int .i64 z2j]) x2∧(StrV) W (Bn w W) (.string t1) x1∧True)→W.heap[w4.heap.size]? = some (.cells #[.int .u8 z2a,.int .i64 z2b,.int .u64 z2c,.int .u64 z2d,.string z2e,.string z2f,.int .i64 z2g,.int .i64 z2h,.slice s2i n2i c2i,.int .i64 z2j,.int .u8 z4a,.int .i64 z4b,.int .u64 z4c,.int .u64 z4d,.string z4e,.string z4f,.int .i64 z4g,.int .i64 z4h,.slice s4i n4i c4i,.int .i64 z4j] 49 (0,0))→Bn w W (w4.heap.size)→(SmR) W (Bn w W) (.agg #[.int .u8 9,.string ⟨#[]⟩,.string ⟨#[]⟩,.string t1,.int .i64 0,.slice (some ⟨w4.heap.size,0,none⟩) 2 2,.slice none 0 0,.slice none 0 0,.int .i64 0]) ({ sm0 9 with array:=x1,args:=[x2,x4] }:Sm)):=by
          rintro W ⟨X4,X2,X1,_⟩ hb0 hx0
          obtain rfl:=StrV.eq X1
          exact SmR.mk (x:=({ sm0 9 with array:=x1,args:=[x2,x4] }:Sm)) (lit2 (mk:=mkAgg) (cs:=[.int .u8 z2a,.int .i64 z2b,.int .u64 z2c,.int .u64 z2d,.string z2e,.string z2f,.int .i64 z2g,.int .i64 z2h,.slice s2i n2i c2i,.int .i64 z2j]) (ds:=[.int .u8 z4a,.int .i64 z4b,.int .u64 z4c,.int .u64 z4d,.string z4e,.string z4f,.int .i64 z4g,.int .i64 z4h,.slice s4i n4i c4i,.int .i64 z4j]) hb0 hx0 rfl rfl X2 X4) ListR.none ListR.none
         have CF:Hid (Sp w _ p q L k4 dm sm [(w4.heap.size,.cells #[.int .u8 z2a,.int .i64 z2b,.int .u64 z2c,.int .u64 z2d,.string z2e,.string z2f,.int .i64 z2g,.int .i64 z2h,.slice s2i n2i c2i,.int .i64 z2j,.int .u8 z4a,.int .i64 z4b,.int .u64 z4c,.int .u64 z4d,.string z4e,.string z4f,.int .i64 z4g,.int .i64 z4h,.slice s4i n4i c4i,.int .i64 z4j] 49 (0,0)),(w2.heap.size,.cells #[.int .u8 z2a,.int .i64 z2b,.int .u64 z2c,.int .u64 z2d,.string z2e,.string z2f,.int .i64 z2g,.int .i64 z2h,.slice s2i n2i c2i,.int .i64 z2j] 49 (0,0)),(w1.heap.size,.cells #[.int .u8 9,.string ⟨#[]⟩,.string ⟨#[]⟩,.string t1,.int .i64 0,.slice (some ⟨w4.heap.size,0,none⟩) 2 2,.slice none 0 0,.slice none 0 0,.int .i64 0] 72 (0,0)),(w.heap.size,.cells #[.int .u8 0,.string ⟨#[]⟩,.string ⟨#[]⟩,.string ⟨#[]⟩,.int .i64 0,.slice none 0 0,.slice none 0 0,.slice none 0 0,.int .i64 0] 72 (0,0))] _):=((S4.out.alloc #[.int .u8 z2a,.int .i64 z2b,.int .u64 z2c,.int .u64 z2d,.string z2e,.string z2f,.int .i64 z2g,.int .i64 z2h,.slice s2i n2i c2i,.int .i64 z2j,.int .u8 z4a,.int .i64 z4b,.int .u64 z4c,.int .u64 z4d,.string z4e,.string z4f,.int .i64 z4g,.int .i64 z4h,.slice s4i n4i c4i,.int .i64 z4j] 49 (w4.heap.size) rfl).set2 5 (.slice (some ⟨w4.heap.size,0,none⟩) 2 2))
         go_wp2_with (first | (refine wpList_loadA rfl 72 _ rfl _ [.int .u8 9,.string ⟨#[]⟩,.string ⟨#[]⟩,.string t1,.int .i64 0,.slice (some ⟨w4.heap.size,0,none⟩) 2 2,.slice none 0 0,.slice none 0 0,.int .i64 0] 72 rfl ag_stmt sz_stmt CF.out.b2 ?_) | (refine wpList_storeA rfl 72 _ _ rfl _ [.int .u8 9,.string ⟨#[]⟩,.string ⟨#[]⟩,.string t1,.int .i64 0,.slice (some ⟨w4.heap.size,0,none⟩) 2 2,.slice none 0 0,.slice none 0 0,.int .i64 0] #[.int .u8 0,.string ⟨#[]⟩,.string ⟨#[]⟩,.string ⟨#[]⟩,.int .i64 0,.slice none 0 0,.slice none 0 0,.slice none 0 0,.int .i64 0] 72 rfl rfl sz_stmt CF.out.b3 rfl (by intro u hu;simp at hu;rcases hu with rfl | rfl | rfl | rfl | rfl | rfl | rfl | rfl | rfl <;> rfl) ?_;intro w9 hw9;have HW9:=hide hw9;clear hw9))
         have SF:=CF.out.fill3 [.int .u8 9,.string ⟨#[]⟩,.string ⟨#[]⟩,.string t1,.int .i64 0,.slice (some ⟨w4.heap.size,0,none⟩) 2 2,.slice none 0 0,.slice none 0 0,.int .i64 0] rfl
         rw [← HW9.out] at SF
         have HXE:=hide (XL.out _ SF.fin SF.b0 SF.l0)
         have HRR:=hide SF.rr
         have HBB:=SF.b3
         clear SF
         refine bodyPost_ret (v:=.agg #[.int .u8 9,.string ⟨#[]⟩,.string ⟨#[]⟩,.string t1,.int .i64 0,.slice (some ⟨w4.heap.size,0,none⟩) 2 2,.slice none 0 0,.slice none 0 0,.int .i64 0]) (res_cell (cs:=[.int .u8 9,.string ⟨#[]⟩,.string ⟨#[]⟩,.string t1,.int .i64 0,.slice (some ⟨w4.heap.size,0,none⟩) 2 2,.slice none 0 0,.slice none 0 0,.int .i64 0]) (e:=72) Tryz.results59 rfl ag_stmt sz_stmt HBB) rfl ?_
         exact .inl ⟨({ sm0 9 with array:=x1,args:=[x2,x4] }:Sm),k4,_,Q5.out,rfl,HXE.out,HRR.out⟩
        exact AllReady.nil
       exact AllReady.nil
      ·have R4:=hide (D1.out.rr.from hr)
       have Q4:=hide (Q3.out.trans (bind_err h4))
       clear hr h4
       exact ⟨rfl,.inr ⟨_,Q4.out,rfl,R4.out⟩⟩
     exact AllReady.nil
    refine AllReady.cons rfl (fun K hK=>?_) ?_
    ·go_simp
     refine (HCx.out _ _ (Nat.zero_le _) D1.out.rr.here (HI.out _ _ D1.out.rr)).mono ?_
     rintro e w4 (⟨x4,k4,v,h4,rfl,hv,hr⟩ | ⟨k4,h4,rfl,hr⟩)
     ·obtain ⟨z4a,z4b,z4c,z4d,z4e,z4f,z4g,z4h,s4i,n4i,c4i,z4j,rfl⟩:=ExR.form hv
      have S4:=hide (D1.out.call exRep_ok hr hv)
      have Q4:=hide (Q3.out.trans (bind_ok h4))
      clear hr h4 hv
      refine hK _ _ ?_;clear hK K
      refine wpAny_ready (rs:=[0]) (by kernel_rfl) (by simp) ?_
      refine AllReady.cons rfl (fun K hK=>?_) ?_
      ·refine step_loadA rfl 49 _ rfl _ [.int .u8 z2a,.int .i64 z2b,.int .u64 z2c,.int .u64 z2d,.string z2e,.string z2f,.int .i64 z2g,.int .i64 z2h,.slice s2i n2i c2i,.int .i64 z2j] 49 rfl ag_expr sz_expr S4.out.b0 ?_
       refine hK _ _ ?_;clear hK K
       refine wpAny_ready (rs:=[5]) (by kernel_rfl) (by simp) ?_
       refine AllReady.cons rfl (fun K hK=>?_) ?_
       ·go_simp
        refine hK _ _ ?_;clear hK K
        refine wpAny_take (i:=6) (v:=?_) rfl (by kernel_rfl) (by kernel_rfl) (by kernel_rfl) (fun _ _ _ h=>h) (Or.inl ⟨by rfl,?_⟩) ?_
        rotate_left
        ·(intro w;go_simp;try (with_reducible rfl))
        refine wpAny_ready (rs:=[7]) (by kernel_rfl) (by simp) ?_
        refine AllReady.cons rfl (fun K hK=>?_) ?_
        ·have E3:Hid (Sp w _ p q L k4 dm sm [(w4.heap.size,.cells #[.int .u8 z2a,.int .i64 z2b,.int .u64 z2c,.int .u64 z2d,.string z2e,.string z2f,.int .i64 z2g,.int .i64 z2h,.slice s2i n2i c2i,.int .i64 z2j,.int .u8 z4a,.int .i64 z4b,.int .u64 z4c,.int .u64 z4d,.string z4e,.string z4f,.int .i64 z4g,.int .i64 z4h,.slice s4i n4i c4i,.int .i64 z4j] 49 (0,0)),(w2.heap.size,.cells #[.int .u8 z2a,.int .i64 z2b,.int .u64 z2c,.int .u64 z2d,.string z2e,.string z2f,.int .i64 z2g,.int .i64 z2h,.slice s2i n2i c2i,.int .i64 z2j] 49 (0,0)),(w1.heap.size,.cells #[.int .u8 9,.string ⟨#[]⟩,.string ⟨#[]⟩,.string t1,.int .i64 0,.slice none 0 0,.slice none 0 0,.slice none 0 0,.int .i64 0] 72 (0,0)),(w.heap.size,.cells #[.int .u8 0,.string ⟨#[]⟩,.string ⟨#[]⟩,.string ⟨#[]⟩,.int .i64 0,.slice none 0 0,.slice none 0 0,.slice none 0 0,.int .i64 0] 72 (0,0))] _):=(S4.out.alloc #[.int .u8 z2a,.int .i64 z2b,.int .u64 z2c,.int .u64 z2d,.string z2e,.string z2f,.int .i64 z2g,.int .i64 z2h,.slice s2i n2i c2i,.int .i64 z2j,.int .u8 z4a,.int .i64 z4b,.int .u64 z4c,.int .u64 z4d,.string z4e,.string z4f,.int .i64 z4g,.int .i64 z4h,.slice s4i n4i c4i,.int .i64 z4j] 49 (w4.heap.size) rfl)
         refine step_store1 rfl 47 _ _ rfl _ 5 (.slice (some ⟨w4.heap.size,0,none⟩) 2 2) rfl rfl rfl sz_exprs (by rw [cellA E3.out.b2];rfl) (softA E3.out.b2 5) rfl ?_
         refine hK _ _ ?_;clear hK K
         refine wpAny_done (by kernel_rfl) ?_ _
         have Q5:Hid (RR=.ok (({ sm0 9 with array:=x1,args:=[x2,x4] }:Sm),k4)):=Q4.out.trans rfl
         have XL:Hid (∀ W,((ExR) W (Bn w W) (.agg #[.int .u8 z4a,.int .i64 z4b,.int .u64 z4c,.int .u64 z4d,.string z4e,.string z4f,.int .i64 z4g,.int .i64 z4h,.slice s4i n4i c4i,.int .i64 z4j]) x4∧(ExR) W (Bn w W) (.agg #[.int .u8 z2a,.int .i64 z2b,.int .u64 z2c,.int .u64 z2d,.string z2e,.string z2f,.int .i64 z2g,.int .i64 z2h,.slice s2i n2i c2i,.int .i64 z2j]) x2∧(StrV) W (Bn w W) (.string t1) x1∧True)→W.heap[w4.heap.size]? = some (.cells #[.int .u8 z2a,.int .i64 z2b,.int .u64 z2c,.int .u64 z2d,.string z2e,.string z2f,.int .i64 z2g,.int .i64 z2h,.slice s2i n2i c2i,.int .i64 z2j,.int .u8 z4a,.int .i64 z4b,.int .u64 z4c,.int .u64 z4d,.string z4e,.string z4f,.int .i64 z4g,.int .i64 z4h,.slice s4i n4i c4i,.int .i64 z4j] 49 (0,0))→Bn w W (w4.heap.size)→(SmR) W (Bn w W) (.agg #[.int .u8 9,.string ⟨#[]⟩,.string ⟨#[]⟩,.string t1,.int .i64 0,.slice (some ⟨w4.heap.size,0,none⟩) 2 2,.slice none 0 0,.slice none 0 0,.int .i64 0]) ({ sm0 9 with array:=x1,args:=[x2,x4] }:Sm)):=by
          rintro W ⟨X4,X2,X1,_⟩ hb0 hx0
          obtain rfl:=StrV.eq X1
          exact SmR.mk (x:=({ sm0 9 with array:=x1,args:=[x2,x4] }:Sm)) (lit2 (mk:=mkAgg) (cs:=[.int .u8 z2a,.int .i64 z2b,.int .u64 z2c,.int .u64 z2d,.string z2e,.string z2f,.int .i64 z2g,.int .i64 z2h,.slice s2i n2i c2i,.int .i64 z2j]) (ds:=[.int .u8 z4a,.int .i64 z4b,.int .u64 z4c,.int .u64 z4d,.string z4e,.string z4f,.int .i64 z4g,.int .i64 z4h,.slice s4i n4i c4i,.int .i64 z4j]) hb0 hx0 rfl rfl X2 X4) ListR.none ListR.none
         have CF:Hid (Sp w _ p q L k4 dm sm [(w4.heap.size,.cells #[.int .u8 z2a,.int .i64 z2b,.int .u64 z2c,.int .u64 z2d,.string z2e,.string z2f,.int .i64 z2g,.int .i64 z2h,.slice s2i n2i c2i,.int .i64 z2j,.int .u8 z4a,.int .i64 z4b,.int .u64 z4c,.int .u64 z4d,.string z4e,.string z4f,.int .i64 z4g,.int .i64 z4h,.slice s4i n4i c4i,.int .i64 z4j] 49 (0,0)),(w2.heap.size,.cells #[.int .u8 z2a,.int .i64 z2b,.int .u64 z2c,.int .u64 z2d,.string z2e,.string z2f,.int .i64 z2g,.int .i64 z2h,.slice s2i n2i c2i,.int .i64 z2j] 49 (0,0)),(w1.heap.size,.cells #[.int .u8 9,.string ⟨#[]⟩,.string ⟨#[]⟩,.string t1,.int .i64 0,.slice (some ⟨w4.heap.size,0,none⟩) 2 2,.slice none 0 0,.slice none 0 0,.int .i64 0] 72 (0,0)),(w.heap.size,.cells #[.int .u8 0,.string ⟨#[]⟩,.string ⟨#[]⟩,.string ⟨#[]⟩,.int .i64 0,.slice none 0 0,.slice none 0 0,.slice none 0 0,.int .i64 0] 72 (0,0))] _):=((S4.out.alloc #[.int .u8 z2a,.int .i64 z2b,.int .u64 z2c,.int .u64 z2d,.string z2e,.string z2f,.int .i64 z2g,.int .i64 z2h,.slice s2i n2i c2i,.int .i64 z2j,.int .u8 z4a,.int .i64 z4b,.int .u64 z4c,.int .u64 z4d,.string z4e,.string z4f,.int .i64 z4g,.int .i64 z4h,.slice s4i n4i c4i,.int .i64 z4j] 49 (w4.heap.size) rfl).set2 5 (.slice (some ⟨w4.heap.size,0,none⟩) 2 2))
         go_wp2_with (first | (refine wpList_loadA rfl 72 _ rfl _ [.int .u8 9,.string ⟨#[]⟩,.string ⟨#[]⟩,.string t1,.int .i64 0,.slice (some ⟨w4.heap.size,0,none⟩) 2 2,.slice none 0 0,.slice none 0 0,.int .i64 0] 72 rfl ag_stmt sz_stmt CF.out.b2 ?_) | (refine wpList_storeA rfl 72 _ _ rfl _ [.int .u8 9,.string ⟨#[]⟩,.string ⟨#[]⟩,.string t1,.int .i64 0,.slice (some ⟨w4.heap.size,0,none⟩) 2 2,.slice none 0 0,.slice none 0 0,.int .i64 0] #[.int .u8 0,.string ⟨#[]⟩,.string ⟨#[]⟩,.string ⟨#[]⟩,.int .i64 0,.slice none 0 0,.slice none 0 0,.slice none 0 0,.int .i64 0] 72 rfl rfl sz_stmt CF.out.b3 rfl (by intro u hu;simp at hu;rcases hu with rfl | rfl | rfl | rfl | rfl | rfl | rfl | rfl | rfl <;> rfl) ?_;intro w9 hw9;have HW9:=hide hw9;clear hw9))
         have SF:=CF.out.fill3 [.int .u8 9,.string ⟨#[]⟩,.string ⟨#[]⟩,.string t1,.int .i64 0,.slice (some ⟨w4.heap.size,0,none⟩) 2 2,.slice none 0 0,.slice none 0 0,.int .i64 0] rfl
         rw [← HW9.out] at SF
         have HXE:=hide (XL.out _ SF.fin SF.b0 SF.l0)
         have HRR:=hide SF.rr
         have HBB:=SF.b3
         clear SF
         refine bodyPost_ret (v:=.agg #[.int .u8 9,.string ⟨#[]⟩,.string ⟨#[]⟩,.string t1,.int .i64 0,.slice (some ⟨w4.heap.size,0,none⟩) 2 2,.slice none 0 0,.slice none 0 0,.int .i64 0]) (res_cell (cs:=[.int .u8 9,.string ⟨#[]⟩,.string ⟨#[]⟩,.string t1,.int .i64 0,.slice (some ⟨w4.heap.size,0,none⟩) 2 2,.slice none 0 0,.slice none 0 0,.int .i64 0]) (e:=72) Tryz.results59 rfl ag_stmt sz_stmt HBB) rfl ?_
         exact .inl ⟨({ sm0 9 with array:=x1,args:=[x2,x4] }:Sm),k4,_,Q5.out,rfl,HXE.out,HRR.out⟩
        exact AllReady.nil
       exact AllReady.nil
      exact AllReady.nil
     ·have R4:=hide (D1.out.rr.from hr)
      have Q4:=hide (Q3.out.trans (bind_err h4))
      clear hr h4
      exact ⟨rfl,.inr ⟨_,Q4.out,rfl,R4.out⟩⟩
    exact AllReady.nil
   ·have R3:=hide (C3.out.rr.from hr)
    have Q3:=hide (Q2.out.trans (bind_err h3))
    clear hr h3
    go_wp2
    exact ⟨rfl,.inr ⟨_,Q3.out,rfl,R3.out⟩⟩
  ·have R2:=hide (C2.out.rr.from hr)
   have Q2:=hide (Q1.out.trans (bind_err h2))
   clear hr h2
   go_wp2
   exact ⟨rfl,.inr ⟨_,Q2.out,rfl,R2.out⟩⟩
 ·have R1:=hide (C1.out.rr.from hr)
  have Q1:=hide (Q0.out.trans (bind_err h1))
  clear hr h1
  go_wp2
  exact ⟨rfl,.inr ⟨_,Q1.out,rfl,R1.out⟩⟩
end Go.Proofs.YtabkimknlifdoaaGreatDoor
