/- Pieces of the proof: PaJf. -/
import Derived.Test.YtabkimknlifdoaaGreatDoorJ14
namespace Go.Proofs.YtabkimknlifdoaaGreatDoor
open Go.RowKit
set_option maxRecDepth 100000 in
set_option maxHeartbeats 4000000 in
theorem ofName_ok {p q:Nat} {L:List (Wd × Nat)} {dm sm:Value} {I:World→Prop} {kd:Nat} (hL:OkL L) (hI:Stb I p q L dm sm) :
  PfI I 114 #[.pointer (some ⟨p,0,none⟩),.int .u8 (kd:Int)] p q L dm sm 0 (ofNameP kd) (SmR):=by
 intro w k hk h hi
 have HI:Hid (∀ W k',Rp w W p q L k' dm sm→I W):=fun W k' r=>hI w W k' r hi
 have HL:=hide hL
 have HKK:=hide hk
 have HCs:=hide (cstr_i (I:=I) (p:=p) (q:=q) (dm:=dm) (sm:=sm) (k0:=0) hL)
 have S0:=hide (Sp.start h)
 obtain ⟨RR,hRR⟩:∃ RR,RR=(ofNameP kd) L k:=⟨_,rfl⟩
 rw [← hRR]
 have Q0:=hide hRR
 clear hRR h hi hk hL hI
 go_enter Tryz.func114,Tryz.ntmps114
 have C1:Hid (Sp w _ p q L k dm sm [(w.heap.size,.cells #[.int .u8 0,.string ⟨#[]⟩,.string ⟨#[]⟩,.string ⟨#[]⟩,.int .i64 0,.slice none 0 0,.slice none 0 0,.slice none 0 0,.int .i64 0] 72 (0,0))] _):=(S0.out.alloc #[.int .u8 0,.string ⟨#[]⟩,.string ⟨#[]⟩,.string ⟨#[]⟩,.int .i64 0,.slice none 0 0,.slice none 0 0,.slice none 0 0,.int .i64 0] 72 (w.heap.size) rfl)
 go_wp2_with fail
 refine (HCs.out _ _ (Nat.zero_le _) C1.out.rr.here (HI.out _ _ C1.out.rr)).mono ?_
 rintro e w1 (⟨x1,k1,v,h1,rfl,hv,hr⟩ | ⟨k1,h1,rfl,hr⟩)
 ·obtain ⟨t1,rfl⟩:=StrV.form hv
  have S1:=hide (C1.out.call strV_ok hr hv)
  have Q1:=hide (Q0.out.trans (bind_ok h1))
  clear hr h1 hv C1
  have Q2:Hid (RR=.ok (({ sm0 kd with name:=x1 }:Sm),k1)):=Q1.out.trans rfl
  have XL:Hid (∀ W,((StrV) W (Bn w W) (.string t1) x1∧True)→(SmR) W (Bn w W) (.agg #[.int .u8 (kd:Int),.string t1,.string ⟨#[]⟩,.string ⟨#[]⟩,.int .i64 0,.slice none 0 0,.slice none 0 0,.slice none 0 0,.int .i64 0]) ({ sm0 kd with name:=x1 }:Sm)):=by
   rintro W ⟨X1,_⟩
   obtain rfl:=StrV.eq X1
   exact SmR.mk (x:=({ sm0 kd with name:=x1 }:Sm)) ListR.none ListR.none ListR.none
  have CF:Hid (Sp w _ p q L k1 dm sm [(w.heap.size,.cells #[.int .u8 0,.string ⟨#[]⟩,.string ⟨#[]⟩,.string ⟨#[]⟩,.int .i64 0,.slice none 0 0,.slice none 0 0,.slice none 0 0,.int .i64 0] 72 (0,0))] _):=S1.out
  go_wp2_with (first | (refine wpList_storeA rfl 72 _ _ rfl _ [.int .u8 (kd:Int),.string t1,.string ⟨#[]⟩,.string ⟨#[]⟩,.int .i64 0,.slice none 0 0,.slice none 0 0,.slice none 0 0,.int .i64 0] #[.int .u8 0,.string ⟨#[]⟩,.string ⟨#[]⟩,.string ⟨#[]⟩,.int .i64 0,.slice none 0 0,.slice none 0 0,.slice none 0 0,.int .i64 0] 72 rfl rfl sz_stmt CF.out.b0 rfl (by intro u hu;simp at hu;rcases hu with rfl | rfl | rfl | rfl | rfl | rfl | rfl | rfl | rfl <;> rfl) ?_;intro w9 hw9;have HW9:=hide hw9;clear hw9))
  have SF:=CF.out.fill0 [.int .u8 (kd:Int),.string t1,.string ⟨#[]⟩,.string ⟨#[]⟩,.int .i64 0,.slice none 0 0,.slice none 0 0,.slice none 0 0,.int .i64 0] rfl
  rw [← HW9.out] at SF
  have HXE:=hide (XL.out _ SF.fin)
  have HRR:=hide SF.rr
  have HBB:=SF.b0
  clear SF
  refine bodyPost_ret (v:=.agg #[.int .u8 (kd:Int),.string t1,.string ⟨#[]⟩,.string ⟨#[]⟩,.int .i64 0,.slice none 0 0,.slice none 0 0,.slice none 0 0,.int .i64 0]) (res_cell (cs:=[.int .u8 (kd:Int),.string t1,.string ⟨#[]⟩,.string ⟨#[]⟩,.int .i64 0,.slice none 0 0,.slice none 0 0,.slice none 0 0,.int .i64 0]) (e:=72) Tryz.results114 rfl ag_stmt sz_stmt HBB) rfl ?_
  exact .inl ⟨({ sm0 kd with name:=x1 }:Sm),k1,_,Q2.out,rfl,HXE.out,HRR.out⟩
 ·have R1:=hide (C1.out.rr.from hr)
  have Q1:=hide (Q0.out.trans (bind_err h1))
  clear hr h1
  go_wp2
  exact ⟨rfl,.inr ⟨_,Q1.out,rfl,R1.out⟩⟩
set_option maxRecDepth 100000 in
set_option maxHeartbeats 4000000 in
theorem bare_ok {p q:Nat} {L:List (Wd × Nat)} {dm sm:Value} {I:World→Prop} {kd:Nat} (hL:OkL L) (hI:Stb I p q L dm sm) :
  PfI I 119 #[.pointer (some ⟨p,0,none⟩),.int .u8 (kd:Int)] p q L dm sm 0 (bareP kd) (SmR):=by
 intro w k hk h hi
 have HI:Hid (∀ W k',Rp w W p q L k' dm sm→I W):=fun W k' r=>hI w W k' r hi
 have HL:=hide hL
 have HKK:=hide hk
 have S0:=hide (Sp.start h)
 obtain ⟨RR,hRR⟩:∃ RR,RR=(bareP kd) L k:=⟨_,rfl⟩
 rw [← hRR]
 have Q0:=hide hRR
 clear hRR h hi hk hL hI
 go_enter Tryz.func119,Tryz.ntmps119
 have C1:Hid (Sp w _ p q L k dm sm [(w.heap.size,.cells #[.int .u8 0,.string ⟨#[]⟩,.string ⟨#[]⟩,.string ⟨#[]⟩,.int .i64 0,.slice none 0 0,.slice none 0 0,.slice none 0 0,.int .i64 0] 72 (0,0))] _):=(S0.out.alloc #[.int .u8 0,.string ⟨#[]⟩,.string ⟨#[]⟩,.string ⟨#[]⟩,.int .i64 0,.slice none 0 0,.slice none 0 0,.slice none 0 0,.int .i64 0] 72 (w.heap.size) rfl)
 go_wp2_with fail
 refine (pass_lay C1.out.rr HL.out [[59]] (by decide) (by decide) #[.string ⟨#[59]⟩] rfl 9 _ 1 (by first | rfl | simp | simp [World.size_alloc] | simp [World.setCell] | simp [World.setCell,World.size_alloc]) rfl).mono ?_
 rintro e w1 (⟨x1,k1,v,h1,rfl,hv,hr⟩ | ⟨k1,h1,rfl,hr⟩)
 ·obtain rfl:v=.tuple #[]:=hv
  have S1:=hide (C1.out.go hr)
  have Q1:=hide (Q0.out.trans (bind_ok h1))
  clear hr h1 C1
  have Q2:Hid (RR=.ok ((sm0 kd),k1)):=Q1.out.trans rfl
  have CF:Hid (Sp w _ p q L k1 dm sm [(w.heap.size,.cells #[.int .u8 0,.string ⟨#[]⟩,.string ⟨#[]⟩,.string ⟨#[]⟩,.int .i64 0,.slice none 0 0,.slice none 0 0,.slice none 0 0,.int .i64 0] 72 (0,0))] _):=S1.out
  go_wp2_with (first | (refine wpList_storeA rfl 72 _ _ rfl _ [.int .u8 (kd:Int),.string ⟨#[]⟩,.string ⟨#[]⟩,.string ⟨#[]⟩,.int .i64 0,.slice none 0 0,.slice none 0 0,.slice none 0 0,.int .i64 0] #[.int .u8 0,.string ⟨#[]⟩,.string ⟨#[]⟩,.string ⟨#[]⟩,.int .i64 0,.slice none 0 0,.slice none 0 0,.slice none 0 0,.int .i64 0] 72 rfl rfl sz_stmt CF.out.b0 rfl (by intro u hu;simp at hu;rcases hu with rfl | rfl | rfl | rfl | rfl | rfl | rfl | rfl | rfl <;> rfl) ?_;intro w9 hw9;have HW9:=hide hw9;clear hw9))
  have SF:=CF.out.fill0 [.int .u8 (kd:Int),.string ⟨#[]⟩,.string ⟨#[]⟩,.string ⟨#[]⟩,.int .i64 0,.slice none 0 0,.slice none 0 0,.slice none 0 0,.int .i64 0] rfl
  rw [← HW9.out] at SF
  have HXE:=hide True.intro
  have HRR:=hide SF.rr
  have HBB:=SF.b0
  clear SF
  refine bodyPost_ret (v:=.agg #[.int .u8 (kd:Int),.string ⟨#[]⟩,.string ⟨#[]⟩,.string ⟨#[]⟩,.int .i64 0,.slice none 0 0,.slice none 0 0,.slice none 0 0,.int .i64 0]) (res_cell (cs:=[.int .u8 (kd:Int),.string ⟨#[]⟩,.string ⟨#[]⟩,.string ⟨#[]⟩,.int .i64 0,.slice none 0 0,.slice none 0 0,.slice none 0 0,.int .i64 0]) (e:=72) Tryz.results119 rfl ag_stmt sz_stmt HBB) rfl ?_
  exact .inl ⟨(sm0 kd),k1,_,Q2.out,rfl,SmR.mk (x:=(sm0 kd)) ListR.none ListR.none ListR.none,HRR.out⟩
 ·have R1:=hide (C1.out.rr.from hr)
  have Q1:=hide (Q0.out.trans (bind_err h1))
  clear hr h1
  go_wp2
  exact ⟨rfl,.inr ⟨_,Q1.out,rfl,R1.out⟩⟩
set_option maxRecDepth 100000 in
set_option maxHeartbeats 4000000 in
theorem ofField_ok {p q:Nat} {L:List (Wd × Nat)} {dm sm:Value} {I:World→Prop} {kd:Nat} (hL:OkL L) (hI:Stb I p q L dm sm) :
  PfI I 118 #[.pointer (some ⟨p,0,none⟩),.int .u8 (kd:Int)] p q L dm sm 0 (ofFieldP kd) (SmR):=by
 intro w k hk h hi
 have HI:Hid (∀ W k',Rp w W p q L k' dm sm→I W):=fun W k' r=>hI w W k' r hi
 have HL:=hide hL
 have HKK:=hide hk
 have HOw:=hide (owner_i (I:=I) (p:=p) (q:=q) (dm:=dm) (sm:=sm) (k0:=0) hL)
 have HFo:=hide (fieldOf_i (I:=I) (p:=p) (q:=q) (dm:=dm) (sm:=sm) (k0:=0) hL)
 have S0:=hide (Sp.start h)
 obtain ⟨RR,hRR⟩:∃ RR,RR=(ofFieldP kd) L k:=⟨_,rfl⟩
 rw [← hRR]
 have Q0:=hide hRR
 clear hRR h hi hk hL hI
 go_enter Tryz.func118,Tryz.ntmps118
 have C1:Hid (Sp w _ p q L k dm sm [(w.heap.size,.cells #[.int .u8 0,.string ⟨#[]⟩,.string ⟨#[]⟩,.string ⟨#[]⟩,.int .i64 0,.slice none 0 0,.slice none 0 0,.slice none 0 0,.int .i64 0] 72 (0,0))] _):=(S0.out.alloc #[.int .u8 0,.string ⟨#[]⟩,.string ⟨#[]⟩,.string ⟨#[]⟩,.int .i64 0,.slice none 0 0,.slice none 0 0,.slice none 0 0,.int .i64 0] 72 (w.heap.size) rfl)
 go_wp2_with fail
 refine (HOw.out _ _ (Nat.zero_le _) C1.out.rr.here (HI.out _ _ C1.out.rr)).mono ?_
 rintro e w1 (⟨x1,k1,v,h1,rfl,hv,hr⟩ | ⟨k1,h1,rfl,hr⟩)
 ·obtain ⟨t1,rfl⟩:=StrV.form hv
  have S1:=hide (C1.out.call strV_ok hr hv)
  have Q1:=hide (Q0.out.trans (bind_ok h1))
  clear hr h1 hv C1
  have C2:Hid (Sp w _ p q L k1 dm sm [(w1.heap.size,.cells #[.int .u8 (kd:Int),.string t1,.string ⟨#[]⟩,.string ⟨#[]⟩,.int .i64 0,.slice none 0 0,.slice none 0 0,.slice none 0 0,.int .i64 0] 72 (0,0)),(w.heap.size,.cells #[.int .u8 0,.string ⟨#[]⟩,.string ⟨#[]⟩,.string ⟨#[]⟩,.int .i64 0,.slice none 0 0,.slice none 0 0,.slice none 0 0,.int .i64 0] 72 (0,0))] _):=(S1.out.alloc #[.int .u8 (kd:Int),.string t1,.string ⟨#[]⟩,.string ⟨#[]⟩,.int .i64 0,.slice none 0 0,.slice none 0 0,.slice none 0 0,.int .i64 0] 72 (w1.heap.size) rfl)
  go_wp2_with fail
  refine (HFo.out _ _ (Nat.zero_le _) C2.out.rr.here (HI.out _ _ C2.out.rr)).mono ?_
  rintro e w2 (⟨x2,k2,v,h2,rfl,hv,hr⟩ | ⟨k2,h2,rfl,hr⟩)
  ·obtain ⟨t2,rfl⟩:=StrV.form hv
   have S2:=hide (C2.out.call strV_ok hr hv)
   have Q2:=hide (Q1.out.trans (bind_ok h2))
   clear hr h2 hv C2
   have Q3:Hid (RR=.ok (({ sm0 kd with name:=x1,field:=x2 }:Sm),k2)):=Q2.out.trans rfl
   have XL:Hid (∀ W,((StrV) W (Bn w W) (.string t2) x2∧(StrV) W (Bn w W) (.string t1) x1∧True)→(SmR) W (Bn w W) (.agg #[.int .u8 (kd:Int),.string t1,.string t2,.string ⟨#[]⟩,.int .i64 0,.slice none 0 0,.slice none 0 0,.slice none 0 0,.int .i64 0]) ({ sm0 kd with name:=x1,field:=x2 }:Sm)):=by
    rintro W ⟨X2,X1,_⟩
    obtain rfl:=StrV.eq X2
    obtain rfl:=StrV.eq X1
    exact SmR.mk (x:=({ sm0 kd with name:=x1,field:=x2 }:Sm)) ListR.none ListR.none ListR.none
   have CF:Hid (Sp w _ p q L k2 dm sm [(w1.heap.size,.cells #[.int .u8 (kd:Int),.string t1,.string t2,.string ⟨#[]⟩,.int .i64 0,.slice none 0 0,.slice none 0 0,.slice none 0 0,.int .i64 0] 72 (0,0)),(w.heap.size,.cells #[.int .u8 0,.string ⟨#[]⟩,.string ⟨#[]⟩,.string ⟨#[]⟩,.int .i64 0,.slice none 0 0,.slice none 0 0,.slice none 0 0,.int .i64 0] 72 (0,0))] _):=(S2.out.set0 2 (.string t2))
   have gc1:=cellA S2.out.b0 2;have gs1:=softA S2.out.b0 2
   go_wp2_with (first | (refine wpList_loadA rfl 72 _ rfl _ [.int .u8 (kd:Int),.string t1,.string t2,.string ⟨#[]⟩,.int .i64 0,.slice none 0 0,.slice none 0 0,.slice none 0 0,.int .i64 0] 72 rfl ag_stmt sz_stmt CF.out.b0 ?_) | (refine wpList_storeA rfl 72 _ _ rfl _ [.int .u8 (kd:Int),.string t1,.string t2,.string ⟨#[]⟩,.int .i64 0,.slice none 0 0,.slice none 0 0,.slice none 0 0,.int .i64 0] #[.int .u8 0,.string ⟨#[]⟩,.string ⟨#[]⟩,.string ⟨#[]⟩,.int .i64 0,.slice none 0 0,.slice none 0 0,.slice none 0 0,.int .i64 0] 72 rfl rfl sz_stmt CF.out.b1 rfl (by intro u hu;simp at hu;rcases hu with rfl | rfl | rfl | rfl | rfl | rfl | rfl | rfl | rfl <;> rfl) ?_;intro w9 hw9;have HW9:=hide hw9;clear hw9))
   have SF:=CF.out.fill1 [.int .u8 (kd:Int),.string t1,.string t2,.string ⟨#[]⟩,.int .i64 0,.slice none 0 0,.slice none 0 0,.slice none 0 0,.int .i64 0] rfl
   rw [← HW9.out] at SF
   have HXE:=hide (XL.out _ SF.fin)
   have HRR:=hide SF.rr
   have HBB:=SF.b1
   clear SF
   refine bodyPost_ret (v:=.agg #[.int .u8 (kd:Int),.string t1,.string t2,.string ⟨#[]⟩,.int .i64 0,.slice none 0 0,.slice none 0 0,.slice none 0 0,.int .i64 0]) (res_cell (cs:=[.int .u8 (kd:Int),.string t1,.string t2,.string ⟨#[]⟩,.int .i64 0,.slice none 0 0,.slice none 0 0,.slice none 0 0,.int .i64 0]) (e:=72) Tryz.results118 rfl ag_stmt sz_stmt HBB) rfl ?_
   exact .inl ⟨({ sm0 kd with name:=x1,field:=x2 }:Sm),k2,_,Q3.out,rfl,HXE.out,HRR.out⟩
  ·have R2:=hide (C2.out.rr.from hr)
   have Q2:=hide (Q1.out.trans (bind_err h2))
   clear hr h2
   go_wp2
   exact ⟨rfl,.inr ⟨_,Q2.out,rfl,R2.out⟩⟩
 ·have R1:=hide (C1.out.rr.from hr)
  have Q1:=hide (Q0.out.trans (bind_err h1))
  clear hr h1
  go_wp2
  exact ⟨rfl,.inr ⟨_,Q1.out,rfl,R1.out⟩⟩
end Go.Proofs.YtabkimknlifdoaaGreatDoor
