/- Pieces of the proof: PaJg. -/
import Derived.Test.YtabkimknlifdoaaGreatDoorJ14
namespace Go.Proofs.YtabkimknlifdoaaGreatDoor
open Go.RowKit
set_option maxRecDepth 100000 in
set_option maxHeartbeats 4000000 in
theorem apply_ok {p q:Nat} {L:List (Wd × Nat)} {dm sm:Value} {I:World→Prop} (hL:OkL L) (hI:Stb I p q L dm sm) (HOf:PfI I 114 #[.pointer (some ⟨p,0,none⟩),.int .u8 3] p q L dm sm 0 (ofNameP 3) (SmR)) :
  PfI I 54 #[.pointer (some ⟨p,0,none⟩)] p q L dm sm 0 (ofNameP 3) (SmR):=by
 intro w k hk h hi
 have HI:Hid (∀ W k',Rp w W p q L k' dm sm→I W):=fun W k' r=>hI w W k' r hi
 have HL:=hide hL
 have HKK:=hide hk
 have HOf:=hide HOf
 have S0:=hide (Sp.start h)
 obtain ⟨RR,hRR⟩:∃ RR,RR=(ofNameP 3) L k:=⟨_,rfl⟩
 rw [← hRR]
 have Q0:=hide (hRR.trans (bindret (ofNameP 3) L k).symm)
 clear hRR h hi hk hL hI
 go_enter Tryz.func54,Tryz.ntmps54
 have C1:Hid (Sp w _ p q L k dm sm [(w.heap.size,.cells #[.int .u8 0,.string ⟨#[]⟩,.string ⟨#[]⟩,.string ⟨#[]⟩,.int .i64 0,.slice none 0 0,.slice none 0 0,.slice none 0 0,.int .i64 0] 72 (0,0))] _):=(S0.out.alloc #[.int .u8 0,.string ⟨#[]⟩,.string ⟨#[]⟩,.string ⟨#[]⟩,.int .i64 0,.slice none 0 0,.slice none 0 0,.slice none 0 0,.int .i64 0] 72 (w.heap.size) rfl)
 go_wp2_with fail
 refine (HOf.out _ _ (Nat.zero_le _) C1.out.rr.here (HI.out _ _ C1.out.rr)).mono ?_
 rintro e w1 (⟨x1,k1,v,h1,rfl,hv,hr⟩ | ⟨k1,h1,rfl,hr⟩)
 ·obtain ⟨z1a,z1b,z1c,z1d,z1e,s1f,n1f,c1f,s1g,n1g,c1g,s1h,n1h,c1h,z1i,rfl⟩:=SmR.form hv
  have S1:=hide (C1.out.call smRep_ok hr hv)
  have Q1:=hide (Q0.out.trans (bind_ok h1))
  clear hr h1 hv C1
  have Q2:Hid (RR=.ok (x1,k1)):=Q1.out.trans rfl
  have XL:Hid (∀ W,((SmR) W (Bn w W) (.agg #[.int .u8 z1a,.string z1b,.string z1c,.string z1d,.int .i64 z1e,.slice s1f n1f c1f,.slice s1g n1g c1g,.slice s1h n1h c1h,.int .i64 z1i]) x1∧True)→(SmR) W (Bn w W) (.agg #[.int .u8 z1a,.string z1b,.string z1c,.string z1d,.int .i64 z1e,.slice s1f n1f c1f,.slice s1g n1g c1g,.slice s1h n1h c1h,.int .i64 z1i]) x1):=by
   rintro W ⟨X1,_⟩
   exact X1
  have CF:Hid (Sp w _ p q L k1 dm sm [(w.heap.size,.cells #[.int .u8 0,.string ⟨#[]⟩,.string ⟨#[]⟩,.string ⟨#[]⟩,.int .i64 0,.slice none 0 0,.slice none 0 0,.slice none 0 0,.int .i64 0] 72 (0,0))] _):=S1.out
  go_wp2_with (first | (refine wpList_storeA rfl 72 _ _ rfl _ [.int .u8 z1a,.string z1b,.string z1c,.string z1d,.int .i64 z1e,.slice s1f n1f c1f,.slice s1g n1g c1g,.slice s1h n1h c1h,.int .i64 z1i] #[.int .u8 0,.string ⟨#[]⟩,.string ⟨#[]⟩,.string ⟨#[]⟩,.int .i64 0,.slice none 0 0,.slice none 0 0,.slice none 0 0,.int .i64 0] 72 rfl rfl sz_stmt CF.out.b0 rfl (by intro u hu;simp at hu;rcases hu with rfl | rfl | rfl | rfl | rfl | rfl | rfl | rfl | rfl <;> rfl) ?_;intro w9 hw9;have HW9:=hide hw9;clear hw9))
  have SF:=CF.out.fill0 [.int .u8 z1a,.string z1b,.string z1c,.string z1d,.int .i64 z1e,.slice s1f n1f c1f,.slice s1g n1g c1g,.slice s1h n1h c1h,.int .i64 z1i] rfl
  rw [← HW9.out] at SF
  have HXE:=hide (XL.out _ SF.fin)
  have HRR:=hide SF.rr
  have HBB:=SF.b0
  clear SF
  refine bodyPost_ret (v:=.agg #[.int .u8 z1a,.string z1b,.string z1c,.string z1d,.int .i64 z1e,.slice s1f n1f c1f,.slice s1g n1g c1g,.slice s1h n1h c1h,.int .i64 z1i]) (res_cell (cs:=[.int .u8 z1a,.string z1b,.string z1c,.string z1d,.int .i64 z1e,.slice s1f n1f c1f,.slice s1g n1g c1g,.slice s1h n1h c1h,.int .i64 z1i]) (e:=72) Tryz.results54 rfl ag_stmt sz_stmt HBB) rfl ?_
  exact .inl ⟨x1,k1,_,Q2.out,rfl,HXE.out,HRR.out⟩
 ·have R1:=hide (C1.out.rr.from hr)
  have Q1:=hide (Q0.out.trans (bind_err h1))
  clear hr h1
  go_wp2
  exact ⟨rfl,.inr ⟨_,Q1.out,rfl,R1.out⟩⟩
set_option maxRecDepth 100000 in
set_option maxHeartbeats 4000000 in
theorem make_ok {p q:Nat} {L:List (Wd × Nat)} {dm sm:Value} {I:World→Prop} (hL:OkL L) (hI:Stb I p q L dm sm) (HOf:PfI I 114 #[.pointer (some ⟨p,0,none⟩),.int .u8 5] p q L dm sm 0 (ofNameP 5) (SmR)) :
  PfI I 55 #[.pointer (some ⟨p,0,none⟩)] p q L dm sm 0 (ofNameP 5) (SmR):=by
 intro w k hk h hi
 have HI:Hid (∀ W k',Rp w W p q L k' dm sm→I W):=fun W k' r=>hI w W k' r hi
 have HL:=hide hL
 have HKK:=hide hk
 have HOf:=hide HOf
 have S0:=hide (Sp.start h)
 obtain ⟨RR,hRR⟩:∃ RR,RR=(ofNameP 5) L k:=⟨_,rfl⟩
 rw [← hRR]
 have Q0:=hide (hRR.trans (bindret (ofNameP 5) L k).symm)
 clear hRR h hi hk hL hI
 go_enter Tryz.func55,Tryz.ntmps55
 have C1:Hid (Sp w _ p q L k dm sm [(w.heap.size,.cells #[.int .u8 0,.string ⟨#[]⟩,.string ⟨#[]⟩,.string ⟨#[]⟩,.int .i64 0,.slice none 0 0,.slice none 0 0,.slice none 0 0,.int .i64 0] 72 (0,0))] _):=(S0.out.alloc #[.int .u8 0,.string ⟨#[]⟩,.string ⟨#[]⟩,.string ⟨#[]⟩,.int .i64 0,.slice none 0 0,.slice none 0 0,.slice none 0 0,.int .i64 0] 72 (w.heap.size) rfl)
 go_wp2_with fail
 refine (HOf.out _ _ (Nat.zero_le _) C1.out.rr.here (HI.out _ _ C1.out.rr)).mono ?_
 rintro e w1 (⟨x1,k1,v,h1,rfl,hv,hr⟩ | ⟨k1,h1,rfl,hr⟩)
 ·obtain ⟨z1a,z1b,z1c,z1d,z1e,s1f,n1f,c1f,s1g,n1g,c1g,s1h,n1h,c1h,z1i,rfl⟩:=SmR.form hv
  have S1:=hide (C1.out.call smRep_ok hr hv)
  have Q1:=hide (Q0.out.trans (bind_ok h1))
  clear hr h1 hv C1
  have Q2:Hid (RR=.ok (x1,k1)):=Q1.out.trans rfl
  have XL:Hid (∀ W,((SmR) W (Bn w W) (.agg #[.int .u8 z1a,.string z1b,.string z1c,.string z1d,.int .i64 z1e,.slice s1f n1f c1f,.slice s1g n1g c1g,.slice s1h n1h c1h,.int .i64 z1i]) x1∧True)→(SmR) W (Bn w W) (.agg #[.int .u8 z1a,.string z1b,.string z1c,.string z1d,.int .i64 z1e,.slice s1f n1f c1f,.slice s1g n1g c1g,.slice s1h n1h c1h,.int .i64 z1i]) x1):=by
   rintro W ⟨X1,_⟩
   exact X1
  have CF:Hid (Sp w _ p q L k1 dm sm [(w.heap.size,.cells #[.int .u8 0,.string ⟨#[]⟩,.string ⟨#[]⟩,.string ⟨#[]⟩,.int .i64 0,.slice none 0 0,.slice none 0 0,.slice none 0 0,.int .i64 0] 72 (0,0))] _):=S1.out
  go_wp2_with (first | (refine wpList_storeA rfl 72 _ _ rfl _ [.int .u8 z1a,.string z1b,.string z1c,.string z1d,.int .i64 z1e,.slice s1f n1f c1f,.slice s1g n1g c1g,.slice s1h n1h c1h,.int .i64 z1i] #[.int .u8 0,.string ⟨#[]⟩,.string ⟨#[]⟩,.string ⟨#[]⟩,.int .i64 0,.slice none 0 0,.slice none 0 0,.slice none 0 0,.int .i64 0] 72 rfl rfl sz_stmt CF.out.b0 rfl (by intro u hu;simp at hu;rcases hu with rfl | rfl | rfl | rfl | rfl | rfl | rfl | rfl | rfl <;> rfl) ?_;intro w9 hw9;have HW9:=hide hw9;clear hw9))
  have SF:=CF.out.fill0 [.int .u8 z1a,.string z1b,.string z1c,.string z1d,.int .i64 z1e,.slice s1f n1f c1f,.slice s1g n1g c1g,.slice s1h n1h c1h,.int .i64 z1i] rfl
  rw [← HW9.out] at SF
  have HXE:=hide (XL.out _ SF.fin)
  have HRR:=hide SF.rr
  have HBB:=SF.b0
  clear SF
  refine bodyPost_ret (v:=.agg #[.int .u8 z1a,.string z1b,.string z1c,.string z1d,.int .i64 z1e,.slice s1f n1f c1f,.slice s1g n1g c1g,.slice s1h n1h c1h,.int .i64 z1i]) (res_cell (cs:=[.int .u8 z1a,.string z1b,.string z1c,.string z1d,.int .i64 z1e,.slice s1f n1f c1f,.slice s1g n1g c1g,.slice s1h n1h c1h,.int .i64 z1i]) (e:=72) Tryz.results55 rfl ag_stmt sz_stmt HBB) rfl ?_
  exact .inl ⟨x1,k1,_,Q2.out,rfl,HXE.out,HRR.out⟩
 ·have R1:=hide (C1.out.rr.from hr)
  have Q1:=hide (Q0.out.trans (bind_err h1))
  clear hr h1
  go_wp2
  exact ⟨rfl,.inr ⟨_,Q1.out,rfl,R1.out⟩⟩
set_option maxRecDepth 100000 in
set_option maxHeartbeats 4000000 in
theorem gone_ok {p q:Nat} {L:List (Wd × Nat)} {dm sm:Value} {I:World→Prop} (hL:OkL L) (hI:Stb I p q L dm sm) (HOf:PfI I 114 #[.pointer (some ⟨p,0,none⟩),.int .u8 6] p q L dm sm 0 (ofNameP 6) (SmR)) :
  PfI I 56 #[.pointer (some ⟨p,0,none⟩)] p q L dm sm 0 (ofNameP 6) (SmR):=by
 intro w k hk h hi
 have HI:Hid (∀ W k',Rp w W p q L k' dm sm→I W):=fun W k' r=>hI w W k' r hi
 have HL:=hide hL
 have HKK:=hide hk
 have HOf:=hide HOf
 have S0:=hide (Sp.start h)
 obtain ⟨RR,hRR⟩:∃ RR,RR=(ofNameP 6) L k:=⟨_,rfl⟩
 rw [← hRR]
 have Q0:=hide (hRR.trans (bindret (ofNameP 6) L k).symm)
 clear hRR h hi hk hL hI
 go_enter Tryz.func56,Tryz.ntmps56
 have C1:Hid (Sp w _ p q L k dm sm [(w.heap.size,.cells #[.int .u8 0,.string ⟨#[]⟩,.string ⟨#[]⟩,.string ⟨#[]⟩,.int .i64 0,.slice none 0 0,.slice none 0 0,.slice none 0 0,.int .i64 0] 72 (0,0))] _):=(S0.out.alloc #[.int .u8 0,.string ⟨#[]⟩,.string ⟨#[]⟩,.string ⟨#[]⟩,.int .i64 0,.slice none 0 0,.slice none 0 0,.slice none 0 0,.int .i64 0] 72 (w.heap.size) rfl)
 go_wp2_with fail
 refine (HOf.out _ _ (Nat.zero_le _) C1.out.rr.here (HI.out _ _ C1.out.rr)).mono ?_
 rintro e w1 (⟨x1,k1,v,h1,rfl,hv,hr⟩ | ⟨k1,h1,rfl,hr⟩)
 ·obtain ⟨z1a,z1b,z1c,z1d,z1e,s1f,n1f,c1f,s1g,n1g,c1g,s1h,n1h,c1h,z1i,rfl⟩:=SmR.form hv
  have S1:=hide (C1.out.call smRep_ok hr hv)
  have Q1:=hide (Q0.out.trans (bind_ok h1))
  clear hr h1 hv C1
  have Q2:Hid (RR=.ok (x1,k1)):=Q1.out.trans rfl
  have XL:Hid (∀ W,((SmR) W (Bn w W) (.agg #[.int .u8 z1a,.string z1b,.string z1c,.string z1d,.int .i64 z1e,.slice s1f n1f c1f,.slice s1g n1g c1g,.slice s1h n1h c1h,.int .i64 z1i]) x1∧True)→(SmR) W (Bn w W) (.agg #[.int .u8 z1a,.string z1b,.string z1c,.string z1d,.int .i64 z1e,.slice s1f n1f c1f,.slice s1g n1g c1g,.slice s1h n1h c1h,.int .i64 z1i]) x1):=by
   rintro W ⟨X1,_⟩
   exact X1
  have CF:Hid (Sp w _ p q L k1 dm sm [(w.heap.size,.cells #[.int .u8 0,.string ⟨#[]⟩,.string ⟨#[]⟩,.string ⟨#[]⟩,.int .i64 0,.slice none 0 0,.slice none 0 0,.slice none 0 0,.int .i64 0] 72 (0,0))] _):=S1.out
  go_wp2_with (first | (refine wpList_storeA rfl 72 _ _ rfl _ [.int .u8 z1a,.string z1b,.string z1c,.string z1d,.int .i64 z1e,.slice s1f n1f c1f,.slice s1g n1g c1g,.slice s1h n1h c1h,.int .i64 z1i] #[.int .u8 0,.string ⟨#[]⟩,.string ⟨#[]⟩,.string ⟨#[]⟩,.int .i64 0,.slice none 0 0,.slice none 0 0,.slice none 0 0,.int .i64 0] 72 rfl rfl sz_stmt CF.out.b0 rfl (by intro u hu;simp at hu;rcases hu with rfl | rfl | rfl | rfl | rfl | rfl | rfl | rfl | rfl <;> rfl) ?_;intro w9 hw9;have HW9:=hide hw9;clear hw9))
  have SF:=CF.out.fill0 [.int .u8 z1a,.string z1b,.string z1c,.string z1d,.int .i64 z1e,.slice s1f n1f c1f,.slice s1g n1g c1g,.slice s1h n1h c1h,.int .i64 z1i] rfl
  rw [← HW9.out] at SF
  have HXE:=hide (XL.out _ SF.fin)
  have HRR:=hide SF.rr
  have HBB:=SF.b0
  clear SF
  refine bodyPost_ret (v:=.agg #[.int .u8 z1a,.string z1b,.string z1c,.string z1d,.int .i64 z1e,.slice s1f n1f c1f,.slice s1g n1g c1g,.slice s1h n1h c1h,.int .i64 z1i]) (res_cell (cs:=[.int .u8 z1a,.string z1b,.string z1c,.string z1d,.int .i64 z1e,.slice s1f n1f c1f,.slice s1g n1g c1g,.slice s1h n1h c1h,.int .i64 z1i]) (e:=72) Tryz.results56 rfl ag_stmt sz_stmt HBB) rfl ?_
  exact .inl ⟨x1,k1,_,Q2.out,rfl,HXE.out,HRR.out⟩
 ·have R1:=hide (C1.out.rr.from hr)
  have Q1:=hide (Q0.out.trans (bind_err h1))
  clear hr h1
  go_wp2
  exact ⟨rfl,.inr ⟨_,Q1.out,rfl,R1.out⟩⟩
set_option maxRecDepth 100000 in
set_option maxHeartbeats 4000000 in
theorem drop_ok {p q:Nat} {L:List (Wd × Nat)} {dm sm:Value} {I:World→Prop} (hL:OkL L) (hI:Stb I p q L dm sm) (HOf:PfI I 119 #[.pointer (some ⟨p,0,none⟩),.int .u8 12] p q L dm sm 0 (bareP 12) (SmR)) :
  PfI I 62 #[.pointer (some ⟨p,0,none⟩)] p q L dm sm 0 (bareP 12) (SmR):=by
 intro w k hk h hi
 have HI:Hid (∀ W k',Rp w W p q L k' dm sm→I W):=fun W k' r=>hI w W k' r hi
 have HL:=hide hL
 have HKK:=hide hk
 have HOf:=hide HOf
 have S0:=hide (Sp.start h)
 obtain ⟨RR,hRR⟩:∃ RR,RR=(bareP 12) L k:=⟨_,rfl⟩
 rw [← hRR]
 have Q0:=hide (hRR.trans (bindret (bareP 12) L k).symm)
 clear hRR h hi hk hL hI
 go_enter Tryz.func62,Tryz.ntmps62
 have C1:Hid (Sp w _ p q L k dm sm [(w.heap.size,.cells #[.int .u8 0,.string ⟨#[]⟩,.string ⟨#[]⟩,.string ⟨#[]⟩,.int .i64 0,.slice none 0 0,.slice none 0 0,.slice none 0 0,.int .i64 0] 72 (0,0))] _):=(S0.out.alloc #[.int .u8 0,.string ⟨#[]⟩,.string ⟨#[]⟩,.string ⟨#[]⟩,.int .i64 0,.slice none 0 0,.slice none 0 0,.slice none 0 0,.int .i64 0] 72 (w.heap.size) rfl)
 go_wp2_with fail
 refine (HOf.out _ _ (Nat.zero_le _) C1.out.rr.here (HI.out _ _ C1.out.rr)).mono ?_
 rintro e w1 (⟨x1,k1,v,h1,rfl,hv,hr⟩ | ⟨k1,h1,rfl,hr⟩)
 ·obtain ⟨z1a,z1b,z1c,z1d,z1e,s1f,n1f,c1f,s1g,n1g,c1g,s1h,n1h,c1h,z1i,rfl⟩:=SmR.form hv
  have S1:=hide (C1.out.call smRep_ok hr hv)
  have Q1:=hide (Q0.out.trans (bind_ok h1))
  clear hr h1 hv C1
  have Q2:Hid (RR=.ok (x1,k1)):=Q1.out.trans rfl
  have XL:Hid (∀ W,((SmR) W (Bn w W) (.agg #[.int .u8 z1a,.string z1b,.string z1c,.string z1d,.int .i64 z1e,.slice s1f n1f c1f,.slice s1g n1g c1g,.slice s1h n1h c1h,.int .i64 z1i]) x1∧True)→(SmR) W (Bn w W) (.agg #[.int .u8 z1a,.string z1b,.string z1c,.string z1d,.int .i64 z1e,.slice s1f n1f c1f,.slice s1g n1g c1g,.slice s1h n1h c1h,.int .i64 z1i]) x1):=by
   rintro W ⟨X1,_⟩
   exact X1
  have CF:Hid (Sp w _ p q L k1 dm sm [(w.heap.size,.cells #[.int .u8 0,.string ⟨#[]⟩,.string ⟨#[]⟩,.string ⟨#[]⟩,.int .i64 0,.slice none 0 0,.slice none 0 0,.slice none 0 0,.int .i64 0] 72 (0,0))] _):=S1.out
  go_wp2_with (first | (refine wpList_storeA rfl 72 _ _ rfl _ [.int .u8 z1a,.string z1b,.string z1c,.string z1d,.int .i64 z1e,.slice s1f n1f c1f,.slice s1g n1g c1g,.slice s1h n1h c1h,.int .i64 z1i] #[.int .u8 0,.string ⟨#[]⟩,.string ⟨#[]⟩,.string ⟨#[]⟩,.int .i64 0,.slice none 0 0,.slice none 0 0,.slice none 0 0,.int .i64 0] 72 rfl rfl sz_stmt CF.out.b0 rfl (by intro u hu;simp at hu;rcases hu with rfl | rfl | rfl | rfl | rfl | rfl | rfl | rfl | rfl <;> rfl) ?_;intro w9 hw9;have HW9:=hide hw9;clear hw9))
  have SF:=CF.out.fill0 [.int .u8 z1a,.string z1b,.string z1c,.string z1d,.int .i64 z1e,.slice s1f n1f c1f,.slice s1g n1g c1g,.slice s1h n1h c1h,.int .i64 z1i] rfl
  rw [← HW9.out] at SF
  have HXE:=hide (XL.out _ SF.fin)
  have HRR:=hide SF.rr
  have HBB:=SF.b0
  clear SF
  refine bodyPost_ret (v:=.agg #[.int .u8 z1a,.string z1b,.string z1c,.string z1d,.int .i64 z1e,.slice s1f n1f c1f,.slice s1g n1g c1g,.slice s1h n1h c1h,.int .i64 z1i]) (res_cell (cs:=[.int .u8 z1a,.string z1b,.string z1c,.string z1d,.int .i64 z1e,.slice s1f n1f c1f,.slice s1g n1g c1g,.slice s1h n1h c1h,.int .i64 z1i]) (e:=72) Tryz.results62 rfl ag_stmt sz_stmt HBB) rfl ?_
  exact .inl ⟨x1,k1,_,Q2.out,rfl,HXE.out,HRR.out⟩
 ·have R1:=hide (C1.out.rr.from hr)
  have Q1:=hide (Q0.out.trans (bind_err h1))
  clear hr h1
  go_wp2
  exact ⟨rfl,.inr ⟨_,Q1.out,rfl,R1.out⟩⟩
set_option maxRecDepth 100000 in
set_option maxHeartbeats 4000000 in
theorem again_ok {p q:Nat} {L:List (Wd × Nat)} {dm sm:Value} {I:World→Prop} (hL:OkL L) (hI:Stb I p q L dm sm) (HOf:PfI I 119 #[.pointer (some ⟨p,0,none⟩),.int .u8 15] p q L dm sm 0 (bareP 15) (SmR)) :
  PfI I 63 #[.pointer (some ⟨p,0,none⟩)] p q L dm sm 0 (bareP 15) (SmR):=by
 intro w k hk h hi
 have HI:Hid (∀ W k',Rp w W p q L k' dm sm→I W):=fun W k' r=>hI w W k' r hi
 have HL:=hide hL
 have HKK:=hide hk
 have HOf:=hide HOf
 have S0:=hide (Sp.start h)
 obtain ⟨RR,hRR⟩:∃ RR,RR=(bareP 15) L k:=⟨_,rfl⟩
 rw [← hRR]
 have Q0:=hide (hRR.trans (bindret (bareP 15) L k).symm)
 clear hRR h hi hk hL hI
 go_enter Tryz.func63,Tryz.ntmps63
 have C1:Hid (Sp w _ p q L k dm sm [(w.heap.size,.cells #[.int .u8 0,.string ⟨#[]⟩,.string ⟨#[]⟩,.string ⟨#[]⟩,.int .i64 0,.slice none 0 0,.slice none 0 0,.slice none 0 0,.int .i64 0] 72 (0,0))] _):=(S0.out.alloc #[.int .u8 0,.string ⟨#[]⟩,.string ⟨#[]⟩,.string ⟨#[]⟩,.int .i64 0,.slice none 0 0,.slice none 0 0,.slice none 0 0,.int .i64 0] 72 (w.heap.size) rfl)
 go_wp2_with fail
 refine (HOf.out _ _ (Nat.zero_le _) C1.out.rr.here (HI.out _ _ C1.out.rr)).mono ?_
 rintro e w1 (⟨x1,k1,v,h1,rfl,hv,hr⟩ | ⟨k1,h1,rfl,hr⟩)
 ·obtain ⟨z1a,z1b,z1c,z1d,z1e,s1f,n1f,c1f,s1g,n1g,c1g,s1h,n1h,c1h,z1i,rfl⟩:=SmR.form hv
  have S1:=hide (C1.out.call smRep_ok hr hv)
  have Q1:=hide (Q0.out.trans (bind_ok h1))
  clear hr h1 hv C1
  have Q2:Hid (RR=.ok (x1,k1)):=Q1.out.trans rfl
  have XL:Hid (∀ W,((SmR) W (Bn w W) (.agg #[.int .u8 z1a,.string z1b,.string z1c,.string z1d,.int .i64 z1e,.slice s1f n1f c1f,.slice s1g n1g c1g,.slice s1h n1h c1h,.int .i64 z1i]) x1∧True)→(SmR) W (Bn w W) (.agg #[.int .u8 z1a,.string z1b,.string z1c,.string z1d,.int .i64 z1e,.slice s1f n1f c1f,.slice s1g n1g c1g,.slice s1h n1h c1h,.int .i64 z1i]) x1):=by
   rintro W ⟨X1,_⟩
   exact X1
  have CF:Hid (Sp w _ p q L k1 dm sm [(w.heap.size,.cells #[.int .u8 0,.string ⟨#[]⟩,.string ⟨#[]⟩,.string ⟨#[]⟩,.int .i64 0,.slice none 0 0,.slice none 0 0,.slice none 0 0,.int .i64 0] 72 (0,0))] _):=S1.out
  go_wp2_with (first | (refine wpList_storeA rfl 72 _ _ rfl _ [.int .u8 z1a,.string z1b,.string z1c,.string z1d,.int .i64 z1e,.slice s1f n1f c1f,.slice s1g n1g c1g,.slice s1h n1h c1h,.int .i64 z1i] #[.int .u8 0,.string ⟨#[]⟩,.string ⟨#[]⟩,.string ⟨#[]⟩,.int .i64 0,.slice none 0 0,.slice none 0 0,.slice none 0 0,.int .i64 0] 72 rfl rfl sz_stmt CF.out.b0 rfl (by intro u hu;simp at hu;rcases hu with rfl | rfl | rfl | rfl | rfl | rfl | rfl | rfl | rfl <;> rfl) ?_;intro w9 hw9;have HW9:=hide hw9;clear hw9))
  have SF:=CF.out.fill0 [.int .u8 z1a,.string z1b,.string z1c,.string z1d,.int .i64 z1e,.slice s1f n1f c1f,.slice s1g n1g c1g,.slice s1h n1h c1h,.int .i64 z1i] rfl
  rw [← HW9.out] at SF
  have HXE:=hide (XL.out _ SF.fin)
  have HRR:=hide SF.rr
  have HBB:=SF.b0
  clear SF
  refine bodyPost_ret (v:=.agg #[.int .u8 z1a,.string z1b,.string z1c,.string z1d,.int .i64 z1e,.slice s1f n1f c1f,.slice s1g n1g c1g,.slice s1h n1h c1h,.int .i64 z1i]) (res_cell (cs:=[.int .u8 z1a,.string z1b,.string z1c,.string z1d,.int .i64 z1e,.slice s1f n1f c1f,.slice s1g n1g c1g,.slice s1h n1h c1h,.int .i64 z1i]) (e:=72) Tryz.results63 rfl ag_stmt sz_stmt HBB) rfl ?_
  exact .inl ⟨x1,k1,_,Q2.out,rfl,HXE.out,HRR.out⟩
 ·have R1:=hide (C1.out.rr.from hr)
  have Q1:=hide (Q0.out.trans (bind_err h1))
  clear hr h1
  go_wp2
  exact ⟨rfl,.inr ⟨_,Q1.out,rfl,R1.out⟩⟩
set_option maxRecDepth 100000 in
set_option maxHeartbeats 4000000 in
theorem round_ok {p q:Nat} {L:List (Wd × Nat)} {dm sm:Value} {I:World→Prop} (hL:OkL L) (hI:Stb I p q L dm sm) (HOf:PfI I 119 #[.pointer (some ⟨p,0,none⟩),.int .u8 16] p q L dm sm 0 (bareP 16) (SmR)) :
  PfI I 64 #[.pointer (some ⟨p,0,none⟩)] p q L dm sm 0 (bareP 16) (SmR):=by
 intro w k hk h hi
 have HI:Hid (∀ W k',Rp w W p q L k' dm sm→I W):=fun W k' r=>hI w W k' r hi
 have HL:=hide hL
 have HKK:=hide hk
 have HOf:=hide HOf
 have S0:=hide (Sp.start h)
 obtain ⟨RR,hRR⟩:∃ RR,RR=(bareP 16) L k:=⟨_,rfl⟩
 rw [← hRR]
 have Q0:=hide (hRR.trans (bindret (bareP 16) L k).symm)
 clear hRR h hi hk hL hI
 go_enter Tryz.func64,Tryz.ntmps64
 have C1:Hid (Sp w _ p q L k dm sm [(w.heap.size,.cells #[.int .u8 0,.string ⟨#[]⟩,.string ⟨#[]⟩,.string ⟨#[]⟩,.int .i64 0,.slice none 0 0,.slice none 0 0,.slice none 0 0,.int .i64 0] 72 (0,0))] _):=(S0.out.alloc #[.int .u8 0,.string ⟨#[]⟩,.string ⟨#[]⟩,.string ⟨#[]⟩,.int .i64 0,.slice none 0 0,.slice none 0 0,.slice none 0 0,.int .i64 0] 72 (w.heap.size) rfl)
 go_wp2_with fail
 refine (HOf.out _ _ (Nat.zero_le _) C1.out.rr.here (HI.out _ _ C1.out.rr)).mono ?_
 rintro e w1 (⟨x1,k1,v,h1,rfl,hv,hr⟩ | ⟨k1,h1,rfl,hr⟩)
 ·obtain ⟨z1a,z1b,z1c,z1d,z1e,s1f,n1f,c1f,s1g,n1g,c1g,s1h,n1h,c1h,z1i,rfl⟩:=SmR.form hv
  have S1:=hide (C1.out.call smRep_ok hr hv)
  have Q1:=hide (Q0.out.trans (bind_ok h1))
  clear hr h1 hv C1
  have Q2:Hid (RR=.ok (x1,k1)):=Q1.out.trans rfl
  have XL:Hid (∀ W,((SmR) W (Bn w W) (.agg #[.int .u8 z1a,.string z1b,.string z1c,.string z1d,.int .i64 z1e,.slice s1f n1f c1f,.slice s1g n1g c1g,.slice s1h n1h c1h,.int .i64 z1i]) x1∧True)→(SmR) W (Bn w W) (.agg #[.int .u8 z1a,.string z1b,.string z1c,.string z1d,.int .i64 z1e,.slice s1f n1f c1f,.slice s1g n1g c1g,.slice s1h n1h c1h,.int .i64 z1i]) x1):=by
   rintro W ⟨X1,_⟩
   exact X1
  have CF:Hid (Sp w _ p q L k1 dm sm [(w.heap.size,.cells #[.int .u8 0,.string ⟨#[]⟩,.string ⟨#[]⟩,.string ⟨#[]⟩,.int .i64 0,.slice none 0 0,.slice none 0 0,.slice none 0 0,.int .i64 0] 72 (0,0))] _):=S1.out
  go_wp2_with (first | (refine wpList_storeA rfl 72 _ _ rfl _ [.int .u8 z1a,.string z1b,.string z1c,.string z1d,.int .i64 z1e,.slice s1f n1f c1f,.slice s1g n1g c1g,.slice s1h n1h c1h,.int .i64 z1i] #[.int .u8 0,.string ⟨#[]⟩,.string ⟨#[]⟩,.string ⟨#[]⟩,.int .i64 0,.slice none 0 0,.slice none 0 0,.slice none 0 0,.int .i64 0] 72 rfl rfl sz_stmt CF.out.b0 rfl (by intro u hu;simp at hu;rcases hu with rfl | rfl | rfl | rfl | rfl | rfl | rfl | rfl | rfl <;> rfl) ?_;intro w9 hw9;have HW9:=hide hw9;clear hw9))
  have SF:=CF.out.fill0 [.int .u8 z1a,.string z1b,.string z1c,.string z1d,.int .i64 z1e,.slice s1f n1f c1f,.slice s1g n1g c1g,.slice s1h n1h c1h,.int .i64 z1i] rfl
  rw [← HW9.out] at SF
  have HXE:=hide (XL.out _ SF.fin)
  have HRR:=hide SF.rr
  have HBB:=SF.b0
  clear SF
  refine bodyPost_ret (v:=.agg #[.int .u8 z1a,.string z1b,.string z1c,.string z1d,.int .i64 z1e,.slice s1f n1f c1f,.slice s1g n1g c1g,.slice s1h n1h c1h,.int .i64 z1i]) (res_cell (cs:=[.int .u8 z1a,.string z1b,.string z1c,.string z1d,.int .i64 z1e,.slice s1f n1f c1f,.slice s1g n1g c1g,.slice s1h n1h c1h,.int .i64 z1i]) (e:=72) Tryz.results64 rfl ag_stmt sz_stmt HBB) rfl ?_
  exact .inl ⟨x1,k1,_,Q2.out,rfl,HXE.out,HRR.out⟩
 ·have R1:=hide (C1.out.rr.from hr)
  have Q1:=hide (Q0.out.trans (bind_err h1))
  clear hr h1
  go_wp2
  exact ⟨rfl,.inr ⟨_,Q1.out,rfl,R1.out⟩⟩
set_option maxRecDepth 100000 in
set_option maxHeartbeats 4000000 in
theorem read_ok {p q:Nat} {L:List (Wd × Nat)} {dm sm:Value} {I:World→Prop} {ex:Pf Ex} (hL:OkL L) (hI:Stb I p q L dm sm) (HOf:PfI I 116 #[.pointer (some ⟨p,0,none⟩),.int .u8 8] p q L dm sm 0 (fromArrayP ex 8) (SmR)) :
  PfI I 58 #[.pointer (some ⟨p,0,none⟩)] p q L dm sm 0 (fromArrayP ex 8) (SmR):=by
 intro w k hk h hi
 have HI:Hid (∀ W k',Rp w W p q L k' dm sm→I W):=fun W k' r=>hI w W k' r hi
 have HL:=hide hL
 have HKK:=hide hk
 have HOf:=hide HOf
 have S0:=hide (Sp.start h)
 obtain ⟨RR,hRR⟩:∃ RR,RR=(fromArrayP ex 8) L k:=⟨_,rfl⟩
 rw [← hRR]
 have Q0:=hide (hRR.trans (bindret (fromArrayP ex 8) L k).symm)
 clear hRR h hi hk hL hI
 go_enter Tryz.func58,Tryz.ntmps58
 have C1:Hid (Sp w _ p q L k dm sm [(w.heap.size,.cells #[.int .u8 0,.string ⟨#[]⟩,.string ⟨#[]⟩,.string ⟨#[]⟩,.int .i64 0,.slice none 0 0,.slice none 0 0,.slice none 0 0,.int .i64 0] 72 (0,0))] _):=(S0.out.alloc #[.int .u8 0,.string ⟨#[]⟩,.string ⟨#[]⟩,.string ⟨#[]⟩,.int .i64 0,.slice none 0 0,.slice none 0 0,.slice none 0 0,.int .i64 0] 72 (w.heap.size) rfl)
 go_wp2_with fail
 refine (HOf.out _ _ (Nat.zero_le _) C1.out.rr.here (HI.out _ _ C1.out.rr)).mono ?_
 rintro e w1 (⟨x1,k1,v,h1,rfl,hv,hr⟩ | ⟨k1,h1,rfl,hr⟩)
 ·obtain ⟨z1a,z1b,z1c,z1d,z1e,s1f,n1f,c1f,s1g,n1g,c1g,s1h,n1h,c1h,z1i,rfl⟩:=SmR.form hv
  have S1:=hide (C1.out.call smRep_ok hr hv)
  have Q1:=hide (Q0.out.trans (bind_ok h1))
  clear hr h1 hv C1
  have Q2:Hid (RR=.ok (x1,k1)):=Q1.out.trans rfl
  have XL:Hid (∀ W,((SmR) W (Bn w W) (.agg #[.int .u8 z1a,.string z1b,.string z1c,.string z1d,.int .i64 z1e,.slice s1f n1f c1f,.slice s1g n1g c1g,.slice s1h n1h c1h,.int .i64 z1i]) x1∧True)→(SmR) W (Bn w W) (.agg #[.int .u8 z1a,.string z1b,.string z1c,.string z1d,.int .i64 z1e,.slice s1f n1f c1f,.slice s1g n1g c1g,.slice s1h n1h c1h,.int .i64 z1i]) x1):=by
   rintro W ⟨X1,_⟩
   exact X1
  have CF:Hid (Sp w _ p q L k1 dm sm [(w.heap.size,.cells #[.int .u8 0,.string ⟨#[]⟩,.string ⟨#[]⟩,.string ⟨#[]⟩,.int .i64 0,.slice none 0 0,.slice none 0 0,.slice none 0 0,.int .i64 0] 72 (0,0))] _):=S1.out
  go_wp2_with (first | (refine wpList_storeA rfl 72 _ _ rfl _ [.int .u8 z1a,.string z1b,.string z1c,.string z1d,.int .i64 z1e,.slice s1f n1f c1f,.slice s1g n1g c1g,.slice s1h n1h c1h,.int .i64 z1i] #[.int .u8 0,.string ⟨#[]⟩,.string ⟨#[]⟩,.string ⟨#[]⟩,.int .i64 0,.slice none 0 0,.slice none 0 0,.slice none 0 0,.int .i64 0] 72 rfl rfl sz_stmt CF.out.b0 rfl (by intro u hu;simp at hu;rcases hu with rfl | rfl | rfl | rfl | rfl | rfl | rfl | rfl | rfl <;> rfl) ?_;intro w9 hw9;have HW9:=hide hw9;clear hw9))
  have SF:=CF.out.fill0 [.int .u8 z1a,.string z1b,.string z1c,.string z1d,.int .i64 z1e,.slice s1f n1f c1f,.slice s1g n1g c1g,.slice s1h n1h c1h,.int .i64 z1i] rfl
  rw [← HW9.out] at SF
  have HXE:=hide (XL.out _ SF.fin)
  have HRR:=hide SF.rr
  have HBB:=SF.b0
  clear SF
  refine bodyPost_ret (v:=.agg #[.int .u8 z1a,.string z1b,.string z1c,.string z1d,.int .i64 z1e,.slice s1f n1f c1f,.slice s1g n1g c1g,.slice s1h n1h c1h,.int .i64 z1i]) (res_cell (cs:=[.int .u8 z1a,.string z1b,.string z1c,.string z1d,.int .i64 z1e,.slice s1f n1f c1f,.slice s1g n1g c1g,.slice s1h n1h c1h,.int .i64 z1i]) (e:=72) Tryz.results58 rfl ag_stmt sz_stmt HBB) rfl ?_
  exact .inl ⟨x1,k1,_,Q2.out,rfl,HXE.out,HRR.out⟩
 ·have R1:=hide (C1.out.rr.from hr)
  have Q1:=hide (Q0.out.trans (bind_err h1))
  clear hr h1
  go_wp2
  exact ⟨rfl,.inr ⟨_,Q1.out,rfl,R1.out⟩⟩
set_option maxRecDepth 100000 in
set_option maxHeartbeats 4000000 in
theorem meterCell_ok {p q:Nat} {L:List (Wd × Nat)} {dm sm:Value} {I:World→Prop} {ex:Pf Ex} (hL:OkL L) (hI:Stb I p q L dm sm) (HOf:PfI I 116 #[.pointer (some ⟨p,0,none⟩),.int .u8 10] p q L dm sm 0 (fromArrayP ex 10) (SmR)) :
  PfI I 60 #[.pointer (some ⟨p,0,none⟩)] p q L dm sm 0 (fromArrayP ex 10) (SmR):=by
 intro w k hk h hi
 have HI:Hid (∀ W k',Rp w W p q L k' dm sm→I W):=fun W k' r=>hI w W k' r hi
 have HL:=hide hL
 have HKK:=hide hk
 have HOf:=hide HOf
 have S0:=hide (Sp.start h)
 obtain ⟨RR,hRR⟩:∃ RR,RR=(fromArrayP ex 10) L k:=⟨_,rfl⟩
 rw [← hRR]
 have Q0:=hide (hRR.trans (bindret (fromArrayP ex 10) L k).symm)
 clear hRR h hi hk hL hI
 go_enter Tryz.func60,Tryz.ntmps60
 have C1:Hid (Sp w _ p q L k dm sm [(w.heap.size,.cells #[.int .u8 0,.string ⟨#[]⟩,.string ⟨#[]⟩,.string ⟨#[]⟩,.int .i64 0,.slice none 0 0,.slice none 0 0,.slice none 0 0,.int .i64 0] 72 (0,0))] _):=(S0.out.alloc #[.int .u8 0,.string ⟨#[]⟩,.string ⟨#[]⟩,.string ⟨#[]⟩,.int .i64 0,.slice none 0 0,.slice none 0 0,.slice none 0 0,.int .i64 0] 72 (w.heap.size) rfl)
 go_wp2_with fail
 refine (HOf.out _ _ (Nat.zero_le _) C1.out.rr.here (HI.out _ _ C1.out.rr)).mono ?_
 rintro e w1 (⟨x1,k1,v,h1,rfl,hv,hr⟩ | ⟨k1,h1,rfl,hr⟩)
 ·obtain ⟨z1a,z1b,z1c,z1d,z1e,s1f,n1f,c1f,s1g,n1g,c1g,s1h,n1h,c1h,z1i,rfl⟩:=SmR.form hv
  have S1:=hide (C1.out.call smRep_ok hr hv)
  have Q1:=hide (Q0.out.trans (bind_ok h1))
  clear hr h1 hv C1
  have Q2:Hid (RR=.ok (x1,k1)):=Q1.out.trans rfl
  have XL:Hid (∀ W,((SmR) W (Bn w W) (.agg #[.int .u8 z1a,.string z1b,.string z1c,.string z1d,.int .i64 z1e,.slice s1f n1f c1f,.slice s1g n1g c1g,.slice s1h n1h c1h,.int .i64 z1i]) x1∧True)→(SmR) W (Bn w W) (.agg #[.int .u8 z1a,.string z1b,.string z1c,.string z1d,.int .i64 z1e,.slice s1f n1f c1f,.slice s1g n1g c1g,.slice s1h n1h c1h,.int .i64 z1i]) x1):=by
   rintro W ⟨X1,_⟩
   exact X1
  have CF:Hid (Sp w _ p q L k1 dm sm [(w.heap.size,.cells #[.int .u8 0,.string ⟨#[]⟩,.string ⟨#[]⟩,.string ⟨#[]⟩,.int .i64 0,.slice none 0 0,.slice none 0 0,.slice none 0 0,.int .i64 0] 72 (0,0))] _):=S1.out
  go_wp2_with (first | (refine wpList_storeA rfl 72 _ _ rfl _ [.int .u8 z1a,.string z1b,.string z1c,.string z1d,.int .i64 z1e,.slice s1f n1f c1f,.slice s1g n1g c1g,.slice s1h n1h c1h,.int .i64 z1i] #[.int .u8 0,.string ⟨#[]⟩,.string ⟨#[]⟩,.string ⟨#[]⟩,.int .i64 0,.slice none 0 0,.slice none 0 0,.slice none 0 0,.int .i64 0] 72 rfl rfl sz_stmt CF.out.b0 rfl (by intro u hu;simp at hu;rcases hu with rfl | rfl | rfl | rfl | rfl | rfl | rfl | rfl | rfl <;> rfl) ?_;intro w9 hw9;have HW9:=hide hw9;clear hw9))
  have SF:=CF.out.fill0 [.int .u8 z1a,.string z1b,.string z1c,.string z1d,.int .i64 z1e,.slice s1f n1f c1f,.slice s1g n1g c1g,.slice s1h n1h c1h,.int .i64 z1i] rfl
  rw [← HW9.out] at SF
  have HXE:=hide (XL.out _ SF.fin)
  have HRR:=hide SF.rr
  have HBB:=SF.b0
  clear SF
  refine bodyPost_ret (v:=.agg #[.int .u8 z1a,.string z1b,.string z1c,.string z1d,.int .i64 z1e,.slice s1f n1f c1f,.slice s1g n1g c1g,.slice s1h n1h c1h,.int .i64 z1i]) (res_cell (cs:=[.int .u8 z1a,.string z1b,.string z1c,.string z1d,.int .i64 z1e,.slice s1f n1f c1f,.slice s1g n1g c1g,.slice s1h n1h c1h,.int .i64 z1i]) (e:=72) Tryz.results60 rfl ag_stmt sz_stmt HBB) rfl ?_
  exact .inl ⟨x1,k1,_,Q2.out,rfl,HXE.out,HRR.out⟩
 ·have R1:=hide (C1.out.rr.from hr)
  have Q1:=hide (Q0.out.trans (bind_err h1))
  clear hr h1
  go_wp2
  exact ⟨rfl,.inr ⟨_,Q1.out,rfl,R1.out⟩⟩
end Go.Proofs.YtabkimknlifdoaaGreatDoor
