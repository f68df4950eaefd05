/- Pieces of the proof: PaJd, PaJe. -/
import Derived.Test.YtabkimknlifdoaaGreatDoorJ14
namespace Go.Proofs.YtabkimknlifdoaaGreatDoor
open Go.RowKit
def Bx (I:World→Prop) (p b3 b5:Nat) (fv:Value):World→Prop:=fun W=>I W∧W.cell? ⟨b3,0,none⟩=some (.pointer (some ⟨p,0,none⟩))∧W.cell? ⟨b5,0,none⟩=some fv∧b3 ≠ p∧b5 ≠ p
theorem bx_stb {I:World→Prop} {p q:Nat} {L:List (Wd × Nat)} {dm sm:Value} (hI:Stb I p q L dm sm) (b3 b5:Nat) (fv:Value):Stb (Bx I p b3 b5 fv) p q L dm sm:=fun W W' k' r h=>⟨hI W W' k' r h.1,r.fr.cell h.2.1 h.2.2.2.1,r.fr.cell h.2.2.1 h.2.2.2.2,h.2.2.2.1,h.2.2.2.2⟩
set_option maxRecDepth 100000 in
set_option maxHeartbeats 4000000 in
theorem rows1_field {p q:Nat} {L:List (Wd × Nat)} {dm sm:Value} {I:World→Prop} {b3 b5:Nat} (hL:OkL L) (hI:Stb I p q L dm sm) (HCl:PfI I 197 #[.pointer (some ⟨p,0,none⟩),.func (Fn.func 104) #[.pointer (some ⟨p,0,none⟩)] #[]] p q L dm sm 0 (closedP fieldP) (FieldV)) :
  PfI (Bx I p b3 b5 (.func (Fn.func 104) #[.pointer (some ⟨p,0,none⟩)] #[])) 196 #[.pointer (some ⟨b3,0,none⟩),.pointer (some ⟨b5,0,none⟩)] p q L dm sm 0 (closedP fieldP) (FieldV):=by
 intro w k hk h hi
 have HI:Hid (∀ W k',Rp w W p q L k' dm sm→I W):=fun W k' r=>hI w W k' r hi.1
 have HL:=hide hL
 have HKK:=hide hk
 have HCl:=hide HCl
 have c3:(w.alloc (Obj.cells #[.string ⟨#[]⟩,.int .i64 0] 137)).cell? ⟨b3,0,none⟩=some (.pointer (some ⟨p,0,none⟩)):=(World.cell?_alloc_lt _ _ _ (World.block_lt_of_cell? w _ hi.2.1)).trans hi.2.1
 have c5:(w.alloc (Obj.cells #[.string ⟨#[]⟩,.int .i64 0] 137)).cell? ⟨b5,0,none⟩=some (.func (Fn.func 104) #[.pointer (some ⟨p,0,none⟩)] #[]):=(World.cell?_alloc_lt _ _ _ (World.block_lt_of_cell? w _ hi.2.2.1)).trans hi.2.2.1
 have S0:=hide (Sp.start h)
 obtain ⟨RR,hRR⟩:∃ RR,RR=(closedP fieldP) L k:=⟨_,rfl⟩
 rw [← hRR]
 have Q0:=hide (hRR.trans (bindret (closedP fieldP) L k).symm)
 clear hRR h hi hk hL hI
 go_enter Tryz.func196,Tryz.ntmps196
 have C1:Hid (Sp w _ p q L k dm sm [(w.heap.size,.cells #[.string ⟨#[]⟩,.int .i64 0] 137 (0,0))] _):=(S0.out.alloc #[.string ⟨#[]⟩,.int .i64 0] 137 (w.heap.size) rfl)
 go_wp2_with fail
 refine (HCl.out _ _ (Nat.zero_le _) C1.out.rr.here (HI.out _ _ C1.out.rr)).mono ?_
 rintro e w1 (⟨x1,k1,v,h1,rfl,hv,hr⟩ | ⟨k1,h1,rfl,hr⟩)
 ·obtain ⟨z1a,z1b,rfl⟩:=FieldV.form hv
  have S1:=hide (C1.out.call fieldV_ok hr hv)
  have Q1:=hide (Q0.out.trans (bind_ok h1))
  clear hr h1 hv C1
  have Q2:Hid (RR=.ok (x1,k1)):=Q1.out.trans rfl
  have XL:Hid (∀ W,((FieldV) W (Bn w W) (.agg #[.string z1a,.int .i64 z1b]) x1∧True)→(FieldV) W (Bn w W) (.agg #[.string z1a,.int .i64 z1b]) x1):=by
   rintro W ⟨X1,_⟩
   exact X1
  have CF:Hid (Sp w _ p q L k1 dm sm [(w.heap.size,.cells #[.string ⟨#[]⟩,.int .i64 0] 137 (0,0))] _):=S1.out
  go_wp2_with (first | (refine wpList_storeA rfl 137 _ _ rfl _ [.string z1a,.int .i64 z1b] #[.string ⟨#[]⟩,.int .i64 0] 137 rfl rfl sz_field CF.out.b0 rfl (by intro u hu;simp at hu;rcases hu with rfl | rfl <;> rfl) ?_;intro w9 hw9;have HW9:=hide hw9;clear hw9))
  have SF:=CF.out.fill0 [.string z1a,.int .i64 z1b] rfl
  rw [← HW9.out] at SF
  have HXE:=hide (XL.out _ SF.fin)
  have HRR:=hide SF.rr
  have HBB:=SF.b0
  clear SF
  refine bodyPost_ret (v:=.agg #[.string z1a,.int .i64 z1b]) (res_cell (cs:=[.string z1a,.int .i64 z1b]) (e:=137) Tryz.results196 rfl ag_field sz_field HBB) rfl ?_
  exact .inl ⟨x1,k1,_,Q2.out,rfl,HXE.out,HRR.out⟩
 ·have R1:=hide (C1.out.rr.from hr)
  have Q1:=hide (Q0.out.trans (bind_err h1))
  clear hr h1
  go_wp2
  exact ⟨rfl,.inr ⟨_,Q1.out,rfl,R1.out⟩⟩
set_option maxRecDepth 100000 in
set_option maxHeartbeats 4000000 in
theorem rows1_key {p q:Nat} {L:List (Wd × Nat)} {dm sm:Value} {I:World→Prop} {b3 b5:Nat} {kp:Pf (Ex × Nat)} (hL:OkL L) (hI:Stb I p q L dm sm) (HCl:PfI I 163 #[.pointer (some ⟨p,0,none⟩),.func (Fn.func 107) #[.pointer (some ⟨p,0,none⟩)] #[]] p q L dm sm 0 (closedP kp) (KeyR)) :
  PfI (Bx I p b3 b5 (.func (Fn.func 107) #[.pointer (some ⟨p,0,none⟩)] #[])) 162 #[.pointer (some ⟨b3,0,none⟩),.pointer (some ⟨b5,0,none⟩)] p q L dm sm 0 (closedP kp) (KeyR):=by
 intro w k hk h hi
 have HI:Hid (∀ W k',Rp w W p q L k' dm sm→I W):=fun W k' r=>hI w W k' r hi.1
 have HL:=hide hL
 have HKK:=hide hk
 have HCl:=hide HCl
 have c3:(w.alloc (Obj.cells #[.int .u8 0,.int .i64 0,.int .u64 0,.int .u64 0,.string ⟨#[]⟩,.string ⟨#[]⟩,.int .i64 0,.int .i64 0,.slice none 0 0,.int .i64 0,.int .u8 0] 85)).cell? ⟨b3,0,none⟩=some (.pointer (some ⟨p,0,none⟩)):=(World.cell?_alloc_lt _ _ _ (World.block_lt_of_cell? w _ hi.2.1)).trans hi.2.1
 have c5:(w.alloc (Obj.cells #[.int .u8 0,.int .i64 0,.int .u64 0,.int .u64 0,.string ⟨#[]⟩,.string ⟨#[]⟩,.int .i64 0,.int .i64 0,.slice none 0 0,.int .i64 0,.int .u8 0] 85)).cell? ⟨b5,0,none⟩=some (.func (Fn.func 107) #[.pointer (some ⟨p,0,none⟩)] #[]):=(World.cell?_alloc_lt _ _ _ (World.block_lt_of_cell? w _ hi.2.2.1)).trans hi.2.2.1
 have S0:=hide (Sp.start h)
 obtain ⟨RR,hRR⟩:∃ RR,RR=(closedP kp) L k:=⟨_,rfl⟩
 rw [← hRR]
 have Q0:=hide (hRR.trans (bindret (closedP kp) L k).symm)
 clear hRR h hi hk hL hI
 go_enter Tryz.func162,Tryz.ntmps162
 have C1:Hid (Sp w _ p q L k dm sm [(w.heap.size,.cells #[.int .u8 0,.int .i64 0,.int .u64 0,.int .u64 0,.string ⟨#[]⟩,.string ⟨#[]⟩,.int .i64 0,.int .i64 0,.slice none 0 0,.int .i64 0,.int .u8 0] 85 (0,0))] _):=(S0.out.alloc #[.int .u8 0,.int .i64 0,.int .u64 0,.int .u64 0,.string ⟨#[]⟩,.string ⟨#[]⟩,.int .i64 0,.int .i64 0,.slice none 0 0,.int .i64 0,.int .u8 0] 85 (w.heap.size) rfl)
 go_wp2_with fail
 refine (HCl.out _ _ (Nat.zero_le _) C1.out.rr.here (HI.out _ _ C1.out.rr)).mono ?_
 rintro e w1 (⟨x1,k1,v,h1,rfl,hv,hr⟩ | ⟨k1,h1,rfl,hr⟩)
 ·obtain ⟨z1a,z1b,z1c,z1d,z1e,z1f,z1g,z1h,s1i,n1i,c1i,z1j,z1k,rfl⟩:=KeyR.form hv
  have S1:=hide (C1.out.call keyR_ok hr hv)
  have Q1:=hide (Q0.out.trans (bind_ok h1))
  clear hr h1 hv C1
  have Q2:Hid (RR=.ok (x1,k1)):=Q1.out.trans rfl
  have XL:Hid (∀ W,((KeyR) W (Bn w W) (.agg #[.int .u8 z1a,.int .i64 z1b,.int .u64 z1c,.int .u64 z1d,.string z1e,.string z1f,.int .i64 z1g,.int .i64 z1h,.slice s1i n1i c1i,.int .i64 z1j,.int .u8 z1k]) x1∧True)→(KeyR) W (Bn w W) (.agg #[.int .u8 z1a,.int .i64 z1b,.int .u64 z1c,.int .u64 z1d,.string z1e,.string z1f,.int .i64 z1g,.int .i64 z1h,.slice s1i n1i c1i,.int .i64 z1j,.int .u8 z1k]) x1):=by
   rintro W ⟨X1,_⟩
   exact X1
  have CF:Hid (Sp w _ p q L k1 dm sm [(w.heap.size,.cells #[.int .u8 0,.int .i64 0,.int .u64 0,.int .u64 0,.string ⟨#[]⟩,.string ⟨#[]⟩,.int .i64 0,.int .i64 0,.slice none 0 0,.int .i64 0,.int .u8 0] 85 (0,0))] _):=S1.out
  go_wp2_with (first | (refine wpList_storeA rfl 85 _ _ rfl _ [.int .u8 z1a,.int .i64 z1b,.int .u64 z1c,.int .u64 z1d,.string z1e,.string z1f,.int .i64 z1g,.int .i64 z1h,.slice s1i n1i c1i,.int .i64 z1j,.int .u8 z1k] #[.int .u8 0,.int .i64 0,.int .u64 0,.int .u64 0,.string ⟨#[]⟩,.string ⟨#[]⟩,.int .i64 0,.int .i64 0,.slice none 0 0,.int .i64 0,.int .u8 0] 85 rfl rfl sz_key CF.out.b0 rfl (by intro u hu;simp at hu;rcases hu with rfl | rfl | rfl | rfl | rfl | rfl | rfl | rfl | rfl | rfl | rfl <;> rfl) ?_;intro w9 hw9;have HW9:=hide hw9;clear hw9))
  have SF:=CF.out.fill0 [.int .u8 z1a,.int .i64 z1b,.int .u64 z1c,.int .u64 z1d,.string z1e,.string z1f,.int .i64 z1g,.int .i64 z1h,.slice s1i n1i c1i,.int .i64 z1j,.int .u8 z1k] rfl
  rw [← HW9.out] at SF
  have HXE:=hide (XL.out _ SF.fin)
  have HRR:=hide SF.rr
  have HBB:=SF.b0
  clear SF
  refine bodyPost_ret (v:=.agg #[.int .u8 z1a,.int .i64 z1b,.int .u64 z1c,.int .u64 z1d,.string z1e,.string z1f,.int .i64 z1g,.int .i64 z1h,.slice s1i n1i c1i,.int .i64 z1j,.int .u8 z1k]) (res_cell (cs:=[.int .u8 z1a,.int .i64 z1b,.int .u64 z1c,.int .u64 z1d,.string z1e,.string z1f,.int .i64 z1g,.int .i64 z1h,.slice s1i n1i c1i,.int .i64 z1j,.int .u8 z1k]) (e:=85) Tryz.results162 rfl ag_key sz_key HBB) rfl ?_
  exact .inl ⟨x1,k1,_,Q2.out,rfl,HXE.out,HRR.out⟩
 ·have R1:=hide (C1.out.rr.from hr)
  have Q1:=hide (Q0.out.trans (bind_err h1))
  clear hr h1
  go_wp2
  exact ⟨rfl,.inr ⟨_,Q1.out,rfl,R1.out⟩⟩
set_option maxRecDepth 100000 in
set_option maxHeartbeats 4000000 in
theorem rows1_case {p q:Nat} {L:List (Wd × Nat)} {dm sm:Value} {I:World→Prop} {b3 b5:Nat} {cp:Pf Ck} (hL:OkL L) (hI:Stb I p q L dm sm) (HCl:PfI I 200 #[.pointer (some ⟨p,0,none⟩),.func (Fn.func 157) #[.pointer (some ⟨p,0,none⟩)] #[]] p q L dm sm 0 (closedP cp) (CaseV)) :
  PfI (Bx I p b3 b5 (.func (Fn.func 157) #[.pointer (some ⟨p,0,none⟩)] #[])) 199 #[.pointer (some ⟨b3,0,none⟩),.pointer (some ⟨b5,0,none⟩)] p q L dm sm 0 (closedP cp) (CaseV):=by
 intro w k hk h hi
 have HI:Hid (∀ W k',Rp w W p q L k' dm sm→I W):=fun W k' r=>hI w W k' r hi.1
 have HL:=hide hL
 have HKK:=hide hk
 have HCl:=hide HCl
 have c3:(w.alloc (Obj.cells #[.int .i64 0,.int .u64 0,.int .u64 0,.int .i64 0,.int .u64 0,.int .u64 0,.string ⟨#[]⟩] 194)).cell? ⟨b3,0,none⟩=some (.pointer (some ⟨p,0,none⟩)):=(World.cell?_alloc_lt _ _ _ (World.block_lt_of_cell? w _ hi.2.1)).trans hi.2.1
 have c5:(w.alloc (Obj.cells #[.int .i64 0,.int .u64 0,.int .u64 0,.int .i64 0,.int .u64 0,.int .u64 0,.string ⟨#[]⟩] 194)).cell? ⟨b5,0,none⟩=some (.func (Fn.func 157) #[.pointer (some ⟨p,0,none⟩)] #[]):=(World.cell?_alloc_lt _ _ _ (World.block_lt_of_cell? w _ hi.2.2.1)).trans hi.2.2.1
 have S0:=hide (Sp.start h)
 obtain ⟨RR,hRR⟩:∃ RR,RR=(closedP cp) L k:=⟨_,rfl⟩
 rw [← hRR]
 have Q0:=hide (hRR.trans (bindret (closedP cp) L k).symm)
 clear hRR h hi hk hL hI
 go_enter Tryz.func199,Tryz.ntmps199
 have C1:Hid (Sp w _ p q L k dm sm [(w.heap.size,.cells #[.int .i64 0,.int .u64 0,.int .u64 0,.int .i64 0,.int .u64 0,.int .u64 0,.string ⟨#[]⟩] 194 (0,0))] _):=(S0.out.alloc #[.int .i64 0,.int .u64 0,.int .u64 0,.int .i64 0,.int .u64 0,.int .u64 0,.string ⟨#[]⟩] 194 (w.heap.size) rfl)
 go_wp2_with fail
 refine (HCl.out _ _ (Nat.zero_le _) C1.out.rr.here (HI.out _ _ C1.out.rr)).mono ?_
 rintro e w1 (⟨x1,k1,v,h1,rfl,hv,hr⟩ | ⟨k1,h1,rfl,hr⟩)
 ·obtain ⟨z1a,z1b,z1c,z1d,z1e,z1f,z1g,rfl⟩:=CaseV.form hv
  have S1:=hide (C1.out.call caseV_ok hr hv)
  have Q1:=hide (Q0.out.trans (bind_ok h1))
  clear hr h1 hv C1
  have Q2:Hid (RR=.ok (x1,k1)):=Q1.out.trans rfl
  have XL:Hid (∀ W,((CaseV) W (Bn w W) (.agg #[.int .i64 z1a,.int .u64 z1b,.int .u64 z1c,.int .i64 z1d,.int .u64 z1e,.int .u64 z1f,.string z1g]) x1∧True)→(CaseV) W (Bn w W) (.agg #[.int .i64 z1a,.int .u64 z1b,.int .u64 z1c,.int .i64 z1d,.int .u64 z1e,.int .u64 z1f,.string z1g]) x1):=by
   rintro W ⟨X1,_⟩
   exact X1
  have CF:Hid (Sp w _ p q L k1 dm sm [(w.heap.size,.cells #[.int .i64 0,.int .u64 0,.int .u64 0,.int .i64 0,.int .u64 0,.int .u64 0,.string ⟨#[]⟩] 194 (0,0))] _):=S1.out
  go_wp2_with (first | (refine wpList_storeA rfl 194 _ _ rfl _ [.int .i64 z1a,.int .u64 z1b,.int .u64 z1c,.int .i64 z1d,.int .u64 z1e,.int .u64 z1f,.string z1g] #[.int .i64 0,.int .u64 0,.int .u64 0,.int .i64 0,.int .u64 0,.int .u64 0,.string ⟨#[]⟩] 194 rfl rfl sz_case CF.out.b0 rfl (by intro u hu;simp at hu;rcases hu with rfl | rfl | rfl | rfl | rfl | rfl | rfl <;> rfl) ?_;intro w9 hw9;have HW9:=hide hw9;clear hw9))
  have SF:=CF.out.fill0 [.int .i64 z1a,.int .u64 z1b,.int .u64 z1c,.int .i64 z1d,.int .u64 z1e,.int .u64 z1f,.string z1g] rfl
  rw [← HW9.out] at SF
  have HXE:=hide (XL.out _ SF.fin)
  have HRR:=hide SF.rr
  have HBB:=SF.b0
  clear SF
  refine bodyPost_ret (v:=.agg #[.int .i64 z1a,.int .u64 z1b,.int .u64 z1c,.int .i64 z1d,.int .u64 z1e,.int .u64 z1f,.string z1g]) (res_cell (cs:=[.int .i64 z1a,.int .u64 z1b,.int .u64 z1c,.int .i64 z1d,.int .u64 z1e,.int .u64 z1f,.string z1g]) (e:=194) Tryz.results199 rfl ag_case sz_case HBB) rfl ?_
  exact .inl ⟨x1,k1,_,Q2.out,rfl,HXE.out,HRR.out⟩
 ·have R1:=hide (C1.out.rr.from hr)
  have Q1:=hide (Q0.out.trans (bind_err h1))
  clear hr h1
  go_wp2
  exact ⟨rfl,.inr ⟨_,Q1.out,rfl,R1.out⟩⟩
set_option maxRecDepth 100000 in
set_option maxHeartbeats 4000000 in
theorem rows1_str {p q:Nat} {L:List (Wd × Nat)} {dm sm:Value} {I:World→Prop} {b3 b5:Nat} (hL:OkL L) (hI:Stb I p q L dm sm) (HCl:PfI I 155 #[.pointer (some ⟨p,0,none⟩),.func (Fn.func 97) #[.pointer (some ⟨p,0,none⟩)] #[]] p q L dm sm 0 (closedP nameP) (StrV)) :
  PfI (Bx I p b3 b5 (.func (Fn.func 97) #[.pointer (some ⟨p,0,none⟩)] #[])) 166 #[.pointer (some ⟨b3,0,none⟩),.pointer (some ⟨b5,0,none⟩)] p q L dm sm 0 (closedP nameP) (StrV):=by
 intro w k hk h hi
 have HI:Hid (∀ W k',Rp w W p q L k' dm sm→I W):=fun W k' r=>hI w W k' r hi.1
 have HL:=hide hL
 have HKK:=hide hk
 have HCl:=hide HCl
 have c3:=hi.2.1
 have c5:=hi.2.2.1
 have S0:=hide (Sp.start h)
 obtain ⟨RR,hRR⟩:∃ RR,RR=(closedP nameP) L k:=⟨_,rfl⟩
 rw [← hRR]
 have Q0:=hide (hRR.trans (bindret (closedP nameP) L k).symm)
 clear hRR h hi hk hL hI
 go_enter Tryz.func166,Tryz.ntmps166
 go_wp2_with fail
 refine (HCl.out _ _ (Nat.zero_le _) S0.out.rr.here (HI.out _ _ S0.out.rr)).mono ?_
 rintro e w1 (⟨x1,k1,v,h1,rfl,hv,hr⟩ | ⟨k1,h1,rfl,hr⟩)
 ·obtain ⟨t1,rfl⟩:=StrV.form hv
  have S1:=hide (S0.out.call strV_ok hr hv)
  have Q1:=hide (Q0.out.trans (bind_ok h1))
  clear hr h1 hv
  have Q2:Hid (RR=.ok (x1,k1)):=Q1.out.trans rfl
  have XL:Hid (∀ W,((StrV) W (Bn w W) (.string t1) x1∧True)→(StrV) W (Bn w W) (.string t1) x1):=by
   rintro W ⟨X1,_⟩
   obtain rfl:=StrV.eq X1
   exact X1
  have CF:Hid (Sp w _ p q L k1 dm sm [] _):=S1.out
  go_wp2
  have SF:=CF.out
  go_ret
  exact .inl ⟨_,_,_,Q2.out,rfl,XL.out _ SF.fin,SF.rr⟩
 ·have R1:=hide (S0.out.rr.from hr)
  have Q1:=hide (Q0.out.trans (bind_err h1))
  clear hr h1
  go_wp2
  exact ⟨rfl,.inr ⟨_,Q1.out,rfl,R1.out⟩⟩
set_option maxRecDepth 100000 in
set_option maxHeartbeats 4000000 in
theorem rows_field {p q:Nat} {L:List (Wd × Nat)} {dm sm:Value} {I:World→Prop} {k0:Nat} {en:List UInt8} {T:ByteArray} (hI:Stb I p q L dm sm) (HU:∀ b3 b5,PfI (Bx I p b3 b5 (.func (Fn.func 104) #[.pointer (some ⟨p,0,none⟩)] #[])) 195 #[.pointer (some ⟨p,0,none⟩),.string T,.func (Fn.func 196) #[] #[.pointer (some ⟨b3,0,none⟩),.pointer (some ⟨b5,0,none⟩)]] p q L dm sm k0 (rowsP en fieldP) (ListR FieldV mkAgg 2)) :
  PfI I 154 #[.pointer (some ⟨p,0,none⟩),.string T,.func (Fn.func 104) #[.pointer (some ⟨p,0,none⟩)] #[]] p q L dm sm k0 (rowsP en fieldP) (ListR FieldV mkAgg 2):=by
 intro w k hk h hi
 have r2:=(h.next ((Below.refl _ w).alloc (Nat.le_refl _) (.cells #[.pointer (some ⟨p,0,none⟩)] 53))).next ((Below.refl _ (w.alloc (.cells #[.pointer (some ⟨p,0,none⟩)] 53))).alloc (Nat.le_refl _) (.cells #[.func (Fn.func 104) #[.pointer (some ⟨p,0,none⟩)] #[]] 138))
 have s1:(w.alloc (.cells #[.pointer (some ⟨p,0,none⟩)] 53)).heap.size=w.heap.size+1:=by show (w.heap.push _).size=_;rw [Array.size_push]
 have hb:Bx I p w.heap.size (w.heap.size+1) (.func (Fn.func 104) #[.pointer (some ⟨p,0,none⟩)] #[]) ((w.alloc (.cells #[.pointer (some ⟨p,0,none⟩)] 53)).alloc (.cells #[.func (Fn.func 104) #[.pointer (some ⟨p,0,none⟩)] #[]] 138)):=by
  refine ⟨hI w _ k r2 hi,?_,?_,?_,?_⟩
  ·rw [World.cell?_alloc_lt _ _ _ (by rw [s1];exact Nat.lt_succ_self _),World.cell?_alloc_new];rfl
  ·rw [← s1,World.cell?_alloc_new];rfl
  ·have:=h.pl;omega
  ·have:=h.pl;omega
 have HUk:=hide (HU w.heap.size (w.heap.size+1) _ k hk r2.here hb)
 have R2:=hide r2
 obtain ⟨RR,hRR⟩:∃ RR,RR=rowsP en fieldP L k:=⟨_,rfl⟩
 rw [← hRR] at HUk ⊢
 clear h hi hk hI HU hb s1 r2 hRR
 go_enter Tryz.func154,Tryz.ntmps154
 go_wp2_with fail
 refine HUk.out.mono ?_
 intro e w1 hp
 have hp2:=PostP.lift (ListR.ok fieldV_ok mkAgg 2) R2.out hp
 clear hp
 rcases hp2 with ⟨x1,k1,v,h1,rfl,hv,hr⟩ | ⟨k1,h1,rfl,hr⟩
 ·obtain ⟨s1,n1,c1,rfl⟩:=ListR.form hv
  have R1:=hide hr
  have X1:=hide hv
  have H1:=hide h1
  clear hr hv h1
  go_wp2
  go_ret
  exact .inl ⟨_,_,_,H1.out,rfl,X1.out,R1.out⟩
 ·have R1:=hide hr
  have H1:=hide h1
  clear hr h1
  go_wp2
  exact ⟨rfl,.inr ⟨_,H1.out,rfl,R1.out⟩⟩
set_option maxRecDepth 100000 in
set_option maxHeartbeats 4000000 in
theorem rows_key {p q:Nat} {L:List (Wd × Nat)} {dm sm:Value} {I:World→Prop} {k0:Nat} {kp:Pf (Ex × Nat)} {en:List UInt8} {T:ByteArray} (hI:Stb I p q L dm sm) (HU:∀ b3 b5,PfI (Bx I p b3 b5 (.func (Fn.func 107) #[.pointer (some ⟨p,0,none⟩)] #[])) 161 #[.pointer (some ⟨p,0,none⟩),.string T,.func (Fn.func 162) #[] #[.pointer (some ⟨b3,0,none⟩),.pointer (some ⟨b5,0,none⟩)]] p q L dm sm k0 (rowsP en kp) (ListR KeyR mkAgg 11)) :
  PfI I 106 #[.pointer (some ⟨p,0,none⟩),.string T,.func (Fn.func 107) #[.pointer (some ⟨p,0,none⟩)] #[]] p q L dm sm k0 (rowsP en kp) (ListR KeyR mkAgg 11):=by
 intro w k hk h hi
 have r2:=(h.next ((Below.refl _ w).alloc (Nat.le_refl _) (.cells #[.pointer (some ⟨p,0,none⟩)] 53))).next ((Below.refl _ (w.alloc (.cells #[.pointer (some ⟨p,0,none⟩)] 53))).alloc (Nat.le_refl _) (.cells #[.func (Fn.func 107) #[.pointer (some ⟨p,0,none⟩)] #[]] 141))
 have s1:(w.alloc (.cells #[.pointer (some ⟨p,0,none⟩)] 53)).heap.size=w.heap.size+1:=by show (w.heap.push _).size=_;rw [Array.size_push]
 have hb:Bx I p w.heap.size (w.heap.size+1) (.func (Fn.func 107) #[.pointer (some ⟨p,0,none⟩)] #[]) ((w.alloc (.cells #[.pointer (some ⟨p,0,none⟩)] 53)).alloc (.cells #[.func (Fn.func 107) #[.pointer (some ⟨p,0,none⟩)] #[]] 141)):=by
  refine ⟨hI w _ k r2 hi,?_,?_,?_,?_⟩
  ·rw [World.cell?_alloc_lt _ _ _ (by rw [s1];exact Nat.lt_succ_self _),World.cell?_alloc_new];rfl
  ·rw [← s1,World.cell?_alloc_new];rfl
  ·have:=h.pl;omega
  ·have:=h.pl;omega
 have HUk:=hide (HU w.heap.size (w.heap.size+1) _ k hk r2.here hb)
 have R2:=hide r2
 obtain ⟨RR,hRR⟩:∃ RR,RR=rowsP en kp L k:=⟨_,rfl⟩
 rw [← hRR] at HUk ⊢
 clear h hi hk hI HU hb s1 r2 hRR
 go_enter Tryz.func106,Tryz.ntmps106
 go_wp2_with fail
 refine HUk.out.mono ?_
 intro e w1 hp
 have hp2:=PostP.lift (ListR.ok keyR_ok mkAgg 11) R2.out hp
 clear hp
 rcases hp2 with ⟨x1,k1,v,h1,rfl,hv,hr⟩ | ⟨k1,h1,rfl,hr⟩
 ·obtain ⟨s1,n1,c1,rfl⟩:=ListR.form hv
  have R1:=hide hr
  have X1:=hide hv
  have H1:=hide h1
  clear hr hv h1
  go_wp2
  go_ret
  exact .inl ⟨_,_,_,H1.out,rfl,X1.out,R1.out⟩
 ·have R1:=hide hr
  have H1:=hide h1
  clear hr h1
  go_wp2
  exact ⟨rfl,.inr ⟨_,H1.out,rfl,R1.out⟩⟩
set_option maxRecDepth 100000 in
set_option maxHeartbeats 4000000 in
theorem rows_case {p q:Nat} {L:List (Wd × Nat)} {dm sm:Value} {I:World→Prop} {k0:Nat} {cp:Pf Ck} {en:List UInt8} {T:ByteArray} (hI:Stb I p q L dm sm) (HU:∀ b3 b5,PfI (Bx I p b3 b5 (.func (Fn.func 157) #[.pointer (some ⟨p,0,none⟩)] #[])) 198 #[.pointer (some ⟨p,0,none⟩),.string T,.func (Fn.func 199) #[] #[.pointer (some ⟨b3,0,none⟩),.pointer (some ⟨b5,0,none⟩)]] p q L dm sm k0 (rowsP en cp) (ListR CaseV mkAgg 7)) :
  PfI I 156 #[.pointer (some ⟨p,0,none⟩),.string T,.func (Fn.func 157) #[.pointer (some ⟨p,0,none⟩)] #[]] p q L dm sm k0 (rowsP en cp) (ListR CaseV mkAgg 7):=by
 intro w k hk h hi
 have r2:=(h.next ((Below.refl _ w).alloc (Nat.le_refl _) (.cells #[.pointer (some ⟨p,0,none⟩)] 53))).next ((Below.refl _ (w.alloc (.cells #[.pointer (some ⟨p,0,none⟩)] 53))).alloc (Nat.le_refl _) (.cells #[.func (Fn.func 157) #[.pointer (some ⟨p,0,none⟩)] #[]] 195))
 have s1:(w.alloc (.cells #[.pointer (some ⟨p,0,none⟩)] 53)).heap.size=w.heap.size+1:=by show (w.heap.push _).size=_;rw [Array.size_push]
 have hb:Bx I p w.heap.size (w.heap.size+1) (.func (Fn.func 157) #[.pointer (some ⟨p,0,none⟩)] #[]) ((w.alloc (.cells #[.pointer (some ⟨p,0,none⟩)] 53)).alloc (.cells #[.func (Fn.func 157) #[.pointer (some ⟨p,0,none⟩)] #[]] 195)):=by
  refine ⟨hI w _ k r2 hi,?_,?_,?_,?_⟩
  ·rw [World.cell?_alloc_lt _ _ _ (by rw [s1];exact Nat.lt_succ_self _),World.cell?_alloc_new];rfl
  ·rw [← s1,World.cell?_alloc_new];rfl
  ·have:=h.pl;omega
  ·have:=h.pl;omega
 have HUk:=hide (HU w.heap.size (w.heap.size+1) _ k hk r2.here hb)
 have R2:=hide r2
 obtain ⟨RR,hRR⟩:∃ RR,RR=rowsP en cp L k:=⟨_,rfl⟩
 rw [← hRR] at HUk ⊢
 clear h hi hk hI HU hb s1 r2 hRR
 go_enter Tryz.func156,Tryz.ntmps156
 go_wp2_with fail
 refine HUk.out.mono ?_
 intro e w1 hp
 have hp2:=PostP.lift (ListR.ok caseV_ok mkAgg 7) R2.out hp
 clear hp
 rcases hp2 with ⟨x1,k1,v,h1,rfl,hv,hr⟩ | ⟨k1,h1,rfl,hr⟩
 ·obtain ⟨s1,n1,c1,rfl⟩:=ListR.form hv
  have R1:=hide hr
  have X1:=hide hv
  have H1:=hide h1
  clear hr hv h1
  go_wp2
  go_ret
  exact .inl ⟨_,_,_,H1.out,rfl,X1.out,R1.out⟩
 ·have R1:=hide hr
  have H1:=hide h1
  clear hr h1
  go_wp2
  exact ⟨rfl,.inr ⟨_,H1.out,rfl,R1.out⟩⟩
set_option maxRecDepth 100000 in
set_option maxHeartbeats 4000000 in
theorem rows_str {p q:Nat} {L:List (Wd × Nat)} {dm sm:Value} {I:World→Prop} {k0:Nat} {en:List UInt8} {T:ByteArray} (hI:Stb I p q L dm sm) (HU:∀ b3 b5,PfI (Bx I p b3 b5 (.func (Fn.func 97) #[.pointer (some ⟨p,0,none⟩)] #[])) 108 #[.pointer (some ⟨p,0,none⟩),.string T,.func (Fn.func 166) #[] #[.pointer (some ⟨b3,0,none⟩),.pointer (some ⟨b5,0,none⟩)]] p q L dm sm k0 (rowsP en nameP) (ListR StrV mkOne 1)) :
  PfI I 111 #[.pointer (some ⟨p,0,none⟩),.string T,.func (Fn.func 97) #[.pointer (some ⟨p,0,none⟩)] #[]] p q L dm sm k0 (rowsP en nameP) (ListR StrV mkOne 1):=by
 intro w k hk h hi
 have r2:=(h.next ((Below.refl _ w).alloc (Nat.le_refl _) (.cells #[.pointer (some ⟨p,0,none⟩)] 53))).next ((Below.refl _ (w.alloc (.cells #[.pointer (some ⟨p,0,none⟩)] 53))).alloc (Nat.le_refl _) (.cells #[.func (Fn.func 97) #[.pointer (some ⟨p,0,none⟩)] #[]] 129))
 have s1:(w.alloc (.cells #[.pointer (some ⟨p,0,none⟩)] 53)).heap.size=w.heap.size+1:=by show (w.heap.push _).size=_;rw [Array.size_push]
 have hb:Bx I p w.heap.size (w.heap.size+1) (.func (Fn.func 97) #[.pointer (some ⟨p,0,none⟩)] #[]) ((w.alloc (.cells #[.pointer (some ⟨p,0,none⟩)] 53)).alloc (.cells #[.func (Fn.func 97) #[.pointer (some ⟨p,0,none⟩)] #[]] 129)):=by
  refine ⟨hI w _ k r2 hi,?_,?_,?_,?_⟩
  ·rw [World.cell?_alloc_lt _ _ _ (by rw [s1];exact Nat.lt_succ_self _),World.cell?_alloc_new];rfl
  ·rw [← s1,World.cell?_alloc_new];rfl
  ·have:=h.pl;omega
  ·have:=h.pl;omega
 have HUk:=hide (HU w.heap.size (w.heap.size+1) _ k hk r2.here hb)
 have R2:=hide r2
 obtain ⟨RR,hRR⟩:∃ RR,RR=rowsP en nameP L k:=⟨_,rfl⟩
 rw [← hRR] at HUk ⊢
 clear h hi hk hI HU hb s1 r2 hRR
 go_enter Tryz.func111,Tryz.ntmps111
 go_wp2_with fail
 refine HUk.out.mono ?_
 intro e w1 hp
 have hp2:=PostP.lift (ListR.ok strV_ok mkOne 1) R2.out hp
 clear hp
 rcases hp2 with ⟨x1,k1,v,h1,rfl,hv,hr⟩ | ⟨k1,h1,rfl,hr⟩
 ·obtain ⟨s1,n1,c1,rfl⟩:=ListR.form hv
  have R1:=hide hr
  have X1:=hide hv
  have H1:=hide h1
  clear hr hv h1
  go_wp2
  go_ret
  exact .inl ⟨_,_,_,H1.out,rfl,X1.out,R1.out⟩
 ·have R1:=hide hr
  have H1:=hide h1
  clear hr h1
  go_wp2
  exact ⟨rfl,.inr ⟨_,H1.out,rfl,R1.out⟩⟩
end Go.Proofs.YtabkimknlifdoaaGreatDoor
