/- Pieces of the proof: PaJc. -/
import Derived.Test.YtabkimknlifdoaaGreatDoorJ14
namespace Go.Proofs.YtabkimknlifdoaaGreatDoor
open Go.RowKit
set_option maxRecDepth 100000 in
set_option maxHeartbeats 4000000 in
theorem closed_field {p q:Nat} {L:List (Wd × Nat)} {dm sm:Value} {I:World→Prop} (hL:OkL L) (hI:Stb I p q L dm sm) (HTh:PfI I 104 #[.pointer (some ⟨p,0,none⟩)] p q L dm sm 0 fieldP (FieldV)) :
  PfI I 197 #[.pointer (some ⟨p,0,none⟩),.func (Fn.func 104) #[.pointer (some ⟨p,0,none⟩)] #[]] p q L dm sm 0 (closedP fieldP) (FieldV):=by
 intro w k hk h hi
 have HI:Hid (∀ W k',Rp w W p q L k' dm sm→I W):=fun W k' r=>hI w W k' r hi
 have HL:=hide hL
 have HKK:=hide hk
 have HTh:=hide HTh
 have S0:=hide (Sp.start h)
 obtain ⟨RR,hRR⟩:∃ RR,RR=(closedP fieldP) L k:=⟨_,rfl⟩
 rw [← hRR]
 have Q0:=hide hRR
 clear hRR h hi hk hL hI
 go_enter Tryz.func197,Tryz.ntmps197
 have C1:Hid (Sp w _ p q L k dm sm [(w.heap.size,.cells #[.string ⟨#[]⟩,.int .i64 0] 137 (0,0))] _):=(S0.out.alloc #[.string ⟨#[]⟩,.int .i64 0] 137 (w.heap.size) rfl)
 go_wp2_with fail
 refine (HTh.out _ _ (Nat.zero_le _) C1.out.rr.here (HI.out _ _ C1.out.rr)).mono ?_
 rintro e w1 (⟨x1,k1,v,h1,rfl,hv,hr⟩ | ⟨k1,h1,rfl,hr⟩)
 ·obtain ⟨z1a,z1b,rfl⟩:=FieldV.form hv
  have S1:=hide (C1.out.call fieldV_ok hr hv)
  have Q1:=hide (Q0.out.trans (bind_ok h1))
  clear hr h1 hv C1
  have C2:Hid (Sp w _ p q L k1 dm sm [(w1.heap.size,.cells #[.string z1a,.int .i64 z1b] 137 (0,0)),(w.heap.size,.cells #[.string ⟨#[]⟩,.int .i64 0] 137 (0,0))] _):=(S1.out.alloc #[.string z1a,.int .i64 z1b] 137 (w1.heap.size) rfl)
  go_wp2_with fail
  refine (pass_lay C2.out.rr HL.out [[59]] (by decide) (by decide) #[.string ⟨#[59]⟩] rfl 9 _ 1 (by first | rfl | simp | simp [World.size_alloc] | simp [World.setCell] | simp [World.setCell,World.size_alloc]) rfl).mono ?_
  rintro e w2 (⟨x2,k2,v,h2,rfl,hv,hr⟩ | ⟨k2,h2,rfl,hr⟩)
  ·obtain rfl:v=.tuple #[]:=hv
   have S2:=hide (C2.out.go hr)
   have Q2:=hide (Q1.out.trans (bind_ok h2))
   clear hr h2 C2
   have Q3:Hid (RR=.ok (x1,k2)):=Q2.out.trans rfl
   have XL:Hid (∀ W,((FieldV) W (Bn w W) (.agg #[.string z1a,.int .i64 z1b]) x1∧True)→(FieldV) W (Bn w W) (.agg #[.string z1a,.int .i64 z1b]) x1):=by
    rintro W ⟨X1,_⟩
    exact X1
   have CF:Hid (Sp w _ p q L k2 dm sm [(w1.heap.size,.cells #[.string z1a,.int .i64 z1b] 137 (0,0)),(w.heap.size,.cells #[.string ⟨#[]⟩,.int .i64 0] 137 (0,0))] _):=S2.out
   go_wp2_with (first | (refine wpList_loadA rfl 137 _ rfl _ [.string z1a,.int .i64 z1b] 137 rfl ag_field sz_field CF.out.b0 ?_) | (refine wpList_storeA rfl 137 _ _ rfl _ [.string z1a,.int .i64 z1b] #[.string ⟨#[]⟩,.int .i64 0] 137 rfl rfl sz_field CF.out.b1 rfl (by intro u hu;simp at hu;rcases hu with rfl | rfl <;> rfl) ?_;intro w9 hw9;have HW9:=hide hw9;clear hw9))
   have SF:=CF.out.fill1 [.string z1a,.int .i64 z1b] rfl
   rw [← HW9.out] at SF
   have HXE:=hide (XL.out _ SF.fin)
   have HRR:=hide SF.rr
   have HBB:=SF.b1
   clear SF
   refine bodyPost_ret (v:=.agg #[.string z1a,.int .i64 z1b]) (res_cell (cs:=[.string z1a,.int .i64 z1b]) (e:=137) Tryz.results197 rfl ag_field sz_field HBB) rfl ?_
   exact .inl ⟨x1,k2,_,Q3.out,rfl,HXE.out,HRR.out⟩
  ·have R2:=hide (C2.out.rr.from hr)
   have Q2:=hide (Q1.out.trans (bind_err h2))
   clear hr h2
   go_wp2
   exact ⟨rfl,.inr ⟨_,Q2.out,rfl,R2.out⟩⟩
 ·have R1:=hide (C1.out.rr.from hr)
  have Q1:=hide (Q0.out.trans (bind_err h1))
  clear hr h1
  go_wp2
  exact ⟨rfl,.inr ⟨_,Q1.out,rfl,R1.out⟩⟩
set_option maxRecDepth 100000 in
set_option maxHeartbeats 4000000 in
theorem closed_key {p q:Nat} {L:List (Wd × Nat)} {dm sm:Value} {I:World→Prop} {kp:Pf (Ex × Nat)} (hL:OkL L) (hI:Stb I p q L dm sm) (HTh:PfI I 107 #[.pointer (some ⟨p,0,none⟩)] p q L dm sm 0 kp (KeyR)) :
  PfI I 163 #[.pointer (some ⟨p,0,none⟩),.func (Fn.func 107) #[.pointer (some ⟨p,0,none⟩)] #[]] p q L dm sm 0 (closedP kp) (KeyR):=by
 intro w k hk h hi
 have HI:Hid (∀ W k',Rp w W p q L k' dm sm→I W):=fun W k' r=>hI w W k' r hi
 have HL:=hide hL
 have HKK:=hide hk
 have HTh:=hide HTh
 have S0:=hide (Sp.start h)
 obtain ⟨RR,hRR⟩:∃ RR,RR=(closedP kp) L k:=⟨_,rfl⟩
 rw [← hRR]
 have Q0:=hide hRR
 clear hRR h hi hk hL hI
 go_enter Tryz.func163,Tryz.ntmps163
 have C1:Hid (Sp w _ p q L k dm sm [(w.heap.size,.cells #[.int .u8 0,.int .i64 0,.int .u64 0,.int .u64 0,.string ⟨#[]⟩,.string ⟨#[]⟩,.int .i64 0,.int .i64 0,.slice none 0 0,.int .i64 0,.int .u8 0] 85 (0,0))] _):=(S0.out.alloc #[.int .u8 0,.int .i64 0,.int .u64 0,.int .u64 0,.string ⟨#[]⟩,.string ⟨#[]⟩,.int .i64 0,.int .i64 0,.slice none 0 0,.int .i64 0,.int .u8 0] 85 (w.heap.size) rfl)
 go_wp2_with fail
 refine (HTh.out _ _ (Nat.zero_le _) C1.out.rr.here (HI.out _ _ C1.out.rr)).mono ?_
 rintro e w1 (⟨x1,k1,v,h1,rfl,hv,hr⟩ | ⟨k1,h1,rfl,hr⟩)
 ·obtain ⟨z1a,z1b,z1c,z1d,z1e,z1f,z1g,z1h,s1i,n1i,c1i,z1j,z1k,rfl⟩:=KeyR.form hv
  have S1:=hide (C1.out.call keyR_ok hr hv)
  have Q1:=hide (Q0.out.trans (bind_ok h1))
  clear hr h1 hv C1
  have C2:Hid (Sp w _ p q L k1 dm sm [(w1.heap.size,.cells #[.int .u8 z1a,.int .i64 z1b,.int .u64 z1c,.int .u64 z1d,.string z1e,.string z1f,.int .i64 z1g,.int .i64 z1h,.slice s1i n1i c1i,.int .i64 z1j,.int .u8 z1k] 85 (0,0)),(w.heap.size,.cells #[.int .u8 0,.int .i64 0,.int .u64 0,.int .u64 0,.string ⟨#[]⟩,.string ⟨#[]⟩,.int .i64 0,.int .i64 0,.slice none 0 0,.int .i64 0,.int .u8 0] 85 (0,0))] _):=(S1.out.alloc #[.int .u8 z1a,.int .i64 z1b,.int .u64 z1c,.int .u64 z1d,.string z1e,.string z1f,.int .i64 z1g,.int .i64 z1h,.slice s1i n1i c1i,.int .i64 z1j,.int .u8 z1k] 85 (w1.heap.size) rfl)
  go_wp2_with fail
  refine (pass_lay C2.out.rr HL.out [[59]] (by decide) (by decide) #[.string ⟨#[59]⟩] rfl 9 _ 1 (by first | rfl | simp | simp [World.size_alloc] | simp [World.setCell] | simp [World.setCell,World.size_alloc]) rfl).mono ?_
  rintro e w2 (⟨x2,k2,v,h2,rfl,hv,hr⟩ | ⟨k2,h2,rfl,hr⟩)
  ·obtain rfl:v=.tuple #[]:=hv
   have S2:=hide (C2.out.go hr)
   have Q2:=hide (Q1.out.trans (bind_ok h2))
   clear hr h2 C2
   have Q3:Hid (RR=.ok (x1,k2)):=Q2.out.trans rfl
   have XL:Hid (∀ W,((KeyR) W (Bn w W) (.agg #[.int .u8 z1a,.int .i64 z1b,.int .u64 z1c,.int .u64 z1d,.string z1e,.string z1f,.int .i64 z1g,.int .i64 z1h,.slice s1i n1i c1i,.int .i64 z1j,.int .u8 z1k]) x1∧True)→(KeyR) W (Bn w W) (.agg #[.int .u8 z1a,.int .i64 z1b,.int .u64 z1c,.int .u64 z1d,.string z1e,.string z1f,.int .i64 z1g,.int .i64 z1h,.slice s1i n1i c1i,.int .i64 z1j,.int .u8 z1k]) x1):=by
    rintro W ⟨X1,_⟩
    exact X1
   have CF:Hid (Sp w _ p q L k2 dm sm [(w1.heap.size,.cells #[.int .u8 z1a,.int .i64 z1b,.int .u64 z1c,.int .u64 z1d,.string z1e,.string z1f,.int .i64 z1g,.int .i64 z1h,.slice s1i n1i c1i,.int .i64 z1j,.int .u8 z1k] 85 (0,0)),(w.heap.size,.cells #[.int .u8 0,.int .i64 0,.int .u64 0,.int .u64 0,.string ⟨#[]⟩,.string ⟨#[]⟩,.int .i64 0,.int .i64 0,.slice none 0 0,.int .i64 0,.int .u8 0] 85 (0,0))] _):=S2.out
   go_wp2_with (first | (refine wpList_loadA rfl 85 _ rfl _ [.int .u8 z1a,.int .i64 z1b,.int .u64 z1c,.int .u64 z1d,.string z1e,.string z1f,.int .i64 z1g,.int .i64 z1h,.slice s1i n1i c1i,.int .i64 z1j,.int .u8 z1k] 85 rfl ag_key sz_key CF.out.b0 ?_) | (refine wpList_storeA rfl 85 _ _ rfl _ [.int .u8 z1a,.int .i64 z1b,.int .u64 z1c,.int .u64 z1d,.string z1e,.string z1f,.int .i64 z1g,.int .i64 z1h,.slice s1i n1i c1i,.int .i64 z1j,.int .u8 z1k] #[.int .u8 0,.int .i64 0,.int .u64 0,.int .u64 0,.string ⟨#[]⟩,.string ⟨#[]⟩,.int .i64 0,.int .i64 0,.slice none 0 0,.int .i64 0,.int .u8 0] 85 rfl rfl sz_key CF.out.b1 rfl (by intro u hu;simp at hu;rcases hu with rfl | rfl | rfl | rfl | rfl | rfl | rfl | rfl | rfl | rfl | rfl <;> rfl) ?_;intro w9 hw9;have HW9:=hide hw9;clear hw9))
   have SF:=CF.out.fill1 [.int .u8 z1a,.int .i64 z1b,.int .u64 z1c,.int .u64 z1d,.string z1e,.string z1f,.int .i64 z1g,.int .i64 z1h,.slice s1i n1i c1i,.int .i64 z1j,.int .u8 z1k] rfl
   rw [← HW9.out] at SF
   have HXE:=hide (XL.out _ SF.fin)
   have HRR:=hide SF.rr
   have HBB:=SF.b1
   clear SF
   refine bodyPost_ret (v:=.agg #[.int .u8 z1a,.int .i64 z1b,.int .u64 z1c,.int .u64 z1d,.string z1e,.string z1f,.int .i64 z1g,.int .i64 z1h,.slice s1i n1i c1i,.int .i64 z1j,.int .u8 z1k]) (res_cell (cs:=[.int .u8 z1a,.int .i64 z1b,.int .u64 z1c,.int .u64 z1d,.string z1e,.string z1f,.int .i64 z1g,.int .i64 z1h,.slice s1i n1i c1i,.int .i64 z1j,.int .u8 z1k]) (e:=85) Tryz.results163 rfl ag_key sz_key HBB) rfl ?_
   exact .inl ⟨x1,k2,_,Q3.out,rfl,HXE.out,HRR.out⟩
  ·have R2:=hide (C2.out.rr.from hr)
   have Q2:=hide (Q1.out.trans (bind_err h2))
   clear hr h2
   go_wp2
   exact ⟨rfl,.inr ⟨_,Q2.out,rfl,R2.out⟩⟩
 ·have R1:=hide (C1.out.rr.from hr)
  have Q1:=hide (Q0.out.trans (bind_err h1))
  clear hr h1
  go_wp2
  exact ⟨rfl,.inr ⟨_,Q1.out,rfl,R1.out⟩⟩
set_option maxRecDepth 100000 in
set_option maxHeartbeats 4000000 in
theorem closed_case {p q:Nat} {L:List (Wd × Nat)} {dm sm:Value} {I:World→Prop} {cp:Pf Ck} (hL:OkL L) (hI:Stb I p q L dm sm) (HTh:PfI I 157 #[.pointer (some ⟨p,0,none⟩)] p q L dm sm 0 cp (CaseV)) :
  PfI I 200 #[.pointer (some ⟨p,0,none⟩),.func (Fn.func 157) #[.pointer (some ⟨p,0,none⟩)] #[]] p q L dm sm 0 (closedP cp) (CaseV):=by
 intro w k hk h hi
 have HI:Hid (∀ W k',Rp w W p q L k' dm sm→I W):=fun W k' r=>hI w W k' r hi
 have HL:=hide hL
 have HKK:=hide hk
 have HTh:=hide HTh
 have S0:=hide (Sp.start h)
 obtain ⟨RR,hRR⟩:∃ RR,RR=(closedP cp) L k:=⟨_,rfl⟩
 rw [← hRR]
 have Q0:=hide hRR
 clear hRR h hi hk hL hI
 go_enter Tryz.func200,Tryz.ntmps200
 have C1:Hid (Sp w _ p q L k dm sm [(w.heap.size,.cells #[.int .i64 0,.int .u64 0,.int .u64 0,.int .i64 0,.int .u64 0,.int .u64 0,.string ⟨#[]⟩] 194 (0,0))] _):=(S0.out.alloc #[.int .i64 0,.int .u64 0,.int .u64 0,.int .i64 0,.int .u64 0,.int .u64 0,.string ⟨#[]⟩] 194 (w.heap.size) rfl)
 go_wp2_with fail
 refine (HTh.out _ _ (Nat.zero_le _) C1.out.rr.here (HI.out _ _ C1.out.rr)).mono ?_
 rintro e w1 (⟨x1,k1,v,h1,rfl,hv,hr⟩ | ⟨k1,h1,rfl,hr⟩)
 ·obtain ⟨z1a,z1b,z1c,z1d,z1e,z1f,z1g,rfl⟩:=CaseV.form hv
  have S1:=hide (C1.out.call caseV_ok hr hv)
  have Q1:=hide (Q0.out.trans (bind_ok h1))
  clear hr h1 hv C1
  have C2:Hid (Sp w _ p q L k1 dm sm [(w1.heap.size,.cells #[.int .i64 z1a,.int .u64 z1b,.int .u64 z1c,.int .i64 z1d,.int .u64 z1e,.int .u64 z1f,.string z1g] 194 (0,0)),(w.heap.size,.cells #[.int .i64 0,.int .u64 0,.int .u64 0,.int .i64 0,.int .u64 0,.int .u64 0,.string ⟨#[]⟩] 194 (0,0))] _):=(S1.out.alloc #[.int .i64 z1a,.int .u64 z1b,.int .u64 z1c,.int .i64 z1d,.int .u64 z1e,.int .u64 z1f,.string z1g] 194 (w1.heap.size) rfl)
  go_wp2_with fail
  refine (pass_lay C2.out.rr HL.out [[59]] (by decide) (by decide) #[.string ⟨#[59]⟩] rfl 9 _ 1 (by first | rfl | simp | simp [World.size_alloc] | simp [World.setCell] | simp [World.setCell,World.size_alloc]) rfl).mono ?_
  rintro e w2 (⟨x2,k2,v,h2,rfl,hv,hr⟩ | ⟨k2,h2,rfl,hr⟩)
  ·obtain rfl:v=.tuple #[]:=hv
   have S2:=hide (C2.out.go hr)
   have Q2:=hide (Q1.out.trans (bind_ok h2))
   clear hr h2 C2
   have Q3:Hid (RR=.ok (x1,k2)):=Q2.out.trans rfl
   have XL:Hid (∀ W,((CaseV) W (Bn w W) (.agg #[.int .i64 z1a,.int .u64 z1b,.int .u64 z1c,.int .i64 z1d,.int .u64 z1e,.int .u64 z1f,.string z1g]) x1∧True)→(CaseV) W (Bn w W) (.agg #[.int .i64 z1a,.int .u64 z1b,.int .u64 z1c,.int .i64 z1d,.int .u64 z1e,.int .u64 z1f,.string z1g]) x1):=by
    rintro W ⟨X1,_⟩
    exact X1
   have CF:Hid (Sp w _ p q L k2 dm sm [(w1.heap.size,.cells #[.int .i64 z1a,.int .u64 z1b,.int .u64 z1c,.int .i64 z1d,.int .u64 z1e,.int .u64 z1f,.string z1g] 194 (0,0)),(w.heap.size,.cells #[.int .i64 0,.int .u64 0,.int .u64 0,.int .i64 0,.int .u64 0,.int .u64 0,.string ⟨#[]⟩] 194 (0,0))] _):=S2.out
   go_wp2_with (first | (refine wpList_loadA rfl 194 _ rfl _ [.int .i64 z1a,.int .u64 z1b,.int .u64 z1c,.int .i64 z1d,.int .u64 z1e,.int .u64 z1f,.string z1g] 194 rfl ag_case sz_case CF.out.b0 ?_) | (refine wpList_storeA rfl 194 _ _ rfl _ [.int .i64 z1a,.int .u64 z1b,.int .u64 z1c,.int .i64 z1d,.int .u64 z1e,.int .u64 z1f,.string z1g] #[.int .i64 0,.int .u64 0,.int .u64 0,.int .i64 0,.int .u64 0,.int .u64 0,.string ⟨#[]⟩] 194 rfl rfl sz_case CF.out.b1 rfl (by intro u hu;simp at hu;rcases hu with rfl | rfl | rfl | rfl | rfl | rfl | rfl <;> rfl) ?_;intro w9 hw9;have HW9:=hide hw9;clear hw9))
   have SF:=CF.out.fill1 [.int .i64 z1a,.int .u64 z1b,.int .u64 z1c,.int .i64 z1d,.int .u64 z1e,.int .u64 z1f,.string z1g] rfl
   rw [← HW9.out] at SF
   have HXE:=hide (XL.out _ SF.fin)
   have HRR:=hide SF.rr
   have HBB:=SF.b1
   clear SF
   refine bodyPost_ret (v:=.agg #[.int .i64 z1a,.int .u64 z1b,.int .u64 z1c,.int .i64 z1d,.int .u64 z1e,.int .u64 z1f,.string z1g]) (res_cell (cs:=[.int .i64 z1a,.int .u64 z1b,.int .u64 z1c,.int .i64 z1d,.int .u64 z1e,.int .u64 z1f,.string z1g]) (e:=194) Tryz.results200 rfl ag_case sz_case HBB) rfl ?_
   exact .inl ⟨x1,k2,_,Q3.out,rfl,HXE.out,HRR.out⟩
  ·have R2:=hide (C2.out.rr.from hr)
   have Q2:=hide (Q1.out.trans (bind_err h2))
   clear hr h2
   go_wp2
   exact ⟨rfl,.inr ⟨_,Q2.out,rfl,R2.out⟩⟩
 ·have R1:=hide (C1.out.rr.from hr)
  have Q1:=hide (Q0.out.trans (bind_err h1))
  clear hr h1
  go_wp2
  exact ⟨rfl,.inr ⟨_,Q1.out,rfl,R1.out⟩⟩
set_option maxRecDepth 100000 in
set_option maxHeartbeats 4000000 in
theorem block_ok {p q:Nat} {L:List (Wd × Nat)} {dm sm:Value} {I:World→Prop} {k0:Nat} {st:Pf (List Sm)} (hL:OkL L) (hI:Stb I p q L dm sm) (HUs:PfI I 159 #[.pointer (some ⟨p,0,none⟩),.string ⟨#[125]⟩,.func (Fn.func 160) #[.pointer (some ⟨p,0,none⟩)] #[]] p q L dm sm k0 st (ListR SmR mkAgg 9)) :
  PfI I 105 #[.pointer (some ⟨p,0,none⟩)] p q L dm sm k0 (blockP st) (ListR SmR mkAgg 9):=by
 intro w k hk h hi
 have HI:Hid (∀ W k',Rp w W p q L k' dm sm→I W):=fun W k' r=>hI w W k' r hi
 have HL:=hide hL
 have HKK:=hide hk
 have HUs:=hide HUs
 have S0:=hide (Sp.start h)
 obtain ⟨RR,hRR⟩:∃ RR,RR=(blockP st) L k:=⟨_,rfl⟩
 rw [← hRR]
 have Q0:=hide hRR
 clear hRR h hi hk hL hI
 go_enter Tryz.func105,Tryz.ntmps105
 go_wp2_with fail
 refine (pass_lay S0.out.rr HL.out [[123]] (by decide) (by decide) #[.string ⟨#[123]⟩] rfl 9 _ 1 (by first | rfl | simp | simp [World.size_alloc] | simp [World.setCell] | simp [World.setCell,World.size_alloc]) rfl).mono ?_
 rintro e w1 (⟨x1,k1,v,h1,rfl,hv,hr⟩ | ⟨k1,h1,rfl,hr⟩)
 ·obtain rfl:v=.tuple #[]:=hv
  have GP1:=hide (stays_pass _ _ _ _ _ h1)
  have S1:=hide (S0.out.go hr)
  have Q1:=hide (Q0.out.trans (bind_ok h1))
  clear hr h1
  go_wp2_with fail
  refine (HUs.out _ _ (Nat.le_trans HKK.out (GP1.out)) S1.out.rr.here (HI.out _ _ S1.out.rr)).mono ?_
  rintro e w2 (⟨x2,k2,v,h2,rfl,hv,hr⟩ | ⟨k2,h2,rfl,hr⟩)
  ·obtain ⟨s2,n2,c2,rfl⟩:=ListR.form hv
   have S2:=hide (S1.out.call (ListR.ok smRep_ok mkAgg 9) hr hv)
   have Q2:=hide (Q1.out.trans (bind_ok h2))
   clear hr h2 hv
   have Q3:Hid (RR=.ok (x2,k2)):=Q2.out.trans rfl
   have XL:Hid (∀ W,((ListR SmR mkAgg 9) W (Bn w W) (.slice s2 n2 c2) x2∧True)→(ListR SmR mkAgg 9) W (Bn w W) (.slice s2 n2 c2) x2):=by
    rintro W ⟨X2,_⟩
    exact X2
   have CF:Hid (Sp w _ p q L k2 dm sm [] _):=S2.out
   go_wp2
   have SF:=CF.out
   go_ret
   exact .inl ⟨_,_,_,Q3.out,rfl,XL.out _ SF.fin,SF.rr⟩
  ·have R2:=hide (S1.out.rr.from hr)
   have Q2:=hide (Q1.out.trans (bind_err h2))
   clear hr h2
   go_wp2
   exact ⟨rfl,.inr ⟨_,Q2.out,rfl,R2.out⟩⟩
 ·have R1:=hide (S0.out.rr.from hr)
  have Q1:=hide (Q0.out.trans (bind_err h1))
  clear hr h1
  go_wp2
  exact ⟨rfl,.inr ⟨_,Q1.out,rfl,R1.out⟩⟩
set_option maxRecDepth 100000 in
set_option maxHeartbeats 4000000 in
theorem pcell_ok {p q:Nat} {L:List (Wd × Nat)} {dm sm:Value} {I:World→Prop} {ex:Pf Ex} (hL:OkL L) (hI:Stb I p q L dm sm) (HX:PfI I 112 #[.pointer (some ⟨p,0,none⟩)] p q L dm sm 0 ex (ExR)) :
  PfI I 115 #[.pointer (some ⟨p,0,none⟩)] p q L dm sm 0 (cellP ex) (ExR):=by
 intro w k hk h hi
 have HI:Hid (∀ W k',Rp w W p q L k' dm sm→I W):=fun W k' r=>hI w W k' r hi
 have HL:=hide hL
 have HKK:=hide hk
 have HX:=hide HX
 have S0:=hide (Sp.start h)
 obtain ⟨RR,hRR⟩:∃ RR,RR=(cellP ex) L k:=⟨_,rfl⟩
 rw [← hRR]
 have Q0:=hide hRR
 clear hRR h hi hk hL hI
 go_enter Tryz.func115,Tryz.ntmps115
 have C1:Hid (Sp w _ p q L k dm sm [(w.heap.size,.cells #[.int .u8 0,.int .i64 0,.int .u64 0,.int .u64 0,.string ⟨#[]⟩,.string ⟨#[]⟩,.int .i64 0,.int .i64 0,.slice none 0 0,.int .i64 0] 49 (0,0))] _):=(S0.out.alloc #[.int .u8 0,.int .i64 0,.int .u64 0,.int .u64 0,.string ⟨#[]⟩,.string ⟨#[]⟩,.int .i64 0,.int .i64 0,.slice none 0 0,.int .i64 0] 49 (w.heap.size) rfl)
 go_wp2_with fail
 refine (pass_lay C1.out.rr HL.out [[91]] (by decide) (by decide) #[.string ⟨#[91]⟩] rfl 9 _ 1 (by first | rfl | simp | simp [World.size_alloc] | simp [World.setCell] | simp [World.setCell,World.size_alloc]) rfl).mono ?_
 rintro e w1 (⟨x1,k1,v,h1,rfl,hv,hr⟩ | ⟨k1,h1,rfl,hr⟩)
 ·obtain rfl:v=.tuple #[]:=hv
  have S1:=hide (C1.out.go hr)
  have Q1:=hide (Q0.out.trans (bind_ok h1))
  clear hr h1 C1
  go_wp2_with fail
  refine (HX.out _ _ (Nat.zero_le _) S1.out.rr.here (HI.out _ _ S1.out.rr)).mono ?_
  rintro e w2 (⟨x2,k2,v,h2,rfl,hv,hr⟩ | ⟨k2,h2,rfl,hr⟩)
  ·obtain ⟨z2a,z2b,z2c,z2d,z2e,z2f,z2g,z2h,s2i,n2i,c2i,z2j,rfl⟩:=ExR.form hv
   have S2:=hide (S1.out.call exRep_ok hr hv)
   have Q2:=hide (Q1.out.trans (bind_ok h2))
   clear hr h2 hv
   have C3:Hid (Sp w _ p q L k2 dm sm [(w2.heap.size,.cells #[.int .u8 z2a,.int .i64 z2b,.int .u64 z2c,.int .u64 z2d,.string z2e,.string z2f,.int .i64 z2g,.int .i64 z2h,.slice s2i n2i c2i,.int .i64 z2j] 49 (0,0)),(w.heap.size,.cells #[.int .u8 0,.int .i64 0,.int .u64 0,.int .u64 0,.string ⟨#[]⟩,.string ⟨#[]⟩,.int .i64 0,.int .i64 0,.slice none 0 0,.int .i64 0] 49 (0,0))] _):=(S2.out.alloc #[.int .u8 z2a,.int .i64 z2b,.int .u64 z2c,.int .u64 z2d,.string z2e,.string z2f,.int .i64 z2g,.int .i64 z2h,.slice s2i n2i c2i,.int .i64 z2j] 49 (w2.heap.size) rfl)
   go_wp2_with fail
   refine (pass_lay C3.out.rr HL.out [[93]] (by decide) (by decide) #[.string ⟨#[93]⟩] rfl 9 _ 1 (by first | rfl | simp | simp [World.size_alloc] | simp [World.setCell] | simp [World.setCell,World.size_alloc]) rfl).mono ?_
   rintro e w3 (⟨x3,k3,v,h3,rfl,hv,hr⟩ | ⟨k3,h3,rfl,hr⟩)
   ·obtain rfl:v=.tuple #[]:=hv
    have S3:=hide (C3.out.go hr)
    have Q3:=hide (Q2.out.trans (bind_ok h3))
    clear hr h3 C3
    have Q4:Hid (RR=.ok (x2,k3)):=Q3.out.trans rfl
    have XL:Hid (∀ W,((ExR) W (Bn w W) (.agg #[.int .u8 z2a,.int .i64 z2b,.int .u64 z2c,.int .u64 z2d,.string z2e,.string z2f,.int .i64 z2g,.int .i64 z2h,.slice s2i n2i c2i,.int .i64 z2j]) x2∧True)→(ExR) W (Bn w W) (.agg #[.int .u8 z2a,.int .i64 z2b,.int .u64 z2c,.int .u64 z2d,.string z2e,.string z2f,.int .i64 z2g,.int .i64 z2h,.slice s2i n2i c2i,.int .i64 z2j]) x2):=by
     rintro W ⟨X2,_⟩
     exact X2
    have CF:Hid (Sp w _ p q L k3 dm sm [(w2.heap.size,.cells #[.int .u8 z2a,.int .i64 z2b,.int .u64 z2c,.int .u64 z2d,.string z2e,.string z2f,.int .i64 z2g,.int .i64 z2h,.slice s2i n2i c2i,.int .i64 z2j] 49 (0,0)),(w.heap.size,.cells #[.int .u8 0,.int .i64 0,.int .u64 0,.int .u64 0,.string ⟨#[]⟩,.string ⟨#[]⟩,.int .i64 0,.int .i64 0,.slice none 0 0,.int .i64 0] 49 (0,0))] _):=S3.out
    go_wp2_with (first | (refine wpList_loadA rfl 49 _ rfl _ [.int .u8 z2a,.int .i64 z2b,.int .u64 z2c,.int .u64 z2d,.string z2e,.string z2f,.int .i64 z2g,.int .i64 z2h,.slice s2i n2i c2i,.int .i64 z2j] 49 rfl ag_expr sz_expr CF.out.b0 ?_) | (refine wpList_storeA rfl 49 _ _ rfl _ [.int .u8 z2a,.int .i64 z2b,.int .u64 z2c,.int .u64 z2d,.string z2e,.string z2f,.int .i64 z2g,.int .i64 z2h,.slice s2i n2i c2i,.int .i64 z2j] #[.int .u8 0,.int .i64 0,.int .u64 0,.int .u64 0,.string ⟨#[]⟩,.string ⟨#[]⟩,.int .i64 0,.int .i64 0,.slice none 0 0,.int .i64 0] 49 rfl rfl sz_expr CF.out.b1 rfl (by intro u hu;simp at hu;rcases hu with rfl | rfl | rfl | rfl | rfl | rfl | rfl | rfl | rfl | rfl <;> rfl) ?_;intro w9 hw9;have HW9:=hide hw9;clear hw9))
    have SF:=CF.out.fill1 [.int .u8 z2a,.int .i64 z2b,.int .u64 z2c,.int .u64 z2d,.string z2e,.string z2f,.int .i64 z2g,.int .i64 z2h,.slice s2i n2i c2i,.int .i64 z2j] rfl
    rw [← HW9.out] at SF
    have HXE:=hide (XL.out _ SF.fin)
    have HRR:=hide SF.rr
    have HBB:=SF.b1
    clear SF
    refine bodyPost_ret (v:=.agg #[.int .u8 z2a,.int .i64 z2b,.int .u64 z2c,.int .u64 z2d,.string z2e,.string z2f,.int .i64 z2g,.int .i64 z2h,.slice s2i n2i c2i,.int .i64 z2j]) (res_cell (cs:=[.int .u8 z2a,.int .i64 z2b,.int .u64 z2c,.int .u64 z2d,.string z2e,.string z2f,.int .i64 z2g,.int .i64 z2h,.slice s2i n2i c2i,.int .i64 z2j]) (e:=49) Tryz.results115 rfl ag_expr sz_expr HBB) rfl ?_
    exact .inl ⟨x2,k3,_,Q4.out,rfl,HXE.out,HRR.out⟩
   ·have R3:=hide (C3.out.rr.from hr)
    have Q3:=hide (Q2.out.trans (bind_err h3))
    clear hr h3
    go_wp2
    exact ⟨rfl,.inr ⟨_,Q3.out,rfl,R3.out⟩⟩
  ·have R2:=hide (S1.out.rr.from hr)
   have Q2:=hide (Q1.out.trans (bind_err h2))
   clear hr h2
   go_wp2
   exact ⟨rfl,.inr ⟨_,Q2.out,rfl,R2.out⟩⟩
 ·have R1:=hide (C1.out.rr.from hr)
  have Q1:=hide (Q0.out.trans (bind_err h1))
  clear hr h1
  go_wp2
  exact ⟨rfl,.inr ⟨_,Q1.out,rfl,R1.out⟩⟩
set_option maxRecDepth 100000 in
set_option maxHeartbeats 4000000 in
theorem call_ok {p q:Nat} {L:List (Wd × Nat)} {dm sm:Value} {I:World→Prop} {be:Pf (List Ex)} {n:List UInt8} (hL:OkL L) (hI:Stb I p q L dm sm) (HBe:PfI I 238 #[.pointer (some ⟨p,0,none⟩),.func (Fn.func 112) #[.pointer (some ⟨p,0,none⟩)] #[]] p q L dm sm 0 be (ListR ExR mkAgg 10)) :
  PfI I 230 #[.pointer (some ⟨p,0,none⟩),.string (txt n)] p q L dm sm 0 (callP be n) (SmR):=by
 intro w k hk h hi
 have HI:Hid (∀ W k',Rp w W p q L k' dm sm→I W):=fun W k' r=>hI w W k' r hi
 have HL:=hide hL
 have HKK:=hide hk
 have HBe:=hide HBe
 have S0:=hide (Sp.start h)
 obtain ⟨RR,hRR⟩:∃ RR,RR=(callP be n) L k:=⟨_,rfl⟩
 rw [← hRR]
 have Q0:=hide hRR
 clear hRR h hi hk hL hI
 go_enter Tryz.func230,Tryz.ntmps230
 have C1:Hid (Sp w _ p q L k dm sm [(w.heap.size,.cells #[.int .u8 0,.string ⟨#[]⟩,.string ⟨#[]⟩,.string ⟨#[]⟩,.int .i64 0,.slice none 0 0,.slice none 0 0,.slice none 0 0,.int .i64 0] 72 (0,0))] _):=(S0.out.alloc #[.int .u8 0,.string ⟨#[]⟩,.string ⟨#[]⟩,.string ⟨#[]⟩,.int .i64 0,.slice none 0 0,.slice none 0 0,.slice none 0 0,.int .i64 0] 72 (w.heap.size) rfl)
 go_wp2_with fail
 refine (HBe.out _ _ (Nat.zero_le _) C1.out.rr.here (HI.out _ _ C1.out.rr)).mono ?_
 rintro e w1 (⟨x1,k1,v,h1,rfl,hv,hr⟩ | ⟨k1,h1,rfl,hr⟩)
 ·obtain ⟨s1,n1,c1,rfl⟩:=ListR.form hv
  have S1:=hide (C1.out.call (ListR.ok exRep_ok mkAgg 10) hr hv)
  have Q1:=hide (Q0.out.trans (bind_ok h1))
  clear hr h1 hv C1
  have C2:Hid (Sp w _ p q L k1 dm sm [(w1.heap.size,.cells #[.int .u8 4,.string (txt n),.string ⟨#[]⟩,.string ⟨#[]⟩,.int .i64 0,.slice s1 n1 c1,.slice none 0 0,.slice none 0 0,.int .i64 0] 72 (0,0)),(w.heap.size,.cells #[.int .u8 0,.string ⟨#[]⟩,.string ⟨#[]⟩,.string ⟨#[]⟩,.int .i64 0,.slice none 0 0,.slice none 0 0,.slice none 0 0,.int .i64 0] 72 (0,0))] _):=(S1.out.alloc #[.int .u8 4,.string (txt n),.string ⟨#[]⟩,.string ⟨#[]⟩,.int .i64 0,.slice s1 n1 c1,.slice none 0 0,.slice none 0 0,.int .i64 0] 72 (w1.heap.size) rfl)
  go_wp2_with fail
  refine (pass_lay C2.out.rr HL.out [[59]] (by decide) (by decide) #[.string ⟨#[59]⟩] rfl 9 _ 1 (by first | rfl | simp | simp [World.size_alloc] | simp [World.setCell] | simp [World.setCell,World.size_alloc]) rfl).mono ?_
  rintro e w2 (⟨x2,k2,v,h2,rfl,hv,hr⟩ | ⟨k2,h2,rfl,hr⟩)
  ·obtain rfl:v=.tuple #[]:=hv
   have S2:=hide (C2.out.go hr)
   have Q2:=hide (Q1.out.trans (bind_ok h2))
   clear hr h2 C2
   have Q3:Hid (RR=.ok (({ sm0 4 with name:=n,args:=x1 }:Sm),k2)):=Q2.out.trans rfl
   have XL:Hid (∀ W,((ListR ExR mkAgg 10) W (Bn w W) (.slice s1 n1 c1) x1∧True)→(SmR) W (Bn w W) (.agg #[.int .u8 4,.string (txt n),.string ⟨#[]⟩,.string ⟨#[]⟩,.int .i64 0,.slice s1 n1 c1,.slice none 0 0,.slice none 0 0,.int .i64 0]) ({ sm0 4 with name:=n,args:=x1 }:Sm)):=by
    rintro W ⟨X1,_⟩
    exact SmR.mk (x:=({ sm0 4 with name:=n,args:=x1 }:Sm)) X1 ListR.none ListR.none
   have CF:Hid (Sp w _ p q L k2 dm sm [(w1.heap.size,.cells #[.int .u8 4,.string (txt n),.string ⟨#[]⟩,.string ⟨#[]⟩,.int .i64 0,.slice s1 n1 c1,.slice none 0 0,.slice none 0 0,.int .i64 0] 72 (0,0)),(w.heap.size,.cells #[.int .u8 0,.string ⟨#[]⟩,.string ⟨#[]⟩,.string ⟨#[]⟩,.int .i64 0,.slice none 0 0,.slice none 0 0,.slice none 0 0,.int .i64 0] 72 (0,0))] _):=S2.out
   go_wp2_with (first | (refine wpList_loadA rfl 72 _ rfl _ [.int .u8 4,.string (txt n),.string ⟨#[]⟩,.string ⟨#[]⟩,.int .i64 0,.slice s1 n1 c1,.slice none 0 0,.slice none 0 0,.int .i64 0] 72 rfl ag_stmt sz_stmt CF.out.b0 ?_) | (refine wpList_storeA rfl 72 _ _ rfl _ [.int .u8 4,.string (txt n),.string ⟨#[]⟩,.string ⟨#[]⟩,.int .i64 0,.slice s1 n1 c1,.slice none 0 0,.slice none 0 0,.int .i64 0] #[.int .u8 0,.string ⟨#[]⟩,.string ⟨#[]⟩,.string ⟨#[]⟩,.int .i64 0,.slice none 0 0,.slice none 0 0,.slice none 0 0,.int .i64 0] 72 rfl rfl sz_stmt CF.out.b1 rfl (by intro u hu;simp at hu;rcases hu with rfl | rfl | rfl | rfl | rfl | rfl | rfl | rfl | rfl <;> rfl) ?_;intro w9 hw9;have HW9:=hide hw9;clear hw9))
   have SF:=CF.out.fill1 [.int .u8 4,.string (txt n),.string ⟨#[]⟩,.string ⟨#[]⟩,.int .i64 0,.slice s1 n1 c1,.slice none 0 0,.slice none 0 0,.int .i64 0] rfl
   rw [← HW9.out] at SF
   have HXE:=hide (XL.out _ SF.fin)
   have HRR:=hide SF.rr
   have HBB:=SF.b1
   clear SF
   refine bodyPost_ret (v:=.agg #[.int .u8 4,.string (txt n),.string ⟨#[]⟩,.string ⟨#[]⟩,.int .i64 0,.slice s1 n1 c1,.slice none 0 0,.slice none 0 0,.int .i64 0]) (res_cell (cs:=[.int .u8 4,.string (txt n),.string ⟨#[]⟩,.string ⟨#[]⟩,.int .i64 0,.slice s1 n1 c1,.slice none 0 0,.slice none 0 0,.int .i64 0]) (e:=72) Tryz.results230 rfl ag_stmt sz_stmt HBB) rfl ?_
   exact .inl ⟨({ sm0 4 with name:=n,args:=x1 }:Sm),k2,_,Q3.out,rfl,HXE.out,HRR.out⟩
  ·have R2:=hide (C2.out.rr.from hr)
   have Q2:=hide (Q1.out.trans (bind_err h2))
   clear hr h2
   go_wp2
   exact ⟨rfl,.inr ⟨_,Q2.out,rfl,R2.out⟩⟩
 ·have R1:=hide (C1.out.rr.from hr)
  have Q1:=hide (Q0.out.trans (bind_err h1))
  clear hr h1
  go_wp2
  exact ⟨rfl,.inr ⟨_,Q1.out,rfl,R1.out⟩⟩
end Go.Proofs.YtabkimknlifdoaaGreatDoor
