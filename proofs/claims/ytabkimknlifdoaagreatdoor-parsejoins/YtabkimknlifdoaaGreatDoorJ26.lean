/- Pieces of the proof: PaJi. -/
import Derived.Test.YtabkimknlifdoaaGreatDoorJ14
namespace Go.Proofs.YtabkimknlifdoaaGreatDoor
open Go.RowKit
set_option maxRecDepth 100000 in
set_option maxHeartbeats 4000000 in
theorem brack_field {p q:Nat} {L:List (Wd × Nat)} {dm sm:Value} {I:World→Prop} {so:Pf (List (List UInt8 × Nat))} (hL:OkL L) (hI:Stb I p q L dm sm) (HSo:PfI I 158 #[.pointer (some ⟨p,0,none⟩),.func (Fn.func 104) #[.pointer (some ⟨p,0,none⟩)] #[]] p q L dm sm 0 so (ListR FieldV mkAgg 2)) :
  PfI I 103 #[.pointer (some ⟨p,0,none⟩),.func (Fn.func 104) #[.pointer (some ⟨p,0,none⟩)] #[]] p q L dm sm 0 (brackP so) (ListR FieldV mkAgg 2):=by
 intro w k hk h hi
 have HI:Hid (∀ W k',Rp w W p q L k' dm sm→I W):=fun W k' r=>hI w W k' r hi
 have HL:=hide hL
 have HKK:=hide hk
 have HSo:=hide HSo
 have S0:=hide (Sp.start h)
 obtain ⟨RR,hRR⟩:∃ RR,RR=(brackP so) L k:=⟨_,rfl⟩
 rw [← hRR]
 have Q0:=hide hRR
 clear hRR h hi hk hL hI
 go_enter Tryz.func103,Tryz.ntmps103
 go_wp2_with fail
 refine (pass_lay S0.out.rr HL.out [[40]] (by decide) (by decide) #[.string ⟨#[40]⟩] rfl 9 _ 1 (by first | rfl | simp | simp [World.size_alloc] | simp [World.setCell] | simp [World.setCell,World.size_alloc]) rfl).mono ?_
 rintro e w1 (⟨x1,k1,v,h1,rfl,hv,hr⟩ | ⟨k1,h1,rfl,hr⟩)
 ·obtain rfl:v=.tuple #[]:=hv
  have S1:=hide (S0.out.go hr)
  have Q1:=hide (Q0.out.trans (bind_ok h1))
  clear hr h1
  go_wp2_with fail
  refine (passed_two S1.out.rr HL.out [41] (by decide) ⟨#[41]⟩ rfl).mono ?_
  rintro e w2 (⟨h2,rfl,hr⟩ | ⟨h2,rfl,hr⟩)
  ·have S2:=hide (S1.out.go hr)
   have Q2:=hide (Q1.out.trans (ifP_yes h2))
   clear hr h2 Q1 S1
   have Q3:Hid (RR=.ok ([],(k1+1))):=Q2.out.trans rfl
   have CF:Hid (Sp w _ p q L (k1+1) dm sm [] _):=S2.out
   go_wp2
   have SF:=CF.out
   go_ret
   exact .inl ⟨_,_,_,Q3.out,rfl,ListR.none,SF.rr⟩
  ·have S2:=hide (S1.out.go hr)
   have Q2:=hide (Q1.out.trans (ifP_no h2))
   clear hr h2 Q1 S1
   go_wp2_with fail
   refine (HSo.out _ _ (Nat.zero_le _) S2.out.rr.here (HI.out _ _ S2.out.rr)).mono ?_
   rintro e w3 (⟨x3,k3,v,h3,rfl,hv,hr⟩ | ⟨k3,h3,rfl,hr⟩)
   ·obtain ⟨s3,n3,c3,rfl⟩:=ListR.form hv
    have S3:=hide (S2.out.call (ListR.ok fieldV_ok mkAgg 2) hr hv)
    have Q3:=hide (Q2.out.trans (bind_ok h3))
    clear hr h3 hv
    go_wp2_with fail
    refine (pass_lay S3.out.rr HL.out [[41]] (by decide) (by decide) #[.string ⟨#[41]⟩] rfl 9 _ 1 (by first | rfl | simp | simp [World.size_alloc] | simp [World.setCell] | simp [World.setCell,World.size_alloc]) rfl).mono ?_
    rintro e w4 (⟨x4,k4,v,h4,rfl,hv,hr⟩ | ⟨k4,h4,rfl,hr⟩)
    ·obtain rfl:v=.tuple #[]:=hv
     have S4:=hide (S3.out.go hr)
     have Q4:=hide (Q3.out.trans (bind_ok h4))
     clear hr h4
     have Q5:Hid (RR=.ok (x3,k4)):=Q4.out.trans rfl
     have XL:Hid (∀ W,((ListR FieldV mkAgg 2) W (Bn w W) (.slice s3 n3 c3) x3∧True)→(ListR FieldV mkAgg 2) W (Bn w W) (.slice s3 n3 c3) x3):=by
      rintro W ⟨X3,_⟩
      exact X3
     have CF:Hid (Sp w _ p q L k4 dm sm [] _):=S4.out
     go_wp2
     have SF:=CF.out
     go_ret
     exact .inl ⟨_,_,_,Q5.out,rfl,XL.out _ SF.fin,SF.rr⟩
    ·have R4:=hide (S3.out.rr.from hr)
     have Q4:=hide (Q3.out.trans (bind_err h4))
     clear hr h4
     go_wp2
     exact ⟨rfl,.inr ⟨_,Q4.out,rfl,R4.out⟩⟩
   ·have R3:=hide (S2.out.rr.from hr)
    have Q3:=hide (Q2.out.trans (bind_err h3))
    clear hr h3
    go_wp2
    exact ⟨rfl,.inr ⟨_,Q3.out,rfl,R3.out⟩⟩
 ·have R1:=hide (S0.out.rr.from hr)
  have Q1:=hide (Q0.out.trans (bind_err h1))
  clear hr h1
  go_wp2
  exact ⟨rfl,.inr ⟨_,Q1.out,rfl,R1.out⟩⟩
set_option maxRecDepth 100000 in
set_option maxHeartbeats 4000000 in
theorem brack_bits {p q:Nat} {L:List (Wd × Nat)} {dm sm:Value} {I:World→Prop} {so:Pf (List (Nat × Nat))} (hL:OkL L) (hI:Stb I p q L dm sm) (HSo:PfI I 165 #[.pointer (some ⟨p,0,none⟩),.func (Fn.func 110) #[.pointer (some ⟨p,0,none⟩)] #[]] p q L dm sm 0 so (ListR LitV mkAgg 3)) :
  PfI I 109 #[.pointer (some ⟨p,0,none⟩),.func (Fn.func 110) #[.pointer (some ⟨p,0,none⟩)] #[]] p q L dm sm 0 (brackP so) (ListR LitV mkAgg 3):=by
 intro w k hk h hi
 have HI:Hid (∀ W k',Rp w W p q L k' dm sm→I W):=fun W k' r=>hI w W k' r hi
 have HL:=hide hL
 have HKK:=hide hk
 have HSo:=hide HSo
 have S0:=hide (Sp.start h)
 obtain ⟨RR,hRR⟩:∃ RR,RR=(brackP so) L k:=⟨_,rfl⟩
 rw [← hRR]
 have Q0:=hide hRR
 clear hRR h hi hk hL hI
 go_enter Tryz.func109,Tryz.ntmps109
 go_wp2_with fail
 refine (pass_lay S0.out.rr HL.out [[40]] (by decide) (by decide) #[.string ⟨#[40]⟩] rfl 9 _ 1 (by first | rfl | simp | simp [World.size_alloc] | simp [World.setCell] | simp [World.setCell,World.size_alloc]) rfl).mono ?_
 rintro e w1 (⟨x1,k1,v,h1,rfl,hv,hr⟩ | ⟨k1,h1,rfl,hr⟩)
 ·obtain rfl:v=.tuple #[]:=hv
  have S1:=hide (S0.out.go hr)
  have Q1:=hide (Q0.out.trans (bind_ok h1))
  clear hr h1
  go_wp2_with fail
  refine (passed_two S1.out.rr HL.out [41] (by decide) ⟨#[41]⟩ rfl).mono ?_
  rintro e w2 (⟨h2,rfl,hr⟩ | ⟨h2,rfl,hr⟩)
  ·have S2:=hide (S1.out.go hr)
   have Q2:=hide (Q1.out.trans (ifP_yes h2))
   clear hr h2 Q1 S1
   have Q3:Hid (RR=.ok ([],(k1+1))):=Q2.out.trans rfl
   have CF:Hid (Sp w _ p q L (k1+1) dm sm [] _):=S2.out
   go_wp2
   have SF:=CF.out
   go_ret
   exact .inl ⟨_,_,_,Q3.out,rfl,ListR.none,SF.rr⟩
  ·have S2:=hide (S1.out.go hr)
   have Q2:=hide (Q1.out.trans (ifP_no h2))
   clear hr h2 Q1 S1
   go_wp2_with fail
   refine (HSo.out _ _ (Nat.zero_le _) S2.out.rr.here (HI.out _ _ S2.out.rr)).mono ?_
   rintro e w3 (⟨x3,k3,v,h3,rfl,hv,hr⟩ | ⟨k3,h3,rfl,hr⟩)
   ·obtain ⟨s3,n3,c3,rfl⟩:=ListR.form hv
    have S3:=hide (S2.out.call (ListR.ok litV_ok mkAgg 3) hr hv)
    have Q3:=hide (Q2.out.trans (bind_ok h3))
    clear hr h3 hv
    go_wp2_with fail
    refine (pass_lay S3.out.rr HL.out [[41]] (by decide) (by decide) #[.string ⟨#[41]⟩] rfl 9 _ 1 (by first | rfl | simp | simp [World.size_alloc] | simp [World.setCell] | simp [World.setCell,World.size_alloc]) rfl).mono ?_
    rintro e w4 (⟨x4,k4,v,h4,rfl,hv,hr⟩ | ⟨k4,h4,rfl,hr⟩)
    ·obtain rfl:v=.tuple #[]:=hv
     have S4:=hide (S3.out.go hr)
     have Q4:=hide (Q3.out.trans (bind_ok h4))
     clear hr h4
     have Q5:Hid (RR=.ok (x3,k4)):=Q4.out.trans rfl
     have XL:Hid (∀ W,((ListR LitV mkAgg 3) W (Bn w W) (.slice s3 n3 c3) x3∧True)→(ListR LitV mkAgg 3) W (Bn w W) (.slice s3 n3 c3) x3):=by
      rintro W ⟨X3,_⟩
      exact X3
     have CF:Hid (Sp w _ p q L k4 dm sm [] _):=S4.out
     go_wp2
     have SF:=CF.out
     go_ret
     exact .inl ⟨_,_,_,Q5.out,rfl,XL.out _ SF.fin,SF.rr⟩
    ·have R4:=hide (S3.out.rr.from hr)
     have Q4:=hide (Q3.out.trans (bind_err h4))
     clear hr h4
     go_wp2
     exact ⟨rfl,.inr ⟨_,Q4.out,rfl,R4.out⟩⟩
   ·have R3:=hide (S2.out.rr.from hr)
    have Q3:=hide (Q2.out.trans (bind_err h3))
    clear hr h3
    go_wp2
    exact ⟨rfl,.inr ⟨_,Q3.out,rfl,R3.out⟩⟩
 ·have R1:=hide (S0.out.rr.from hr)
  have Q1:=hide (Q0.out.trans (bind_err h1))
  clear hr h1
  go_wp2
  exact ⟨rfl,.inr ⟨_,Q1.out,rfl,R1.out⟩⟩
set_option maxRecDepth 100000 in
set_option maxHeartbeats 4000000 in
theorem brack_expr {p q:Nat} {L:List (Wd × Nat)} {dm sm:Value} {I:World→Prop} {so:Pf (List (Ex))} (hL:OkL L) (hI:Stb I p q L dm sm) (HSo:PfI I 120 #[.pointer (some ⟨p,0,none⟩),.func (Fn.func 112) #[.pointer (some ⟨p,0,none⟩)] #[]] p q L dm sm 0 so (ListR ExR mkAgg 10)) :
  PfI I 238 #[.pointer (some ⟨p,0,none⟩),.func (Fn.func 112) #[.pointer (some ⟨p,0,none⟩)] #[]] p q L dm sm 0 (brackP so) (ListR ExR mkAgg 10):=by
 intro w k hk h hi
 have HI:Hid (∀ W k',Rp w W p q L k' dm sm→I W):=fun W k' r=>hI w W k' r hi
 have HL:=hide hL
 have HKK:=hide hk
 have HSo:=hide HSo
 have S0:=hide (Sp.start h)
 obtain ⟨RR,hRR⟩:∃ RR,RR=(brackP so) L k:=⟨_,rfl⟩
 rw [← hRR]
 have Q0:=hide hRR
 clear hRR h hi hk hL hI
 go_enter Tryz.func238,Tryz.ntmps238
 go_wp2_with fail
 refine (pass_lay S0.out.rr HL.out [[40]] (by decide) (by decide) #[.string ⟨#[40]⟩] rfl 9 _ 1 (by first | rfl | simp | simp [World.size_alloc] | simp [World.setCell] | simp [World.setCell,World.size_alloc]) rfl).mono ?_
 rintro e w1 (⟨x1,k1,v,h1,rfl,hv,hr⟩ | ⟨k1,h1,rfl,hr⟩)
 ·obtain rfl:v=.tuple #[]:=hv
  have S1:=hide (S0.out.go hr)
  have Q1:=hide (Q0.out.trans (bind_ok h1))
  clear hr h1
  go_wp2_with fail
  refine (passed_two S1.out.rr HL.out [41] (by decide) ⟨#[41]⟩ rfl).mono ?_
  rintro e w2 (⟨h2,rfl,hr⟩ | ⟨h2,rfl,hr⟩)
  ·have S2:=hide (S1.out.go hr)
   have Q2:=hide (Q1.out.trans (ifP_yes h2))
   clear hr h2 Q1 S1
   have Q3:Hid (RR=.ok ([],(k1+1))):=Q2.out.trans rfl
   have CF:Hid (Sp w _ p q L (k1+1) dm sm [] _):=S2.out
   go_wp2
   have SF:=CF.out
   go_ret
   exact .inl ⟨_,_,_,Q3.out,rfl,ListR.none,SF.rr⟩
  ·have S2:=hide (S1.out.go hr)
   have Q2:=hide (Q1.out.trans (ifP_no h2))
   clear hr h2 Q1 S1
   go_wp2_with fail
   refine (HSo.out _ _ (Nat.zero_le _) S2.out.rr.here (HI.out _ _ S2.out.rr)).mono ?_
   rintro e w3 (⟨x3,k3,v,h3,rfl,hv,hr⟩ | ⟨k3,h3,rfl,hr⟩)
   ·obtain ⟨s3,n3,c3,rfl⟩:=ListR.form hv
    have S3:=hide (S2.out.call (ListR.ok exRep_ok mkAgg 10) hr hv)
    have Q3:=hide (Q2.out.trans (bind_ok h3))
    clear hr h3 hv
    go_wp2_with fail
    refine (pass_lay S3.out.rr HL.out [[41]] (by decide) (by decide) #[.string ⟨#[41]⟩] rfl 9 _ 1 (by first | rfl | simp | simp [World.size_alloc] | simp [World.setCell] | simp [World.setCell,World.size_alloc]) rfl).mono ?_
    rintro e w4 (⟨x4,k4,v,h4,rfl,hv,hr⟩ | ⟨k4,h4,rfl,hr⟩)
    ·obtain rfl:v=.tuple #[]:=hv
     have S4:=hide (S3.out.go hr)
     have Q4:=hide (Q3.out.trans (bind_ok h4))
     clear hr h4
     have Q5:Hid (RR=.ok (x3,k4)):=Q4.out.trans rfl
     have XL:Hid (∀ W,((ListR ExR mkAgg 10) W (Bn w W) (.slice s3 n3 c3) x3∧True)→(ListR ExR mkAgg 10) W (Bn w W) (.slice s3 n3 c3) x3):=by
      rintro W ⟨X3,_⟩
      exact X3
     have CF:Hid (Sp w _ p q L k4 dm sm [] _):=S4.out
     go_wp2
     have SF:=CF.out
     go_ret
     exact .inl ⟨_,_,_,Q5.out,rfl,XL.out _ SF.fin,SF.rr⟩
    ·have R4:=hide (S3.out.rr.from hr)
     have Q4:=hide (Q3.out.trans (bind_err h4))
     clear hr h4
     go_wp2
     exact ⟨rfl,.inr ⟨_,Q4.out,rfl,R4.out⟩⟩
   ·have R3:=hide (S2.out.rr.from hr)
    have Q3:=hide (Q2.out.trans (bind_err h3))
    clear hr h3
    go_wp2
    exact ⟨rfl,.inr ⟨_,Q3.out,rfl,R3.out⟩⟩
 ·have R1:=hide (S0.out.rr.from hr)
  have Q1:=hide (Q0.out.trans (bind_err h1))
  clear hr h1
  go_wp2
  exact ⟨rfl,.inr ⟨_,Q1.out,rfl,R1.out⟩⟩
set_option maxRecDepth 100000 in
set_option maxHeartbeats 4000000 in
theorem ifElse_ok {p q:Nat} {L:List (Wd × Nat)} {dm sm:Value} {I:World→Prop} {k0:Nat} {ex:Pf Ex} {bl:Pf (List Sm)} (hL:OkL L) (hI:Stb I p q L dm sm) (hgo:Goes ex) (hst:Stays bl) (HX:PfI I 112 #[.pointer (some ⟨p,0,none⟩)] p q L dm sm 0 ex (ExR)) (HBl:PfI I 105 #[.pointer (some ⟨p,0,none⟩)] p q L dm sm (k0+1) bl (ListR SmR mkAgg 9)) :
  PfI I 53 #[.pointer (some ⟨p,0,none⟩)] p q L dm sm k0 (ifElseP ex bl) (SmR):=by
 intro w k hk h hi
 have HI:Hid (∀ W k',Rp w W p q L k' dm sm→I W):=fun W k' r=>hI w W k' r hi
 have HL:=hide hL
 have HKK:=hide hk
 have HX:=hide HX
 have HBl:=hide HBl
 have HGE:=hide hgo
 have HST:=hide hst
 clear hgo hst
 have S0:=hide (Sp.start h)
 obtain ⟨RR,hRR⟩:∃ RR,RR=(ifElseP ex bl) L k:=⟨_,rfl⟩
 rw [← hRR]
 have Q0:=hide hRR
 clear hRR h hi hk hL hI
 go_enter Tryz.func53,Tryz.ntmps53
 have C1:Hid (Sp w _ p q L k dm sm [(w.heap.size,.cells #[.int .u8 0,.string ⟨#[]⟩,.string ⟨#[]⟩,.string ⟨#[]⟩,.int .i64 0,.slice none 0 0,.slice none 0 0,.slice none 0 0,.int .i64 0] 72 (0,0))] _):=(S0.out.alloc #[.int .u8 0,.string ⟨#[]⟩,.string ⟨#[]⟩,.string ⟨#[]⟩,.int .i64 0,.slice none 0 0,.slice none 0 0,.slice none 0 0,.int .i64 0] 72 (w.heap.size) rfl)
 go_wp2_with fail
 refine (HX.out _ _ (Nat.zero_le _) C1.out.rr.here (HI.out _ _ C1.out.rr)).mono ?_
 rintro e w1 (⟨x1,k1,v,h1,rfl,hv,hr⟩ | ⟨k1,h1,rfl,hr⟩)
 ·obtain ⟨z1a,z1b,z1c,z1d,z1e,z1f,z1g,z1h,s1i,n1i,c1i,z1j,rfl⟩:=ExR.form hv
  have S1:=hide (C1.out.call exRep_ok hr hv)
  have Q1:=hide (Q0.out.trans (bind_ok h1))
  have G1:Hid (k0+1≤k1):=Nat.lt_of_le_of_lt HKK.out (HGE.out _ _ _ _ h1)
  clear hr h1 hv C1
  have C2:Hid (Sp w _ p q L k1 dm sm [(w1.heap.size+1,.cells #[.int .u8 2,.string ⟨#[]⟩,.string ⟨#[]⟩,.string ⟨#[]⟩,.int .i64 0,.slice (some ⟨w1.heap.size,0,none⟩) 1 1,.slice none 0 0,.slice none 0 0,.int .i64 0] 72 (0,0)),(w1.heap.size,.cells #[.int .u8 z1a,.int .i64 z1b,.int .u64 z1c,.int .u64 z1d,.string z1e,.string z1f,.int .i64 z1g,.int .i64 z1h,.slice s1i n1i c1i,.int .i64 z1j] 49 (0,0)),(w.heap.size,.cells #[.int .u8 0,.string ⟨#[]⟩,.string ⟨#[]⟩,.string ⟨#[]⟩,.int .i64 0,.slice none 0 0,.slice none 0 0,.slice none 0 0,.int .i64 0] 72 (0,0))] _):=((S1.out.alloc #[.int .u8 z1a,.int .i64 z1b,.int .u64 z1c,.int .u64 z1d,.string z1e,.string z1f,.int .i64 z1g,.int .i64 z1h,.slice s1i n1i c1i,.int .i64 z1j] 49 (w1.heap.size) rfl).alloc #[.int .u8 2,.string ⟨#[]⟩,.string ⟨#[]⟩,.string ⟨#[]⟩,.int .i64 0,.slice (some ⟨w1.heap.size,0,none⟩) 1 1,.slice none 0 0,.slice none 0 0,.int .i64 0] 72 (w1.heap.size+1) (by first | rfl | simp | simp [World.size_alloc] | simp [World.setCell] | simp [World.setCell,World.size_alloc]))
  go_wp2_with fail
  refine (HBl.out _ _ (G1.out) C2.out.rr.here (HI.out _ _ C2.out.rr)).mono ?_
  rintro e w2 (⟨x2,k2,v,h2,rfl,hv,hr⟩ | ⟨k2,h2,rfl,hr⟩)
  ·obtain ⟨s2,n2,c2,rfl⟩:=ListR.form hv
   have S2:=hide (C2.out.call (ListR.ok smRep_ok mkAgg 9) hr hv)
   have Q2:=hide (Q1.out.trans (bind_ok h2))
   have G2:Hid (k0+1≤k2):=Nat.le_trans G1.out (HST.out _ _ _ _ h2)
   clear hr h2 hv C2
   have C3:Hid (Sp w _ p q L k2 dm sm [(w1.heap.size+1,.cells #[.int .u8 2,.string ⟨#[]⟩,.string ⟨#[]⟩,.string ⟨#[]⟩,.int .i64 0,.slice (some ⟨w1.heap.size,0,none⟩) 1 1,.slice s2 n2 c2,.slice none 0 0,.int .i64 0] 72 (0,0)),(w1.heap.size,.cells #[.int .u8 z1a,.int .i64 z1b,.int .u64 z1c,.int .u64 z1d,.string z1e,.string z1f,.int .i64 z1g,.int .i64 z1h,.slice s1i n1i c1i,.int .i64 z1j] 49 (0,0)),(w.heap.size,.cells #[.int .u8 0,.string ⟨#[]⟩,.string ⟨#[]⟩,.string ⟨#[]⟩,.int .i64 0,.slice none 0 0,.slice none 0 0,.slice none 0 0,.int .i64 0] 72 (0,0))] _):=(S2.out.set0 6 (.slice s2 n2 c2))
   have gc1:=cellA S2.out.b0 6;have gs1:=softA S2.out.b0 6
   go_wp2_with fail
   refine (passed_two C3.out.rr HL.out [101,108,115,101] (by decide) ⟨#[101,108,115,101]⟩ rfl).mono ?_
   rintro e w3 (⟨h3,rfl,hr⟩ | ⟨h3,rfl,hr⟩)
   ·have S3:=hide (C3.out.go hr)
    have Q3:=hide (Q2.out.trans (ifP_yes h3))
    have G3:Hid (k0+1≤(k2+1)):=Nat.le_succ_of_le G2.out
    clear hr h3 S2 Q2 C3
    go_wp2_with fail
    refine (HBl.out _ _ (G3.out) S3.out.rr.here (HI.out _ _ S3.out.rr)).mono ?_
    rintro e w4 (⟨x4,k4,v,h4,rfl,hv,hr⟩ | ⟨k4,h4,rfl,hr⟩)
    ·obtain ⟨s4,n4,c4,rfl⟩:=ListR.form hv
     have S4:=hide (S3.out.call (ListR.ok smRep_ok mkAgg 9) hr hv)
     have Q4:=hide (Q3.out.trans (bind_ok h4))
     have G4:Hid (k0+1≤k4):=Nat.le_trans G3.out (HST.out _ _ _ _ h4)
     clear hr h4 hv
     have Q5:Hid (RR=.ok (({ sm0 2 with args:=[x1],body:=x2,els:=x4 }:Sm),k4)):=Q4.out.trans rfl
     have XL:Hid (∀ W,((ListR SmR mkAgg 9) W (Bn w W) (.slice s4 n4 c4) x4∧(ListR SmR mkAgg 9) W (Bn w W) (.slice s2 n2 c2) x2∧(ExR) W (Bn w W) (.agg #[.int .u8 z1a,.int .i64 z1b,.int .u64 z1c,.int .u64 z1d,.string z1e,.string z1f,.int .i64 z1g,.int .i64 z1h,.slice s1i n1i c1i,.int .i64 z1j]) x1∧True)→W.heap[w1.heap.size]? = some (.cells #[.int .u8 z1a,.int .i64 z1b,.int .u64 z1c,.int .u64 z1d,.string z1e,.string z1f,.int .i64 z1g,.int .i64 z1h,.slice s1i n1i c1i,.int .i64 z1j] 49 (0,0))→Bn w W (w1.heap.size)→(SmR) W (Bn w W) (.agg #[.int .u8 2,.string ⟨#[]⟩,.string ⟨#[]⟩,.string ⟨#[]⟩,.int .i64 0,.slice (some ⟨w1.heap.size,0,none⟩) 1 1,.slice s2 n2 c2,.slice s4 n4 c4,.int .i64 0]) ({ sm0 2 with args:=[x1],body:=x2,els:=x4 }:Sm)):=by
      rintro W ⟨X4,X2,X1,_⟩ hb0 hx0
      exact SmR.mk (x:=({ sm0 2 with args:=[x1],body:=x2,els:=x4 }:Sm)) (lit1 (mk:=mkAgg) (cs:=[.int .u8 z1a,.int .i64 z1b,.int .u64 z1c,.int .u64 z1d,.string z1e,.string z1f,.int .i64 z1g,.int .i64 z1h,.slice s1i n1i c1i,.int .i64 z1j]) hb0 hx0 rfl X1) X2 X4
     have CF:Hid (Sp w _ p q L k4 dm sm [(w1.heap.size+1,.cells #[.int .u8 2,.string ⟨#[]⟩,.string ⟨#[]⟩,.string ⟨#[]⟩,.int .i64 0,.slice (some ⟨w1.heap.size,0,none⟩) 1 1,.slice s2 n2 c2,.slice s4 n4 c4,.int .i64 0] 72 (0,0)),(w1.heap.size,.cells #[.int .u8 z1a,.int .i64 z1b,.int .u64 z1c,.int .u64 z1d,.string z1e,.string z1f,.int .i64 z1g,.int .i64 z1h,.slice s1i n1i c1i,.int .i64 z1j] 49 (0,0)),(w.heap.size,.cells #[.int .u8 0,.string ⟨#[]⟩,.string ⟨#[]⟩,.string ⟨#[]⟩,.int .i64 0,.slice none 0 0,.slice none 0 0,.slice none 0 0,.int .i64 0] 72 (0,0))] _):=(S4.out.set0 7 (.slice s4 n4 c4))
     have gc2:=cellA S4.out.b0 7;have gs2:=softA S4.out.b0 7
     go_wp2_with (first | (refine wpList_loadA rfl 72 _ rfl _ [.int .u8 2,.string ⟨#[]⟩,.string ⟨#[]⟩,.string ⟨#[]⟩,.int .i64 0,.slice (some ⟨w1.heap.size,0,none⟩) 1 1,.slice s2 n2 c2,.slice s4 n4 c4,.int .i64 0] 72 rfl ag_stmt sz_stmt CF.out.b0 ?_) | (refine wpList_storeA rfl 72 _ _ rfl _ [.int .u8 2,.string ⟨#[]⟩,.string ⟨#[]⟩,.string ⟨#[]⟩,.int .i64 0,.slice (some ⟨w1.heap.size,0,none⟩) 1 1,.slice s2 n2 c2,.slice s4 n4 c4,.int .i64 0] #[.int .u8 0,.string ⟨#[]⟩,.string ⟨#[]⟩,.string ⟨#[]⟩,.int .i64 0,.slice none 0 0,.slice none 0 0,.slice none 0 0,.int .i64 0] 72 rfl rfl sz_stmt CF.out.b2 rfl (by intro u hu;simp at hu;rcases hu with rfl | rfl | rfl | rfl | rfl | rfl | rfl | rfl | rfl <;> rfl) ?_;intro w9 hw9;have HW9:=hide hw9;clear hw9))
     have SF:=CF.out.fill2 [.int .u8 2,.string ⟨#[]⟩,.string ⟨#[]⟩,.string ⟨#[]⟩,.int .i64 0,.slice (some ⟨w1.heap.size,0,none⟩) 1 1,.slice s2 n2 c2,.slice s4 n4 c4,.int .i64 0] rfl
     rw [← HW9.out] at SF
     have HXE:=hide (XL.out _ SF.fin SF.b1 SF.l1)
     have HRR:=hide SF.rr
     have HBB:=SF.b2
     clear SF
     refine bodyPost_ret (v:=.agg #[.int .u8 2,.string ⟨#[]⟩,.string ⟨#[]⟩,.string ⟨#[]⟩,.int .i64 0,.slice (some ⟨w1.heap.size,0,none⟩) 1 1,.slice s2 n2 c2,.slice s4 n4 c4,.int .i64 0]) (res_cell (cs:=[.int .u8 2,.string ⟨#[]⟩,.string ⟨#[]⟩,.string ⟨#[]⟩,.int .i64 0,.slice (some ⟨w1.heap.size,0,none⟩) 1 1,.slice s2 n2 c2,.slice s4 n4 c4,.int .i64 0]) (e:=72) Tryz.results53 rfl ag_stmt sz_stmt HBB) rfl ?_
     exact .inl ⟨({ sm0 2 with args:=[x1],body:=x2,els:=x4 }:Sm),k4,_,Q5.out,rfl,HXE.out,HRR.out⟩
    ·have R4:=hide (S3.out.rr.from hr)
     have Q4:=hide (Q3.out.trans (bind_err h4))
     clear hr h4
     go_wp2
     exact ⟨rfl,.inr ⟨_,Q4.out,rfl,R4.out⟩⟩
   ·have S3:=hide (C3.out.go hr)
    have Q3:=hide (Q2.out.trans (ifP_no h3))
    have G3:Hid (k0+1≤k2):=G2.out
    clear hr h3 S2 Q2 C3
    have Q4:Hid (RR=.ok (({ sm0 2 with args:=[x1],body:=x2 }:Sm),k2)):=Q3.out.trans rfl
    have XL:Hid (∀ W,((ListR SmR mkAgg 9) W (Bn w W) (.slice s2 n2 c2) x2∧(ExR) W (Bn w W) (.agg #[.int .u8 z1a,.int .i64 z1b,.int .u64 z1c,.int .u64 z1d,.string z1e,.string z1f,.int .i64 z1g,.int .i64 z1h,.slice s1i n1i c1i,.int .i64 z1j]) x1∧True)→W.heap[w1.heap.size]? = some (.cells #[.int .u8 z1a,.int .i64 z1b,.int .u64 z1c,.int .u64 z1d,.string z1e,.string z1f,.int .i64 z1g,.int .i64 z1h,.slice s1i n1i c1i,.int .i64 z1j] 49 (0,0))→Bn w W (w1.heap.size)→(SmR) W (Bn w W) (.agg #[.int .u8 2,.string ⟨#[]⟩,.string ⟨#[]⟩,.string ⟨#[]⟩,.int .i64 0,.slice (some ⟨w1.heap.size,0,none⟩) 1 1,.slice s2 n2 c2,.slice none 0 0,.int .i64 0]) ({ sm0 2 with args:=[x1],body:=x2 }:Sm)):=by
     rintro W ⟨X2,X1,_⟩ hb0 hx0
     exact SmR.mk (x:=({ sm0 2 with args:=[x1],body:=x2 }:Sm)) (lit1 (mk:=mkAgg) (cs:=[.int .u8 z1a,.int .i64 z1b,.int .u64 z1c,.int .u64 z1d,.string z1e,.string z1f,.int .i64 z1g,.int .i64 z1h,.slice s1i n1i c1i,.int .i64 z1j]) hb0 hx0 rfl X1) X2 ListR.none
    have CF:Hid (Sp w _ p q L k2 dm sm [(w1.heap.size+1,.cells #[.int .u8 2,.string ⟨#[]⟩,.string ⟨#[]⟩,.string ⟨#[]⟩,.int .i64 0,.slice (some ⟨w1.heap.size,0,none⟩) 1 1,.slice s2 n2 c2,.slice none 0 0,.int .i64 0] 72 (0,0)),(w1.heap.size,.cells #[.int .u8 z1a,.int .i64 z1b,.int .u64 z1c,.int .u64 z1d,.string z1e,.string z1f,.int .i64 z1g,.int .i64 z1h,.slice s1i n1i c1i,.int .i64 z1j] 49 (0,0)),(w.heap.size,.cells #[.int .u8 0,.string ⟨#[]⟩,.string ⟨#[]⟩,.string ⟨#[]⟩,.int .i64 0,.slice none 0 0,.slice none 0 0,.slice none 0 0,.int .i64 0] 72 (0,0))] _):=S3.out
    go_wp2_with (first | (refine wpList_loadA rfl 72 _ rfl _ [.int .u8 2,.string ⟨#[]⟩,.string ⟨#[]⟩,.string ⟨#[]⟩,.int .i64 0,.slice (some ⟨w1.heap.size,0,none⟩) 1 1,.slice s2 n2 c2,.slice none 0 0,.int .i64 0] 72 rfl ag_stmt sz_stmt CF.out.b0 ?_) | (refine wpList_storeA rfl 72 _ _ rfl _ [.int .u8 2,.string ⟨#[]⟩,.string ⟨#[]⟩,.string ⟨#[]⟩,.int .i64 0,.slice (some ⟨w1.heap.size,0,none⟩) 1 1,.slice s2 n2 c2,.slice none 0 0,.int .i64 0] #[.int .u8 0,.string ⟨#[]⟩,.string ⟨#[]⟩,.string ⟨#[]⟩,.int .i64 0,.slice none 0 0,.slice none 0 0,.slice none 0 0,.int .i64 0] 72 rfl rfl sz_stmt CF.out.b2 rfl (by intro u hu;simp at hu;rcases hu with rfl | rfl | rfl | rfl | rfl | rfl | rfl | rfl | rfl <;> rfl) ?_;intro w9 hw9;have HW9:=hide hw9;clear hw9))
    have SF:=CF.out.fill2 [.int .u8 2,.string ⟨#[]⟩,.string ⟨#[]⟩,.string ⟨#[]⟩,.int .i64 0,.slice (some ⟨w1.heap.size,0,none⟩) 1 1,.slice s2 n2 c2,.slice none 0 0,.int .i64 0] rfl
    rw [← HW9.out] at SF
    have HXE:=hide (XL.out _ SF.fin SF.b1 SF.l1)
    have HRR:=hide SF.rr
    have HBB:=SF.b2
    clear SF
    refine bodyPost_ret (v:=.agg #[.int .u8 2,.string ⟨#[]⟩,.string ⟨#[]⟩,.string ⟨#[]⟩,.int .i64 0,.slice (some ⟨w1.heap.size,0,none⟩) 1 1,.slice s2 n2 c2,.slice none 0 0,.int .i64 0]) (res_cell (cs:=[.int .u8 2,.string ⟨#[]⟩,.string ⟨#[]⟩,.string ⟨#[]⟩,.int .i64 0,.slice (some ⟨w1.heap.size,0,none⟩) 1 1,.slice s2 n2 c2,.slice none 0 0,.int .i64 0]) (e:=72) Tryz.results53 rfl ag_stmt sz_stmt HBB) rfl ?_
    exact .inl ⟨({ sm0 2 with args:=[x1],body:=x2 }:Sm),k2,_,Q4.out,rfl,HXE.out,HRR.out⟩
  ·have R2:=hide (C2.out.rr.from hr)
   have Q2:=hide (Q1.out.trans (bind_err h2))
   clear hr h2
   go_wp2
   exact ⟨rfl,.inr ⟨_,Q2.out,rfl,R2.out⟩⟩
 ·have R1:=hide (C1.out.rr.from hr)
  have Q1:=hide (Q0.out.trans (bind_err h1))
  clear hr h1
  go_wp2
  exact ⟨rfl,.inr ⟨_,Q1.out,rfl,R1.out⟩⟩
end Go.Proofs.YtabkimknlifdoaaGreatDoor
