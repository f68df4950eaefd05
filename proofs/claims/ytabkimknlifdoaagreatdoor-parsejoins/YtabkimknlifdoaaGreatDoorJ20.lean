/- Pieces of the proof: PaJb. -/
import Derived.Test.YtabkimknlifdoaaGreatDoorJ14
namespace Go.Proofs.YtabkimknlifdoaaGreatDoor
open Go.RowKit
set_option maxRecDepth 100000 in
set_option maxHeartbeats 4000000 in
theorem parser_ok {p q:Nat} {L:List (Wd × Nat)} {dm sm:Value} {I:World→Prop} {tp:Pf Ts} (hL:OkL L) (hI:Stb I p q L dm sm) (HUt:PfI I 101 #[.pointer (some ⟨p,0,none⟩),.string ⟨#[125]⟩,.func (Fn.func 102) #[.pointer (some ⟨p,0,none⟩)] #[]] p q L dm sm 0 (untilP [125] tp) (ListR StateR mkAgg 6)) :
  PfI I 48 #[.pointer (some ⟨p,0,none⟩)] p q L dm sm 0 (parserP tp) (DeclR):=by
 intro w k hk h hi
 have HI:Hid (∀ W k',Rp w W p q L k' dm sm→I W):=fun W k' r=>hI w W k' r hi
 have HL:=hide hL
 have HKK:=hide hk
 have HUt:=hide HUt
 have S0:=hide (Sp.start h)
 obtain ⟨RR,hRR⟩:∃ RR,RR=(parserP tp) L k:=⟨_,rfl⟩
 rw [← hRR]
 have Q0:=hide hRR
 clear hRR h hi hk hL hI
 go_enter Tryz.func48,Tryz.ntmps48
 have C1:Hid (Sp w _ p q L k dm sm [(w.heap.size,.cells #[.int .u8 0,.string ⟨#[]⟩,.slice none 0 0,.int .i64 0,.int .i64 0,.int .i64 0,.int .i64 0,.slice none 0 0,.slice none 0 0,.slice none 0 0,.string ⟨#[]⟩,.slice none 0 0,.slice none 0 0,.slice none 0 0,.int .i64 0] 69 (0,0))] _):=(S0.out.alloc #[.int .u8 0,.string ⟨#[]⟩,.slice none 0 0,.int .i64 0,.int .i64 0,.int .i64 0,.int .i64 0,.slice none 0 0,.slice none 0 0,.slice none 0 0,.string ⟨#[]⟩,.slice none 0 0,.slice none 0 0,.slice none 0 0,.int .i64 0] 69 (w.heap.size) rfl)
 go_wp2_with fail
 refine (pass_lay C1.out.rr HL.out [[123]] (by decide) (by decide) #[.string ⟨#[123]⟩] rfl 9 _ 1 (by first | rfl | simp | simp [World.size_alloc] | simp [World.setCell] | simp [World.setCell,World.size_alloc]) rfl).mono ?_
 rintro e w1 (⟨x1,k1,v,h1,rfl,hv,hr⟩ | ⟨k1,h1,rfl,hr⟩)
 ·obtain rfl:v=.tuple #[]:=hv
  have S1:=hide (C1.out.go hr)
  have Q1:=hide (Q0.out.trans (bind_ok h1))
  clear hr h1 C1
  go_wp2_with fail
  refine (HUt.out _ _ (Nat.zero_le _) S1.out.rr.here (HI.out _ _ S1.out.rr)).mono ?_
  rintro e w2 (⟨x2,k2,v,h2,rfl,hv,hr⟩ | ⟨k2,h2,rfl,hr⟩)
  ·obtain ⟨s2,n2,c2,rfl⟩:=ListR.form hv
   have S2:=hide (S1.out.call (ListR.ok stateR_ok mkAgg 6) hr hv)
   have Q2:=hide (Q1.out.trans (bind_ok h2))
   clear hr h2 hv
   have Q3:Hid (RR=.ok (({ dc0 6 with states:=x2 }:Dc),k2)):=Q2.out.trans rfl
   have XL:Hid (∀ W,((ListR StateR mkAgg 6) W (Bn w W) (.slice s2 n2 c2) x2∧True)→(DeclR) W (Bn w W) (.agg #[.int .u8 6,.string ⟨#[]⟩,.slice none 0 0,.int .i64 0,.int .i64 0,.int .i64 0,.int .i64 0,.slice s2 n2 c2,.slice none 0 0,.slice none 0 0,.string ⟨#[]⟩,.slice none 0 0,.slice none 0 0,.slice none 0 0,.int .i64 0]) ({ dc0 6 with states:=x2 }:Dc)):=by
    rintro W ⟨X2,_⟩
    exact ⟨_,_,_,_,_,_,_,rfl,⟨ListR.none,X2,ListR.none,ListR.none,ListR.none,ListR.none,ListR.none⟩⟩
   have CF:Hid (Sp w _ p q L k2 dm sm [(w.heap.size,.cells #[.int .u8 0,.string ⟨#[]⟩,.slice none 0 0,.int .i64 0,.int .i64 0,.int .i64 0,.int .i64 0,.slice none 0 0,.slice none 0 0,.slice none 0 0,.string ⟨#[]⟩,.slice none 0 0,.slice none 0 0,.slice none 0 0,.int .i64 0] 69 (0,0))] _):=S2.out
   go_wp2_with (first | (refine wpList_storeA rfl 69 _ _ rfl _ [.int .u8 6,.string ⟨#[]⟩,.slice none 0 0,.int .i64 0,.int .i64 0,.int .i64 0,.int .i64 0,.slice s2 n2 c2,.slice none 0 0,.slice none 0 0,.string ⟨#[]⟩,.slice none 0 0,.slice none 0 0,.slice none 0 0,.int .i64 0] #[.int .u8 0,.string ⟨#[]⟩,.slice none 0 0,.int .i64 0,.int .i64 0,.int .i64 0,.int .i64 0,.slice none 0 0,.slice none 0 0,.slice none 0 0,.string ⟨#[]⟩,.slice none 0 0,.slice none 0 0,.slice none 0 0,.int .i64 0] 69 rfl rfl sz_decl CF.out.b0 rfl (by intro u hu;simp at hu;rcases hu with rfl | rfl | rfl | rfl | rfl | rfl | rfl | rfl | rfl | rfl | rfl | rfl | rfl | rfl | rfl <;> rfl) ?_;intro w9 hw9;have HW9:=hide hw9;clear hw9))
   have SF:=CF.out.fill0 [.int .u8 6,.string ⟨#[]⟩,.slice none 0 0,.int .i64 0,.int .i64 0,.int .i64 0,.int .i64 0,.slice s2 n2 c2,.slice none 0 0,.slice none 0 0,.string ⟨#[]⟩,.slice none 0 0,.slice none 0 0,.slice none 0 0,.int .i64 0] rfl
   rw [← HW9.out] at SF
   have HXE:=hide (XL.out _ SF.fin)
   have HRR:=hide SF.rr
   have HBB:=SF.b0
   clear SF
   refine bodyPost_ret (v:=.agg #[.int .u8 6,.string ⟨#[]⟩,.slice none 0 0,.int .i64 0,.int .i64 0,.int .i64 0,.int .i64 0,.slice s2 n2 c2,.slice none 0 0,.slice none 0 0,.string ⟨#[]⟩,.slice none 0 0,.slice none 0 0,.slice none 0 0,.int .i64 0]) (res_cell (cs:=[.int .u8 6,.string ⟨#[]⟩,.slice none 0 0,.int .i64 0,.int .i64 0,.int .i64 0,.int .i64 0,.slice s2 n2 c2,.slice none 0 0,.slice none 0 0,.string ⟨#[]⟩,.slice none 0 0,.slice none 0 0,.slice none 0 0,.int .i64 0]) (e:=69) Tryz.results48 rfl ag_decl sz_decl HBB) rfl ?_
   exact .inl ⟨({ dc0 6 with states:=x2 }:Dc),k2,_,Q3.out,rfl,HXE.out,HRR.out⟩
  ·have R2:=hide (S1.out.rr.from hr)
   have Q2:=hide (Q1.out.trans (bind_err h2))
   clear hr h2
   go_wp2
   exact ⟨rfl,.inr ⟨_,Q2.out,rfl,R2.out⟩⟩
 ·have R1:=hide (C1.out.rr.from hr)
  have Q1:=hide (Q0.out.trans (bind_err h1))
  clear hr h1
  go_wp2
  exact ⟨rfl,.inr ⟨_,Q1.out,rfl,R1.out⟩⟩
set_option maxRecDepth 100000 in
set_option maxHeartbeats 4000000 in
theorem action_ok {p q:Nat} {L:List (Wd × Nat)} {dm sm:Value} {I:World→Prop} {bf:Pf (List (List UInt8 × Nat))} {bl:Pf (List Sm)} (hL:OkL L) (hI:Stb I p q L dm sm) (HBf:PfI I 103 #[.pointer (some ⟨p,0,none⟩),.func (Fn.func 104) #[.pointer (some ⟨p,0,none⟩)] #[]] p q L dm sm 0 bf (ListR FieldV mkAgg 2)) (HBl:PfI I 105 #[.pointer (some ⟨p,0,none⟩)] p q L dm sm 0 bl (ListR SmR mkAgg 9)) :
  PfI I 49 #[.pointer (some ⟨p,0,none⟩)] p q L dm sm 0 (actionP bf bl) (DeclR):=by
 intro w k hk h hi
 have HI:Hid (∀ W k',Rp w W p q L k' dm sm→I W):=fun W k' r=>hI w W k' r hi
 have HL:=hide hL
 have HKK:=hide hk
 have HNm:=hide (name_i (I:=I) (p:=p) (q:=q) (dm:=dm) (sm:=sm) (k0:=0) hL)
 have HBf:=hide HBf
 have HBl:=hide HBl
 have S0:=hide (Sp.start h)
 obtain ⟨RR,hRR⟩:∃ RR,RR=(actionP bf bl) L k:=⟨_,rfl⟩
 rw [← hRR]
 have Q0:=hide hRR
 clear hRR h hi hk hL hI
 go_enter Tryz.func49,Tryz.ntmps49
 have C1:Hid (Sp w _ p q L k dm sm [(w.heap.size,.cells #[.int .u8 0,.string ⟨#[]⟩,.slice none 0 0,.int .i64 0,.int .i64 0,.int .i64 0,.int .i64 0,.slice none 0 0,.slice none 0 0,.slice none 0 0,.string ⟨#[]⟩,.slice none 0 0,.slice none 0 0,.slice none 0 0,.int .i64 0] 69 (0,0))] _):=(S0.out.alloc #[.int .u8 0,.string ⟨#[]⟩,.slice none 0 0,.int .i64 0,.int .i64 0,.int .i64 0,.int .i64 0,.slice none 0 0,.slice none 0 0,.slice none 0 0,.string ⟨#[]⟩,.slice none 0 0,.slice none 0 0,.slice none 0 0,.int .i64 0] 69 (w.heap.size) rfl)
 go_wp2_with fail
 refine (HNm.out _ _ (Nat.zero_le _) C1.out.rr.here (HI.out _ _ C1.out.rr)).mono ?_
 rintro e w1 (⟨x1,k1,v,h1,rfl,hv,hr⟩ | ⟨k1,h1,rfl,hr⟩)
 ·obtain ⟨t1,rfl⟩:=StrV.form hv
  have S1:=hide (C1.out.call strV_ok hr hv)
  have Q1:=hide (Q0.out.trans (bind_ok h1))
  clear hr h1 hv C1
  have C2:Hid (Sp w _ p q L k1 dm sm [(w1.heap.size,.cells #[.int .u8 7,.string t1,.slice none 0 0,.int .i64 0,.int .i64 0,.int .i64 0,.int .i64 0,.slice none 0 0,.slice none 0 0,.slice none 0 0,.string ⟨#[]⟩,.slice none 0 0,.slice none 0 0,.slice none 0 0,.int .i64 0] 69 (0,0)),(w.heap.size,.cells #[.int .u8 0,.string ⟨#[]⟩,.slice none 0 0,.int .i64 0,.int .i64 0,.int .i64 0,.int .i64 0,.slice none 0 0,.slice none 0 0,.slice none 0 0,.string ⟨#[]⟩,.slice none 0 0,.slice none 0 0,.slice none 0 0,.int .i64 0] 69 (0,0))] _):=(S1.out.alloc #[.int .u8 7,.string t1,.slice none 0 0,.int .i64 0,.int .i64 0,.int .i64 0,.int .i64 0,.slice none 0 0,.slice none 0 0,.slice none 0 0,.string ⟨#[]⟩,.slice none 0 0,.slice none 0 0,.slice none 0 0,.int .i64 0] 69 (w1.heap.size) rfl)
  go_wp2_with fail
  refine (HBf.out _ _ (Nat.zero_le _) C2.out.rr.here (HI.out _ _ C2.out.rr)).mono ?_
  rintro e w2 (⟨x2,k2,v,h2,rfl,hv,hr⟩ | ⟨k2,h2,rfl,hr⟩)
  ·obtain ⟨s2,n2,c2,rfl⟩:=ListR.form hv
   have S2:=hide (C2.out.call (ListR.ok fieldV_ok mkAgg 2) hr hv)
   have Q2:=hide (Q1.out.trans (bind_ok h2))
   clear hr h2 hv C2
   have C3:Hid (Sp w _ p q L k2 dm sm [(w1.heap.size,.cells #[.int .u8 7,.string t1,.slice s2 n2 c2,.int .i64 0,.int .i64 0,.int .i64 0,.int .i64 0,.slice none 0 0,.slice none 0 0,.slice none 0 0,.string ⟨#[]⟩,.slice none 0 0,.slice none 0 0,.slice none 0 0,.int .i64 0] 69 (0,0)),(w.heap.size,.cells #[.int .u8 0,.string ⟨#[]⟩,.slice none 0 0,.int .i64 0,.int .i64 0,.int .i64 0,.int .i64 0,.slice none 0 0,.slice none 0 0,.slice none 0 0,.string ⟨#[]⟩,.slice none 0 0,.slice none 0 0,.slice none 0 0,.int .i64 0] 69 (0,0))] _):=(S2.out.set0 2 (.slice s2 n2 c2))
   have gc1:=cellA S2.out.b0 2;have gs1:=softA S2.out.b0 2
   go_wp2_with fail
   refine (HBl.out _ _ (Nat.zero_le _) C3.out.rr.here (HI.out _ _ C3.out.rr)).mono ?_
   rintro e w3 (⟨x3,k3,v,h3,rfl,hv,hr⟩ | ⟨k3,h3,rfl,hr⟩)
   ·obtain ⟨s3,n3,c3,rfl⟩:=ListR.form hv
    have S3:=hide (C3.out.call (ListR.ok smRep_ok mkAgg 9) hr hv)
    have Q3:=hide (Q2.out.trans (bind_ok h3))
    clear hr h3 hv C3
    have Q4:Hid (RR=.ok (({ dc0 7 with name:=x1,fields:=x2,body:=x3 }:Dc),k3)):=Q3.out.trans rfl
    have XL:Hid (∀ W,((ListR SmR mkAgg 9) W (Bn w W) (.slice s3 n3 c3) x3∧(ListR FieldV mkAgg 2) W (Bn w W) (.slice s2 n2 c2) x2∧(StrV) W (Bn w W) (.string t1) x1∧True)→(DeclR) W (Bn w W) (.agg #[.int .u8 7,.string t1,.slice s2 n2 c2,.int .i64 0,.int .i64 0,.int .i64 0,.int .i64 0,.slice none 0 0,.slice none 0 0,.slice none 0 0,.string ⟨#[]⟩,.slice none 0 0,.slice s3 n3 c3,.slice none 0 0,.int .i64 0]) ({ dc0 7 with name:=x1,fields:=x2,body:=x3 }:Dc)):=by
     rintro W ⟨X3,X2,X1,_⟩
     obtain rfl:=StrV.eq X1
     exact ⟨_,_,_,_,_,_,_,rfl,⟨X2,ListR.none,ListR.none,ListR.none,ListR.none,X3,ListR.none⟩⟩
    have CF:Hid (Sp w _ p q L k3 dm sm [(w1.heap.size,.cells #[.int .u8 7,.string t1,.slice s2 n2 c2,.int .i64 0,.int .i64 0,.int .i64 0,.int .i64 0,.slice none 0 0,.slice none 0 0,.slice none 0 0,.string ⟨#[]⟩,.slice none 0 0,.slice s3 n3 c3,.slice none 0 0,.int .i64 0] 69 (0,0)),(w.heap.size,.cells #[.int .u8 0,.string ⟨#[]⟩,.slice none 0 0,.int .i64 0,.int .i64 0,.int .i64 0,.int .i64 0,.slice none 0 0,.slice none 0 0,.slice none 0 0,.string ⟨#[]⟩,.slice none 0 0,.slice none 0 0,.slice none 0 0,.int .i64 0] 69 (0,0))] _):=(S3.out.set0 12 (.slice s3 n3 c3))
    have gc2:=cellA S3.out.b0 12;have gs2:=softA S3.out.b0 12
    go_wp2_with (first | (refine wpList_loadA rfl 69 _ rfl _ [.int .u8 7,.string t1,.slice s2 n2 c2,.int .i64 0,.int .i64 0,.int .i64 0,.int .i64 0,.slice none 0 0,.slice none 0 0,.slice none 0 0,.string ⟨#[]⟩,.slice none 0 0,.slice s3 n3 c3,.slice none 0 0,.int .i64 0] 69 rfl ag_decl sz_decl CF.out.b0 ?_) | (refine wpList_storeA rfl 69 _ _ rfl _ [.int .u8 7,.string t1,.slice s2 n2 c2,.int .i64 0,.int .i64 0,.int .i64 0,.int .i64 0,.slice none 0 0,.slice none 0 0,.slice none 0 0,.string ⟨#[]⟩,.slice none 0 0,.slice s3 n3 c3,.slice none 0 0,.int .i64 0] #[.int .u8 0,.string ⟨#[]⟩,.slice none 0 0,.int .i64 0,.int .i64 0,.int .i64 0,.int .i64 0,.slice none 0 0,.slice none 0 0,.slice none 0 0,.string ⟨#[]⟩,.slice none 0 0,.slice none 0 0,.slice none 0 0,.int .i64 0] 69 rfl rfl sz_decl CF.out.b1 rfl (by intro u hu;simp at hu;rcases hu with rfl | rfl | rfl | rfl | rfl | rfl | rfl | rfl | rfl | rfl | rfl | rfl | rfl | rfl | rfl <;> rfl) ?_;intro w9 hw9;have HW9:=hide hw9;clear hw9))
    have SF:=CF.out.fill1 [.int .u8 7,.string t1,.slice s2 n2 c2,.int .i64 0,.int .i64 0,.int .i64 0,.int .i64 0,.slice none 0 0,.slice none 0 0,.slice none 0 0,.string ⟨#[]⟩,.slice none 0 0,.slice s3 n3 c3,.slice none 0 0,.int .i64 0] rfl
    rw [← HW9.out] at SF
    have HXE:=hide (XL.out _ SF.fin)
    have HRR:=hide SF.rr
    have HBB:=SF.b1
    clear SF
    refine bodyPost_ret (v:=.agg #[.int .u8 7,.string t1,.slice s2 n2 c2,.int .i64 0,.int .i64 0,.int .i64 0,.int .i64 0,.slice none 0 0,.slice none 0 0,.slice none 0 0,.string ⟨#[]⟩,.slice none 0 0,.slice s3 n3 c3,.slice none 0 0,.int .i64 0]) (res_cell (cs:=[.int .u8 7,.string t1,.slice s2 n2 c2,.int .i64 0,.int .i64 0,.int .i64 0,.int .i64 0,.slice none 0 0,.slice none 0 0,.slice none 0 0,.string ⟨#[]⟩,.slice none 0 0,.slice s3 n3 c3,.slice none 0 0,.int .i64 0]) (e:=69) Tryz.results49 rfl ag_decl sz_decl HBB) rfl ?_
    exact .inl ⟨({ dc0 7 with name:=x1,fields:=x2,body:=x3 }:Dc),k3,_,Q4.out,rfl,HXE.out,HRR.out⟩
   ·have R3:=hide (C3.out.rr.from hr)
    have Q3:=hide (Q2.out.trans (bind_err h3))
    clear hr h3
    go_wp2
    exact ⟨rfl,.inr ⟨_,Q3.out,rfl,R3.out⟩⟩
  ·have R2:=hide (C2.out.rr.from hr)
   have Q2:=hide (Q1.out.trans (bind_err h2))
   clear hr h2
   go_wp2
   exact ⟨rfl,.inr ⟨_,Q2.out,rfl,R2.out⟩⟩
 ·have R1:=hide (C1.out.rr.from hr)
  have Q1:=hide (Q0.out.trans (bind_err h1))
  clear hr h1
  go_wp2
  exact ⟨rfl,.inr ⟨_,Q1.out,rfl,R1.out⟩⟩
set_option maxRecDepth 100000 in
set_option maxHeartbeats 4000000 in
theorem control_ok {p q:Nat} {L:List (Wd × Nat)} {dm sm:Value} {I:World→Prop} {bl:Pf (List Sm)} (hL:OkL L) (hI:Stb I p q L dm sm) (HBl:PfI I 105 #[.pointer (some ⟨p,0,none⟩)] p q L dm sm 0 bl (ListR SmR mkAgg 9)) :
  PfI I 51 #[.pointer (some ⟨p,0,none⟩)] p q L dm sm 0 (controlP bl) (DeclR):=by
 intro w k hk h hi
 have HI:Hid (∀ W k',Rp w W p q L k' dm sm→I W):=fun W k' r=>hI w W k' r hi
 have HL:=hide hL
 have HKK:=hide hk
 have HBl:=hide HBl
 have S0:=hide (Sp.start h)
 obtain ⟨RR,hRR⟩:∃ RR,RR=(controlP bl) L k:=⟨_,rfl⟩
 rw [← hRR]
 have Q0:=hide hRR
 clear hRR h hi hk hL hI
 go_enter Tryz.func51,Tryz.ntmps51
 have C1:Hid (Sp w _ p q L k dm sm [(w.heap.size,.cells #[.int .u8 0,.string ⟨#[]⟩,.slice none 0 0,.int .i64 0,.int .i64 0,.int .i64 0,.int .i64 0,.slice none 0 0,.slice none 0 0,.slice none 0 0,.string ⟨#[]⟩,.slice none 0 0,.slice none 0 0,.slice none 0 0,.int .i64 0] 69 (0,0))] _):=(S0.out.alloc #[.int .u8 0,.string ⟨#[]⟩,.slice none 0 0,.int .i64 0,.int .i64 0,.int .i64 0,.int .i64 0,.slice none 0 0,.slice none 0 0,.slice none 0 0,.string ⟨#[]⟩,.slice none 0 0,.slice none 0 0,.slice none 0 0,.int .i64 0] 69 (w.heap.size) rfl)
 go_wp2_with fail
 refine (HBl.out _ _ (Nat.zero_le _) C1.out.rr.here (HI.out _ _ C1.out.rr)).mono ?_
 rintro e w1 (⟨x1,k1,v,h1,rfl,hv,hr⟩ | ⟨k1,h1,rfl,hr⟩)
 ·obtain ⟨s1,n1,c1,rfl⟩:=ListR.form hv
  have S1:=hide (C1.out.call (ListR.ok smRep_ok mkAgg 9) hr hv)
  have Q1:=hide (Q0.out.trans (bind_ok h1))
  clear hr h1 hv C1
  have Q2:Hid (RR=.ok (({ dc0 9 with body:=x1 }:Dc),k1)):=Q1.out.trans rfl
  have XL:Hid (∀ W,((ListR SmR mkAgg 9) W (Bn w W) (.slice s1 n1 c1) x1∧True)→(DeclR) W (Bn w W) (.agg #[.int .u8 9,.string ⟨#[]⟩,.slice none 0 0,.int .i64 0,.int .i64 0,.int .i64 0,.int .i64 0,.slice none 0 0,.slice none 0 0,.slice none 0 0,.string ⟨#[]⟩,.slice none 0 0,.slice s1 n1 c1,.slice none 0 0,.int .i64 0]) ({ dc0 9 with body:=x1 }:Dc)):=by
   rintro W ⟨X1,_⟩
   exact ⟨_,_,_,_,_,_,_,rfl,⟨ListR.none,ListR.none,ListR.none,ListR.none,ListR.none,X1,ListR.none⟩⟩
  have CF:Hid (Sp w _ p q L k1 dm sm [(w.heap.size,.cells #[.int .u8 0,.string ⟨#[]⟩,.slice none 0 0,.int .i64 0,.int .i64 0,.int .i64 0,.int .i64 0,.slice none 0 0,.slice none 0 0,.slice none 0 0,.string ⟨#[]⟩,.slice none 0 0,.slice none 0 0,.slice none 0 0,.int .i64 0] 69 (0,0))] _):=S1.out
  go_wp2_with (first | (refine wpList_storeA rfl 69 _ _ rfl _ [.int .u8 9,.string ⟨#[]⟩,.slice none 0 0,.int .i64 0,.int .i64 0,.int .i64 0,.int .i64 0,.slice none 0 0,.slice none 0 0,.slice none 0 0,.string ⟨#[]⟩,.slice none 0 0,.slice s1 n1 c1,.slice none 0 0,.int .i64 0] #[.int .u8 0,.string ⟨#[]⟩,.slice none 0 0,.int .i64 0,.int .i64 0,.int .i64 0,.int .i64 0,.slice none 0 0,.slice none 0 0,.slice none 0 0,.string ⟨#[]⟩,.slice none 0 0,.slice none 0 0,.slice none 0 0,.int .i64 0] 69 rfl rfl sz_decl CF.out.b0 rfl (by intro u hu;simp at hu;rcases hu with rfl | rfl | rfl | rfl | rfl | rfl | rfl | rfl | rfl | rfl | rfl | rfl | rfl | rfl | rfl <;> rfl) ?_;intro w9 hw9;have HW9:=hide hw9;clear hw9))
  have SF:=CF.out.fill0 [.int .u8 9,.string ⟨#[]⟩,.slice none 0 0,.int .i64 0,.int .i64 0,.int .i64 0,.int .i64 0,.slice none 0 0,.slice none 0 0,.slice none 0 0,.string ⟨#[]⟩,.slice none 0 0,.slice s1 n1 c1,.slice none 0 0,.int .i64 0] rfl
  rw [← HW9.out] at SF
  have HXE:=hide (XL.out _ SF.fin)
  have HRR:=hide SF.rr
  have HBB:=SF.b0
  clear SF
  refine bodyPost_ret (v:=.agg #[.int .u8 9,.string ⟨#[]⟩,.slice none 0 0,.int .i64 0,.int .i64 0,.int .i64 0,.int .i64 0,.slice none 0 0,.slice none 0 0,.slice none 0 0,.string ⟨#[]⟩,.slice none 0 0,.slice s1 n1 c1,.slice none 0 0,.int .i64 0]) (res_cell (cs:=[.int .u8 9,.string ⟨#[]⟩,.slice none 0 0,.int .i64 0,.int .i64 0,.int .i64 0,.int .i64 0,.slice none 0 0,.slice none 0 0,.slice none 0 0,.string ⟨#[]⟩,.slice none 0 0,.slice s1 n1 c1,.slice none 0 0,.int .i64 0]) (e:=69) Tryz.results51 rfl ag_decl sz_decl HBB) rfl ?_
  exact .inl ⟨({ dc0 9 with body:=x1 }:Dc),k1,_,Q2.out,rfl,HXE.out,HRR.out⟩
 ·have R1:=hide (C1.out.rr.from hr)
  have Q1:=hide (Q0.out.trans (bind_err h1))
  clear hr h1
  go_wp2
  exact ⟨rfl,.inr ⟨_,Q1.out,rfl,R1.out⟩⟩
set_option maxRecDepth 100000 in
set_option maxHeartbeats 4000000 in
theorem deparser_ok {p q:Nat} {L:List (Wd × Nat)} {dm sm:Value} {I:World→Prop} (hL:OkL L) (hI:Stb I p q L dm sm) (HRs:PfI I 111 #[.pointer (some ⟨p,0,none⟩),.string ⟨#[125]⟩,.func (Fn.func 97) #[.pointer (some ⟨p,0,none⟩)] #[]] p q L dm sm 0 (rowsP [125] nameP) (ListR StrV mkOne 1)) :
  PfI I 52 #[.pointer (some ⟨p,0,none⟩)] p q L dm sm 0 deparserP (DeclR):=by
 intro w k hk h hi
 have HI:Hid (∀ W k',Rp w W p q L k' dm sm→I W):=fun W k' r=>hI w W k' r hi
 have HL:=hide hL
 have HKK:=hide hk
 have HRs:=hide HRs
 have S0:=hide (Sp.start h)
 obtain ⟨RR,hRR⟩:∃ RR,RR=deparserP L k:=⟨_,rfl⟩
 rw [← hRR]
 have Q0:=hide hRR
 clear hRR h hi hk hL hI
 go_enter Tryz.func52,Tryz.ntmps52
 have C1:Hid (Sp w _ p q L k dm sm [(w.heap.size,.cells #[.int .u8 0,.string ⟨#[]⟩,.slice none 0 0,.int .i64 0,.int .i64 0,.int .i64 0,.int .i64 0,.slice none 0 0,.slice none 0 0,.slice none 0 0,.string ⟨#[]⟩,.slice none 0 0,.slice none 0 0,.slice none 0 0,.int .i64 0] 69 (0,0))] _):=(S0.out.alloc #[.int .u8 0,.string ⟨#[]⟩,.slice none 0 0,.int .i64 0,.int .i64 0,.int .i64 0,.int .i64 0,.slice none 0 0,.slice none 0 0,.slice none 0 0,.string ⟨#[]⟩,.slice none 0 0,.slice none 0 0,.slice none 0 0,.int .i64 0] 69 (w.heap.size) rfl)
 go_wp2_with fail
 refine (pass_lay C1.out.rr HL.out [[123]] (by decide) (by decide) #[.string ⟨#[123]⟩] rfl 9 _ 1 (by first | rfl | simp | simp [World.size_alloc] | simp [World.setCell] | simp [World.setCell,World.size_alloc]) rfl).mono ?_
 rintro e w1 (⟨x1,k1,v,h1,rfl,hv,hr⟩ | ⟨k1,h1,rfl,hr⟩)
 ·obtain rfl:v=.tuple #[]:=hv
  have S1:=hide (C1.out.go hr)
  have Q1:=hide (Q0.out.trans (bind_ok h1))
  clear hr h1 C1
  go_wp2_with fail
  refine (HRs.out _ _ (Nat.zero_le _) S1.out.rr.here (HI.out _ _ S1.out.rr)).mono ?_
  rintro e w2 (⟨x2,k2,v,h2,rfl,hv,hr⟩ | ⟨k2,h2,rfl,hr⟩)
  ·obtain ⟨s2,n2,c2,rfl⟩:=ListR.form hv
   have S2:=hide (S1.out.call (ListR.ok strV_ok mkOne 1) hr hv)
   have Q2:=hide (Q1.out.trans (bind_ok h2))
   clear hr h2 hv
   have Q3:Hid (RR=.ok (({ dc0 10 with emits:=x2 }:Dc),k2)):=Q2.out.trans rfl
   have XL:Hid (∀ W,((ListR StrV mkOne 1) W (Bn w W) (.slice s2 n2 c2) x2∧True)→(DeclR) W (Bn w W) (.agg #[.int .u8 10,.string ⟨#[]⟩,.slice none 0 0,.int .i64 0,.int .i64 0,.int .i64 0,.int .i64 0,.slice none 0 0,.slice none 0 0,.slice none 0 0,.string ⟨#[]⟩,.slice none 0 0,.slice none 0 0,.slice s2 n2 c2,.int .i64 0]) ({ dc0 10 with emits:=x2 }:Dc)):=by
    rintro W ⟨X2,_⟩
    exact ⟨_,_,_,_,_,_,_,rfl,⟨ListR.none,ListR.none,ListR.none,ListR.none,ListR.none,ListR.none,X2⟩⟩
   have CF:Hid (Sp w _ p q L k2 dm sm [(w.heap.size,.cells #[.int .u8 0,.string ⟨#[]⟩,.slice none 0 0,.int .i64 0,.int .i64 0,.int .i64 0,.int .i64 0,.slice none 0 0,.slice none 0 0,.slice none 0 0,.string ⟨#[]⟩,.slice none 0 0,.slice none 0 0,.slice none 0 0,.int .i64 0] 69 (0,0))] _):=S2.out
   go_wp2_with (first | (refine wpList_storeA rfl 69 _ _ rfl _ [.int .u8 10,.string ⟨#[]⟩,.slice none 0 0,.int .i64 0,.int .i64 0,.int .i64 0,.int .i64 0,.slice none 0 0,.slice none 0 0,.slice none 0 0,.string ⟨#[]⟩,.slice none 0 0,.slice none 0 0,.slice s2 n2 c2,.int .i64 0] #[.int .u8 0,.string ⟨#[]⟩,.slice none 0 0,.int .i64 0,.int .i64 0,.int .i64 0,.int .i64 0,.slice none 0 0,.slice none 0 0,.slice none 0 0,.string ⟨#[]⟩,.slice none 0 0,.slice none 0 0,.slice none 0 0,.int .i64 0] 69 rfl rfl sz_decl CF.out.b0 rfl (by intro u hu;simp at hu;rcases hu with rfl | rfl | rfl | rfl | rfl | rfl | rfl | rfl | rfl | rfl | rfl | rfl | rfl | rfl | rfl <;> rfl) ?_;intro w9 hw9;have HW9:=hide hw9;clear hw9))
   have SF:=CF.out.fill0 [.int .u8 10,.string ⟨#[]⟩,.slice none 0 0,.int .i64 0,.int .i64 0,.int .i64 0,.int .i64 0,.slice none 0 0,.slice none 0 0,.slice none 0 0,.string ⟨#[]⟩,.slice none 0 0,.slice none 0 0,.slice s2 n2 c2,.int .i64 0] rfl
   rw [← HW9.out] at SF
   have HXE:=hide (XL.out _ SF.fin)
   have HRR:=hide SF.rr
   have HBB:=SF.b0
   clear SF
   refine bodyPost_ret (v:=.agg #[.int .u8 10,.string ⟨#[]⟩,.slice none 0 0,.int .i64 0,.int .i64 0,.int .i64 0,.int .i64 0,.slice none 0 0,.slice none 0 0,.slice none 0 0,.string ⟨#[]⟩,.slice none 0 0,.slice none 0 0,.slice s2 n2 c2,.int .i64 0]) (res_cell (cs:=[.int .u8 10,.string ⟨#[]⟩,.slice none 0 0,.int .i64 0,.int .i64 0,.int .i64 0,.int .i64 0,.slice none 0 0,.slice none 0 0,.slice none 0 0,.string ⟨#[]⟩,.slice none 0 0,.slice none 0 0,.slice s2 n2 c2,.int .i64 0]) (e:=69) Tryz.results52 rfl ag_decl sz_decl HBB) rfl ?_
   exact .inl ⟨({ dc0 10 with emits:=x2 }:Dc),k2,_,Q3.out,rfl,HXE.out,HRR.out⟩
  ·have R2:=hide (S1.out.rr.from hr)
   have Q2:=hide (Q1.out.trans (bind_err h2))
   clear hr h2
   go_wp2
   exact ⟨rfl,.inr ⟨_,Q2.out,rfl,R2.out⟩⟩
 ·have R1:=hide (C1.out.rr.from hr)
  have Q1:=hide (Q0.out.trans (bind_err h1))
  clear hr h1
  go_wp2
  exact ⟨rfl,.inr ⟨_,Q1.out,rfl,R1.out⟩⟩
set_option maxRecDepth 100000 in
set_option maxHeartbeats 4000000 in
theorem kind_ok {p q:Nat} {L:List (Wd × Nat)} {dm sm:Value} {I:World→Prop} (hL:OkL L) (hI:Stb I p q L dm sm) :
  PfI I 164 #[.pointer (some ⟨p,0,none⟩)] p q L dm sm 0 kkP (KindV):=by
 intro w k hk h hi
 have HI:Hid (∀ W k',Rp w W p q L k' dm sm→I W):=fun W k' r=>hI w W k' r hi
 have HL:=hide hL
 have HKK:=hide hk
 have S0:=hide (Sp.start h)
 obtain ⟨RR,hRR⟩:∃ RR,RR=kkP L k:=⟨_,rfl⟩
 rw [← hRR]
 have Q0:=hide hRR
 clear hRR h hi hk hL hI
 go_enter Tryz.func164,Tryz.ntmps164
 go_wp2_with fail
 refine (passed_two S0.out.rr HL.out [101,120,97,99,116] (by decide) ⟨#[101,120,97,99,116]⟩ rfl).mono ?_
 rintro e w1 (⟨h1,rfl,hr⟩ | ⟨h1,rfl,hr⟩)
 ·have S1:=hide (S0.out.go hr)
  have Q1:=hide (Q0.out.trans (ifP_yes h1))
  clear hr h1 Q0 S0
  have Q2:Hid (RR=.ok (1,(k+1))):=Q1.out.trans rfl
  have CF:Hid (Sp w _ p q L (k+1) dm sm [] _):=S1.out
  go_wp2
  have SF:=CF.out
  go_ret
  exact .inl ⟨_,_,_,Q2.out,rfl,rfl,SF.rr⟩
 ·have S1:=hide (S0.out.go hr)
  have Q1:=hide (Q0.out.trans (ifP_no h1))
  clear hr h1 Q0 S0
  go_wp2_with fail
  refine (passed_two S1.out.rr HL.out [112,114,101,102,105,120] (by decide) ⟨#[112,114,101,102,105,120]⟩ rfl).mono ?_
  rintro e w2 (⟨h2,rfl,hr⟩ | ⟨h2,rfl,hr⟩)
  ·have S2:=hide (S1.out.go hr)
   have Q2:=hide (Q1.out.trans (ifP_yes h2))
   clear hr h2 Q1 S1
   have Q3:Hid (RR=.ok (2,(k+1))):=Q2.out.trans rfl
   have CF:Hid (Sp w _ p q L (k+1) dm sm [] _):=S2.out
   go_wp2
   have SF:=CF.out
   go_ret
   exact .inl ⟨_,_,_,Q3.out,rfl,rfl,SF.rr⟩
  ·have S2:=hide (S1.out.go hr)
   have Q2:=hide (Q1.out.trans (ifP_no h2))
   clear hr h2 Q1 S1
   go_wp2_with fail
   refine (passed_two S2.out.rr HL.out [109,97,115,107] (by decide) ⟨#[109,97,115,107]⟩ rfl).mono ?_
   rintro e w3 (⟨h3,rfl,hr⟩ | ⟨h3,rfl,hr⟩)
   ·have S3:=hide (S2.out.go hr)
    have Q3:=hide (Q2.out.trans (ifP_yes h3))
    clear hr h3 S2 Q2
    have Q4:Hid (RR=.ok (3,(k+1))):=Q3.out.trans rfl
    have CF:Hid (Sp w _ p q L (k+1) dm sm [] _):=S3.out
    go_wp2
    have SF:=CF.out
    go_ret
    exact .inl ⟨_,_,_,Q4.out,rfl,rfl,SF.rr⟩
   ·have S3:=hide (S2.out.go hr)
    have Q3:=hide (Q2.out.trans (ifP_no h3))
    clear hr h3 S2 Q2
    go_wp2_with fail
    refine (pass_lay S3.out.rr HL.out [[114,97,110,103,101]] (by decide) (by decide) #[.string ⟨#[114,97,110,103,101]⟩] rfl 9 _ 1 (by first | rfl | simp | simp [World.size_alloc] | simp [World.setCell] | simp [World.setCell,World.size_alloc]) rfl).mono ?_
    rintro e w4 (⟨x4,k4,v,h4,rfl,hv,hr⟩ | ⟨k4,h4,rfl,hr⟩)
    ·obtain rfl:v=.tuple #[]:=hv
     have S4:=hide (S3.out.go hr)
     have Q4:=hide (Q3.out.trans (bind_ok h4))
     clear hr h4
     have Q5:Hid (RR=.ok (4,k4)):=Q4.out.trans rfl
     have CF:Hid (Sp w _ p q L k4 dm sm [] _):=S4.out
     go_wp2
     have SF:=CF.out
     go_ret
     exact .inl ⟨_,_,_,Q5.out,rfl,rfl,SF.rr⟩
    ·have R4:=hide (S3.out.rr.from hr)
     have Q4:=hide (Q3.out.trans (bind_err h4))
     clear hr h4
     go_wp2
     exact ⟨rfl,.inr ⟨_,Q4.out,rfl,R4.out⟩⟩
set_option maxRecDepth 100000 in
set_option maxHeartbeats 4000000 in
theorem key_ok {p q:Nat} {L:List (Wd × Nat)} {dm sm:Value} {I:World→Prop} {ex:Pf Ex} (hL:OkL L) (hI:Stb I p q L dm sm) (HX:PfI I 112 #[.pointer (some ⟨p,0,none⟩)] p q L dm sm 0 ex (ExR)) (HKi:PfI I 164 #[.pointer (some ⟨p,0,none⟩)] p q L dm sm 0 kkP (KindV)) :
  PfI I 107 #[.pointer (some ⟨p,0,none⟩)] p q L dm sm 0 (keyP ex) (KeyR):=by
 intro w k hk h hi
 have HI:Hid (∀ W k',Rp w W p q L k' dm sm→I W):=fun W k' r=>hI w W k' r hi
 have HL:=hide hL
 have HKK:=hide hk
 have HX:=hide HX
 have HKi:=hide HKi
 have S0:=hide (Sp.start h)
 obtain ⟨RR,hRR⟩:∃ RR,RR=(keyP ex) L k:=⟨_,rfl⟩
 rw [← hRR]
 have Q0:=hide hRR
 clear hRR h hi hk hL hI
 go_enter Tryz.func107,Tryz.ntmps107
 have C1:Hid (Sp w _ p q L k dm sm [(w.heap.size,.cells #[.int .u8 0,.int .i64 0,.int .u64 0,.int .u64 0,.string ⟨#[]⟩,.string ⟨#[]⟩,.int .i64 0,.int .i64 0,.slice none 0 0,.int .i64 0,.int .u8 0] 85 (0,0))] _):=(S0.out.alloc #[.int .u8 0,.int .i64 0,.int .u64 0,.int .u64 0,.string ⟨#[]⟩,.string ⟨#[]⟩,.int .i64 0,.int .i64 0,.slice none 0 0,.int .i64 0,.int .u8 0] 85 (w.heap.size) rfl)
 go_wp2_with fail
 refine (HX.out _ _ (Nat.zero_le _) C1.out.rr.here (HI.out _ _ C1.out.rr)).mono ?_
 rintro e w1 (⟨x1,k1,v,h1,rfl,hv,hr⟩ | ⟨k1,h1,rfl,hr⟩)
 ·obtain ⟨z1a,z1b,z1c,z1d,z1e,z1f,z1g,z1h,s1i,n1i,c1i,z1j,rfl⟩:=ExR.form hv
  have S1:=hide (C1.out.call exRep_ok hr hv)
  have Q1:=hide (Q0.out.trans (bind_ok h1))
  clear hr h1 hv C1
  have CD1:Hid (Sp w _ p q L k1 dm sm [(w1.heap.size,.cells #[.int .u8 z1a,.int .i64 z1b,.int .u64 z1c,.int .u64 z1d,.string z1e,.string z1f,.int .i64 z1g,.int .i64 z1h,.slice s1i n1i c1i,.int .i64 z1j] 49 (0,0)),(w.heap.size,.cells #[.int .u8 0,.int .i64 0,.int .u64 0,.int .u64 0,.string ⟨#[]⟩,.string ⟨#[]⟩,.int .i64 0,.int .i64 0,.slice none 0 0,.int .i64 0,.int .u8 0] 85 (0,0))] _):=(S1.out.alloc #[.int .u8 z1a,.int .i64 z1b,.int .u64 z1c,.int .u64 z1d,.string z1e,.string z1f,.int .i64 z1g,.int .i64 z1h,.slice s1i n1i c1i,.int .i64 z1j] 49 (w1.heap.size) rfl)
  go_wp2
  refine wp_region_any (by kernel_rfl) ?_
  change wpAny _ _ _ _ _ _ _ (World.drew _)
  have D1:=hide CD1.out.drew
  refine wpAny_take (i:=1) (v:=?_) rfl (by kernel_rfl) (by kernel_rfl) (by kernel_rfl) (fun _ _ _ h=>h) (Or.inl ⟨by rfl,?_⟩) ?_
  rotate_left
  ·(intro w;go_simp;try (with_reducible rfl))
  refine wpAny_ready (rs:=[0,2]) (by kernel_rfl) (by simp) ?_
  refine AllReady.cons rfl (fun K hK=>?_) ?_
  ·refine step_loadA rfl 49 _ rfl _ [.int .u8 z1a,.int .i64 z1b,.int .u64 z1c,.int .u64 z1d,.string z1e,.string z1f,.int .i64 z1g,.int .i64 z1h,.slice s1i n1i c1i,.int .i64 z1j] 49 rfl ag_expr sz_expr D1.out.b0 ?_
   refine hK _ _ ?_;clear hK K
   refine wpAny_ready (rs:=[2]) (by kernel_rfl) (by simp) ?_
   refine AllReady.cons rfl (fun K hK=>?_) ?_
   ·go_simp
    refine (HKi.out _ _ (Nat.zero_le _) D1.out.rr.here (HI.out _ _ D1.out.rr)).mono ?_
    rintro e w2 (⟨x2,k2,v,h2,rfl,hv,hr⟩ | ⟨k2,h2,rfl,hr⟩)
    ·obtain ⟨i2,rfl⟩:=KindV.form hv
     have S2:=hide (D1.out.call kindV_ok hr hv)
     have Q2:=hide (Q1.out.trans (bind_ok h2))
     clear hr h2 hv
     refine hK _ _ ?_;clear hK K
     refine wpAny_take (i:=3) (v:=?_) rfl (by kernel_rfl) (by kernel_rfl) (by kernel_rfl) (fun _ _ _ h=>h) (Or.inl ⟨by rfl,?_⟩) ?_
     rotate_left
     ·(intro w;go_simp;try (with_reducible rfl))
     refine wpAny_ready (rs:=[4]) (by kernel_rfl) (by simp) ?_
     refine AllReady.cons rfl (fun K hK=>?_) ?_
     ·refine step_storeA rfl 85 _ _ rfl _ [.int .u8 z1a,.int .i64 z1b,.int .u64 z1c,.int .u64 z1d,.string z1e,.string z1f,.int .i64 z1g,.int .i64 z1h,.slice s1i n1i c1i,.int .i64 z1j,.int .u8 i2] #[.int .u8 0,.int .i64 0,.int .u64 0,.int .u64 0,.string ⟨#[]⟩,.string ⟨#[]⟩,.int .i64 0,.int .i64 0,.slice none 0 0,.int .i64 0,.int .u8 0] 85 rfl rfl sz_key S2.out.b1 rfl (by intro u hu;simp at hu;rcases hu with rfl | rfl | rfl | rfl | rfl | rfl | rfl | rfl | rfl | rfl | rfl <;> rfl) ?_;intro w9 hw9
      have S9:=S2.out.fill1 [.int .u8 z1a,.int .i64 z1b,.int .u64 z1c,.int .u64 z1d,.string z1e,.string z1f,.int .i64 z1g,.int .i64 z1h,.slice s1i n1i c1i,.int .i64 z1j,.int .u8 i2] rfl
      rw [← hw9] at S9
      have S9:=hide S9
      clear hw9
      refine hK _ _ ?_;clear hK K
      refine wpAny_done (by kernel_rfl) ?_ _
      have Q3:Hid (RR=.ok ((x1,x2),k2)):=Q2.out.trans rfl
      have XL:Hid (∀ W,((KindV) W (Bn w W) (.int .u8 i2) x2∧(ExR) W (Bn w W) (.agg #[.int .u8 z1a,.int .i64 z1b,.int .u64 z1c,.int .u64 z1d,.string z1e,.string z1f,.int .i64 z1g,.int .i64 z1h,.slice s1i n1i c1i,.int .i64 z1j]) x1∧True)→(KeyR) W (Bn w W) (.agg #[.int .u8 z1a,.int .i64 z1b,.int .u64 z1c,.int .u64 z1d,.string z1e,.string z1f,.int .i64 z1g,.int .i64 z1h,.slice s1i n1i c1i,.int .i64 z1j,.int .u8 i2]) (x1,x2)):=by
       rintro W ⟨X2,X1,_⟩
       obtain rfl:=KindV.eq X2
       exact ⟨_,_,_,_,_,_,_,_,_,_,X1,rfl⟩
      go_wp2
      have SF:=S9.out
      have HXE:=hide (XL.out _ SF.fin)
      have HRR:=hide SF.rr
      have HBB:=SF.b1
      clear SF
      refine bodyPost_ret (v:=.agg #[.int .u8 z1a,.int .i64 z1b,.int .u64 z1c,.int .u64 z1d,.string z1e,.string z1f,.int .i64 z1g,.int .i64 z1h,.slice s1i n1i c1i,.int .i64 z1j,.int .u8 i2]) (res_cell (cs:=[.int .u8 z1a,.int .i64 z1b,.int .u64 z1c,.int .u64 z1d,.string z1e,.string z1f,.int .i64 z1g,.int .i64 z1h,.slice s1i n1i c1i,.int .i64 z1j,.int .u8 i2]) (e:=85) Tryz.results107 rfl ag_key sz_key HBB) rfl ?_
      exact .inl ⟨(x1,x2),k2,_,Q3.out,rfl,HXE.out,HRR.out⟩
     exact AllReady.nil
    ·have R2:=hide (D1.out.rr.from hr)
     have Q2:=hide (Q1.out.trans (bind_err h2))
     clear hr h2
     exact ⟨rfl,.inr ⟨_,Q2.out,rfl,R2.out⟩⟩
   exact AllReady.nil
  refine AllReady.cons rfl (fun K hK=>?_) ?_
  ·go_simp
   refine (HKi.out _ _ (Nat.zero_le _) D1.out.rr.here (HI.out _ _ D1.out.rr)).mono ?_
   rintro e w2 (⟨x2,k2,v,h2,rfl,hv,hr⟩ | ⟨k2,h2,rfl,hr⟩)
   ·obtain ⟨i2,rfl⟩:=KindV.form hv
    have S2:=hide (D1.out.call kindV_ok hr hv)
    have Q2:=hide (Q1.out.trans (bind_ok h2))
    clear hr h2 hv
    refine hK _ _ ?_;clear hK K
    refine wpAny_ready (rs:=[0]) (by kernel_rfl) (by simp) ?_
    refine AllReady.cons rfl (fun K hK=>?_) ?_
    ·refine step_loadA rfl 49 _ rfl _ [.int .u8 z1a,.int .i64 z1b,.int .u64 z1c,.int .u64 z1d,.string z1e,.string z1f,.int .i64 z1g,.int .i64 z1h,.slice s1i n1i c1i,.int .i64 z1j] 49 rfl ag_expr sz_expr S2.out.b0 ?_
     refine hK _ _ ?_;clear hK K
     refine wpAny_take (i:=3) (v:=?_) rfl (by kernel_rfl) (by kernel_rfl) (by kernel_rfl) (fun _ _ _ h=>h) (Or.inl ⟨by rfl,?_⟩) ?_
     rotate_left
     ·(intro w;go_simp;try (with_reducible rfl))
     refine wpAny_ready (rs:=[4]) (by kernel_rfl) (by simp) ?_
     refine AllReady.cons rfl (fun K hK=>?_) ?_
     ·refine step_storeA rfl 85 _ _ rfl _ [.int .u8 z1a,.int .i64 z1b,.int .u64 z1c,.int .u64 z1d,.string z1e,.string z1f,.int .i64 z1g,.int .i64 z1h,.slice s1i n1i c1i,.int .i64 z1j,.int .u8 i2] #[.int .u8 0,.int .i64 0,.int .u64 0,.int .u64 0,.string ⟨#[]⟩,.string ⟨#[]⟩,.int .i64 0,.int .i64 0,.slice none 0 0,.int .i64 0,.int .u8 0] 85 rfl rfl sz_key S2.out.b1 rfl (by intro u hu;simp at hu;rcases hu with rfl | rfl | rfl | rfl | rfl | rfl | rfl | rfl | rfl | rfl | rfl <;> rfl) ?_;intro w9 hw9
      have S9:=S2.out.fill1 [.int .u8 z1a,.int .i64 z1b,.int .u64 z1c,.int .u64 z1d,.string z1e,.string z1f,.int .i64 z1g,.int .i64 z1h,.slice s1i n1i c1i,.int .i64 z1j,.int .u8 i2] rfl
      rw [← hw9] at S9
      have S9:=hide S9
      clear hw9
      refine hK _ _ ?_;clear hK K
      refine wpAny_done (by kernel_rfl) ?_ _
      have Q3:Hid (RR=.ok ((x1,x2),k2)):=Q2.out.trans rfl
      have XL:Hid (∀ W,((KindV) W (Bn w W) (.int .u8 i2) x2∧(ExR) W (Bn w W) (.agg #[.int .u8 z1a,.int .i64 z1b,.int .u64 z1c,.int .u64 z1d,.string z1e,.string z1f,.int .i64 z1g,.int .i64 z1h,.slice s1i n1i c1i,.int .i64 z1j]) x1∧True)→(KeyR) W (Bn w W) (.agg #[.int .u8 z1a,.int .i64 z1b,.int .u64 z1c,.int .u64 z1d,.string z1e,.string z1f,.int .i64 z1g,.int .i64 z1h,.slice s1i n1i c1i,.int .i64 z1j,.int .u8 i2]) (x1,x2)):=by
       rintro W ⟨X2,X1,_⟩
       obtain rfl:=KindV.eq X2
       exact ⟨_,_,_,_,_,_,_,_,_,_,X1,rfl⟩
      go_wp2
      have SF:=S9.out
      have HXE:=hide (XL.out _ SF.fin)
      have HRR:=hide SF.rr
      have HBB:=SF.b1
      clear SF
      refine bodyPost_ret (v:=.agg #[.int .u8 z1a,.int .i64 z1b,.int .u64 z1c,.int .u64 z1d,.string z1e,.string z1f,.int .i64 z1g,.int .i64 z1h,.slice s1i n1i c1i,.int .i64 z1j,.int .u8 i2]) (res_cell (cs:=[.int .u8 z1a,.int .i64 z1b,.int .u64 z1c,.int .u64 z1d,.string z1e,.string z1f,.int .i64 z1g,.int .i64 z1h,.slice s1i n1i c1i,.int .i64 z1j,.int .u8 i2]) (e:=85) Tryz.results107 rfl ag_key sz_key HBB) rfl ?_
      exact .inl ⟨(x1,x2),k2,_,Q3.out,rfl,HXE.out,HRR.out⟩
     exact AllReady.nil
    exact AllReady.nil
   ·have R2:=hide (D1.out.rr.from hr)
    have Q2:=hide (Q1.out.trans (bind_err h2))
    clear hr h2
    exact ⟨rfl,.inr ⟨_,Q2.out,rfl,R2.out⟩⟩
  exact AllReady.nil
 ·have R1:=hide (C1.out.rr.from hr)
  have Q1:=hide (Q0.out.trans (bind_err h1))
  clear hr h1
  go_wp2
  exact ⟨rfl,.inr ⟨_,Q1.out,rfl,R1.out⟩⟩
end Go.Proofs.YtabkimknlifdoaaGreatDoor
