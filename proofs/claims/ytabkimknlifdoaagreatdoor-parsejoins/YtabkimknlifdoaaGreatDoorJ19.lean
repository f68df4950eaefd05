/- Pieces of the proof: PaJa. -/
import Derived.Test.YtabkimknlifdoaaGreatDoorJ14
namespace Go.Proofs.YtabkimknlifdoaaGreatDoor
open Go.RowKit
set_option maxRecDepth 100000 in
set_option maxHeartbeats 4000000 in
theorem fields_ok {p q:Nat} {L:List (Wd × Nat)} {dm sm:Value} {I:World→Prop} (hL:OkL L) (hI:Stb I p q L dm sm) (HRw:PfI I 154 #[.pointer (some ⟨p,0,none⟩),.string ⟨#[125]⟩,.func (Fn.func 104) #[.pointer (some ⟨p,0,none⟩)] #[]] p q L dm sm 0 (rowsP [125] fieldP) (ListR FieldV mkAgg 2)) :
  PfI I 98 #[.pointer (some ⟨p,0,none⟩)] p q L dm sm 0 fieldsP (ListR FieldV mkAgg 2):=by
 intro w k hk h hi
 have HI:Hid (∀ W k',Rp w W p q L k' dm sm→I W):=fun W k' r=>hI w W k' r hi
 have HL:=hide hL
 have HKK:=hide hk
 have HRw:=hide HRw
 have S0:=hide (Sp.start h)
 obtain ⟨RR,hRR⟩:∃ RR,RR=fieldsP L k:=⟨_,rfl⟩
 rw [← hRR]
 have Q0:=hide hRR
 clear hRR h hi hk hL hI
 go_enter Tryz.func98,Tryz.ntmps98
 go_wp2_with fail
 refine (pass_lay S0.out.rr HL.out [[123]] (by decide) (by decide) #[.string ⟨#[123]⟩] rfl 9 _ 1 (by first | rfl | simp | simp [World.size_alloc] | simp [World.setCell] | simp [World.setCell,World.size_alloc]) rfl).mono ?_
 rintro e w1 (⟨x1,k1,v,h1,rfl,hv,hr⟩ | ⟨k1,h1,rfl,hr⟩)
 ·obtain rfl:v=.tuple #[]:=hv
  have S1:=hide (S0.out.go hr)
  have Q1:=hide (Q0.out.trans (bind_ok h1))
  clear hr h1
  go_wp2_with fail
  refine (HRw.out _ _ (Nat.zero_le _) S1.out.rr.here (HI.out _ _ S1.out.rr)).mono ?_
  rintro e w2 (⟨x2,k2,v,h2,rfl,hv,hr⟩ | ⟨k2,h2,rfl,hr⟩)
  ·obtain ⟨s2,n2,c2,rfl⟩:=ListR.form hv
   have S2:=hide (S1.out.call (ListR.ok fieldV_ok mkAgg 2) hr hv)
   have Q2:=hide (Q1.out.trans (bind_ok h2))
   clear hr h2 hv
   have Q3:Hid (RR=.ok (x2,k2)):=Q2.out.trans rfl
   have XL:Hid (∀ W,((ListR FieldV mkAgg 2) W (Bn w W) (.slice s2 n2 c2) x2∧True)→(ListR FieldV mkAgg 2) W (Bn w W) (.slice s2 n2 c2) x2):=by
    rintro W ⟨X2,_⟩
    exact X2
   have CF:Hid (Sp w _ p q L k2 dm sm [] _):=S2.out
   go_wp2
   have SF:=CF.out
   go_ret
   exact .inl ⟨_,_,_,Q3.out,rfl,XL.out _ SF.fin,SF.rr⟩
  ·have R2:=hide (S1.out.rr.from hr)
   have Q2:=hide (Q1.out.trans (bind_err h2))
   clear hr h2
   go_wp2
   exact ⟨rfl,.inr ⟨_,Q2.out,rfl,R2.out⟩⟩
 ·have R1:=hide (S0.out.rr.from hr)
  have Q1:=hide (Q0.out.trans (bind_err h1))
  clear hr h1
  go_wp2
  exact ⟨rfl,.inr ⟨_,Q1.out,rfl,R1.out⟩⟩
set_option maxRecDepth 100000 in
set_option maxHeartbeats 4000000 in
theorem header_ok {p q:Nat} {L:List (Wd × Nat)} {dm sm:Value} {I:World→Prop} (hL:OkL L) (hI:Stb I p q L dm sm) (HFl:PfI I 98 #[.pointer (some ⟨p,0,none⟩)] p q L dm sm 0 fieldsP (ListR FieldV mkAgg 2)) :
  PfI I 43 #[.pointer (some ⟨p,0,none⟩)] p q L dm sm 0 headerP (DeclR):=by
 intro w k hk h hi
 have HI:Hid (∀ W k',Rp w W p q L k' dm sm→I W):=fun W k' r=>hI w W k' r hi
 have HL:=hide hL
 have HKK:=hide hk
 have HNm:=hide (name_i (I:=I) (p:=p) (q:=q) (dm:=dm) (sm:=sm) (k0:=0) hL)
 have HFl:=hide HFl
 have S0:=hide (Sp.start h)
 obtain ⟨RR,hRR⟩:∃ RR,RR=headerP L k:=⟨_,rfl⟩
 rw [← hRR]
 have Q0:=hide hRR
 clear hRR h hi hk hL hI
 go_enter Tryz.func43,Tryz.ntmps43
 have C1:Hid (Sp w _ p q L k dm sm [(w.heap.size,.cells #[.int .u8 0,.string ⟨#[]⟩,.slice none 0 0,.int .i64 0,.int .i64 0,.int .i64 0,.int .i64 0,.slice none 0 0,.slice none 0 0,.slice none 0 0,.string ⟨#[]⟩,.slice none 0 0,.slice none 0 0,.slice none 0 0,.int .i64 0] 69 (0,0))] _):=(S0.out.alloc #[.int .u8 0,.string ⟨#[]⟩,.slice none 0 0,.int .i64 0,.int .i64 0,.int .i64 0,.int .i64 0,.slice none 0 0,.slice none 0 0,.slice none 0 0,.string ⟨#[]⟩,.slice none 0 0,.slice none 0 0,.slice none 0 0,.int .i64 0] 69 (w.heap.size) rfl)
 go_wp2_with fail
 refine (HNm.out _ _ (Nat.zero_le _) C1.out.rr.here (HI.out _ _ C1.out.rr)).mono ?_
 rintro e w1 (⟨x1,k1,v,h1,rfl,hv,hr⟩ | ⟨k1,h1,rfl,hr⟩)
 ·obtain ⟨t1,rfl⟩:=StrV.form hv
  have S1:=hide (C1.out.call strV_ok hr hv)
  have Q1:=hide (Q0.out.trans (bind_ok h1))
  clear hr h1 hv C1
  have C2:Hid (Sp w _ p q L k1 dm sm [(w1.heap.size,.cells #[.int .u8 1,.string t1,.slice none 0 0,.int .i64 0,.int .i64 0,.int .i64 0,.int .i64 0,.slice none 0 0,.slice none 0 0,.slice none 0 0,.string ⟨#[]⟩,.slice none 0 0,.slice none 0 0,.slice none 0 0,.int .i64 0] 69 (0,0)),(w.heap.size,.cells #[.int .u8 0,.string ⟨#[]⟩,.slice none 0 0,.int .i64 0,.int .i64 0,.int .i64 0,.int .i64 0,.slice none 0 0,.slice none 0 0,.slice none 0 0,.string ⟨#[]⟩,.slice none 0 0,.slice none 0 0,.slice none 0 0,.int .i64 0] 69 (0,0))] _):=(S1.out.alloc #[.int .u8 1,.string t1,.slice none 0 0,.int .i64 0,.int .i64 0,.int .i64 0,.int .i64 0,.slice none 0 0,.slice none 0 0,.slice none 0 0,.string ⟨#[]⟩,.slice none 0 0,.slice none 0 0,.slice none 0 0,.int .i64 0] 69 (w1.heap.size) rfl)
  go_wp2_with fail
  refine (HFl.out _ _ (Nat.zero_le _) C2.out.rr.here (HI.out _ _ C2.out.rr)).mono ?_
  rintro e w2 (⟨x2,k2,v,h2,rfl,hv,hr⟩ | ⟨k2,h2,rfl,hr⟩)
  ·obtain ⟨s2,n2,c2,rfl⟩:=ListR.form hv
   have S2:=hide (C2.out.call (ListR.ok fieldV_ok mkAgg 2) hr hv)
   have Q2:=hide (Q1.out.trans (bind_ok h2))
   clear hr h2 hv C2
   have Q3:Hid (RR=.ok (({ dc0 1 with name:=x1,fields:=x2 }:Dc),k2)):=Q2.out.trans rfl
   have XL:Hid (∀ W,((ListR FieldV mkAgg 2) W (Bn w W) (.slice s2 n2 c2) x2∧(StrV) W (Bn w W) (.string t1) x1∧True)→(DeclR) W (Bn w W) (.agg #[.int .u8 1,.string t1,.slice s2 n2 c2,.int .i64 0,.int .i64 0,.int .i64 0,.int .i64 0,.slice none 0 0,.slice none 0 0,.slice none 0 0,.string ⟨#[]⟩,.slice none 0 0,.slice none 0 0,.slice none 0 0,.int .i64 0]) ({ dc0 1 with name:=x1,fields:=x2 }:Dc)):=by
    rintro W ⟨X2,X1,_⟩
    obtain rfl:=StrV.eq X1
    exact ⟨_,_,_,_,_,_,_,rfl,⟨X2,ListR.none,ListR.none,ListR.none,ListR.none,ListR.none,ListR.none⟩⟩
   have CF:Hid (Sp w _ p q L k2 dm sm [(w1.heap.size,.cells #[.int .u8 1,.string t1,.slice s2 n2 c2,.int .i64 0,.int .i64 0,.int .i64 0,.int .i64 0,.slice none 0 0,.slice none 0 0,.slice none 0 0,.string ⟨#[]⟩,.slice none 0 0,.slice none 0 0,.slice none 0 0,.int .i64 0] 69 (0,0)),(w.heap.size,.cells #[.int .u8 0,.string ⟨#[]⟩,.slice none 0 0,.int .i64 0,.int .i64 0,.int .i64 0,.int .i64 0,.slice none 0 0,.slice none 0 0,.slice none 0 0,.string ⟨#[]⟩,.slice none 0 0,.slice none 0 0,.slice none 0 0,.int .i64 0] 69 (0,0))] _):=(S2.out.set0 2 (.slice s2 n2 c2))
   have gc1:=cellA S2.out.b0 2;have gs1:=softA S2.out.b0 2
   go_wp2_with (first | (refine wpList_loadA rfl 69 _ rfl _ [.int .u8 1,.string t1,.slice s2 n2 c2,.int .i64 0,.int .i64 0,.int .i64 0,.int .i64 0,.slice none 0 0,.slice none 0 0,.slice none 0 0,.string ⟨#[]⟩,.slice none 0 0,.slice none 0 0,.slice none 0 0,.int .i64 0] 69 rfl ag_decl sz_decl CF.out.b0 ?_) | (refine wpList_storeA rfl 69 _ _ rfl _ [.int .u8 1,.string t1,.slice s2 n2 c2,.int .i64 0,.int .i64 0,.int .i64 0,.int .i64 0,.slice none 0 0,.slice none 0 0,.slice none 0 0,.string ⟨#[]⟩,.slice none 0 0,.slice none 0 0,.slice none 0 0,.int .i64 0] #[.int .u8 0,.string ⟨#[]⟩,.slice none 0 0,.int .i64 0,.int .i64 0,.int .i64 0,.int .i64 0,.slice none 0 0,.slice none 0 0,.slice none 0 0,.string ⟨#[]⟩,.slice none 0 0,.slice none 0 0,.slice none 0 0,.int .i64 0] 69 rfl rfl sz_decl CF.out.b1 rfl (by intro u hu;simp at hu;rcases hu with rfl | rfl | rfl | rfl | rfl | rfl | rfl | rfl | rfl | rfl | rfl | rfl | rfl | rfl | rfl <;> rfl) ?_;intro w9 hw9;have HW9:=hide hw9;clear hw9))
   have SF:=CF.out.fill1 [.int .u8 1,.string t1,.slice s2 n2 c2,.int .i64 0,.int .i64 0,.int .i64 0,.int .i64 0,.slice none 0 0,.slice none 0 0,.slice none 0 0,.string ⟨#[]⟩,.slice none 0 0,.slice none 0 0,.slice none 0 0,.int .i64 0] rfl
   rw [← HW9.out] at SF
   have HXE:=hide (XL.out _ SF.fin)
   have HRR:=hide SF.rr
   have HBB:=SF.b1
   clear SF
   refine bodyPost_ret (v:=.agg #[.int .u8 1,.string t1,.slice s2 n2 c2,.int .i64 0,.int .i64 0,.int .i64 0,.int .i64 0,.slice none 0 0,.slice none 0 0,.slice none 0 0,.string ⟨#[]⟩,.slice none 0 0,.slice none 0 0,.slice none 0 0,.int .i64 0]) (res_cell (cs:=[.int .u8 1,.string t1,.slice s2 n2 c2,.int .i64 0,.int .i64 0,.int .i64 0,.int .i64 0,.slice none 0 0,.slice none 0 0,.slice none 0 0,.string ⟨#[]⟩,.slice none 0 0,.slice none 0 0,.slice none 0 0,.int .i64 0]) (e:=69) Tryz.results43 rfl ag_decl sz_decl HBB) rfl ?_
   exact .inl ⟨({ dc0 1 with name:=x1,fields:=x2 }:Dc),k2,_,Q3.out,rfl,HXE.out,HRR.out⟩
  ·have R2:=hide (C2.out.rr.from hr)
   have Q2:=hide (Q1.out.trans (bind_err h2))
   clear hr h2
   go_wp2
   exact ⟨rfl,.inr ⟨_,Q2.out,rfl,R2.out⟩⟩
 ·have R1:=hide (C1.out.rr.from hr)
  have Q1:=hide (Q0.out.trans (bind_err h1))
  clear hr h1
  go_wp2
  exact ⟨rfl,.inr ⟨_,Q1.out,rfl,R1.out⟩⟩
set_option maxRecDepth 100000 in
set_option maxHeartbeats 4000000 in
theorem metadata_ok {p q:Nat} {L:List (Wd × Nat)} {dm sm:Value} {I:World→Prop} (hL:OkL L) (hI:Stb I p q L dm sm) (HFl:PfI I 98 #[.pointer (some ⟨p,0,none⟩)] p q L dm sm 0 fieldsP (ListR FieldV mkAgg 2)) :
  PfI I 44 #[.pointer (some ⟨p,0,none⟩)] p q L dm sm 0 metaP (DeclR):=by
 intro w k hk h hi
 have HI:Hid (∀ W k',Rp w W p q L k' dm sm→I W):=fun W k' r=>hI w W k' r hi
 have HL:=hide hL
 have HKK:=hide hk
 have HFl:=hide HFl
 have S0:=hide (Sp.start h)
 obtain ⟨RR,hRR⟩:∃ RR,RR=metaP L k:=⟨_,rfl⟩
 rw [← hRR]
 have Q0:=hide hRR
 clear hRR h hi hk hL hI
 go_enter Tryz.func44,Tryz.ntmps44
 have C1:Hid (Sp w _ p q L k dm sm [(w.heap.size,.cells #[.int .u8 0,.string ⟨#[]⟩,.slice none 0 0,.int .i64 0,.int .i64 0,.int .i64 0,.int .i64 0,.slice none 0 0,.slice none 0 0,.slice none 0 0,.string ⟨#[]⟩,.slice none 0 0,.slice none 0 0,.slice none 0 0,.int .i64 0] 69 (0,0))] _):=(S0.out.alloc #[.int .u8 0,.string ⟨#[]⟩,.slice none 0 0,.int .i64 0,.int .i64 0,.int .i64 0,.int .i64 0,.slice none 0 0,.slice none 0 0,.slice none 0 0,.string ⟨#[]⟩,.slice none 0 0,.slice none 0 0,.slice none 0 0,.int .i64 0] 69 (w.heap.size) rfl)
 go_wp2_with fail
 refine (HFl.out _ _ (Nat.zero_le _) C1.out.rr.here (HI.out _ _ C1.out.rr)).mono ?_
 rintro e w1 (⟨x1,k1,v,h1,rfl,hv,hr⟩ | ⟨k1,h1,rfl,hr⟩)
 ·obtain ⟨s1,n1,c1,rfl⟩:=ListR.form hv
  have S1:=hide (C1.out.call (ListR.ok fieldV_ok mkAgg 2) hr hv)
  have Q1:=hide (Q0.out.trans (bind_ok h1))
  clear hr h1 hv C1
  have Q2:Hid (RR=.ok (({ dc0 2 with fields:=x1 }:Dc),k1)):=Q1.out.trans rfl
  have XL:Hid (∀ W,((ListR FieldV mkAgg 2) W (Bn w W) (.slice s1 n1 c1) x1∧True)→(DeclR) W (Bn w W) (.agg #[.int .u8 2,.string ⟨#[]⟩,.slice s1 n1 c1,.int .i64 0,.int .i64 0,.int .i64 0,.int .i64 0,.slice none 0 0,.slice none 0 0,.slice none 0 0,.string ⟨#[]⟩,.slice none 0 0,.slice none 0 0,.slice none 0 0,.int .i64 0]) ({ dc0 2 with fields:=x1 }:Dc)):=by
   rintro W ⟨X1,_⟩
   exact ⟨_,_,_,_,_,_,_,rfl,⟨X1,ListR.none,ListR.none,ListR.none,ListR.none,ListR.none,ListR.none⟩⟩
  have CF:Hid (Sp w _ p q L k1 dm sm [(w.heap.size,.cells #[.int .u8 0,.string ⟨#[]⟩,.slice none 0 0,.int .i64 0,.int .i64 0,.int .i64 0,.int .i64 0,.slice none 0 0,.slice none 0 0,.slice none 0 0,.string ⟨#[]⟩,.slice none 0 0,.slice none 0 0,.slice none 0 0,.int .i64 0] 69 (0,0))] _):=S1.out
  go_wp2_with (first | (refine wpList_storeA rfl 69 _ _ rfl _ [.int .u8 2,.string ⟨#[]⟩,.slice s1 n1 c1,.int .i64 0,.int .i64 0,.int .i64 0,.int .i64 0,.slice none 0 0,.slice none 0 0,.slice none 0 0,.string ⟨#[]⟩,.slice none 0 0,.slice none 0 0,.slice none 0 0,.int .i64 0] #[.int .u8 0,.string ⟨#[]⟩,.slice none 0 0,.int .i64 0,.int .i64 0,.int .i64 0,.int .i64 0,.slice none 0 0,.slice none 0 0,.slice none 0 0,.string ⟨#[]⟩,.slice none 0 0,.slice none 0 0,.slice none 0 0,.int .i64 0] 69 rfl rfl sz_decl CF.out.b0 rfl (by intro u hu;simp at hu;rcases hu with rfl | rfl | rfl | rfl | rfl | rfl | rfl | rfl | rfl | rfl | rfl | rfl | rfl | rfl | rfl <;> rfl) ?_;intro w9 hw9;have HW9:=hide hw9;clear hw9))
  have SF:=CF.out.fill0 [.int .u8 2,.string ⟨#[]⟩,.slice s1 n1 c1,.int .i64 0,.int .i64 0,.int .i64 0,.int .i64 0,.slice none 0 0,.slice none 0 0,.slice none 0 0,.string ⟨#[]⟩,.slice none 0 0,.slice none 0 0,.slice none 0 0,.int .i64 0] rfl
  rw [← HW9.out] at SF
  have HXE:=hide (XL.out _ SF.fin)
  have HRR:=hide SF.rr
  have HBB:=SF.b0
  clear SF
  refine bodyPost_ret (v:=.agg #[.int .u8 2,.string ⟨#[]⟩,.slice s1 n1 c1,.int .i64 0,.int .i64 0,.int .i64 0,.int .i64 0,.slice none 0 0,.slice none 0 0,.slice none 0 0,.string ⟨#[]⟩,.slice none 0 0,.slice none 0 0,.slice none 0 0,.int .i64 0]) (res_cell (cs:=[.int .u8 2,.string ⟨#[]⟩,.slice s1 n1 c1,.int .i64 0,.int .i64 0,.int .i64 0,.int .i64 0,.slice none 0 0,.slice none 0 0,.slice none 0 0,.string ⟨#[]⟩,.slice none 0 0,.slice none 0 0,.slice none 0 0,.int .i64 0]) (e:=69) Tryz.results44 rfl ag_decl sz_decl HBB) rfl ?_
  exact .inl ⟨({ dc0 2 with fields:=x1 }:Dc),k1,_,Q2.out,rfl,HXE.out,HRR.out⟩
 ·have R1:=hide (C1.out.rr.from hr)
  have Q1:=hide (Q0.out.trans (bind_err h1))
  clear hr h1
  go_wp2
  exact ⟨rfl,.inr ⟨_,Q1.out,rfl,R1.out⟩⟩
set_option maxRecDepth 100000 in
set_option maxHeartbeats 4000000 in
theorem register_ok {p q:Nat} {L:List (Wd × Nat)} {dm sm:Value} {I:World→Prop} (hL:OkL L) (hI:Stb I p q L dm sm) :
  PfI I 45 #[.pointer (some ⟨p,0,none⟩)] p q L dm sm 0 registerP (DeclR):=by
 intro w k hk h hi
 have HI:Hid (∀ W k',Rp w W p q L k' dm sm→I W):=fun W k' r=>hI w W k' r hi
 have HL:=hide hL
 have HKK:=hide hk
 have HNm:=hide (name_i (I:=I) (p:=p) (q:=q) (dm:=dm) (sm:=sm) (k0:=0) hL)
 have HWh:=hide (whole_i (I:=I) (p:=p) (q:=q) (dm:=dm) (sm:=sm) (k0:=0) hL)
 have HCi:=hide (cint_i (I:=I) (p:=p) (q:=q) (dm:=dm) (sm:=sm) (k0:=0) hL)
 have S0:=hide (Sp.start h)
 obtain ⟨RR,hRR⟩:∃ RR,RR=registerP L k:=⟨_,rfl⟩
 rw [← hRR]
 have Q0:=hide hRR
 clear hRR h hi hk hL hI
 go_enter Tryz.func45,Tryz.ntmps45
 have C1:Hid (Sp w _ p q L k dm sm [(w.heap.size,.cells #[.int .u8 0,.string ⟨#[]⟩,.slice none 0 0,.int .i64 0,.int .i64 0,.int .i64 0,.int .i64 0,.slice none 0 0,.slice none 0 0,.slice none 0 0,.string ⟨#[]⟩,.slice none 0 0,.slice none 0 0,.slice none 0 0,.int .i64 0] 69 (0,0))] _):=(S0.out.alloc #[.int .u8 0,.string ⟨#[]⟩,.slice none 0 0,.int .i64 0,.int .i64 0,.int .i64 0,.int .i64 0,.slice none 0 0,.slice none 0 0,.slice none 0 0,.string ⟨#[]⟩,.slice none 0 0,.slice none 0 0,.slice none 0 0,.int .i64 0] 69 (w.heap.size) rfl)
 go_wp2_with fail
 refine (HNm.out _ _ (Nat.zero_le _) C1.out.rr.here (HI.out _ _ C1.out.rr)).mono ?_
 rintro e w1 (⟨x1,k1,v,h1,rfl,hv,hr⟩ | ⟨k1,h1,rfl,hr⟩)
 ·obtain ⟨t1,rfl⟩:=StrV.form hv
  have S1:=hide (C1.out.call strV_ok hr hv)
  have Q1:=hide (Q0.out.trans (bind_ok h1))
  clear hr h1 hv C1
  have C2:Hid (Sp w _ p q L k1 dm sm [(w1.heap.size,.cells #[.int .u8 3,.string t1,.slice none 0 0,.int .i64 0,.int .i64 0,.int .i64 0,.int .i64 0,.slice none 0 0,.slice none 0 0,.slice none 0 0,.string ⟨#[]⟩,.slice none 0 0,.slice none 0 0,.slice none 0 0,.int .i64 0] 69 (0,0)),(w.heap.size,.cells #[.int .u8 0,.string ⟨#[]⟩,.slice none 0 0,.int .i64 0,.int .i64 0,.int .i64 0,.int .i64 0,.slice none 0 0,.slice none 0 0,.slice none 0 0,.string ⟨#[]⟩,.slice none 0 0,.slice none 0 0,.slice none 0 0,.int .i64 0] 69 (0,0))] _):=(S1.out.alloc #[.int .u8 3,.string t1,.slice none 0 0,.int .i64 0,.int .i64 0,.int .i64 0,.int .i64 0,.slice none 0 0,.slice none 0 0,.slice none 0 0,.string ⟨#[]⟩,.slice none 0 0,.slice none 0 0,.slice none 0 0,.int .i64 0] 69 (w1.heap.size) rfl)
  go_wp2_with fail
  refine (HWh.out _ _ (Nat.zero_le _) C2.out.rr.here (HI.out _ _ C2.out.rr)).mono ?_
  rintro e w2 (⟨x2,k2,v,h2,rfl,hv,hr⟩ | ⟨k2,h2,rfl,hr⟩)
  ·obtain ⟨i2,rfl⟩:=IntV.form hv
   have S2:=hide (C2.out.call intV_ok hr hv)
   have Q2:=hide (Q1.out.trans (bind_ok h2))
   clear hr h2 hv C2
   have C3:Hid (Sp w _ p q L k2 dm sm [(w1.heap.size,.cells #[.int .u8 3,.string t1,.slice none 0 0,.int .i64 i2,.int .i64 0,.int .i64 0,.int .i64 0,.slice none 0 0,.slice none 0 0,.slice none 0 0,.string ⟨#[]⟩,.slice none 0 0,.slice none 0 0,.slice none 0 0,.int .i64 0] 69 (0,0)),(w.heap.size,.cells #[.int .u8 0,.string ⟨#[]⟩,.slice none 0 0,.int .i64 0,.int .i64 0,.int .i64 0,.int .i64 0,.slice none 0 0,.slice none 0 0,.slice none 0 0,.string ⟨#[]⟩,.slice none 0 0,.slice none 0 0,.slice none 0 0,.int .i64 0] 69 (0,0))] _):=(S2.out.set0 3 (.int .i64 i2))
   have gc1:=cellA S2.out.b0 3;have gs1:=softA S2.out.b0 3
   go_wp2_with fail
   refine (HCi.out _ _ (Nat.zero_le _) C3.out.rr.here (HI.out _ _ C3.out.rr)).mono ?_
   rintro e w3 (⟨x3,k3,v,h3,rfl,hv,hr⟩ | ⟨k3,h3,rfl,hr⟩)
   ·obtain ⟨i3,rfl⟩:=IntV.form hv
    have S3:=hide (C3.out.call intV_ok hr hv)
    have Q3:=hide (Q2.out.trans (bind_ok h3))
    clear hr h3 hv C3
    have Q4:Hid (RR=.ok (({ dc0 3 with name:=x1,w:=x2,n:=x3 }:Dc),k3)):=Q3.out.trans rfl
    have XL:Hid (∀ W,((IntV) W (Bn w W) (.int .i64 i3) x3∧(IntV) W (Bn w W) (.int .i64 i2) x2∧(StrV) W (Bn w W) (.string t1) x1∧True)→(DeclR) W (Bn w W) (.agg #[.int .u8 3,.string t1,.slice none 0 0,.int .i64 i2,.int .i64 i3,.int .i64 0,.int .i64 0,.slice none 0 0,.slice none 0 0,.slice none 0 0,.string ⟨#[]⟩,.slice none 0 0,.slice none 0 0,.slice none 0 0,.int .i64 0]) ({ dc0 3 with name:=x1,w:=x2,n:=x3 }:Dc)):=by
     rintro W ⟨X3,X2,X1,_⟩
     obtain rfl:=IntV.eq X3
     obtain rfl:=IntV.eq X2
     obtain rfl:=StrV.eq X1
     exact ⟨_,_,_,_,_,_,_,rfl,⟨ListR.none,ListR.none,ListR.none,ListR.none,ListR.none,ListR.none,ListR.none⟩⟩
    have CF:Hid (Sp w _ p q L k3 dm sm [(w1.heap.size,.cells #[.int .u8 3,.string t1,.slice none 0 0,.int .i64 i2,.int .i64 i3,.int .i64 0,.int .i64 0,.slice none 0 0,.slice none 0 0,.slice none 0 0,.string ⟨#[]⟩,.slice none 0 0,.slice none 0 0,.slice none 0 0,.int .i64 0] 69 (0,0)),(w.heap.size,.cells #[.int .u8 0,.string ⟨#[]⟩,.slice none 0 0,.int .i64 0,.int .i64 0,.int .i64 0,.int .i64 0,.slice none 0 0,.slice none 0 0,.slice none 0 0,.string ⟨#[]⟩,.slice none 0 0,.slice none 0 0,.slice none 0 0,.int .i64 0] 69 (0,0))] _):=(S3.out.set0 4 (.int .i64 i3))
    have gc2:=cellA S3.out.b0 4;have gs2:=softA S3.out.b0 4
    go_wp2_with (first | (refine wpList_loadA rfl 69 _ rfl _ [.int .u8 3,.string t1,.slice none 0 0,.int .i64 i2,.int .i64 i3,.int .i64 0,.int .i64 0,.slice none 0 0,.slice none 0 0,.slice none 0 0,.string ⟨#[]⟩,.slice none 0 0,.slice none 0 0,.slice none 0 0,.int .i64 0] 69 rfl ag_decl sz_decl CF.out.b0 ?_) | (refine wpList_storeA rfl 69 _ _ rfl _ [.int .u8 3,.string t1,.slice none 0 0,.int .i64 i2,.int .i64 i3,.int .i64 0,.int .i64 0,.slice none 0 0,.slice none 0 0,.slice none 0 0,.string ⟨#[]⟩,.slice none 0 0,.slice none 0 0,.slice none 0 0,.int .i64 0] #[.int .u8 0,.string ⟨#[]⟩,.slice none 0 0,.int .i64 0,.int .i64 0,.int .i64 0,.int .i64 0,.slice none 0 0,.slice none 0 0,.slice none 0 0,.string ⟨#[]⟩,.slice none 0 0,.slice none 0 0,.slice none 0 0,.int .i64 0] 69 rfl rfl sz_decl CF.out.b1 rfl (by intro u hu;simp at hu;rcases hu with rfl | rfl | rfl | rfl | rfl | rfl | rfl | rfl | rfl | rfl | rfl | rfl | rfl | rfl | rfl <;> rfl) ?_;intro w9 hw9;have HW9:=hide hw9;clear hw9))
    have SF:=CF.out.fill1 [.int .u8 3,.string t1,.slice none 0 0,.int .i64 i2,.int .i64 i3,.int .i64 0,.int .i64 0,.slice none 0 0,.slice none 0 0,.slice none 0 0,.string ⟨#[]⟩,.slice none 0 0,.slice none 0 0,.slice none 0 0,.int .i64 0] rfl
    rw [← HW9.out] at SF
    have HXE:=hide (XL.out _ SF.fin)
    have HRR:=hide SF.rr
    have HBB:=SF.b1
    clear SF
    refine bodyPost_ret (v:=.agg #[.int .u8 3,.string t1,.slice none 0 0,.int .i64 i2,.int .i64 i3,.int .i64 0,.int .i64 0,.slice none 0 0,.slice none 0 0,.slice none 0 0,.string ⟨#[]⟩,.slice none 0 0,.slice none 0 0,.slice none 0 0,.int .i64 0]) (res_cell (cs:=[.int .u8 3,.string t1,.slice none 0 0,.int .i64 i2,.int .i64 i3,.int .i64 0,.int .i64 0,.slice none 0 0,.slice none 0 0,.slice none 0 0,.string ⟨#[]⟩,.slice none 0 0,.slice none 0 0,.slice none 0 0,.int .i64 0]) (e:=69) Tryz.results45 rfl ag_decl sz_decl HBB) rfl ?_
    exact .inl ⟨({ dc0 3 with name:=x1,w:=x2,n:=x3 }:Dc),k3,_,Q4.out,rfl,HXE.out,HRR.out⟩
   ·have R3:=hide (C3.out.rr.from hr)
    have Q3:=hide (Q2.out.trans (bind_err h3))
    clear hr h3
    go_wp2
    exact ⟨rfl,.inr ⟨_,Q3.out,rfl,R3.out⟩⟩
  ·have R2:=hide (C2.out.rr.from hr)
   have Q2:=hide (Q1.out.trans (bind_err h2))
   clear hr h2
   go_wp2
   exact ⟨rfl,.inr ⟨_,Q2.out,rfl,R2.out⟩⟩
 ·have R1:=hide (C1.out.rr.from hr)
  have Q1:=hide (Q0.out.trans (bind_err h1))
  clear hr h1
  go_wp2
  exact ⟨rfl,.inr ⟨_,Q1.out,rfl,R1.out⟩⟩
set_option maxRecDepth 100000 in
set_option maxHeartbeats 4000000 in
theorem counter_ok {p q:Nat} {L:List (Wd × Nat)} {dm sm:Value} {I:World→Prop} (hL:OkL L) (hI:Stb I p q L dm sm) :
  PfI I 46 #[.pointer (some ⟨p,0,none⟩)] p q L dm sm 0 counterP (DeclR):=by
 intro w k hk h hi
 have HI:Hid (∀ W k',Rp w W p q L k' dm sm→I W):=fun W k' r=>hI w W k' r hi
 have HL:=hide hL
 have HKK:=hide hk
 have HNm:=hide (name_i (I:=I) (p:=p) (q:=q) (dm:=dm) (sm:=sm) (k0:=0) hL)
 have HCi:=hide (cint_i (I:=I) (p:=p) (q:=q) (dm:=dm) (sm:=sm) (k0:=0) hL)
 have S0:=hide (Sp.start h)
 obtain ⟨RR,hRR⟩:∃ RR,RR=counterP L k:=⟨_,rfl⟩
 rw [← hRR]
 have Q0:=hide hRR
 clear hRR h hi hk hL hI
 go_enter Tryz.func46,Tryz.ntmps46
 have C1:Hid (Sp w _ p q L k dm sm [(w.heap.size,.cells #[.int .u8 0,.string ⟨#[]⟩,.slice none 0 0,.int .i64 0,.int .i64 0,.int .i64 0,.int .i64 0,.slice none 0 0,.slice none 0 0,.slice none 0 0,.string ⟨#[]⟩,.slice none 0 0,.slice none 0 0,.slice none 0 0,.int .i64 0] 69 (0,0))] _):=(S0.out.alloc #[.int .u8 0,.string ⟨#[]⟩,.slice none 0 0,.int .i64 0,.int .i64 0,.int .i64 0,.int .i64 0,.slice none 0 0,.slice none 0 0,.slice none 0 0,.string ⟨#[]⟩,.slice none 0 0,.slice none 0 0,.slice none 0 0,.int .i64 0] 69 (w.heap.size) rfl)
 go_wp2_with fail
 refine (HNm.out _ _ (Nat.zero_le _) C1.out.rr.here (HI.out _ _ C1.out.rr)).mono ?_
 rintro e w1 (⟨x1,k1,v,h1,rfl,hv,hr⟩ | ⟨k1,h1,rfl,hr⟩)
 ·obtain ⟨t1,rfl⟩:=StrV.form hv
  have S1:=hide (C1.out.call strV_ok hr hv)
  have Q1:=hide (Q0.out.trans (bind_ok h1))
  clear hr h1 hv C1
  have C2:Hid (Sp w _ p q L k1 dm sm [(w1.heap.size,.cells #[.int .u8 4,.string t1,.slice none 0 0,.int .i64 0,.int .i64 0,.int .i64 0,.int .i64 0,.slice none 0 0,.slice none 0 0,.slice none 0 0,.string ⟨#[]⟩,.slice none 0 0,.slice none 0 0,.slice none 0 0,.int .i64 0] 69 (0,0)),(w.heap.size,.cells #[.int .u8 0,.string ⟨#[]⟩,.slice none 0 0,.int .i64 0,.int .i64 0,.int .i64 0,.int .i64 0,.slice none 0 0,.slice none 0 0,.slice none 0 0,.string ⟨#[]⟩,.slice none 0 0,.slice none 0 0,.slice none 0 0,.int .i64 0] 69 (0,0))] _):=(S1.out.alloc #[.int .u8 4,.string t1,.slice none 0 0,.int .i64 0,.int .i64 0,.int .i64 0,.int .i64 0,.slice none 0 0,.slice none 0 0,.slice none 0 0,.string ⟨#[]⟩,.slice none 0 0,.slice none 0 0,.slice none 0 0,.int .i64 0] 69 (w1.heap.size) rfl)
  go_wp2_with fail
  refine (HCi.out _ _ (Nat.zero_le _) C2.out.rr.here (HI.out _ _ C2.out.rr)).mono ?_
  rintro e w2 (⟨x2,k2,v,h2,rfl,hv,hr⟩ | ⟨k2,h2,rfl,hr⟩)
  ·obtain ⟨i2,rfl⟩:=IntV.form hv
   have S2:=hide (C2.out.call intV_ok hr hv)
   have Q2:=hide (Q1.out.trans (bind_ok h2))
   clear hr h2 hv C2
   have Q3:Hid (RR=.ok (({ dc0 4 with name:=x1,n:=x2 }:Dc),k2)):=Q2.out.trans rfl
   have XL:Hid (∀ W,((IntV) W (Bn w W) (.int .i64 i2) x2∧(StrV) W (Bn w W) (.string t1) x1∧True)→(DeclR) W (Bn w W) (.agg #[.int .u8 4,.string t1,.slice none 0 0,.int .i64 0,.int .i64 i2,.int .i64 0,.int .i64 0,.slice none 0 0,.slice none 0 0,.slice none 0 0,.string ⟨#[]⟩,.slice none 0 0,.slice none 0 0,.slice none 0 0,.int .i64 0]) ({ dc0 4 with name:=x1,n:=x2 }:Dc)):=by
    rintro W ⟨X2,X1,_⟩
    obtain rfl:=IntV.eq X2
    obtain rfl:=StrV.eq X1
    exact ⟨_,_,_,_,_,_,_,rfl,⟨ListR.none,ListR.none,ListR.none,ListR.none,ListR.none,ListR.none,ListR.none⟩⟩
   have CF:Hid (Sp w _ p q L k2 dm sm [(w1.heap.size,.cells #[.int .u8 4,.string t1,.slice none 0 0,.int .i64 0,.int .i64 i2,.int .i64 0,.int .i64 0,.slice none 0 0,.slice none 0 0,.slice none 0 0,.string ⟨#[]⟩,.slice none 0 0,.slice none 0 0,.slice none 0 0,.int .i64 0] 69 (0,0)),(w.heap.size,.cells #[.int .u8 0,.string ⟨#[]⟩,.slice none 0 0,.int .i64 0,.int .i64 0,.int .i64 0,.int .i64 0,.slice none 0 0,.slice none 0 0,.slice none 0 0,.string ⟨#[]⟩,.slice none 0 0,.slice none 0 0,.slice none 0 0,.int .i64 0] 69 (0,0))] _):=(S2.out.set0 4 (.int .i64 i2))
   have gc1:=cellA S2.out.b0 4;have gs1:=softA S2.out.b0 4
   go_wp2_with (first | (refine wpList_loadA rfl 69 _ rfl _ [.int .u8 4,.string t1,.slice none 0 0,.int .i64 0,.int .i64 i2,.int .i64 0,.int .i64 0,.slice none 0 0,.slice none 0 0,.slice none 0 0,.string ⟨#[]⟩,.slice none 0 0,.slice none 0 0,.slice none 0 0,.int .i64 0] 69 rfl ag_decl sz_decl CF.out.b0 ?_) | (refine wpList_storeA rfl 69 _ _ rfl _ [.int .u8 4,.string t1,.slice none 0 0,.int .i64 0,.int .i64 i2,.int .i64 0,.int .i64 0,.slice none 0 0,.slice none 0 0,.slice none 0 0,.string ⟨#[]⟩,.slice none 0 0,.slice none 0 0,.slice none 0 0,.int .i64 0] #[.int .u8 0,.string ⟨#[]⟩,.slice none 0 0,.int .i64 0,.int .i64 0,.int .i64 0,.int .i64 0,.slice none 0 0,.slice none 0 0,.slice none 0 0,.string ⟨#[]⟩,.slice none 0 0,.slice none 0 0,.slice none 0 0,.int .i64 0] 69 rfl rfl sz_decl CF.out.b1 rfl (by intro u hu;simp at hu;rcases hu with rfl | rfl | rfl | rfl | rfl | rfl | rfl | rfl | rfl | rfl | rfl | rfl | rfl | rfl | rfl <;> rfl) ?_;intro w9 hw9;have HW9:=hide hw9;clear hw9))
   have SF:=CF.out.fill1 [.int .u8 4,.string t1,.slice none 0 0,.int .i64 0,.int .i64 i2,.int .i64 0,.int .i64 0,.slice none 0 0,.slice none 0 0,.slice none 0 0,.string ⟨#[]⟩,.slice none 0 0,.slice none 0 0,.slice none 0 0,.int .i64 0] rfl
   rw [← HW9.out] at SF
   have HXE:=hide (XL.out _ SF.fin)
   have HRR:=hide SF.rr
   have HBB:=SF.b1
   clear SF
   refine bodyPost_ret (v:=.agg #[.int .u8 4,.string t1,.slice none 0 0,.int .i64 0,.int .i64 i2,.int .i64 0,.int .i64 0,.slice none 0 0,.slice none 0 0,.slice none 0 0,.string ⟨#[]⟩,.slice none 0 0,.slice none 0 0,.slice none 0 0,.int .i64 0]) (res_cell (cs:=[.int .u8 4,.string t1,.slice none 0 0,.int .i64 0,.int .i64 i2,.int .i64 0,.int .i64 0,.slice none 0 0,.slice none 0 0,.slice none 0 0,.string ⟨#[]⟩,.slice none 0 0,.slice none 0 0,.slice none 0 0,.int .i64 0]) (e:=69) Tryz.results46 rfl ag_decl sz_decl HBB) rfl ?_
   exact .inl ⟨({ dc0 4 with name:=x1,n:=x2 }:Dc),k2,_,Q3.out,rfl,HXE.out,HRR.out⟩
  ·have R2:=hide (C2.out.rr.from hr)
   have Q2:=hide (Q1.out.trans (bind_err h2))
   clear hr h2
   go_wp2
   exact ⟨rfl,.inr ⟨_,Q2.out,rfl,R2.out⟩⟩
 ·have R1:=hide (C1.out.rr.from hr)
  have Q1:=hide (Q0.out.trans (bind_err h1))
  clear hr h1
  go_wp2
  exact ⟨rfl,.inr ⟨_,Q1.out,rfl,R1.out⟩⟩
set_option maxRecDepth 100000 in
set_option maxHeartbeats 4000000 in
theorem meter_ok {p q:Nat} {L:List (Wd × Nat)} {dm sm:Value} {I:World→Prop} (hL:OkL L) (hI:Stb I p q L dm sm) :
  PfI I 47 #[.pointer (some ⟨p,0,none⟩)] p q L dm sm 0 meterP (DeclR):=by
 intro w k hk h hi
 have HI:Hid (∀ W k',Rp w W p q L k' dm sm→I W):=fun W k' r=>hI w W k' r hi
 have HL:=hide hL
 have HKK:=hide hk
 have HNm:=hide (name_i (I:=I) (p:=p) (q:=q) (dm:=dm) (sm:=sm) (k0:=0) hL)
 have HWh:=hide (whole_i (I:=I) (p:=p) (q:=q) (dm:=dm) (sm:=sm) (k0:=0) hL)
 have HCi:=hide (cint_i (I:=I) (p:=p) (q:=q) (dm:=dm) (sm:=sm) (k0:=0) hL)
 have S0:=hide (Sp.start h)
 obtain ⟨RR,hRR⟩:∃ RR,RR=meterP L k:=⟨_,rfl⟩
 rw [← hRR]
 have Q0:=hide hRR
 clear hRR h hi hk hL hI
 go_enter Tryz.func47,Tryz.ntmps47
 have C1:Hid (Sp w _ p q L k dm sm [(w.heap.size,.cells #[.int .u8 0,.string ⟨#[]⟩,.slice none 0 0,.int .i64 0,.int .i64 0,.int .i64 0,.int .i64 0,.slice none 0 0,.slice none 0 0,.slice none 0 0,.string ⟨#[]⟩,.slice none 0 0,.slice none 0 0,.slice none 0 0,.int .i64 0] 69 (0,0))] _):=(S0.out.alloc #[.int .u8 0,.string ⟨#[]⟩,.slice none 0 0,.int .i64 0,.int .i64 0,.int .i64 0,.int .i64 0,.slice none 0 0,.slice none 0 0,.slice none 0 0,.string ⟨#[]⟩,.slice none 0 0,.slice none 0 0,.slice none 0 0,.int .i64 0] 69 (w.heap.size) rfl)
 go_wp2_with fail
 refine (HNm.out _ _ (Nat.zero_le _) C1.out.rr.here (HI.out _ _ C1.out.rr)).mono ?_
 rintro e w1 (⟨x1,k1,v,h1,rfl,hv,hr⟩ | ⟨k1,h1,rfl,hr⟩)
 ·obtain ⟨t1,rfl⟩:=StrV.form hv
  have S1:=hide (C1.out.call strV_ok hr hv)
  have Q1:=hide (Q0.out.trans (bind_ok h1))
  clear hr h1 hv C1
  have C2:Hid (Sp w _ p q L k1 dm sm [(w1.heap.size,.cells #[.int .u8 5,.string t1,.slice none 0 0,.int .i64 0,.int .i64 0,.int .i64 0,.int .i64 0,.slice none 0 0,.slice none 0 0,.slice none 0 0,.string ⟨#[]⟩,.slice none 0 0,.slice none 0 0,.slice none 0 0,.int .i64 0] 69 (0,0)),(w.heap.size,.cells #[.int .u8 0,.string ⟨#[]⟩,.slice none 0 0,.int .i64 0,.int .i64 0,.int .i64 0,.int .i64 0,.slice none 0 0,.slice none 0 0,.slice none 0 0,.string ⟨#[]⟩,.slice none 0 0,.slice none 0 0,.slice none 0 0,.int .i64 0] 69 (0,0))] _):=(S1.out.alloc #[.int .u8 5,.string t1,.slice none 0 0,.int .i64 0,.int .i64 0,.int .i64 0,.int .i64 0,.slice none 0 0,.slice none 0 0,.slice none 0 0,.string ⟨#[]⟩,.slice none 0 0,.slice none 0 0,.slice none 0 0,.int .i64 0] 69 (w1.heap.size) rfl)
  go_wp2_with fail
  refine (HWh.out _ _ (Nat.zero_le _) C2.out.rr.here (HI.out _ _ C2.out.rr)).mono ?_
  rintro e w2 (⟨x2,k2,v,h2,rfl,hv,hr⟩ | ⟨k2,h2,rfl,hr⟩)
  ·obtain ⟨i2,rfl⟩:=IntV.form hv
   have S2:=hide (C2.out.call intV_ok hr hv)
   have Q2:=hide (Q1.out.trans (bind_ok h2))
   clear hr h2 hv C2
   have C3:Hid (Sp w _ p q L k2 dm sm [(w1.heap.size,.cells #[.int .u8 5,.string t1,.slice none 0 0,.int .i64 0,.int .i64 i2,.int .i64 0,.int .i64 0,.slice none 0 0,.slice none 0 0,.slice none 0 0,.string ⟨#[]⟩,.slice none 0 0,.slice none 0 0,.slice none 0 0,.int .i64 0] 69 (0,0)),(w.heap.size,.cells #[.int .u8 0,.string ⟨#[]⟩,.slice none 0 0,.int .i64 0,.int .i64 0,.int .i64 0,.int .i64 0,.slice none 0 0,.slice none 0 0,.slice none 0 0,.string ⟨#[]⟩,.slice none 0 0,.slice none 0 0,.slice none 0 0,.int .i64 0] 69 (0,0))] _):=(S2.out.set0 4 (.int .i64 i2))
   have gc1:=cellA S2.out.b0 4;have gs1:=softA S2.out.b0 4
   go_wp2_with fail
   refine (HWh.out _ _ (Nat.zero_le _) C3.out.rr.here (HI.out _ _ C3.out.rr)).mono ?_
   rintro e w3 (⟨x3,k3,v,h3,rfl,hv,hr⟩ | ⟨k3,h3,rfl,hr⟩)
   ·obtain ⟨i3,rfl⟩:=IntV.form hv
    have S3:=hide (C3.out.call intV_ok hr hv)
    have Q3:=hide (Q2.out.trans (bind_ok h3))
    clear hr h3 hv C3
    have C4:Hid (Sp w _ p q L k3 dm sm [(w1.heap.size,.cells #[.int .u8 5,.string t1,.slice none 0 0,.int .i64 0,.int .i64 i2,.int .i64 i3,.int .i64 0,.slice none 0 0,.slice none 0 0,.slice none 0 0,.string ⟨#[]⟩,.slice none 0 0,.slice none 0 0,.slice none 0 0,.int .i64 0] 69 (0,0)),(w.heap.size,.cells #[.int .u8 0,.string ⟨#[]⟩,.slice none 0 0,.int .i64 0,.int .i64 0,.int .i64 0,.int .i64 0,.slice none 0 0,.slice none 0 0,.slice none 0 0,.string ⟨#[]⟩,.slice none 0 0,.slice none 0 0,.slice none 0 0,.int .i64 0] 69 (0,0))] _):=(S3.out.set0 5 (.int .i64 i3))
    have gc2:=cellA S3.out.b0 5;have gs2:=softA S3.out.b0 5
    go_wp2_with fail
    refine (HCi.out _ _ (Nat.zero_le _) C4.out.rr.here (HI.out _ _ C4.out.rr)).mono ?_
    rintro e w4 (⟨x4,k4,v,h4,rfl,hv,hr⟩ | ⟨k4,h4,rfl,hr⟩)
    ·obtain ⟨i4,rfl⟩:=IntV.form hv
     have S4:=hide (C4.out.call intV_ok hr hv)
     have Q4:=hide (Q3.out.trans (bind_ok h4))
     clear hr h4 hv C4
     have Q5:Hid (RR=.ok (({ dc0 5 with name:=x1,n:=x2,rate:=x3,burst:=x4 }:Dc),k4)):=Q4.out.trans rfl
     have XL:Hid (∀ W,((IntV) W (Bn w W) (.int .i64 i4) x4∧(IntV) W (Bn w W) (.int .i64 i3) x3∧(IntV) W (Bn w W) (.int .i64 i2) x2∧(StrV) W (Bn w W) (.string t1) x1∧True)→(DeclR) W (Bn w W) (.agg #[.int .u8 5,.string t1,.slice none 0 0,.int .i64 0,.int .i64 i2,.int .i64 i3,.int .i64 i4,.slice none 0 0,.slice none 0 0,.slice none 0 0,.string ⟨#[]⟩,.slice none 0 0,.slice none 0 0,.slice none 0 0,.int .i64 0]) ({ dc0 5 with name:=x1,n:=x2,rate:=x3,burst:=x4 }:Dc)):=by
      rintro W ⟨X4,X3,X2,X1,_⟩
      obtain rfl:=IntV.eq X4
      obtain rfl:=IntV.eq X3
      obtain rfl:=IntV.eq X2
      obtain rfl:=StrV.eq X1
      exact ⟨_,_,_,_,_,_,_,rfl,⟨ListR.none,ListR.none,ListR.none,ListR.none,ListR.none,ListR.none,ListR.none⟩⟩
     have CF:Hid (Sp w _ p q L k4 dm sm [(w1.heap.size,.cells #[.int .u8 5,.string t1,.slice none 0 0,.int .i64 0,.int .i64 i2,.int .i64 i3,.int .i64 i4,.slice none 0 0,.slice none 0 0,.slice none 0 0,.string ⟨#[]⟩,.slice none 0 0,.slice none 0 0,.slice none 0 0,.int .i64 0] 69 (0,0)),(w.heap.size,.cells #[.int .u8 0,.string ⟨#[]⟩,.slice none 0 0,.int .i64 0,.int .i64 0,.int .i64 0,.int .i64 0,.slice none 0 0,.slice none 0 0,.slice none 0 0,.string ⟨#[]⟩,.slice none 0 0,.slice none 0 0,.slice none 0 0,.int .i64 0] 69 (0,0))] _):=(S4.out.set0 6 (.int .i64 i4))
     have gc3:=cellA S4.out.b0 6;have gs3:=softA S4.out.b0 6
     go_wp2_with (first | (refine wpList_loadA rfl 69 _ rfl _ [.int .u8 5,.string t1,.slice none 0 0,.int .i64 0,.int .i64 i2,.int .i64 i3,.int .i64 i4,.slice none 0 0,.slice none 0 0,.slice none 0 0,.string ⟨#[]⟩,.slice none 0 0,.slice none 0 0,.slice none 0 0,.int .i64 0] 69 rfl ag_decl sz_decl CF.out.b0 ?_) | (refine wpList_storeA rfl 69 _ _ rfl _ [.int .u8 5,.string t1,.slice none 0 0,.int .i64 0,.int .i64 i2,.int .i64 i3,.int .i64 i4,.slice none 0 0,.slice none 0 0,.slice none 0 0,.string ⟨#[]⟩,.slice none 0 0,.slice none 0 0,.slice none 0 0,.int .i64 0] #[.int .u8 0,.string ⟨#[]⟩,.slice none 0 0,.int .i64 0,.int .i64 0,.int .i64 0,.int .i64 0,.slice none 0 0,.slice none 0 0,.slice none 0 0,.string ⟨#[]⟩,.slice none 0 0,.slice none 0 0,.slice none 0 0,.int .i64 0] 69 rfl rfl sz_decl CF.out.b1 rfl (by intro u hu;simp at hu;rcases hu with rfl | rfl | rfl | rfl | rfl | rfl | rfl | rfl | rfl | rfl | rfl | rfl | rfl | rfl | rfl <;> rfl) ?_;intro w9 hw9;have HW9:=hide hw9;clear hw9))
     have SF:=CF.out.fill1 [.int .u8 5,.string t1,.slice none 0 0,.int .i64 0,.int .i64 i2,.int .i64 i3,.int .i64 i4,.slice none 0 0,.slice none 0 0,.slice none 0 0,.string ⟨#[]⟩,.slice none 0 0,.slice none 0 0,.slice none 0 0,.int .i64 0] rfl
     rw [← HW9.out] at SF
     have HXE:=hide (XL.out _ SF.fin)
     have HRR:=hide SF.rr
     have HBB:=SF.b1
     clear SF
     refine bodyPost_ret (v:=.agg #[.int .u8 5,.string t1,.slice none 0 0,.int .i64 0,.int .i64 i2,.int .i64 i3,.int .i64 i4,.slice none 0 0,.slice none 0 0,.slice none 0 0,.string ⟨#[]⟩,.slice none 0 0,.slice none 0 0,.slice none 0 0,.int .i64 0]) (res_cell (cs:=[.int .u8 5,.string t1,.slice none 0 0,.int .i64 0,.int .i64 i2,.int .i64 i3,.int .i64 i4,.slice none 0 0,.slice none 0 0,.slice none 0 0,.string ⟨#[]⟩,.slice none 0 0,.slice none 0 0,.slice none 0 0,.int .i64 0]) (e:=69) Tryz.results47 rfl ag_decl sz_decl HBB) rfl ?_
     exact .inl ⟨({ dc0 5 with name:=x1,n:=x2,rate:=x3,burst:=x4 }:Dc),k4,_,Q5.out,rfl,HXE.out,HRR.out⟩
    ·have R4:=hide (C4.out.rr.from hr)
     have Q4:=hide (Q3.out.trans (bind_err h4))
     clear hr h4
     go_wp2
     exact ⟨rfl,.inr ⟨_,Q4.out,rfl,R4.out⟩⟩
   ·have R3:=hide (C3.out.rr.from hr)
    have Q3:=hide (Q2.out.trans (bind_err h3))
    clear hr h3
    go_wp2
    exact ⟨rfl,.inr ⟨_,Q3.out,rfl,R3.out⟩⟩
  ·have R2:=hide (C2.out.rr.from hr)
   have Q2:=hide (Q1.out.trans (bind_err h2))
   clear hr h2
   go_wp2
   exact ⟨rfl,.inr ⟨_,Q2.out,rfl,R2.out⟩⟩
 ·have R1:=hide (C1.out.rr.from hr)
  have Q1:=hide (Q0.out.trans (bind_err h1))
  clear hr h1
  go_wp2
  exact ⟨rfl,.inr ⟨_,Q1.out,rfl,R1.out⟩⟩
end Go.Proofs.YtabkimknlifdoaaGreatDoor
