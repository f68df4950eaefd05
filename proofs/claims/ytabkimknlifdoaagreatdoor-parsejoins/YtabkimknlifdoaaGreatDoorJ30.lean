/- Pieces of the proof: PaJm. -/
import Derived.Test.YtabkimknlifdoaaGreatDoorJ29
namespace Go.Proofs.YtabkimknlifdoaaGreatDoor
open Go.RowKit
def tableP (kp:Pf (List (Ex × Nat))) (bb:Pf (List (Nat × Nat))):Pf Dc:=nameP.bind fun n=>(passP [[123],[107,101,121],[123]]).bind fun _=>kp.bind fun ks=>(passP [[97,99,116,105,111,110,115]]).bind fun _=>nameP.bind fun a=>(untilP [59] nameP).bind fun acs=>(passP [[100,101,102,97,117,108,116]]).bind fun _=>nameP.bind fun df=>bb.bind fun ls=>(passP [[59],[115,105,122,101]]).bind fun _=>(closedP wholeP).bind fun m=>(passP [[125]]).bind fun _=>Pf.ret { dc0 8 with name:=n,keys:=ks,acts:=a :: acs,dflt:=df,args:=ls,n:=m }
theorem ustr_i {I:World→Prop} {p q:Nat} {L:List (Wd × Nat)} {dm sm:Value} {k0:Nat} (hL:OkL L):PfI I 108 #[.pointer (some ⟨p,0,none⟩),.string ⟨#[59]⟩,.func (Fn.func 97) #[.pointer (some ⟨p,0,none⟩)] #[]] p q L dm sm k0 (untilP [59] nameP) (ListR StrV mkOne 1):=fun _ _ _ r _=>until_string r hL [59] (by decide)
theorem until_small {L:List (Wd × Nat)} {k k1:Nat} {l:List (List UInt8)} {w W:World} {p q:Nat} {dm sm:Value} (h:untilP [59] nameP L k=.ok (l,k1)) (r:Rp w W p q L k1 dm sm):l.length≤100000:=by
 have h1:=untilF_len nameP_goes h
 have h2:=r.kl
 have h3:=r.sml
 omega
set_option maxRecDepth 100000 in
set_option maxHeartbeats 4000000 in
theorem table_ok {p q:Nat} {L:List (Wd × Nat)} {dm sm:Value} {I:World→Prop} {kp:Pf (List (Ex × Nat))} {bb:Pf (List (Nat × Nat))} (hL:OkL L) (hI:Stb I p q L dm sm) (HRk:PfI I 106 #[.pointer (some ⟨p,0,none⟩),.string ⟨#[125]⟩,.func (Fn.func 107) #[.pointer (some ⟨p,0,none⟩)] #[]] p q L dm sm 0 kp (ListR KeyR mkAgg 11)) (HBb:PfI I 109 #[.pointer (some ⟨p,0,none⟩),.func (Fn.func 110) #[.pointer (some ⟨p,0,none⟩)] #[]] p q L dm sm 0 bb (ListR LitV mkAgg 3)) :
  PfI I 50 #[.pointer (some ⟨p,0,none⟩)] p q L dm sm 0 (tableP kp bb) (DeclR):=by
 intro w k hk h hi
 have HI:Hid (∀ W k',Rp w W p q L k' dm sm→I W):=fun W k' r=>hI w W k' r hi
 have HL:=hide hL
 have HKK:=hide hk
 have HNm:=hide (name_i (I:=I) (p:=p) (q:=q) (dm:=dm) (sm:=sm) (k0:=0) hL)
 have HCi:=hide (cint_i (I:=I) (p:=p) (q:=q) (dm:=dm) (sm:=sm) (k0:=0) hL)
 have HUs:=hide (ustr_i (I:=I) (p:=p) (q:=q) (dm:=dm) (sm:=sm) (k0:=0) hL)
 have HRk:=hide HRk
 have HBb:=hide HBb
 have S0:=hide (Sp.start h)
 obtain ⟨RR,hRR⟩:∃ RR,RR=(tableP kp bb) L k:=⟨_,rfl⟩
 rw [← hRR]
 have Q0:=hide hRR
 clear hRR h hi hk hL hI
 go_enter Tryz.func50,Tryz.ntmps50
 have C1:Hid (Sp w _ p q L k dm sm [(w.heap.size,.cells #[.int .u8 0,.string ⟨#[]⟩,.slice none 0 0,.int .i64 0,.int .i64 0,.int .i64 0,.int .i64 0,.slice none 0 0,.slice none 0 0,.slice none 0 0,.string ⟨#[]⟩,.slice none 0 0,.slice none 0 0,.slice none 0 0,.int .i64 0] 69 (0,0))] _):=(S0.out.alloc #[.int .u8 0,.string ⟨#[]⟩,.slice none 0 0,.int .i64 0,.int .i64 0,.int .i64 0,.int .i64 0,.slice none 0 0,.slice none 0 0,.slice none 0 0,.string ⟨#[]⟩,.slice none 0 0,.slice none 0 0,.slice none 0 0,.int .i64 0] 69 (w.heap.size) rfl)
 go_wp2_with fail
 refine (HNm.out _ _ (Nat.zero_le _) C1.out.rr.here (HI.out _ _ C1.out.rr)).mono ?_
 rintro e w1 (⟨x1,k1,v,h1,rfl,hv,hr⟩ | ⟨k1,h1,rfl,hr⟩)
 ·obtain ⟨t1,rfl⟩:=StrV.form hv
  have S1:=hide (C1.out.call strV_ok hr hv)
  have Q1:=hide (Q0.out.trans (bind_ok h1))
  have HT1:=hide (StrV.eq hv)
  clear hr h1 hv C1
  have C2:Hid (Sp w _ p q L k1 dm sm [(w1.heap.size,.cells #[.int .u8 8,.string t1,.slice none 0 0,.int .i64 0,.int .i64 0,.int .i64 0,.int .i64 0,.slice none 0 0,.slice none 0 0,.slice none 0 0,.string ⟨#[]⟩,.slice none 0 0,.slice none 0 0,.slice none 0 0,.int .i64 0] 69 (0,0)),(w.heap.size,.cells #[.int .u8 0,.string ⟨#[]⟩,.slice none 0 0,.int .i64 0,.int .i64 0,.int .i64 0,.int .i64 0,.slice none 0 0,.slice none 0 0,.slice none 0 0,.string ⟨#[]⟩,.slice none 0 0,.slice none 0 0,.slice none 0 0,.int .i64 0] 69 (0,0))] _):=(S1.out.alloc #[.int .u8 8,.string t1,.slice none 0 0,.int .i64 0,.int .i64 0,.int .i64 0,.int .i64 0,.slice none 0 0,.slice none 0 0,.slice none 0 0,.string ⟨#[]⟩,.slice none 0 0,.slice none 0 0,.slice none 0 0,.int .i64 0] 69 (w1.heap.size) rfl)
  go_wp2_with fail
  refine (pass_lay C2.out.rr HL.out [[123],[107,101,121],[123]] (by decide) (by decide) #[.string ⟨#[123]⟩,.string ⟨#[107,101,121]⟩,.string ⟨#[123]⟩] rfl 9 _ 3 (by first | rfl | simp | simp [World.size_alloc] | simp [World.setCell] | simp [World.setCell,World.size_alloc]) rfl).mono ?_
  rintro e w2 (⟨x2,k2,v,h2,rfl,hv,hr⟩ | ⟨k2,h2,rfl,hr⟩)
  ·obtain rfl:v=.tuple #[]:=hv
   have S2:=hide (C2.out.go hr)
   have Q2:=hide (Q1.out.trans (bind_ok h2))
   clear hr h2 C2
   go_wp2_with fail
   refine (HRk.out _ _ (Nat.zero_le _) S2.out.rr.here (HI.out _ _ S2.out.rr)).mono ?_
   rintro e w3 (⟨x3,k3,v,h3,rfl,hv,hr⟩ | ⟨k3,h3,rfl,hr⟩)
   ·obtain ⟨s3,n3,c3,rfl⟩:=ListR.form hv
    have S3:=hide (S2.out.call (ListR.ok keyR_ok mkAgg 11) hr hv)
    have Q3:=hide (Q2.out.trans (bind_ok h3))
    clear hr h3 hv
    have C4:Hid (Sp w _ p q L k3 dm sm [(w1.heap.size,.cells #[.int .u8 8,.string t1,.slice none 0 0,.int .i64 0,.int .i64 0,.int .i64 0,.int .i64 0,.slice none 0 0,.slice s3 n3 c3,.slice none 0 0,.string ⟨#[]⟩,.slice none 0 0,.slice none 0 0,.slice none 0 0,.int .i64 0] 69 (0,0)),(w.heap.size,.cells #[.int .u8 0,.string ⟨#[]⟩,.slice none 0 0,.int .i64 0,.int .i64 0,.int .i64 0,.int .i64 0,.slice none 0 0,.slice none 0 0,.slice none 0 0,.string ⟨#[]⟩,.slice none 0 0,.slice none 0 0,.slice none 0 0,.int .i64 0] 69 (0,0))] _):=(S3.out.set0 8 (.slice s3 n3 c3))
    have gc1:=cellA S3.out.b0 8;have gs1:=softA S3.out.b0 8
    go_wp2_with fail
    refine (pass_lay C4.out.rr HL.out [[97,99,116,105,111,110,115]] (by decide) (by decide) #[.string ⟨#[97,99,116,105,111,110,115]⟩] rfl 9 _ 1 (by first | rfl | simp | simp [World.size_alloc] | simp [World.setCell] | simp [World.setCell,World.size_alloc]) rfl).mono ?_
    rintro e w4 (⟨x4,k4,v,h4,rfl,hv,hr⟩ | ⟨k4,h4,rfl,hr⟩)
    ·obtain rfl:v=.tuple #[]:=hv
     have S4:=hide (C4.out.go hr)
     have Q4:=hide (Q3.out.trans (bind_ok h4))
     clear hr h4 C4
     go_wp2_with fail
     refine (HNm.out _ _ (Nat.zero_le _) S4.out.rr.here (HI.out _ _ S4.out.rr)).mono ?_
     rintro e w5 (⟨x5,k5,v,h5,rfl,hv,hr⟩ | ⟨k5,h5,rfl,hr⟩)
     ·obtain ⟨t5,rfl⟩:=StrV.form hv
      have S5:=hide (S4.out.call strV_ok hr hv)
      have Q5:=hide (Q4.out.trans (bind_ok h5))
      have HT5:=hide (StrV.eq hv)
      clear hr h5 hv
      have CD2:Hid (Sp w _ p q L k5 dm sm [(w5.heap.size,.cells #[.string t5] 9 (0,0)),(w1.heap.size,.cells #[.int .u8 8,.string t1,.slice none 0 0,.int .i64 0,.int .i64 0,.int .i64 0,.int .i64 0,.slice none 0 0,.slice s3 n3 c3,.slice (some ⟨w5.heap.size,0,none⟩) 1 1,.string ⟨#[]⟩,.slice none 0 0,.slice none 0 0,.slice none 0 0,.int .i64 0] 69 (0,0)),(w.heap.size,.cells #[.int .u8 0,.string ⟨#[]⟩,.slice none 0 0,.int .i64 0,.int .i64 0,.int .i64 0,.int .i64 0,.slice none 0 0,.slice none 0 0,.slice none 0 0,.string ⟨#[]⟩,.slice none 0 0,.slice none 0 0,.slice none 0 0,.int .i64 0] 69 (0,0))] _):=((S5.out.alloc #[.string t5] 9 (w5.heap.size) rfl).set1 9 (.slice (some ⟨w5.heap.size,0,none⟩) 1 1))
      have P3:Hid (Sp w _ p q L k5 dm sm [(w5.heap.size,.cells #[.string t5] 9 (0,0)),(w1.heap.size,.cells #[.int .u8 8,.string t1,.slice none 0 0,.int .i64 0,.int .i64 0,.int .i64 0,.int .i64 0,.slice none 0 0,.slice s3 n3 c3,.slice none 0 0,.string ⟨#[]⟩,.slice none 0 0,.slice none 0 0,.slice none 0 0,.int .i64 0] 69 (0,0)),(w.heap.size,.cells #[.int .u8 0,.string ⟨#[]⟩,.slice none 0 0,.int .i64 0,.int .i64 0,.int .i64 0,.int .i64 0,.slice none 0 0,.slice none 0 0,.slice none 0 0,.string ⟨#[]⟩,.slice none 0 0,.slice none 0 0,.slice none 0 0,.int .i64 0] 69 (0,0))] _):=(S5.out.alloc #[.string t5] 9 (w5.heap.size) rfl)
      have gc4:=cellA P3.out.b1 9;have gs4:=softA P3.out.b1 9
      go_wp2
      refine wp_region_any (by kernel_rfl) ?_
      change wpAny _ _ _ _ _ _ _ (World.drew _)
      have D2:=hide CD2.out.drew
      refine wpAny_take (i:=0) (v:=?_) rfl (by kernel_rfl) (by kernel_rfl) (by kernel_rfl) (fun _ _ _ h=>h) (Or.inl ⟨by rfl,?_⟩) ?_
      rotate_left
      ·(intro w;go_simp;try (with_reducible rfl))
      refine wpAny_take (i:=2) (v:=?_) rfl (by kernel_rfl) (by kernel_rfl) (by kernel_rfl) (fun _ _ _ h=>h) (Or.inl ⟨by rfl,?_⟩) ?_
      rotate_left
      ·(intro w;go_simp;try (with_reducible rfl))
      refine wpAny_take (i:=3) (v:=?_) rfl (by kernel_rfl) (by kernel_rfl) (by kernel_rfl) (fun _ _ _ h=>h) (Or.inl ⟨by rfl,?_⟩) ?_
      rotate_left
      ·(intro w;go_simp;try (with_reducible rfl))
      refine wpAny_take (i:=4) (v:=?_) rfl (by kernel_rfl) (by kernel_rfl) (by kernel_rfl) (fun _ _ _ h=>h) (Or.inl ⟨by rfl,?_⟩) ?_
      rotate_left
      ·(intro w;go_simp;try (with_reducible rfl))
      refine wpAny_ready (rs:=[1,5]) (by kernel_rfl) (by simp) ?_
      refine AllReady.cons rfl (fun K hK=>?_) ?_
      ·refine step_load1 rfl 44 _ rfl _ 9 (.slice (some ⟨w5.heap.size,0,none⟩) 1 1) rfl ag_strs (cellA D2.out.b1 9) ?_
       refine hK _ _ ?_;clear hK K
       refine wpAny_ready (rs:=[5]) (by kernel_rfl) (by simp) ?_
       refine AllReady.cons rfl (fun K hK=>?_) ?_
       ·go_simp
        refine (HUs.out _ _ (Nat.zero_le _) D2.out.rr.here (HI.out _ _ D2.out.rr)).mono ?_
        rintro e w6 (⟨x6,k6,v,h6,rfl,hv,hr⟩ | ⟨k6,h6,rfl,hr⟩)
        ·obtain ⟨s6,n6,c6,rfl⟩:=ListR.form hv
         have S6:=hide (D2.out.call (ListR.ok strV_ok mkOne 1) hr hv)
         have Q6:=hide (Q5.out.trans (bind_ok h6))
         have HLn6:=hide (until_small h6 hr)
         clear hr h6 hv
         refine hK _ _ ?_;clear hK K
         refine wpAny_ready (rs:=[6]) (by kernel_rfl) (by simp) ?_
         refine AllReady.cons rfl (fun K hK=>?_) ?_
         ·refine step_appT rfl _ _ rfl rfl rfl S6.out HT5.out HLn6.out ?_
          intro v105 w105 hs
          obtain ⟨s105,n105,c105,rfl⟩:=ListR.form hs.kp.1
          have S105:=hide hs
          clear hs
          refine hK _ _ ?_;clear hK K
          refine wpAny_take (i:=7) (v:=?_) rfl (by kernel_rfl) (by kernel_rfl) (by kernel_rfl) (fun _ _ _ h=>h) (Or.inl ⟨by rfl,?_⟩) ?_
          rotate_left
          ·(intro w;go_simp;try (with_reducible rfl))
          refine wpAny_ready (rs:=[8]) (by kernel_rfl) (by simp) ?_
          refine AllReady.cons rfl (fun K hK=>?_) ?_
          ·refine step_store1 rfl 44 _ _ rfl _ 9 (.slice s105 n105 c105) rfl rfl rfl sz_strs (by rw [cellA S105.out.b0];rfl) (softA S105.out.b0 9) rfl ?_
           refine hK _ _ ?_;clear hK K
           refine wpAny_done (by kernel_rfl) ?_ _
           have C7:Hid (Sp w _ p q L k6 dm sm [(w1.heap.size,.cells #[.int .u8 8,.string t1,.slice none 0 0,.int .i64 0,.int .i64 0,.int .i64 0,.int .i64 0,.slice none 0 0,.slice s3 n3 c3,.slice s105 n105 c105,.string ⟨#[]⟩,.slice none 0 0,.slice none 0 0,.slice none 0 0,.int .i64 0] 69 (0,0)),(w.heap.size,.cells #[.int .u8 0,.string ⟨#[]⟩,.slice none 0 0,.int .i64 0,.int .i64 0,.int .i64 0,.int .i64 0,.slice none 0 0,.slice none 0 0,.slice none 0 0,.string ⟨#[]⟩,.slice none 0 0,.slice none 0 0,.slice none 0 0,.int .i64 0] 69 (0,0))] _):=(S105.out.set0 9 (.slice s105 n105 c105))
           go_wp2_with fail
           refine (pass_lay C7.out.rr HL.out [[100,101,102,97,117,108,116]] (by decide) (by decide) #[.string ⟨#[100,101,102,97,117,108,116]⟩] rfl 9 _ 1 (by first | rfl | simp | simp [World.size_alloc] | simp [World.setCell] | simp [World.setCell,World.size_alloc]) rfl).mono ?_
           rintro e w7 (⟨x7,k7,v,h7,rfl,hv,hr⟩ | ⟨k7,h7,rfl,hr⟩)
           ·obtain rfl:v=.tuple #[]:=hv
            have S7:=hide (C7.out.go hr)
            have Q7:=hide (Q6.out.trans (bind_ok h7))
            clear hr h7 C7
            go_wp2_with fail
            refine (HNm.out _ _ (Nat.zero_le _) S7.out.rr.here (HI.out _ _ S7.out.rr)).mono ?_
            rintro e w8 (⟨x8,k8,v,h8,rfl,hv,hr⟩ | ⟨k8,h8,rfl,hr⟩)
            ·obtain ⟨t8,rfl⟩:=StrV.form hv
             have S8:=hide (S7.out.call strV_ok hr hv)
             have Q8:=hide (Q7.out.trans (bind_ok h8))
             have HT8:=hide (StrV.eq hv)
             clear hr h8 hv
             have C9:Hid (Sp w _ p q L k8 dm sm [(w1.heap.size,.cells #[.int .u8 8,.string t1,.slice none 0 0,.int .i64 0,.int .i64 0,.int .i64 0,.int .i64 0,.slice none 0 0,.slice s3 n3 c3,.slice s105 n105 c105,.string t8,.slice none 0 0,.slice none 0 0,.slice none 0 0,.int .i64 0] 69 (0,0)),(w.heap.size,.cells #[.int .u8 0,.string ⟨#[]⟩,.slice none 0 0,.int .i64 0,.int .i64 0,.int .i64 0,.int .i64 0,.slice none 0 0,.slice none 0 0,.slice none 0 0,.string ⟨#[]⟩,.slice none 0 0,.slice none 0 0,.slice none 0 0,.int .i64 0] 69 (0,0))] _):=(S8.out.set0 10 (.string t8))
             have gc7:=cellA S8.out.b0 10;have gs7:=softA S8.out.b0 10
             go_wp2_with fail
             refine (HBb.out _ _ (Nat.zero_le _) C9.out.rr.here (HI.out _ _ C9.out.rr)).mono ?_
             rintro e w9 (⟨x9,k9,v,h9,rfl,hv,hr⟩ | ⟨k9,h9,rfl,hr⟩)
             ·obtain ⟨s9,n9,c9,rfl⟩:=ListR.form hv
              have S9:=hide (C9.out.call (ListR.ok litV_ok mkAgg 3) hr hv)
              have Q9:=hide (Q8.out.trans (bind_ok h9))
              clear hr h9 hv C9
              have C10:Hid (Sp w _ p q L k9 dm sm [(w1.heap.size,.cells #[.int .u8 8,.string t1,.slice none 0 0,.int .i64 0,.int .i64 0,.int .i64 0,.int .i64 0,.slice none 0 0,.slice s3 n3 c3,.slice s105 n105 c105,.string t8,.slice s9 n9 c9,.slice none 0 0,.slice none 0 0,.int .i64 0] 69 (0,0)),(w.heap.size,.cells #[.int .u8 0,.string ⟨#[]⟩,.slice none 0 0,.int .i64 0,.int .i64 0,.int .i64 0,.int .i64 0,.slice none 0 0,.slice none 0 0,.slice none 0 0,.string ⟨#[]⟩,.slice none 0 0,.slice none 0 0,.slice none 0 0,.int .i64 0] 69 (0,0))] _):=(S9.out.set0 11 (.slice s9 n9 c9))
              have gc8:=cellA S9.out.b0 11;have gs8:=softA S9.out.b0 11
              go_wp2_with fail
              refine (pass_lay C10.out.rr HL.out [[59],[115,105,122,101]] (by decide) (by decide) #[.string ⟨#[59]⟩,.string ⟨#[115,105,122,101]⟩] rfl 9 _ 2 (by first | rfl | simp | simp [World.size_alloc] | simp [World.setCell] | simp [World.setCell,World.size_alloc]) rfl).mono ?_
              rintro e w10 (⟨x10,k10,v,h10,rfl,hv,hr⟩ | ⟨k10,h10,rfl,hr⟩)
              ·obtain rfl:v=.tuple #[]:=hv
               have S10:=hide (C10.out.go hr)
               have Q10:=hide (Q9.out.trans (bind_ok h10))
               clear hr h10 C10
               go_wp2_with fail
               refine (HCi.out _ _ (Nat.zero_le _) S10.out.rr.here (HI.out _ _ S10.out.rr)).mono ?_
               rintro e w11 (⟨x11,k11,v,h11,rfl,hv,hr⟩ | ⟨k11,h11,rfl,hr⟩)
               ·obtain ⟨i11,rfl⟩:=IntV.form hv
                have S11:=hide (S10.out.call intV_ok hr hv)
                have Q11:=hide (Q10.out.trans (bind_ok h11))
                clear hr h11 hv
                have C12:Hid (Sp w _ p q L k11 dm sm [(w1.heap.size,.cells #[.int .u8 8,.string t1,.slice none 0 0,.int .i64 0,.int .i64 i11,.int .i64 0,.int .i64 0,.slice none 0 0,.slice s3 n3 c3,.slice s105 n105 c105,.string t8,.slice s9 n9 c9,.slice none 0 0,.slice none 0 0,.int .i64 0] 69 (0,0)),(w.heap.size,.cells #[.int .u8 0,.string ⟨#[]⟩,.slice none 0 0,.int .i64 0,.int .i64 0,.int .i64 0,.int .i64 0,.slice none 0 0,.slice none 0 0,.slice none 0 0,.string ⟨#[]⟩,.slice none 0 0,.slice none 0 0,.slice none 0 0,.int .i64 0] 69 (0,0))] _):=(S11.out.set0 4 (.int .i64 i11))
                have gc9:=cellA S11.out.b0 4;have gs9:=softA S11.out.b0 4
                go_wp2_with fail
                refine (pass_lay C12.out.rr HL.out [[125]] (by decide) (by decide) #[.string ⟨#[125]⟩] rfl 9 _ 1 (by first | rfl | simp | simp [World.size_alloc] | simp [World.setCell] | simp [World.setCell,World.size_alloc]) rfl).mono ?_
                rintro e w12 (⟨x12,k12,v,h12,rfl,hv,hr⟩ | ⟨k12,h12,rfl,hr⟩)
                ·obtain rfl:v=.tuple #[]:=hv
                 have S12:=hide (C12.out.go hr)
                 have Q12:=hide (Q11.out.trans (bind_ok h12))
                 clear hr h12 C12
                 have Q13:Hid (RR=.ok (({ dc0 8 with name:=x1,keys:=x3,acts:=x5 :: x6,dflt:=x8,args:=x9,n:=x11 }:Dc),k12)):=Q12.out.trans rfl
                 have XL:Hid (∀ W,((IntV) W (Bn w W) (.int .i64 i11) x11∧(ListR LitV mkAgg 3) W (Bn w W) (.slice s9 n9 c9) x9∧(StrV) W (Bn w W) (.string t8) x8∧(ListR StrV mkOne 1) W (Bn w W) (.slice s105 n105 c105) (x5 :: x6)∧(ListR StrV mkOne 1) W (Bn w W) (.slice s6 n6 c6) x6∧(StrV) W (Bn w W) (.string t5) x5∧(ListR KeyR mkAgg 11) W (Bn w W) (.slice s3 n3 c3) x3∧(StrV) W (Bn w W) (.string t1) x1∧True)→(DeclR) W (Bn w W) (.agg #[.int .u8 8,.string t1,.slice none 0 0,.int .i64 0,.int .i64 i11,.int .i64 0,.int .i64 0,.slice none 0 0,.slice s3 n3 c3,.slice s105 n105 c105,.string t8,.slice s9 n9 c9,.slice none 0 0,.slice none 0 0,.int .i64 0]) ({ dc0 8 with name:=x1,keys:=x3,acts:=x5 :: x6,dflt:=x8,args:=x9,n:=x11 }:Dc)):=by
                  rintro W ⟨X11,X9,X8,X105,X6,X5,X3,X1,_⟩
                  obtain rfl:=IntV.eq X11
                  obtain rfl:=StrV.eq X8
                  obtain rfl:=StrV.eq X5
                  obtain rfl:=StrV.eq X1
                  exact ⟨_,_,_,_,_,_,_,rfl,⟨ListR.none,ListR.none,X3,X105,X9,ListR.none,ListR.none⟩⟩
                 have CF:Hid (Sp w _ p q L k12 dm sm [(w1.heap.size,.cells #[.int .u8 8,.string t1,.slice none 0 0,.int .i64 0,.int .i64 i11,.int .i64 0,.int .i64 0,.slice none 0 0,.slice s3 n3 c3,.slice s105 n105 c105,.string t8,.slice s9 n9 c9,.slice none 0 0,.slice none 0 0,.int .i64 0] 69 (0,0)),(w.heap.size,.cells #[.int .u8 0,.string ⟨#[]⟩,.slice none 0 0,.int .i64 0,.int .i64 0,.int .i64 0,.int .i64 0,.slice none 0 0,.slice none 0 0,.slice none 0 0,.string ⟨#[]⟩,.slice none 0 0,.slice none 0 0,.slice none 0 0,.int .i64 0] 69 (0,0))] _):=S12.out
                 go_wp2_with (first | (refine wpList_loadA rfl 69 _ rfl _ [.int .u8 8,.string t1,.slice none 0 0,.int .i64 0,.int .i64 i11,.int .i64 0,.int .i64 0,.slice none 0 0,.slice s3 n3 c3,.slice s105 n105 c105,.string t8,.slice s9 n9 c9,.slice none 0 0,.slice none 0 0,.int .i64 0] 69 rfl ag_decl sz_decl CF.out.b0 ?_) | (refine wpList_storeA rfl 69 _ _ rfl _ [.int .u8 8,.string t1,.slice none 0 0,.int .i64 0,.int .i64 i11,.int .i64 0,.int .i64 0,.slice none 0 0,.slice s3 n3 c3,.slice s105 n105 c105,.string t8,.slice s9 n9 c9,.slice none 0 0,.slice none 0 0,.int .i64 0] #[.int .u8 0,.string ⟨#[]⟩,.slice none 0 0,.int .i64 0,.int .i64 0,.int .i64 0,.int .i64 0,.slice none 0 0,.slice none 0 0,.slice none 0 0,.string ⟨#[]⟩,.slice none 0 0,.slice none 0 0,.slice none 0 0,.int .i64 0] 69 rfl rfl sz_decl CF.out.b1 rfl (by intro u hu;simp at hu;rcases hu with rfl | rfl | rfl | rfl | rfl | rfl | rfl | rfl | rfl | rfl | rfl | rfl | rfl | rfl | rfl <;> rfl) ?_;intro w9 hw9;have HW9:=hide hw9;clear hw9))
                 have SF:=CF.out.fill1 [.int .u8 8,.string t1,.slice none 0 0,.int .i64 0,.int .i64 i11,.int .i64 0,.int .i64 0,.slice none 0 0,.slice s3 n3 c3,.slice s105 n105 c105,.string t8,.slice s9 n9 c9,.slice none 0 0,.slice none 0 0,.int .i64 0] rfl
                 rw [← HW9.out] at SF
                 have HXE:=hide (XL.out _ SF.fin)
                 have HRR:=hide SF.rr
                 have HBB:=SF.b1
                 clear SF
                 refine bodyPost_ret (v:=.agg #[.int .u8 8,.string t1,.slice none 0 0,.int .i64 0,.int .i64 i11,.int .i64 0,.int .i64 0,.slice none 0 0,.slice s3 n3 c3,.slice s105 n105 c105,.string t8,.slice s9 n9 c9,.slice none 0 0,.slice none 0 0,.int .i64 0]) (res_cell (cs:=[.int .u8 8,.string t1,.slice none 0 0,.int .i64 0,.int .i64 i11,.int .i64 0,.int .i64 0,.slice none 0 0,.slice s3 n3 c3,.slice s105 n105 c105,.string t8,.slice s9 n9 c9,.slice none 0 0,.slice none 0 0,.int .i64 0]) (e:=69) Tryz.results50 rfl ag_decl sz_decl HBB) rfl ?_
                 exact .inl ⟨({ dc0 8 with name:=x1,keys:=x3,acts:=x5 :: x6,dflt:=x8,args:=x9,n:=x11 }:Dc),k12,_,Q13.out,rfl,HXE.out,HRR.out⟩
                ·have R12:=hide (C12.out.rr.from hr)
                 have Q12:=hide (Q11.out.trans (bind_err h12))
                 clear hr h12
                 go_wp2
                 exact ⟨rfl,.inr ⟨_,Q12.out,rfl,R12.out⟩⟩
               ·have R11:=hide (S10.out.rr.from hr)
                have Q11:=hide (Q10.out.trans (bind_err h11))
                clear hr h11
                go_wp2
                exact ⟨rfl,.inr ⟨_,Q11.out,rfl,R11.out⟩⟩
              ·have R10:=hide (C10.out.rr.from hr)
               have Q10:=hide (Q9.out.trans (bind_err h10))
               clear hr h10
               go_wp2
               exact ⟨rfl,.inr ⟨_,Q10.out,rfl,R10.out⟩⟩
             ·have R9:=hide (C9.out.rr.from hr)
              have Q9:=hide (Q8.out.trans (bind_err h9))
              clear hr h9
              go_wp2
              exact ⟨rfl,.inr ⟨_,Q9.out,rfl,R9.out⟩⟩
            ·have R8:=hide (S7.out.rr.from hr)
             have Q8:=hide (Q7.out.trans (bind_err h8))
             clear hr h8
             go_wp2
             exact ⟨rfl,.inr ⟨_,Q8.out,rfl,R8.out⟩⟩
           ·have R7:=hide (C7.out.rr.from hr)
            have Q7:=hide (Q6.out.trans (bind_err h7))
            clear hr h7
            go_wp2
            exact ⟨rfl,.inr ⟨_,Q7.out,rfl,R7.out⟩⟩
          exact AllReady.nil
         exact AllReady.nil
        ·have R6:=hide (D2.out.rr.from hr)
         have Q6:=hide (Q5.out.trans (bind_err h6))
         clear hr h6
         exact ⟨rfl,.inr ⟨_,Q6.out,rfl,R6.out⟩⟩
       exact AllReady.nil
      refine AllReady.cons rfl (fun K hK=>?_) ?_
      ·go_simp
       refine (HUs.out _ _ (Nat.zero_le _) D2.out.rr.here (HI.out _ _ D2.out.rr)).mono ?_
       rintro e w6 (⟨x6,k6,v,h6,rfl,hv,hr⟩ | ⟨k6,h6,rfl,hr⟩)
       ·obtain ⟨s6,n6,c6,rfl⟩:=ListR.form hv
        have S6:=hide (D2.out.call (ListR.ok strV_ok mkOne 1) hr hv)
        have Q6:=hide (Q5.out.trans (bind_ok h6))
        have HLn6:=hide (until_small h6 hr)
        clear hr h6 hv
        refine hK _ _ ?_;clear hK K
        refine wpAny_ready (rs:=[1]) (by kernel_rfl) (by simp) ?_
        refine AllReady.cons rfl (fun K hK=>?_) ?_
        ·refine step_load1 rfl 44 _ rfl _ 9 (.slice (some ⟨w5.heap.size,0,none⟩) 1 1) rfl ag_strs (cellA S6.out.b1 9) ?_
         refine hK _ _ ?_;clear hK K
         refine wpAny_ready (rs:=[6]) (by kernel_rfl) (by simp) ?_
         refine AllReady.cons rfl (fun K hK=>?_) ?_
         ·refine step_appT rfl _ _ rfl rfl rfl S6.out HT5.out HLn6.out ?_
          intro v110 w110 hs
          obtain ⟨s110,n110,c110,rfl⟩:=ListR.form hs.kp.1
          have S110:=hide hs
          clear hs
          refine hK _ _ ?_;clear hK K
          refine wpAny_take (i:=7) (v:=?_) rfl (by kernel_rfl) (by kernel_rfl) (by kernel_rfl) (fun _ _ _ h=>h) (Or.inl ⟨by rfl,?_⟩) ?_
          rotate_left
          ·(intro w;go_simp;try (with_reducible rfl))
          refine wpAny_ready (rs:=[8]) (by kernel_rfl) (by simp) ?_
          refine AllReady.cons rfl (fun K hK=>?_) ?_
          ·refine step_store1 rfl 44 _ _ rfl _ 9 (.slice s110 n110 c110) rfl rfl rfl sz_strs (by rw [cellA S110.out.b0];rfl) (softA S110.out.b0 9) rfl ?_
           refine hK _ _ ?_;clear hK K
           refine wpAny_done (by kernel_rfl) ?_ _
           have C7:Hid (Sp w _ p q L k6 dm sm [(w1.heap.size,.cells #[.int .u8 8,.string t1,.slice none 0 0,.int .i64 0,.int .i64 0,.int .i64 0,.int .i64 0,.slice none 0 0,.slice s3 n3 c3,.slice s110 n110 c110,.string ⟨#[]⟩,.slice none 0 0,.slice none 0 0,.slice none 0 0,.int .i64 0] 69 (0,0)),(w.heap.size,.cells #[.int .u8 0,.string ⟨#[]⟩,.slice none 0 0,.int .i64 0,.int .i64 0,.int .i64 0,.int .i64 0,.slice none 0 0,.slice none 0 0,.slice none 0 0,.string ⟨#[]⟩,.slice none 0 0,.slice none 0 0,.slice none 0 0,.int .i64 0] 69 (0,0))] _):=(S110.out.set0 9 (.slice s110 n110 c110))
           go_wp2_with fail
           refine (pass_lay C7.out.rr HL.out [[100,101,102,97,117,108,116]] (by decide) (by decide) #[.string ⟨#[100,101,102,97,117,108,116]⟩] rfl 9 _ 1 (by first | rfl | simp | simp [World.size_alloc] | simp [World.setCell] | simp [World.setCell,World.size_alloc]) rfl).mono ?_
           rintro e w7 (⟨x7,k7,v,h7,rfl,hv,hr⟩ | ⟨k7,h7,rfl,hr⟩)
           ·obtain rfl:v=.tuple #[]:=hv
            have S7:=hide (C7.out.go hr)
            have Q7:=hide (Q6.out.trans (bind_ok h7))
            clear hr h7 C7
            go_wp2_with fail
            refine (HNm.out _ _ (Nat.zero_le _) S7.out.rr.here (HI.out _ _ S7.out.rr)).mono ?_
            rintro e w8 (⟨x8,k8,v,h8,rfl,hv,hr⟩ | ⟨k8,h8,rfl,hr⟩)
            ·obtain ⟨t8,rfl⟩:=StrV.form hv
             have S8:=hide (S7.out.call strV_ok hr hv)
             have Q8:=hide (Q7.out.trans (bind_ok h8))
             have HT8:=hide (StrV.eq hv)
             clear hr h8 hv
             have C9:Hid (Sp w _ p q L k8 dm sm [(w1.heap.size,.cells #[.int .u8 8,.string t1,.slice none 0 0,.int .i64 0,.int .i64 0,.int .i64 0,.int .i64 0,.slice none 0 0,.slice s3 n3 c3,.slice s110 n110 c110,.string t8,.slice none 0 0,.slice none 0 0,.slice none 0 0,.int .i64 0] 69 (0,0)),(w.heap.size,.cells #[.int .u8 0,.string ⟨#[]⟩,.slice none 0 0,.int .i64 0,.int .i64 0,.int .i64 0,.int .i64 0,.slice none 0 0,.slice none 0 0,.slice none 0 0,.string ⟨#[]⟩,.slice none 0 0,.slice none 0 0,.slice none 0 0,.int .i64 0] 69 (0,0))] _):=(S8.out.set0 10 (.string t8))
             have gc12:=cellA S8.out.b0 10;have gs12:=softA S8.out.b0 10
             go_wp2_with fail
             refine (HBb.out _ _ (Nat.zero_le _) C9.out.rr.here (HI.out _ _ C9.out.rr)).mono ?_
             rintro e w9 (⟨x9,k9,v,h9,rfl,hv,hr⟩ | ⟨k9,h9,rfl,hr⟩)
             ·obtain ⟨s9,n9,c9,rfl⟩:=ListR.form hv
              have S9:=hide (C9.out.call (ListR.ok litV_ok mkAgg 3) hr hv)
              have Q9:=hide (Q8.out.trans (bind_ok h9))
              clear hr h9 hv C9
              have C10:Hid (Sp w _ p q L k9 dm sm [(w1.heap.size,.cells #[.int .u8 8,.string t1,.slice none 0 0,.int .i64 0,.int .i64 0,.int .i64 0,.int .i64 0,.slice none 0 0,.slice s3 n3 c3,.slice s110 n110 c110,.string t8,.slice s9 n9 c9,.slice none 0 0,.slice none 0 0,.int .i64 0] 69 (0,0)),(w.heap.size,.cells #[.int .u8 0,.string ⟨#[]⟩,.slice none 0 0,.int .i64 0,.int .i64 0,.int .i64 0,.int .i64 0,.slice none 0 0,.slice none 0 0,.slice none 0 0,.string ⟨#[]⟩,.slice none 0 0,.slice none 0 0,.slice none 0 0,.int .i64 0] 69 (0,0))] _):=(S9.out.set0 11 (.slice s9 n9 c9))
              have gc13:=cellA S9.out.b0 11;have gs13:=softA S9.out.b0 11
              go_wp2_with fail
              refine (pass_lay C10.out.rr HL.out [[59],[115,105,122,101]] (by decide) (by decide) #[.string ⟨#[59]⟩,.string ⟨#[115,105,122,101]⟩] rfl 9 _ 2 (by first | rfl | simp | simp [World.size_alloc] | simp [World.setCell] | simp [World.setCell,World.size_alloc]) rfl).mono ?_
              rintro e w10 (⟨x10,k10,v,h10,rfl,hv,hr⟩ | ⟨k10,h10,rfl,hr⟩)
              ·obtain rfl:v=.tuple #[]:=hv
               have S10:=hide (C10.out.go hr)
               have Q10:=hide (Q9.out.trans (bind_ok h10))
               clear hr h10 C10
               go_wp2_with fail
               refine (HCi.out _ _ (Nat.zero_le _) S10.out.rr.here (HI.out _ _ S10.out.rr)).mono ?_
               rintro e w11 (⟨x11,k11,v,h11,rfl,hv,hr⟩ | ⟨k11,h11,rfl,hr⟩)
               ·obtain ⟨i11,rfl⟩:=IntV.form hv
                have S11:=hide (S10.out.call intV_ok hr hv)
                have Q11:=hide (Q10.out.trans (bind_ok h11))
                clear hr h11 hv
                have C12:Hid (Sp w _ p q L k11 dm sm [(w1.heap.size,.cells #[.int .u8 8,.string t1,.slice none 0 0,.int .i64 0,.int .i64 i11,.int .i64 0,.int .i64 0,.slice none 0 0,.slice s3 n3 c3,.slice s110 n110 c110,.string t8,.slice s9 n9 c9,.slice none 0 0,.slice none 0 0,.int .i64 0] 69 (0,0)),(w.heap.size,.cells #[.int .u8 0,.string ⟨#[]⟩,.slice none 0 0,.int .i64 0,.int .i64 0,.int .i64 0,.int .i64 0,.slice none 0 0,.slice none 0 0,.slice none 0 0,.string ⟨#[]⟩,.slice none 0 0,.slice none 0 0,.slice none 0 0,.int .i64 0] 69 (0,0))] _):=(S11.out.set0 4 (.int .i64 i11))
                have gc14:=cellA S11.out.b0 4;have gs14:=softA S11.out.b0 4
                go_wp2_with fail
                refine (pass_lay C12.out.rr HL.out [[125]] (by decide) (by decide) #[.string ⟨#[125]⟩] rfl 9 _ 1 (by first | rfl | simp | simp [World.size_alloc] | simp [World.setCell] | simp [World.setCell,World.size_alloc]) rfl).mono ?_
                rintro e w12 (⟨x12,k12,v,h12,rfl,hv,hr⟩ | ⟨k12,h12,rfl,hr⟩)
                ·obtain rfl:v=.tuple #[]:=hv
                 have S12:=hide (C12.out.go hr)
                 have Q12:=hide (Q11.out.trans (bind_ok h12))
                 clear hr h12 C12
                 have Q13:Hid (RR=.ok (({ dc0 8 with name:=x1,keys:=x3,acts:=x5 :: x6,dflt:=x8,args:=x9,n:=x11 }:Dc),k12)):=Q12.out.trans rfl
                 have XL:Hid (∀ W,((IntV) W (Bn w W) (.int .i64 i11) x11∧(ListR LitV mkAgg 3) W (Bn w W) (.slice s9 n9 c9) x9∧(StrV) W (Bn w W) (.string t8) x8∧(ListR StrV mkOne 1) W (Bn w W) (.slice s110 n110 c110) (x5 :: x6)∧(ListR StrV mkOne 1) W (Bn w W) (.slice s6 n6 c6) x6∧(StrV) W (Bn w W) (.string t5) x5∧(ListR KeyR mkAgg 11) W (Bn w W) (.slice s3 n3 c3) x3∧(StrV) W (Bn w W) (.string t1) x1∧True)→(DeclR) W (Bn w W) (.agg #[.int .u8 8,.string t1,.slice none 0 0,.int .i64 0,.int .i64 i11,.int .i64 0,.int .i64 0,.slice none 0 0,.slice s3 n3 c3,.slice s110 n110 c110,.string t8,.slice s9 n9 c9,.slice none 0 0,.slice none 0 0,.int .i64 0]) ({ dc0 8 with name:=x1,keys:=x3,acts:=x5 :: x6,dflt:=x8,args:=x9,n:=x11 }:Dc)):=by
                  rintro W ⟨X11,X9,X8,X110,X6,X5,X3,X1,_⟩
                  obtain rfl:=IntV.eq X11
                  obtain rfl:=StrV.eq X8
                  obtain rfl:=StrV.eq X5
                  obtain rfl:=StrV.eq X1
                  exact ⟨_,_,_,_,_,_,_,rfl,⟨ListR.none,ListR.none,X3,X110,X9,ListR.none,ListR.none⟩⟩
                 have CF:Hid (Sp w _ p q L k12 dm sm [(w1.heap.size,.cells #[.int .u8 8,.string t1,.slice none 0 0,.int .i64 0,.int .i64 i11,.int .i64 0,.int .i64 0,.slice none 0 0,.slice s3 n3 c3,.slice s110 n110 c110,.string t8,.slice s9 n9 c9,.slice none 0 0,.slice none 0 0,.int .i64 0] 69 (0,0)),(w.heap.size,.cells #[.int .u8 0,.string ⟨#[]⟩,.slice none 0 0,.int .i64 0,.int .i64 0,.int .i64 0,.int .i64 0,.slice none 0 0,.slice none 0 0,.slice none 0 0,.string ⟨#[]⟩,.slice none 0 0,.slice none 0 0,.slice none 0 0,.int .i64 0] 69 (0,0))] _):=S12.out
                 go_wp2_with (first | (refine wpList_loadA rfl 69 _ rfl _ [.int .u8 8,.string t1,.slice none 0 0,.int .i64 0,.int .i64 i11,.int .i64 0,.int .i64 0,.slice none 0 0,.slice s3 n3 c3,.slice s110 n110 c110,.string t8,.slice s9 n9 c9,.slice none 0 0,.slice none 0 0,.int .i64 0] 69 rfl ag_decl sz_decl CF.out.b0 ?_) | (refine wpList_storeA rfl 69 _ _ rfl _ [.int .u8 8,.string t1,.slice none 0 0,.int .i64 0,.int .i64 i11,.int .i64 0,.int .i64 0,.slice none 0 0,.slice s3 n3 c3,.slice s110 n110 c110,.string t8,.slice s9 n9 c9,.slice none 0 0,.slice none 0 0,.int .i64 0] #[.int .u8 0,.string ⟨#[]⟩,.slice none 0 0,.int .i64 0,.int .i64 0,.int .i64 0,.int .i64 0,.slice none 0 0,.slice none 0 0,.slice none 0 0,.string ⟨#[]⟩,.slice none 0 0,.slice none 0 0,.slice none 0 0,.int .i64 0] 69 rfl rfl sz_decl CF.out.b1 rfl (by intro u hu;simp at hu;rcases hu with rfl | rfl | rfl | rfl | rfl | rfl | rfl | rfl | rfl | rfl | rfl | rfl | rfl | rfl | rfl <;> rfl) ?_;intro w9 hw9;have HW9:=hide hw9;clear hw9))
                 have SF:=CF.out.fill1 [.int .u8 8,.string t1,.slice none 0 0,.int .i64 0,.int .i64 i11,.int .i64 0,.int .i64 0,.slice none 0 0,.slice s3 n3 c3,.slice s110 n110 c110,.string t8,.slice s9 n9 c9,.slice none 0 0,.slice none 0 0,.int .i64 0] rfl
                 rw [← HW9.out] at SF
                 have HXE:=hide (XL.out _ SF.fin)
                 have HRR:=hide SF.rr
                 have HBB:=SF.b1
                 clear SF
                 refine bodyPost_ret (v:=.agg #[.int .u8 8,.string t1,.slice none 0 0,.int .i64 0,.int .i64 i11,.int .i64 0,.int .i64 0,.slice none 0 0,.slice s3 n3 c3,.slice s110 n110 c110,.string t8,.slice s9 n9 c9,.slice none 0 0,.slice none 0 0,.int .i64 0]) (res_cell (cs:=[.int .u8 8,.string t1,.slice none 0 0,.int .i64 0,.int .i64 i11,.int .i64 0,.int .i64 0,.slice none 0 0,.slice s3 n3 c3,.slice s110 n110 c110,.string t8,.slice s9 n9 c9,.slice none 0 0,.slice none 0 0,.int .i64 0]) (e:=69) Tryz.results50 rfl ag_decl sz_decl HBB) rfl ?_
                 exact .inl ⟨({ dc0 8 with name:=x1,keys:=x3,acts:=x5 :: x6,dflt:=x8,args:=x9,n:=x11 }:Dc),k12,_,Q13.out,rfl,HXE.out,HRR.out⟩
                ·have R12:=hide (C12.out.rr.from hr)
                 have Q12:=hide (Q11.out.trans (bind_err h12))
                 clear hr h12
                 go_wp2
                 exact ⟨rfl,.inr ⟨_,Q12.out,rfl,R12.out⟩⟩
               ·have R11:=hide (S10.out.rr.from hr)
                have Q11:=hide (Q10.out.trans (bind_err h11))
                clear hr h11
                go_wp2
                exact ⟨rfl,.inr ⟨_,Q11.out,rfl,R11.out⟩⟩
              ·have R10:=hide (C10.out.rr.from hr)
               have Q10:=hide (Q9.out.trans (bind_err h10))
               clear hr h10
               go_wp2
               exact ⟨rfl,.inr ⟨_,Q10.out,rfl,R10.out⟩⟩
             ·have R9:=hide (C9.out.rr.from hr)
              have Q9:=hide (Q8.out.trans (bind_err h9))
              clear hr h9
              go_wp2
              exact ⟨rfl,.inr ⟨_,Q9.out,rfl,R9.out⟩⟩
            ·have R8:=hide (S7.out.rr.from hr)
             have Q8:=hide (Q7.out.trans (bind_err h8))
             clear hr h8
             go_wp2
             exact ⟨rfl,.inr ⟨_,Q8.out,rfl,R8.out⟩⟩
           ·have R7:=hide (C7.out.rr.from hr)
            have Q7:=hide (Q6.out.trans (bind_err h7))
            clear hr h7
            go_wp2
            exact ⟨rfl,.inr ⟨_,Q7.out,rfl,R7.out⟩⟩
          exact AllReady.nil
         exact AllReady.nil
        exact AllReady.nil
       ·have R6:=hide (D2.out.rr.from hr)
        have Q6:=hide (Q5.out.trans (bind_err h6))
        clear hr h6
        exact ⟨rfl,.inr ⟨_,Q6.out,rfl,R6.out⟩⟩
      exact AllReady.nil
     ·have R5:=hide (S4.out.rr.from hr)
      have Q5:=hide (Q4.out.trans (bind_err h5))
      clear hr h5
      go_wp2
      exact ⟨rfl,.inr ⟨_,Q5.out,rfl,R5.out⟩⟩
    ·have R4:=hide (C4.out.rr.from hr)
     have Q4:=hide (Q3.out.trans (bind_err h4))
     clear hr h4
     go_wp2
     exact ⟨rfl,.inr ⟨_,Q4.out,rfl,R4.out⟩⟩
   ·have R3:=hide (S2.out.rr.from hr)
    have Q3:=hide (Q2.out.trans (bind_err h3))
    clear hr h3
    go_wp2
    exact ⟨rfl,.inr ⟨_,Q3.out,rfl,R3.out⟩⟩
  ·have R2:=hide (C2.out.rr.from hr)
   have Q2:=hide (Q1.out.trans (bind_err h2))
   clear hr h2
   go_wp2
   exact ⟨rfl,.inr ⟨_,Q2.out,rfl,R2.out⟩⟩
 ·have R1:=hide (C1.out.rr.from hr)
  have Q1:=hide (Q0.out.trans (bind_err h1))
  clear hr h1
  go_wp2
  exact ⟨rfl,.inr ⟨_,Q1.out,rfl,R1.out⟩⟩
end Go.Proofs.YtabkimknlifdoaaGreatDoor
