/- Pieces of the proof: PaNb, PaNc, PaNe, PaNf, PaNg, PaNh. -/
import Derived.Test.YtabkimknlifdoaaGreatDoorJ14
import Derived.Deep.LoopGhost
import Derived.Test.YtabkimknlifdoaaGreatDoorJ31
namespace Go.Proofs.YtabkimknlifdoaaGreatDoor
open Go.RowKit
theorem Tryz.infokeyN:(Tryz.prog.info? 85).map (fun i=>(i.zero,i.size,i.bytes))=some (some (.agg #[.int .u8 0,.int .i64 0,.int .u64 0,.int .u64 0,.string ⟨#[]⟩,.string ⟨#[]⟩,.int .i64 0,.int .i64 0,.slice none 0 0,.int .i64 0,.int .u8 0]),11,120):=by kernel_rfl
set_option maxRecDepth 100000 in
set_option maxHeartbeats 4000000 in
theorem until_key {p q:Nat} {L:List (Wd × Nat)} {dm sm:Value} {I:World→Prop} {k0:Nat} {f:Pf (Ex × Nat)} {b3 b5:Nat} (hL:OkL L) (hI:Stb I p q L dm sm) (hgo:Goes f) (en:List UInt8) (hen:en ≠ []) (T:ByteArray) (hT:T=txt en) (HTh:PfI I 162 #[.pointer (some ⟨b3,0,none⟩),.pointer (some ⟨b5,0,none⟩)] p q L dm sm k0 f KeyR) :
  PfI I 161 #[.pointer (some ⟨p,0,none⟩),.string T,.func (Fn.func 162) #[] #[.pointer (some ⟨b3,0,none⟩),.pointer (some ⟨b5,0,none⟩)]] p q L dm sm k0 (untilP en f) (ListR KeyR mkAgg 11):=by
 intro w k hk h hi
 obtain ⟨i0',hi0,hz0,hz1,hz2⟩:=info_parts Tryz.infokeyN
 have hsm:=h.sml
 have hkl:=h.kl
 have HLS:Hid (Lp KeyR mkAgg 11 85 w w p q L dm sm k 0 (.slice none 0 0) [] []):=Lp.start h
 have HP:=hide (fun W k' (r:Rp w W p q L k' dm sm)=>passed_two r hL en hen T hT)
 have HN:=hide (fun W k' (hkk:k≤k') (r:Rp w W p q L k' dm sm)=>HTh W k' (Nat.le_trans hk hkk) r.here (hI w W k' r hi))
 have HSM:=hide hsm
 have HGO:=hide (fun k' x k1 he=>hgo L k' x k1 he)
 have HU:Hid (untilP en f L k=untilF en f (L.length+1 - k) L k):=rfl
 obtain ⟨RR,hRR⟩:∃ RR,RR=untilP en f L k:=⟨_,rfl⟩
 rw [← hRR]
 rw [← hRR] at HU
 clear h hL hen hsm hRR hT hi hk hI hgo HTh
 go_enter Tryz.func161,Tryz.ntmps161
 go_wp2
 go_loopg [7] (L.length+1 - k) (fun g v wr=>∃ (v1:Value) (k' n:Nat) (l:List (Ex × Nat)) (css:List (List Value)),v1=v∧L.length+1≤g+k'∧k≤k'∧n≤k'∧Hid (RR=preL l (untilF en f g L k'))∧Hid (Lp KeyR mkAgg 11 85 w wr p q L dm sm k' n v1 l css))
 case atStart=>exact ⟨_,k,0,[],[],rfl,by omega,Nat.le_refl _,Nat.zero_le _,by unfold Hid;rw [preL_nil];exact HU.out,HLS.out⟩
 case round =>
  obtain ⟨v,k',n,l,css,rfl,hg,hkk,hn,HQ,HL⟩:=hrel
  have HG:=hide hg
  have HNK:=hide hn
  have HKK:=hide hkk
  have hkl':=HL.out.rr.kl
  have hg0:0 < gk:=by omega
  have HG0:=hide hg0
  clear hg hn hg0 hkl HLS HU hkk
  go_wp2_with fail
  refine (HP.out _ _ HL.out.rr).mono ?_
  rintro e w1 (⟨hp,rfl,hr⟩ | ⟨hp,rfl,hr⟩)
  ·have HE:Hid (RR=.ok (l,k'+1)):=by unfold Hid;rw [HQ.out,untilF_end HG0.out hp];simp [preL]
   have L1:=hide (HL.out.go keyR_ok hr)
   clear hr hp HQ
   go_wp2
   go_ret
   exact .inl ⟨l,k'+1,_,HE.out,rfl,L1.out.done keyR_ok,L1.out.rr⟩
  ·have HE1:Hid (∀ e,f L k'=.error e→RR=.error e):=fun e he=>by rw [HQ.out,untilF_err HG0.out hp he];rfl
   have HE2:Hid (∀ x k1,f L k'=.ok (x,k1)→RR=preL (l ++ [x]) (untilF en f (gk - 1) L k1)∧k' < k1):=fun x k1 he=>⟨by rw [HQ.out,untilF_go HG0.out hp he],HGO.out k' x k1 he⟩
   have L1:=hide (HL.out.go keyR_ok hr)
   clear hr HL hp HQ
   go_wp2_with fail
   refine (HN.out _ _ HKK.out L1.out.rr).mono ?_
   rintro e w2 (⟨x,k2,v2,h2,rfl,hv,hr⟩ | ⟨k2,h2,rfl,hr⟩)
   ·obtain ⟨z2a,z2b,z2c,z2d,z2e,z2f,z2g,z2h,s2i,n2i,c2i,z2j,z2k,rfl⟩:=KeyR.form hv
    have H2:=hide (HE2.out _ _ h2)
    have R2:=hide hr
    have O2:=hide (L1.out.go keyR_ok hr).own
    have Z2:Hid (w.heap.size≤w2.heap.size):=Nat.le_trans L1.out.rr.fr.size hr.fr.size
    have HSx:Hid (KeyR w2 (Bn w1 w2) (mkAgg [.int .u8 z2a,.int .i64 z2b,.int .u64 z2c,.int .u64 z2d,.string z2e,.string z2f,.int .i64 z2g,.int .i64 z2h,.slice s2i n2i c2i,.int .i64 z2j,.int .u8 z2k]) x):=hv
    clear hr h2 hv
    go_wp2_with (at_builtin;refine wpList_appC rfl _ _ 65 rfl 85 i0' (.agg #[.int .u8 0,.int .i64 0,.int .u64 0,.int .u64 0,.string ⟨#[]⟩,.string ⟨#[]⟩,.int .i64 0,.int .i64 0,.slice none 0 0,.int .i64 0,.int .u8 0]) 11 120 Tryz.underlying65 hi0 hz0 hz1 hz2 rfl (by decide) (by decide) w.heap.size _ n css.flatten rfl (ownR_below O2.out ((Below.refl _ _).alloc (Nat.le_refl _) _)) w2.heap.size [.int .u8 z2a,.int .i64 z2b,.int .u64 z2c,.int .u64 z2d,.string z2e,.string z2f,.int .i64 z2g,.int .i64 z2h,.slice s2i n2i c2i,.int .i64 z2j,.int .u8 z2k] rfl rfl (cells_newC _ [.int .u8 z2a,.int .i64 z2b,.int .u64 z2c,.int .u64 z2d,.string z2e,.string z2f,.int .i64 z2g,.int .i64 z2h,.slice s2i n2i c2i,.int .i64 z2j,.int .u8 z2k] _) (by intro u hu;simp at hu;rcases hu with rfl | rfl | rfl | rfl | rfl | rfl | rfl | rfl | rfl | rfl | rfl <;> rfl) (by have:=HNK.out;have:=HSM.out;omega) (by have:=Z2.out;simp;omega) ?_;intro v8 w8 O8 D8;have L8:=hide (L1.out.step keyR_ok R2.out HSx.out rfl O8 D8);clear O8 D8)
    go_roundg (gk - 1)
    case measure=>have:=HG0.out;omega
    case rel=>exact ⟨_,k2,n+1,l ++ [x],_,rfl,by have:=HG.out;have:=H2.out.2;omega,by have:=HKK.out;have:=H2.out.2;omega,by have:=HNK.out;have:=H2.out.2;omega,H2.out.1,L8.out⟩
   ·have R2:=hide (L1.out.rr.from hr)
    have H2:=hide (HE1.out _ h2)
    clear hr h2
    go_wp2
    exact ⟨rfl,.inr ⟨k2,H2.out,rfl,R2.out⟩⟩
theorem Tryz.infocaseN:(Tryz.prog.info? 194).map (fun i=>(i.zero,i.size,i.bytes))=some (some (.agg #[.int .i64 0,.int .u64 0,.int .u64 0,.int .i64 0,.int .u64 0,.int .u64 0,.string ⟨#[]⟩]),7,64):=by kernel_rfl
set_option maxRecDepth 100000 in
set_option maxHeartbeats 4000000 in
theorem until_case {p q:Nat} {L:List (Wd × Nat)} {dm sm:Value} {I:World→Prop} {k0:Nat} {f:Pf (Ck)} {b3 b5:Nat} (hL:OkL L) (hI:Stb I p q L dm sm) (hgo:Goes f) (en:List UInt8) (hen:en ≠ []) (T:ByteArray) (hT:T=txt en) (HTh:PfI I 199 #[.pointer (some ⟨b3,0,none⟩),.pointer (some ⟨b5,0,none⟩)] p q L dm sm k0 f CaseV) :
  PfI I 198 #[.pointer (some ⟨p,0,none⟩),.string T,.func (Fn.func 199) #[] #[.pointer (some ⟨b3,0,none⟩),.pointer (some ⟨b5,0,none⟩)]] p q L dm sm k0 (untilP en f) (ListR CaseV mkAgg 7):=by
 intro w k hk h hi
 obtain ⟨i0',hi0,hz0,hz1,hz2⟩:=info_parts Tryz.infocaseN
 have hsm:=h.sml
 have hkl:=h.kl
 have HLS:Hid (Lp CaseV mkAgg 7 194 w w p q L dm sm k 0 (.slice none 0 0) [] []):=Lp.start h
 have HP:=hide (fun W k' (r:Rp w W p q L k' dm sm)=>passed_two r hL en hen T hT)
 have HN:=hide (fun W k' (hkk:k≤k') (r:Rp w W p q L k' dm sm)=>HTh W k' (Nat.le_trans hk hkk) r.here (hI w W k' r hi))
 have HSM:=hide hsm
 have HGO:=hide (fun k' x k1 he=>hgo L k' x k1 he)
 have HU:Hid (untilP en f L k=untilF en f (L.length+1 - k) L k):=rfl
 obtain ⟨RR,hRR⟩:∃ RR,RR=untilP en f L k:=⟨_,rfl⟩
 rw [← hRR]
 rw [← hRR] at HU
 clear h hL hen hsm hRR hT hi hk hI hgo HTh
 go_enter Tryz.func198,Tryz.ntmps198
 go_wp2
 go_loopg [7] (L.length+1 - k) (fun g v wr=>∃ (v1:Value) (k' n:Nat) (l:List (Ck)) (css:List (List Value)),v1=v∧L.length+1≤g+k'∧k≤k'∧n≤k'∧Hid (RR=preL l (untilF en f g L k'))∧Hid (Lp CaseV mkAgg 7 194 w wr p q L dm sm k' n v1 l css))
 case atStart=>exact ⟨_,k,0,[],[],rfl,by omega,Nat.le_refl _,Nat.zero_le _,by unfold Hid;rw [preL_nil];exact HU.out,HLS.out⟩
 case round =>
  obtain ⟨v,k',n,l,css,rfl,hg,hkk,hn,HQ,HL⟩:=hrel
  have HG:=hide hg
  have HNK:=hide hn
  have HKK:=hide hkk
  have hkl':=HL.out.rr.kl
  have hg0:0 < gk:=by omega
  have HG0:=hide hg0
  clear hg hn hg0 hkl HLS HU hkk
  go_wp2_with fail
  refine (HP.out _ _ HL.out.rr).mono ?_
  rintro e w1 (⟨hp,rfl,hr⟩ | ⟨hp,rfl,hr⟩)
  ·have HE:Hid (RR=.ok (l,k'+1)):=by unfold Hid;rw [HQ.out,untilF_end HG0.out hp];simp [preL]
   have L1:=hide (HL.out.go caseV_ok hr)
   clear hr hp HQ
   go_wp2
   go_ret
   exact .inl ⟨l,k'+1,_,HE.out,rfl,L1.out.done caseV_ok,L1.out.rr⟩
  ·have HE1:Hid (∀ e,f L k'=.error e→RR=.error e):=fun e he=>by rw [HQ.out,untilF_err HG0.out hp he];rfl
   have HE2:Hid (∀ x k1,f L k'=.ok (x,k1)→RR=preL (l ++ [x]) (untilF en f (gk - 1) L k1)∧k' < k1):=fun x k1 he=>⟨by rw [HQ.out,untilF_go HG0.out hp he],HGO.out k' x k1 he⟩
   have L1:=hide (HL.out.go caseV_ok hr)
   clear hr HL hp HQ
   go_wp2_with fail
   refine (HN.out _ _ HKK.out L1.out.rr).mono ?_
   rintro e w2 (⟨x,k2,v2,h2,rfl,hv,hr⟩ | ⟨k2,h2,rfl,hr⟩)
   ·obtain ⟨z2a,z2b,z2c,z2d,z2e,z2f,z2g,rfl⟩:=CaseV.form hv
    have H2:=hide (HE2.out _ _ h2)
    have R2:=hide hr
    have O2:=hide (L1.out.go caseV_ok hr).own
    have Z2:Hid (w.heap.size≤w2.heap.size):=Nat.le_trans L1.out.rr.fr.size hr.fr.size
    have HSx:Hid (CaseV w2 (Bn w1 w2) (mkAgg [.int .i64 z2a,.int .u64 z2b,.int .u64 z2c,.int .i64 z2d,.int .u64 z2e,.int .u64 z2f,.string z2g]) x):=hv
    clear hr h2 hv
    go_wp2_with (at_builtin;refine wpList_appC rfl _ _ 77 rfl 194 i0' (.agg #[.int .i64 0,.int .u64 0,.int .u64 0,.int .i64 0,.int .u64 0,.int .u64 0,.string ⟨#[]⟩]) 7 64 Tryz.underlying77 hi0 hz0 hz1 hz2 rfl (by decide) (by decide) w.heap.size _ n css.flatten rfl (ownR_below O2.out ((Below.refl _ _).alloc (Nat.le_refl _) _)) w2.heap.size [.int .i64 z2a,.int .u64 z2b,.int .u64 z2c,.int .i64 z2d,.int .u64 z2e,.int .u64 z2f,.string z2g] rfl rfl (cells_newC _ [.int .i64 z2a,.int .u64 z2b,.int .u64 z2c,.int .i64 z2d,.int .u64 z2e,.int .u64 z2f,.string z2g] _) (by intro u hu;simp at hu;rcases hu with rfl | rfl | rfl | rfl | rfl | rfl | rfl <;> rfl) (by have:=HNK.out;have:=HSM.out;omega) (by have:=Z2.out;simp;omega) ?_;intro v8 w8 O8 D8;have L8:=hide (L1.out.step caseV_ok R2.out HSx.out rfl O8 D8);clear O8 D8)
    go_roundg (gk - 1)
    case measure=>have:=HG0.out;omega
    case rel=>exact ⟨_,k2,n+1,l ++ [x],_,rfl,by have:=HG.out;have:=H2.out.2;omega,by have:=HKK.out;have:=H2.out.2;omega,by have:=HNK.out;have:=H2.out.2;omega,H2.out.1,L8.out⟩
   ·have R2:=hide (L1.out.rr.from hr)
    have H2:=hide (HE1.out _ h2)
    clear hr h2
    go_wp2
    exact ⟨rfl,.inr ⟨k2,H2.out,rfl,R2.out⟩⟩
theorem Tryz.infostateN:(Tryz.prog.info? 79).map (fun i=>(i.zero,i.size,i.bytes))=some (some (.agg #[.string ⟨#[]⟩,.slice none 0 0,.slice none 0 0,.slice none 0 0,.string ⟨#[]⟩,.int .i64 0]),6,112):=by kernel_rfl
set_option maxRecDepth 100000 in
set_option maxHeartbeats 4000000 in
theorem until_state {p q:Nat} {L:List (Wd × Nat)} {dm sm:Value} {I:World→Prop} {k0:Nat} {f:Pf (Ts)} (hL:OkL L) (hI:Stb I p q L dm sm) (hgo:Goes f) (en:List UInt8) (hen:en ≠ []) (T:ByteArray) (hT:T=txt en) (HTh:PfI I 102 #[.pointer (some ⟨p,0,none⟩)] p q L dm sm k0 f StateR) :
  PfI I 101 #[.pointer (some ⟨p,0,none⟩),.string T,.func (Fn.func 102) #[.pointer (some ⟨p,0,none⟩)] #[]] p q L dm sm k0 (untilP en f) (ListR StateR mkAgg 6):=by
 intro w k hk h hi
 obtain ⟨i0',hi0,hz0,hz1,hz2⟩:=info_parts Tryz.infostateN
 have hsm:=h.sml
 have hkl:=h.kl
 have HLS:Hid (Lp StateR mkAgg 6 79 w w p q L dm sm k 0 (.slice none 0 0) [] []):=Lp.start h
 have HP:=hide (fun W k' (r:Rp w W p q L k' dm sm)=>passed_two r hL en hen T hT)
 have HN:=hide (fun W k' (hkk:k≤k') (r:Rp w W p q L k' dm sm)=>HTh W k' (Nat.le_trans hk hkk) r.here (hI w W k' r hi))
 have HSM:=hide hsm
 have HGO:=hide (fun k' x k1 he=>hgo L k' x k1 he)
 have HU:Hid (untilP en f L k=untilF en f (L.length+1 - k) L k):=rfl
 obtain ⟨RR,hRR⟩:∃ RR,RR=untilP en f L k:=⟨_,rfl⟩
 rw [← hRR]
 rw [← hRR] at HU
 clear h hL hen hsm hRR hT hi hk hI hgo HTh
 go_enter Tryz.func101,Tryz.ntmps101
 go_wp2
 go_loopg [7] (L.length+1 - k) (fun g v wr=>∃ (v1:Value) (k' n:Nat) (l:List (Ts)) (css:List (List Value)),v1=v∧L.length+1≤g+k'∧k≤k'∧n≤k'∧Hid (RR=preL l (untilF en f g L k'))∧Hid (Lp StateR mkAgg 6 79 w wr p q L dm sm k' n v1 l css))
 case atStart=>exact ⟨_,k,0,[],[],rfl,by omega,Nat.le_refl _,Nat.zero_le _,by unfold Hid;rw [preL_nil];exact HU.out,HLS.out⟩
 case round =>
  obtain ⟨v,k',n,l,css,rfl,hg,hkk,hn,HQ,HL⟩:=hrel
  have HG:=hide hg
  have HNK:=hide hn
  have HKK:=hide hkk
  have hkl':=HL.out.rr.kl
  have hg0:0 < gk:=by omega
  have HG0:=hide hg0
  clear hg hn hg0 hkl HLS HU hkk
  go_wp2_with fail
  refine (HP.out _ _ HL.out.rr).mono ?_
  rintro e w1 (⟨hp,rfl,hr⟩ | ⟨hp,rfl,hr⟩)
  ·have HE:Hid (RR=.ok (l,k'+1)):=by unfold Hid;rw [HQ.out,untilF_end HG0.out hp];simp [preL]
   have L1:=hide (HL.out.go stateR_ok hr)
   clear hr hp HQ
   go_wp2
   go_ret
   exact .inl ⟨l,k'+1,_,HE.out,rfl,L1.out.done stateR_ok,L1.out.rr⟩
  ·have HE1:Hid (∀ e,f L k'=.error e→RR=.error e):=fun e he=>by rw [HQ.out,untilF_err HG0.out hp he];rfl
   have HE2:Hid (∀ x k1,f L k'=.ok (x,k1)→RR=preL (l ++ [x]) (untilF en f (gk - 1) L k1)∧k' < k1):=fun x k1 he=>⟨by rw [HQ.out,untilF_go HG0.out hp he],HGO.out k' x k1 he⟩
   have L1:=hide (HL.out.go stateR_ok hr)
   clear hr HL hp HQ
   go_wp2_with fail
   refine (HN.out _ _ HKK.out L1.out.rr).mono ?_
   rintro e w2 (⟨x,k2,v2,h2,rfl,hv,hr⟩ | ⟨k2,h2,rfl,hr⟩)
   ·obtain ⟨z2a,s2b,n2b,c2b,s2c,n2c,c2c,s2d,n2d,c2d,z2e,z2f,rfl⟩:=StateR.form hv
    have H2:=hide (HE2.out _ _ h2)
    have R2:=hide hr
    have O2:=hide (L1.out.go stateR_ok hr).own
    have Z2:Hid (w.heap.size≤w2.heap.size):=Nat.le_trans L1.out.rr.fr.size hr.fr.size
    have HSx:Hid (StateR w2 (Bn w1 w2) (mkAgg [.string z2a,.slice s2b n2b c2b,.slice s2c n2c c2c,.slice s2d n2d c2d,.string z2e,.int .i64 z2f]) x):=hv
    clear hr h2 hv
    go_wp2_with (at_builtin;refine wpList_appC rfl _ _ 64 rfl 79 i0' (.agg #[.string ⟨#[]⟩,.slice none 0 0,.slice none 0 0,.slice none 0 0,.string ⟨#[]⟩,.int .i64 0]) 6 112 Tryz.underlying64 hi0 hz0 hz1 hz2 rfl (by decide) (by decide) w.heap.size _ n css.flatten rfl (ownR_below O2.out ((Below.refl _ _).alloc (Nat.le_refl _) _)) w2.heap.size [.string z2a,.slice s2b n2b c2b,.slice s2c n2c c2c,.slice s2d n2d c2d,.string z2e,.int .i64 z2f] rfl rfl (cells_newC _ [.string z2a,.slice s2b n2b c2b,.slice s2c n2c c2c,.slice s2d n2d c2d,.string z2e,.int .i64 z2f] _) (by intro u hu;simp at hu;rcases hu with rfl | rfl | rfl | rfl | rfl | rfl <;> rfl) (by have:=HNK.out;have:=HSM.out;omega) (by have:=Z2.out;simp;omega) ?_;intro v8 w8 O8 D8;have L8:=hide (L1.out.step stateR_ok R2.out HSx.out rfl O8 D8);clear O8 D8)
    go_roundg (gk - 1)
    case measure=>have:=HG0.out;omega
    case rel=>exact ⟨_,k2,n+1,l ++ [x],_,rfl,by have:=HG.out;have:=H2.out.2;omega,by have:=HKK.out;have:=H2.out.2;omega,by have:=HNK.out;have:=H2.out.2;omega,H2.out.1,L8.out⟩
   ·have R2:=hide (L1.out.rr.from hr)
    have H2:=hide (HE1.out _ h2)
    clear hr h2
    go_wp2
    exact ⟨rfl,.inr ⟨k2,H2.out,rfl,R2.out⟩⟩
theorem Tryz.infostmtN:(Tryz.prog.info? 72).map (fun i=>(i.zero,i.size,i.bytes))=some (some (.agg #[.int .u8 0,.string ⟨#[]⟩,.string ⟨#[]⟩,.string ⟨#[]⟩,.int .i64 0,.slice none 0 0,.slice none 0 0,.slice none 0 0,.int .i64 0]),9,144):=by kernel_rfl
set_option maxRecDepth 100000 in
set_option maxHeartbeats 4000000 in
theorem until_stmt {p q:Nat} {L:List (Wd × Nat)} {dm sm:Value} {I:World→Prop} {k0:Nat} {f:Pf (Sm)} (hL:OkL L) (hI:Stb I p q L dm sm) (hgo:Goes f) (en:List UInt8) (hen:en ≠ []) (T:ByteArray) (hT:T=txt en) (HTh:PfI I 160 #[.pointer (some ⟨p,0,none⟩)] p q L dm sm k0 f SmR) :
  PfI I 159 #[.pointer (some ⟨p,0,none⟩),.string T,.func (Fn.func 160) #[.pointer (some ⟨p,0,none⟩)] #[]] p q L dm sm k0 (untilP en f) (ListR SmR mkAgg 9):=by
 intro w k hk h hi
 obtain ⟨i0',hi0,hz0,hz1,hz2⟩:=info_parts Tryz.infostmtN
 have hsm:=h.sml
 have hkl:=h.kl
 have HLS:Hid (Lp SmR mkAgg 9 72 w w p q L dm sm k 0 (.slice none 0 0) [] []):=Lp.start h
 have HP:=hide (fun W k' (r:Rp w W p q L k' dm sm)=>passed_two r hL en hen T hT)
 have HN:=hide (fun W k' (hkk:k≤k') (r:Rp w W p q L k' dm sm)=>HTh W k' (Nat.le_trans hk hkk) r.here (hI w W k' r hi))
 have HSM:=hide hsm
 have HGO:=hide (fun k' x k1 he=>hgo L k' x k1 he)
 have HU:Hid (untilP en f L k=untilF en f (L.length+1 - k) L k):=rfl
 obtain ⟨RR,hRR⟩:∃ RR,RR=untilP en f L k:=⟨_,rfl⟩
 rw [← hRR]
 rw [← hRR] at HU
 clear h hL hen hsm hRR hT hi hk hI hgo HTh
 go_enter Tryz.func159,Tryz.ntmps159
 go_wp2
 go_loopg [7] (L.length+1 - k) (fun g v wr=>∃ (v1:Value) (k' n:Nat) (l:List (Sm)) (css:List (List Value)),v1=v∧L.length+1≤g+k'∧k≤k'∧n≤k'∧Hid (RR=preL l (untilF en f g L k'))∧Hid (Lp SmR mkAgg 9 72 w wr p q L dm sm k' n v1 l css))
 case atStart=>exact ⟨_,k,0,[],[],rfl,by omega,Nat.le_refl _,Nat.zero_le _,by unfold Hid;rw [preL_nil];exact HU.out,HLS.out⟩
 case round =>
  obtain ⟨v,k',n,l,css,rfl,hg,hkk,hn,HQ,HL⟩:=hrel
  have HG:=hide hg
  have HNK:=hide hn
  have HKK:=hide hkk
  have hkl':=HL.out.rr.kl
  have hg0:0 < gk:=by omega
  have HG0:=hide hg0
  clear hg hn hg0 hkl HLS HU hkk
  go_wp2_with fail
  refine (HP.out _ _ HL.out.rr).mono ?_
  rintro e w1 (⟨hp,rfl,hr⟩ | ⟨hp,rfl,hr⟩)
  ·have HE:Hid (RR=.ok (l,k'+1)):=by unfold Hid;rw [HQ.out,untilF_end HG0.out hp];simp [preL]
   have L1:=hide (HL.out.go smRep_ok hr)
   clear hr hp HQ
   go_wp2
   go_ret
   exact .inl ⟨l,k'+1,_,HE.out,rfl,L1.out.done smRep_ok,L1.out.rr⟩
  ·have HE1:Hid (∀ e,f L k'=.error e→RR=.error e):=fun e he=>by rw [HQ.out,untilF_err HG0.out hp he];rfl
   have HE2:Hid (∀ x k1,f L k'=.ok (x,k1)→RR=preL (l ++ [x]) (untilF en f (gk - 1) L k1)∧k' < k1):=fun x k1 he=>⟨by rw [HQ.out,untilF_go HG0.out hp he],HGO.out k' x k1 he⟩
   have L1:=hide (HL.out.go smRep_ok hr)
   clear hr HL hp HQ
   go_wp2_with fail
   refine (HN.out _ _ HKK.out L1.out.rr).mono ?_
   rintro e w2 (⟨x,k2,v2,h2,rfl,hv,hr⟩ | ⟨k2,h2,rfl,hr⟩)
   ·obtain ⟨z2a,z2b,z2c,z2d,z2e,s2f,n2f,c2f,s2g,n2g,c2g,s2h,n2h,c2h,z2i,rfl⟩:=SmR.form hv
    have H2:=hide (HE2.out _ _ h2)
    have R2:=hide hr
    have O2:=hide (L1.out.go smRep_ok hr).own
    have Z2:Hid (w.heap.size≤w2.heap.size):=Nat.le_trans L1.out.rr.fr.size hr.fr.size
    have HSx:Hid (SmR w2 (Bn w1 w2) (mkAgg [.int .u8 z2a,.string z2b,.string z2c,.string z2d,.int .i64 z2e,.slice s2f n2f c2f,.slice s2g n2g c2g,.slice s2h n2h c2h,.int .i64 z2i]) x):=hv
    clear hr h2 hv
    go_wp2_with (at_builtin;refine wpList_appC rfl _ _ 67 rfl 72 i0' (.agg #[.int .u8 0,.string ⟨#[]⟩,.string ⟨#[]⟩,.string ⟨#[]⟩,.int .i64 0,.slice none 0 0,.slice none 0 0,.slice none 0 0,.int .i64 0]) 9 144 Tryz.underlying67 hi0 hz0 hz1 hz2 rfl (by decide) (by decide) w.heap.size _ n css.flatten rfl (ownR_below O2.out ((Below.refl _ _).alloc (Nat.le_refl _) _)) w2.heap.size [.int .u8 z2a,.string z2b,.string z2c,.string z2d,.int .i64 z2e,.slice s2f n2f c2f,.slice s2g n2g c2g,.slice s2h n2h c2h,.int .i64 z2i] rfl rfl (cells_newC _ [.int .u8 z2a,.string z2b,.string z2c,.string z2d,.int .i64 z2e,.slice s2f n2f c2f,.slice s2g n2g c2g,.slice s2h n2h c2h,.int .i64 z2i] _) (by intro u hu;simp at hu;rcases hu with rfl | rfl | rfl | rfl | rfl | rfl | rfl | rfl | rfl <;> rfl) (by have:=HNK.out;have:=HSM.out;omega) (by have:=Z2.out;simp;omega) ?_;intro v8 w8 O8 D8;have L8:=hide (L1.out.step smRep_ok R2.out HSx.out rfl O8 D8);clear O8 D8)
    go_roundg (gk - 1)
    case measure=>have:=HG0.out;omega
    case rel=>exact ⟨_,k2,n+1,l ++ [x],_,rfl,by have:=HG.out;have:=H2.out.2;omega,by have:=HKK.out;have:=H2.out.2;omega,by have:=HNK.out;have:=H2.out.2;omega,H2.out.1,L8.out⟩
   ·have R2:=hide (L1.out.rr.from hr)
    have H2:=hide (HE1.out _ h2)
    clear hr h2
    go_wp2
    exact ⟨rfl,.inr ⟨k2,H2.out,rfl,R2.out⟩⟩
theorem Lp.one2 {α:Type} {rep:Rep α} (hok:RepOk rep) {mk:List Value→Value} {n e:Nat} {W0 W:World} {p q:Nat} {L:List (Wd × Nat)} {dm sm:Value} {k:Nat} {x:α} {cs:List Value} (hn:cs.length=n) (hr:Rp W0 W p q L k dm sm) (h:rep W (Bn W0 W) (mk cs) x) :
  Lp rep mk n e W0 (W.alloc (.cells cs.toArray e)) p q L dm sm k 1 (.slice (some ⟨W.heap.size,0,none⟩) 1 1) [x] [cs]:=by
 have s1:∀ o,(W.alloc o).heap.size=W.heap.size+1:=fun o=>by show (W.heap.push _).size=_;rw [Array.size_push]
 subst hn
 refine ⟨hr.next ((Below.refl _ _).alloc (Nat.le_refl _) _),⟨by simp,.inr ⟨W.heap.size,1,_,rfl,hr.fr.size,heap_alloc_new W _,Nat.le_refl _,by unfold maxLen;omega,by simp,by simp⟩⟩,rfl,rfl,fun i hi hi'=>?_⟩
 obtain rfl:i=0:=by simp at hi;omega
 refine ⟨rfl,hok.mono (hok.frame h (by rw [s1];omega) fun b hb hlt=>heap_alloc_old _ _ hlt) fun b hb=>⟨⟨hb.1,by have:=hb.2;rw [s1];omega⟩,fun e=>?_⟩⟩
 have e':W.heap.size=b:=by injection e
 have:=hb.2
 omega
def sm2F {α:Type} (ex:Pf α):Nat→Pf (List α)
 | 0=>fun _ k=>.error k
 | g+1=>fun L k=>if passedP [44] L k then (match ex L (k+1) with
  | .error e=>.error e
  | .ok (x,k1)=>(match sm2F ex g L k1 with
   | .error e=>.error e
   | .ok (xs,k2)=>.ok (x :: xs,k2))) else .ok ([],k)
def some2P {α:Type} (ex:Pf α):Pf (List α):=fun L k=>match ex L k with
 | .error e=>.error e
 | .ok (x,k1)=>preL [x] (sm2F ex (L.length+1 - k1) L k1)
theorem Tryz.infobitsN:(Tryz.prog.info? 35).map (fun i=>(i.zero,i.size,i.bytes))=some (some (.agg #[.int .i64 0,.int .u64 0,.int .u64 0]),3,24):=by kernel_rfl
theorem smF_endbits {ex:Pf (Nat × Nat)} {g:Nat} {L:List (Wd × Nat)} {k:Nat} (hg:0 < g) (h:passedP [44] L k=false):sm2F ex g L k=.ok ([],k):=by
 obtain ⟨g,rfl⟩:∃ g',g=g'+1:=⟨g - 1,by omega⟩
 rw [sm2F];simp only [h,Bool.false_eq_true,if_false]
theorem smF_errbits {ex:Pf (Nat × Nat)} {g e:Nat} {L:List (Wd × Nat)} {k:Nat} (hg:0 < g) (h:passedP [44] L k=true) (hf:ex L (k+1)=.error e):sm2F ex g L k=.error e:=by
 obtain ⟨g,rfl⟩:∃ g',g=g'+1:=⟨g - 1,by omega⟩
 rw [sm2F];simp only [h,if_true,hf]
theorem smF_gobits {ex:Pf (Nat × Nat)} {g:Nat} {L:List (Wd × Nat)} {k k1:Nat} {x:Nat × Nat} {l:List (Nat × Nat)} (hg:0 < g) (h:passedP [44] L k=true) (hf:ex L (k+1)=.ok (x,k1)):preL l (sm2F ex g L k)=preL (l ++ [x]) (sm2F ex (g - 1) L k1):=by
 obtain ⟨g,rfl⟩:∃ g',g=g'+1:=⟨g - 1,by omega⟩
 rw [sm2F];simp only [h,if_true,hf];rw [preL_cons,Nat.add_sub_cancel]
 cases sm2F ex g L k1 with
 | error e=>rfl
 | ok y=>rfl
set_option maxRecDepth 100000 in
set_option maxHeartbeats 4000000 in
theorem some_bits {p q:Nat} {L:List (Wd × Nat)} {dm sm:Value} {I:World→Prop} {k0:Nat} {f:Pf (Nat × Nat)} (hL:OkL L) (hI:Stb I p q L dm sm) (hgo:Goes f) (HTh:PfI I 110 #[.pointer (some ⟨p,0,none⟩)] p q L dm sm k0 f LitV) :
  PfI I 165 #[.pointer (some ⟨p,0,none⟩),.func (Fn.func 110) #[.pointer (some ⟨p,0,none⟩)] #[]] p q L dm sm k0 (some2P f) (ListR LitV mkAgg 3):=by
 intro w k hk h hi
 obtain ⟨i0',hi0,hz0,hz1,hz2⟩:=info_parts Tryz.infobitsN
 have hsm:=h.sml
 have hkl:=h.kl
 have HP:=hide (fun W k' (r:Rp w W p q L k' dm sm)=>passed_two r hL [44] (by decide) ⟨#[44]⟩ rfl)
 have HN:=hide (fun W k' (hkk:k≤k') (r:Rp w W p q L k' dm sm)=>HTh W k' (Nat.le_trans hk hkk) r.here (hI w W k' r hi))
 have HX0:=hide (HTh w k hk h hi)
 have HSM:=hide hsm
 have HGO:=hide (fun k' x k1 he=>hgo L k' x k1 he)
 have HE:Hid (∀ e,f L k=.error e→some2P f L k=.error e):=fun e he=>by unfold some2P;rw [he]
 have HO:Hid (∀ x k1,f L k=.ok (x,k1)→some2P f L k=preL [x] (sm2F f (L.length+1 - k1) L k1)∧k < k1):=fun x k1 he=>⟨by unfold some2P;rw [he],hgo _ _ _ _ he⟩
 generalize some2P f L k=RR at *
 clear h hL hsm hi hk hI hgo HTh
 go_enter Tryz.func165,Tryz.ntmps165
 go_wp2_with fail
 refine HX0.out.mono ?_
 rintro e w1 (⟨x0,k1,v,h1,rfl,hv,hr⟩ | ⟨k1,h1,rfl,hr⟩)
 ·obtain ⟨a0,b0,c0,rfl⟩:=LitV.form hv
  have HLS:=hide (Lp.one2 litV_ok (mk:=mkAgg) (cs:=[.int .i64 a0,.int .u64 b0,.int .u64 c0]) (e:=35) (n:=3) rfl hr hv)
  have HQ0:=hide (HO.out _ _ h1)
  have hk1:=HLS.out.rr.kl
  clear hr h1 hv HO HE HX0
  go_wp2
  go_loopg [5] (L.length+1 - k1) (fun g v wr=>∃ (v1:Value) (k' n:Nat) (l:List (Nat × Nat)) (css:List (List Value)),v1=v∧L.length+1≤g+k'∧k≤k'∧n≤k'∧Hid (RR=preL l (sm2F f g L k'))∧Hid (Lp LitV mkAgg 3 35 w wr p q L dm sm k' n v1 l css))
  case atStart=>exact ⟨_,k1,1,[x0],_,rfl,by omega,Nat.le_of_lt HQ0.out.2,by have:=HQ0.out.2;omega,HQ0.out.1,HLS.out⟩
  case round =>
   obtain ⟨v,k',n,l,css,rfl,hg,hkk,hn,HQ,HL⟩:=hrel
   have HG:=hide hg
   have HNK:=hide hn
   have HKK:=hide hkk
   have hkl':=HL.out.rr.kl
   have hg0:0 < gk:=by omega
   have HG0:=hide hg0
   clear hg hn hg0 hkl hk1 HLS HQ0 hkk
   go_wp2_with fail
   refine (HP.out _ _ HL.out.rr).mono ?_
   rintro e w2 (⟨hp,rfl,hr⟩ | ⟨hp,rfl,hr⟩)
   ·have HE1:Hid (∀ e,f L (k'+1)=.error e→RR=.error e):=fun e he=>by rw [HQ.out,smF_errbits HG0.out hp he];rfl
    have HE2:Hid (∀ x k1,f L (k'+1)=.ok (x,k1)→RR=preL (l ++ [x]) (sm2F f (gk - 1) L k1)∧k'+1 < k1):=fun x k1 he=>⟨by rw [HQ.out,smF_gobits HG0.out hp he],HGO.out _ _ _ he⟩
    have L1:=hide (HL.out.go litV_ok hr)
    have HXk:=hide (HN.out _ _ (Nat.le_succ_of_le HKK.out) L1.out.rr)
    clear hr HL hp HQ
    go_wp2_with fail
    refine HXk.out.mono ?_
    rintro e w3 (⟨x,k2,v2,h2,rfl,hv,hr⟩ | ⟨k2,h2,rfl,hr⟩)
    ·obtain ⟨a2,b2,c2,rfl⟩:=LitV.form hv
     have H2:=hide (HE2.out _ _ h2)
     have R2:=hide hr
     have O2:=hide (L1.out.go litV_ok hr).own
     have Z2:Hid (w.heap.size≤w3.heap.size):=Nat.le_trans L1.out.rr.fr.size hr.fr.size
     have HSx:Hid (LitV w3 (Bn w2 w3) (mkAgg [.int .i64 a2,.int .u64 b2,.int .u64 c2]) x):=hv
     clear hr h2 hv
     go_wp2_with (at_builtin;refine wpList_appC rfl _ _ 66 rfl 35 i0' (.agg #[.int .i64 0,.int .u64 0,.int .u64 0]) 3 24 Tryz.underlying66 hi0 hz0 hz1 hz2 rfl (by decide) (by decide) w.heap.size _ n css.flatten rfl (ownR_below O2.out ((Below.refl _ _).alloc (Nat.le_refl _) _)) w3.heap.size [.int .i64 a2,.int .u64 b2,.int .u64 c2] rfl rfl (cells_newC _ [.int .i64 a2,.int .u64 b2,.int .u64 c2] _) (by intro u hu;simp at hu;rcases hu with rfl | rfl | rfl <;> rfl) (by have:=HNK.out;have:=HSM.out;omega) (by have:=Z2.out;simp;omega) ?_;intro v8 w8 O8 D8;have L8:=hide (L1.out.step litV_ok R2.out HSx.out rfl O8 D8);clear O8 D8)
     go_roundg (gk - 1)
     case measure=>have:=HG0.out;omega
     case rel=>exact ⟨_,k2,n+1,l ++ [x],_,rfl,by have:=HG.out;have:=H2.out.2;omega,by have:=HKK.out;have:=H2.out.2;omega,by have:=HNK.out;have:=H2.out.2;omega,H2.out.1,L8.out⟩
    ·have R2:=hide (L1.out.rr.from hr)
     have H2:=hide (HE1.out _ h2)
     clear hr h2
     go_wp2
     exact ⟨rfl,.inr ⟨_,H2.out,rfl,R2.out⟩⟩
   ·have HF:Hid (RR=.ok (l,k')):=by unfold Hid;rw [HQ.out,smF_endbits HG0.out hp];simp [preL]
    have L1:=hide (HL.out.go litV_ok hr)
    clear hr hp HQ
    go_wp2
    go_ret
    exact .inl ⟨l,k',_,HF.out,rfl,L1.out.done litV_ok,L1.out.rr⟩
 ·have R1:=hide hr
  have H1:=hide (HE.out _ h1)
  clear hr h1
  go_wp2
  exact ⟨rfl,.inr ⟨_,H1.out,rfl,R1.out⟩⟩
theorem smF_endfield {ex:Pf (List UInt8 × Nat)} {g:Nat} {L:List (Wd × Nat)} {k:Nat} (hg:0 < g) (h:passedP [44] L k=false):sm2F ex g L k=.ok ([],k):=by
 obtain ⟨g,rfl⟩:∃ g',g=g'+1:=⟨g - 1,by omega⟩
 rw [sm2F];simp only [h,Bool.false_eq_true,if_false]
theorem smF_errfield {ex:Pf (List UInt8 × Nat)} {g e:Nat} {L:List (Wd × Nat)} {k:Nat} (hg:0 < g) (h:passedP [44] L k=true) (hf:ex L (k+1)=.error e):sm2F ex g L k=.error e:=by
 obtain ⟨g,rfl⟩:∃ g',g=g'+1:=⟨g - 1,by omega⟩
 rw [sm2F];simp only [h,if_true,hf]
theorem smF_gofield {ex:Pf (List UInt8 × Nat)} {g:Nat} {L:List (Wd × Nat)} {k k1:Nat} {x:List UInt8 × Nat} {l:List (List UInt8 × Nat)} (hg:0 < g) (h:passedP [44] L k=true) (hf:ex L (k+1)=.ok (x,k1)):preL l (sm2F ex g L k)=preL (l ++ [x]) (sm2F ex (g - 1) L k1):=by
 obtain ⟨g,rfl⟩:∃ g',g=g'+1:=⟨g - 1,by omega⟩
 rw [sm2F];simp only [h,if_true,hf];rw [preL_cons,Nat.add_sub_cancel]
 cases sm2F ex g L k1 with
 | error e=>rfl
 | ok y=>rfl
set_option maxRecDepth 100000 in
set_option maxHeartbeats 4000000 in
theorem some_field {p q:Nat} {L:List (Wd × Nat)} {dm sm:Value} {I:World→Prop} {k0:Nat} {f:Pf (List UInt8 × Nat)} (hL:OkL L) (hI:Stb I p q L dm sm) (hgo:Goes f) (HTh:PfI I 104 #[.pointer (some ⟨p,0,none⟩)] p q L dm sm k0 f FieldV) :
  PfI I 158 #[.pointer (some ⟨p,0,none⟩),.func (Fn.func 104) #[.pointer (some ⟨p,0,none⟩)] #[]] p q L dm sm k0 (some2P f) (ListR FieldV mkAgg 2):=by
 intro w k hk h hi
 obtain ⟨i0',hi0,hz0,hz1,hz2⟩:=info_parts Tryz.infofieldN
 have hsm:=h.sml
 have hkl:=h.kl
 have HP:=hide (fun W k' (r:Rp w W p q L k' dm sm)=>passed_two r hL [44] (by decide) ⟨#[44]⟩ rfl)
 have HN:=hide (fun W k' (hkk:k≤k') (r:Rp w W p q L k' dm sm)=>HTh W k' (Nat.le_trans hk hkk) r.here (hI w W k' r hi))
 have HX0:=hide (HTh w k hk h hi)
 have HSM:=hide hsm
 have HGO:=hide (fun k' x k1 he=>hgo L k' x k1 he)
 have HE:Hid (∀ e,f L k=.error e→some2P f L k=.error e):=fun e he=>by unfold some2P;rw [he]
 have HO:Hid (∀ x k1,f L k=.ok (x,k1)→some2P f L k=preL [x] (sm2F f (L.length+1 - k1) L k1)∧k < k1):=fun x k1 he=>⟨by unfold some2P;rw [he],hgo _ _ _ _ he⟩
 generalize some2P f L k=RR at *
 clear h hL hsm hi hk hI hgo HTh
 go_enter Tryz.func158,Tryz.ntmps158
 go_wp2_with fail
 refine HX0.out.mono ?_
 rintro e w1 (⟨x0,k1,v,h1,rfl,hv,hr⟩ | ⟨k1,h1,rfl,hr⟩)
 ·obtain ⟨z0a,z0b,rfl⟩:=FieldV.form hv
  have HLS:=hide (Lp.one2 fieldV_ok (mk:=mkAgg) (cs:=[.string z0a,.int .i64 z0b]) (e:=137) (n:=2) rfl hr hv)
  have HQ0:=hide (HO.out _ _ h1)
  have hk1:=HLS.out.rr.kl
  clear hr h1 hv HO HE HX0
  go_wp2
  go_loopg [5] (L.length+1 - k1) (fun g v wr=>∃ (v1:Value) (k' n:Nat) (l:List (List UInt8 × Nat)) (css:List (List Value)),v1=v∧L.length+1≤g+k'∧k≤k'∧n≤k'∧Hid (RR=preL l (sm2F f g L k'))∧Hid (Lp FieldV mkAgg 2 137 w wr p q L dm sm k' n v1 l css))
  case atStart=>exact ⟨_,k1,1,[x0],_,rfl,by omega,Nat.le_of_lt HQ0.out.2,by have:=HQ0.out.2;omega,HQ0.out.1,HLS.out⟩
  case round =>
   obtain ⟨v,k',n,l,css,rfl,hg,hkk,hn,HQ,HL⟩:=hrel
   have HG:=hide hg
   have HNK:=hide hn
   have HKK:=hide hkk
   have hkl':=HL.out.rr.kl
   have hg0:0 < gk:=by omega
   have HG0:=hide hg0
   clear hg hn hg0 hkl hk1 HLS HQ0 hkk
   go_wp2_with fail
   refine (HP.out _ _ HL.out.rr).mono ?_
   rintro e w2 (⟨hp,rfl,hr⟩ | ⟨hp,rfl,hr⟩)
   ·have HE1:Hid (∀ e,f L (k'+1)=.error e→RR=.error e):=fun e he=>by rw [HQ.out,smF_errfield HG0.out hp he];rfl
    have HE2:Hid (∀ x k1,f L (k'+1)=.ok (x,k1)→RR=preL (l ++ [x]) (sm2F f (gk - 1) L k1)∧k'+1 < k1):=fun x k1 he=>⟨by rw [HQ.out,smF_gofield HG0.out hp he],HGO.out _ _ _ he⟩
    have L1:=hide (HL.out.go fieldV_ok hr)
    have HXk:=hide (HN.out _ _ (Nat.le_succ_of_le HKK.out) L1.out.rr)
    clear hr HL hp HQ
    go_wp2_with fail
    refine HXk.out.mono ?_
    rintro e w3 (⟨x,k2,v2,h2,rfl,hv,hr⟩ | ⟨k2,h2,rfl,hr⟩)
    ·obtain ⟨z2a,z2b,rfl⟩:=FieldV.form hv
     have H2:=hide (HE2.out _ _ h2)
     have R2:=hide hr
     have O2:=hide (L1.out.go fieldV_ok hr).own
     have Z2:Hid (w.heap.size≤w3.heap.size):=Nat.le_trans L1.out.rr.fr.size hr.fr.size
     have HSx:Hid (FieldV w3 (Bn w2 w3) (mkAgg [.string z2a,.int .i64 z2b]) x):=hv
     clear hr h2 hv
     go_wp2_with (at_builtin;refine wpList_appC rfl _ _ 63 rfl 137 i0' (.agg #[.string ⟨#[]⟩,.int .i64 0]) 2 24 Tryz.underlying63 hi0 hz0 hz1 hz2 rfl (by decide) (by decide) w.heap.size _ n css.flatten rfl (ownR_below O2.out ((Below.refl _ _).alloc (Nat.le_refl _) _)) w3.heap.size [.string z2a,.int .i64 z2b] rfl rfl (cells_newC _ [.string z2a,.int .i64 z2b] _) (by intro u hu;simp at hu;rcases hu with rfl | rfl <;> rfl) (by have:=HNK.out;have:=HSM.out;omega) (by have:=Z2.out;simp;omega) ?_;intro v8 w8 O8 D8;have L8:=hide (L1.out.step fieldV_ok R2.out HSx.out rfl O8 D8);clear O8 D8)
     go_roundg (gk - 1)
     case measure=>have:=HG0.out;omega
     case rel=>exact ⟨_,k2,n+1,l ++ [x],_,rfl,by have:=HG.out;have:=H2.out.2;omega,by have:=HKK.out;have:=H2.out.2;omega,by have:=HNK.out;have:=H2.out.2;omega,H2.out.1,L8.out⟩
    ·have R2:=hide (L1.out.rr.from hr)
     have H2:=hide (HE1.out _ h2)
     clear hr h2
     go_wp2
     exact ⟨rfl,.inr ⟨_,H2.out,rfl,R2.out⟩⟩
   ·have HF:Hid (RR=.ok (l,k')):=by unfold Hid;rw [HQ.out,smF_endfield HG0.out hp];simp [preL]
    have L1:=hide (HL.out.go fieldV_ok hr)
    clear hr hp HQ
    go_wp2
    go_ret
    exact .inl ⟨l,k',_,HF.out,rfl,L1.out.done fieldV_ok,L1.out.rr⟩
 ·have R1:=hide hr
  have H1:=hide (HE.out _ h1)
  clear hr h1
  go_wp2
  exact ⟨rfl,.inr ⟨_,H1.out,rfl,R1.out⟩⟩
end Go.Proofs.YtabkimknlifdoaaGreatDoor
