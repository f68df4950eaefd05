/- Pieces of the proof: PaSm, PaHa, PaCh, PaCi. -/
import Derived.Test.YtabkimknlifdoaaGreatDoorJ11
import Derived.RegionTactic
namespace Go.Proofs.YtabkimknlifdoaaGreatDoor
open Go.RowKit
theorem Lp.one {W0 W:World} {p q:Nat} {L:List (Wd × Nat)} {dm sm:Value} {k:Nat} {x:Ex} {a0 a1 a2 a3 a4 a5 a6 a7 a8 a9:Value} (hr:Rp W0 W p q L k dm sm) (h:ExR W (Bn W0 W) (.agg #[a0,a1,a2,a3,a4,a5,a6,a7,a8,a9]) x) :
  Lp ExR mkAgg 10 49 W0 (W.alloc (.cells #[a0,a1,a2,a3,a4,a5,a6,a7,a8,a9] 49)) p q L dm sm k 1 (.slice (some ⟨W.heap.size,0,none⟩) 1 1) [x] [[a0,a1,a2,a3,a4,a5,a6,a7,a8,a9]]:=by
 have s1:∀ o,(W.alloc o).heap.size=W.heap.size+1:=fun o=>by show (W.heap.push _).size=_;rw [Array.size_push]
 refine ⟨hr.next ((Below.refl _ _).alloc (Nat.le_refl _) _),⟨rfl,.inr ⟨W.heap.size,1,_,rfl,hr.fr.size,heap_alloc_new W _,Nat.le_refl _,by unfold maxLen;omega,rfl,rfl⟩⟩,rfl,rfl,fun i hi hi'=>?_⟩
 obtain rfl:i=0:=by simp at hi;omega
 refine ⟨rfl,exRep_ok.mono (exRep_ok.frame h (by rw [s1];omega) fun b hb hlt=>heap_alloc_old _ _ hlt) fun b hb=>⟨⟨hb.1,by have:=hb.2;rw [s1];omega⟩,fun e=>?_⟩⟩
 have e':W.heap.size=b:=by injection e
 have:=hb.2
 omega
def smF (ex:Pf Ex):Nat→Pf (List Ex)
 | 0=>fun _ k=>.error k
 | g+1=>fun L k=>if passedP [44] L k then (match ex L (k+1) with
  | .error e=>.error e
  | .ok (x,k1)=>(match smF ex g L k1 with
   | .error e=>.error e
   | .ok (xs,k2)=>.ok (x :: xs,k2))) else .ok ([],k)
def someP (ex:Pf Ex):Pf (List Ex):=fun L k=>match ex L k with
 | .error e=>.error e
 | .ok (x,k1)=>preL [x] (smF ex (L.length+1 - k1) L k1)
theorem smF_end {ex:Pf Ex} {g:Nat} {L:List (Wd × Nat)} {k:Nat} (hg:0 < g) (h:passedP [44] L k=false):smF ex g L k=.ok ([],k):=by
 obtain ⟨g,rfl⟩:∃ g',g=g'+1:=⟨g - 1,by omega⟩
 rw [smF];simp only [h,Bool.false_eq_true,if_false]
theorem smF_err {ex:Pf Ex} {g e:Nat} {L:List (Wd × Nat)} {k:Nat} (hg:0 < g) (h:passedP [44] L k=true) (hf:ex L (k+1)=.error e):smF ex g L k=.error e:=by
 obtain ⟨g,rfl⟩:∃ g',g=g'+1:=⟨g - 1,by omega⟩
 rw [smF];simp only [h,if_true,hf]
theorem smF_go {ex:Pf Ex} {g:Nat} {L:List (Wd × Nat)} {k k1:Nat} {x:Ex} {l:List Ex} (hg:0 < g) (h:passedP [44] L k=true) (hf:ex L (k+1)=.ok (x,k1)):preL l (smF ex g L k)=preL (l ++ [x]) (smF ex (g - 1) L k1):=by
 obtain ⟨g,rfl⟩:∃ g',g=g'+1:=⟨g - 1,by omega⟩
 rw [smF];simp only [h,if_true,hf];rw [preL_cons,Nat.add_sub_cancel]
 cases smF ex g L k1 with
 | error e=>rfl
 | ok y=>rfl
theorem Tryz.infoEx:(Tryz.prog.info? 49).map (fun i=>(i.zero,i.size,i.bytes))=some (some (.agg #[.int .u8 0,.int .i64 0,.int .u64 0,.int .u64 0,.string ⟨#[]⟩,.string ⟨#[]⟩,.int .i64 0,.int .i64 0,.slice none 0 0,.int .i64 0]),10,112):=by kernel_rfl
set_option maxRecDepth 100000 in
set_option maxHeartbeats 4000000 in
theorem some_ok {p q:Nat} {L:List (Wd × Nat)} {dm sm:Value} {bt k0:Nat} {ex:Pf Ex} (hL:OkL L) (hgo:Goes ex) (HX:PfOk 112 #[.pointer (some ⟨p,0,none⟩)] p q L dm sm bt k0 ex ExR) :
  PfOk 120 #[.pointer (some ⟨p,0,none⟩),.func (Fn.func 112) #[.pointer (some ⟨p,0,none⟩)] #[]] p q L dm sm bt k0 (someP ex) (ListR ExR mkAgg 10):=by
 intro w k h1 h ht
 obtain ⟨i0',hi0,hz0,hz1,hz2⟩:=info_parts Tryz.infoEx
 have hsm:=h.sml
 have hkl:=h.kl
 have HSM:=hide hsm
 have HB:=hide (fun W k' (r:Rp w W p q L k' dm sm)=>passed_any r.here hL [44] (by decide))
 have hT:txt [44]=⟨#[44]⟩:=rfl
 rw [hT] at HB
 have HEx:=hide (fun W k' (hk:k≤k') (r:Rp w W p q L k' dm sm)=>HX W k' (Nat.le_trans h1 hk) r.here (ht.go r))
 have HX0:=hide (HX w k h1 h ht)
 have HE:Hid (∀ e,ex L k=.error e→someP ex L k=.error e):=fun e he=>by unfold someP;rw [he]
 have HO:Hid (∀ x k1,ex L k=.ok (x,k1)→someP ex L k=preL [x] (smF ex (L.length+1 - k1) L k1)∧k < k1):=fun x k1 he=>⟨by unfold someP;rw [he],hgo _ _ _ _ he⟩
 have HGO:=hide (fun k' x k1 he=>hgo L k' x k1 he)
 generalize someP ex L k=RR at *
 clear h h1 ht HX hT hgo hsm
 go_enter Tryz.func120,Tryz.ntmps120
 go_wp2_with fail
 refine HX0.out.mono ?_
 rintro e w1 (⟨x0,k1,v,h1,rfl,hv,hr⟩ | ⟨k1,h1,rfl,hr⟩)
 ·obtain ⟨a0,a1,a2,a3,a4,a5,a6,a7,a8,a9,rfl⟩:=hv.ten
  have HLS:=hide (Lp.one hr hv)
  have HQ0:=hide (HO.out _ _ h1)
  have hk1:=HLS.out.rr.kl
  clear hr h1 hv HO HE HX0
  go_wp2
  go_loopg [5] (L.length+1 - k1) (fun g v wr=>∃ (v1:Value) (k' n:Nat) (l:List Ex) (css:List (List Value)),v1=v∧L.length+1≤g+k'∧k≤k'∧n≤k'∧Hid (RR=preL l (smF ex g L k'))∧Hid (Lp ExR mkAgg 10 49 w wr p q L dm sm k' n v1 l css))
  case atStart=>exact ⟨_,k1,1,[x0],_,rfl,by omega,Nat.le_of_lt HQ0.out.2,by have:=HQ0.out.2;omega,HQ0.out.1,HLS.out⟩
  case round =>
   obtain ⟨v,k',n,l,css,rfl,hg,hkk,hn,HQ,HL⟩:=hrel
   have HG:=hide hg
   have HNK:=hide hn
   have HKK:=hide hkk
   have hkl':=HL.out.rr.kl
   have hg0:0 < gk:=by omega
   have HG0:=hide hg0
   have HPk:=hide (HB.out _ _ HL.out.rr)
   clear hg hn hg0 hkl hk1 HLS HQ0 hkk
   cases hp:passedP [44] L k' with
   | false =>
    rw [hp] at HPk
    have HF:Hid (RR=.ok (l,k')):=by unfold Hid;rw [HQ.out,smF_end HG0.out hp];simp [preL]
    clear hp HQ
    go_wp2_with fail
    refine HPk.out.mono ?_
    rintro e w2 ⟨rfl,hr⟩
    simp only [if_false,Bool.false_eq_true] at hr
    have L1:=hide (HL.out.go exRep_ok hr)
    clear hr
    go_wp2
    go_ret
    exact .inl ⟨l,k',_,HF.out,rfl,L1.out.done exRep_ok,L1.out.rr⟩
   | true =>
    rw [hp] at HPk
    have HE1:Hid (∀ e,ex L (k'+1)=.error e→RR=.error e):=fun e he=>by rw [HQ.out,smF_err HG0.out hp he];rfl
    have HE2:Hid (∀ x k1,ex L (k'+1)=.ok (x,k1)→RR=preL (l ++ [x]) (smF ex (gk - 1) L k1)∧k'+1 < k1):=fun x k1 he=>⟨by rw [HQ.out,smF_go HG0.out hp he],HGO.out _ _ _ he⟩
    clear hp HQ
    go_wp2_with fail
    refine HPk.out.mono ?_
    rintro e w2 ⟨rfl,hr⟩
    simp only [if_true] at hr
    have L1:=hide (HL.out.go exRep_ok hr)
    have HXk:=hide (HEx.out _ _ (Nat.le_succ_of_le HKK.out) L1.out.rr)
    clear hr HL
    go_wp2_with fail
    refine HXk.out.mono ?_
    rintro e w3 (⟨x,k2,v2,h2,rfl,hv,hr⟩ | ⟨k2,h2,rfl,hr⟩)
    ·obtain ⟨a0,a1,a2,a3,a4,a5,a6,a7,a8,a9,rfl⟩:=hv.ten
     obtain ⟨⟨i0,rfl⟩,⟨i1,rfl⟩,⟨i2,rfl⟩,⟨i3,rfl⟩,⟨t4,rfl⟩,⟨t5,rfl⟩,⟨i6,rfl⟩,⟨i7,rfl⟩,⟨s8,n8,m8,rfl⟩,⟨i9,rfl⟩⟩:=hv.forms
     have H2:=hide (HE2.out _ _ h2)
     have R2:=hide hr
     have O2:=hide (L1.out.go exRep_ok hr).own
     have Z2:Hid (w.heap.size≤w3.heap.size):=Nat.le_trans L1.out.rr.fr.size hr.fr.size
     have HSx:Hid (ExR w3 (Bn w2 w3) (mkAgg [.int .u8 i0,.int .i64 i1,.int .u64 i2,.int .u64 i3,.string t4,.string t5,.int .i64 i6,.int .i64 i7,.slice s8 n8 m8,.int .i64 i9]) x):=hv
     clear hr h2 hv
     go_wp2_with (at_builtin;refine wpList_appC rfl _ _ 47 rfl 49 i0' (.agg #[.int .u8 0,.int .i64 0,.int .u64 0,.int .u64 0,.string ⟨#[]⟩,.string ⟨#[]⟩,.int .i64 0,.int .i64 0,.slice none 0 0,.int .i64 0]) 10 112 Tryz.underlying47 hi0 hz0 hz1 hz2 rfl (by decide) (by decide) w.heap.size _ n css.flatten rfl (ownR_below O2.out ((Below.refl _ _).alloc (Nat.le_refl _) _)) w3.heap.size [.int .u8 i0,.int .i64 i1,.int .u64 i2,.int .u64 i3,.string t4,.string t5,.int .i64 i6,.int .i64 i7,.slice s8 n8 m8,.int .i64 i9] rfl rfl (cells_newC _ [.int .u8 i0,.int .i64 i1,.int .u64 i2,.int .u64 i3,.string t4,.string t5,.int .i64 i6,.int .i64 i7,.slice s8 n8 m8,.int .i64 i9] _) (by intro u hu;simp at hu;rcases hu with rfl | rfl | rfl | rfl | rfl | rfl | rfl | rfl | rfl | rfl <;> rfl) (by have:=HNK.out;have:=HSM.out;omega) (by have:=Z2.out;simp;omega) ?_;intro v8 w8 O8 D8;have L8:=hide (L1.out.step exRep_ok R2.out HSx.out rfl O8 D8);clear O8 D8)
     go_roundg (gk - 1)
     case measure=>have:=HG0.out;omega
     case rel=>exact ⟨_,k2,n+1,l ++ [x],_,rfl,by have:=HG.out;have:=H2.out.2;omega,by have:=HKK.out;have:=H2.out.2;omega,by have:=HNK.out;have:=H2.out.2;omega,H2.out.1,L8.out⟩
    ·have R2:=hide (L1.out.rr.from hr)
     have H2:=hide (HE1.out _ h2)
     clear hr h2
     go_wp2
     exact ⟨rfl,.inr ⟨_,H2.out,rfl,R2.out⟩⟩
 ·have R1:=hide hr
  have H1:=hide (HE.out _ h1)
  clear hr h1
  go_wp2
  exact ⟨rfl,.inr ⟨_,H1.out,rfl,R1.out⟩⟩
def exHash (l:List Ex) (n:List UInt8):Ex:=⟨23,0,0,n,[],0,0,0,l⟩
theorem exHash_val {W:World} {X:Nat→Prop} {l:List Ex} {n:List UInt8} {va:Value} (h:ListR ExR mkAgg 10 W X va l):ExR W X (.agg #[.int .u8 23,.int .i64 0,.int .u64 0,.int .u64 0,.string (txt n),.string ⟨#[]⟩,.int .i64 0,.int .i64 0,va,.int .i64 0]) (exHash l n):=by
 have h0:wHi 0=0:=by unfold wHi;simp
 have h1:wLo 0=0:=by unfold wLo;simp
 have h:=ExR.mk (W:=W) (X:=X) (x:=exHash l n) (va:=va) h
 simp only [exC,exHash,h0,h1,mkAgg] at h
 exact h
def hashP (so:Pf (List Ex)):Pf Ex:=nameP.bind fun n=>(passP [[40]]).bind fun _=>so.bind fun l=>(passP [[41]]).bind fun _=>Pf.ret (exHash l n)
set_option maxRecDepth 100000 in
set_option maxHeartbeats 4000000 in
theorem hash_ok {p q:Nat} {L:List (Wd × Nat)} {dm sm:Value} {bt k0:Nat} {so:Pf (List Ex)} (hL:OkL L) (HX:PfOk 120 #[.pointer (some ⟨p,0,none⟩),.func (Fn.func 112) #[.pointer (some ⟨p,0,none⟩)] #[]] p q L dm sm bt k0 so (ListR ExR mkAgg 10)) :
  PfOk 242 #[.pointer (some ⟨p,0,none⟩)] p q L dm sm bt k0 (hashP so) ExR:=by
 intro w k h1 h ht
 have s1:∀ (W:World) o,(W.alloc o).heap.size=W.heap.size+1:=fun W o=>by show (W.heap.push _).size=_;rw [Array.size_push]
 have HS:=hide s1
 have R0:=hide (h.next ((Below.refl _ w).alloc (Nat.le_refl _) (.cells #[.int .u8 0,.int .i64 0,.int .u64 0,.int .u64 0,.string ⟨#[]⟩,.string ⟨#[]⟩,.int .i64 0,.int .i64 0,.slice none 0 0,.int .i64 0] 49)))
 have Z0:=hide (heap_alloc_new w (.cells #[.int .u8 0,.int .i64 0,.int .u64 0,.int .u64 0,.string ⟨#[]⟩,.string ⟨#[]⟩,.int .i64 0,.int .i64 0,.slice none 0 0,.int .i64 0] 49))
 have HW:=hide (fun W k' (r:Rp w W p q L k' dm sm)=>name_any r.here hL)
 have HP1:=hide (fun W k' (r:Rp w W p q L k' dm sm) b hb=>pass_one r.here hL [40] (by decide) ⟨#[40]⟩ rfl 9 b hb)
 have HP2:=hide (fun W k' (r:Rp w W p q L k' dm sm) b hb=>pass_one r.here hL [41] (by decide) ⟨#[41]⟩ rfl 9 b hb)
 have HEx:=hide (fun W k' (hk:k≤k') (r:Rp w W p q L k' dm sm)=>HX W k' (Nat.le_trans h1 hk) r.here (ht.go r))
 have HE1:Hid (∀ {k1},nameP L k=.error k1→hashP so L k=.error k1):=fun {k1} e1=>by unfold hashP;simp only [Pf.bind,e1]
 have HE2:Hid (∀ {x1 k1 k2},nameP L k=.ok (x1,k1)→passP [[40]] L k1=.error k2→hashP so L k=.error k2):=fun {x1} {k1} {k2} e1 e2=>by unfold hashP;simp only [Pf.bind,e1,e2]
 have HE3:Hid (∀ {x1 k1 x2 k2 k3},nameP L k=.ok (x1,k1)→passP [[40]] L k1=.ok (x2,k2)→so L k2=.error k3→hashP so L k=.error k3):=fun {x1} {k1} {x2} {k2} {k3} e1 e2 e3=>by unfold hashP;simp only [Pf.bind,e1,e2,e3]
 have HE4:Hid (∀ {x1 k1 x2 k2 x3 k3 k4},nameP L k=.ok (x1,k1)→passP [[40]] L k1=.ok (x2,k2)→so L k2=.ok (x3,k3)→passP [[41]] L k3=.error k4→hashP so L k=.error k4):=fun {x1} {k1} {x2} {k2} {x3} {k3} {k4} e1 e2 e3 e4=>by unfold hashP;simp only [Pf.bind,e1,e2,e3,e4]
 have HO:Hid (∀ {x1 k1 x2 k2 x3 k3 x4 k4},nameP L k=.ok (x1,k1)→passP [[40]] L k1=.ok (x2,k2)→so L k2=.ok (x3,k3)→passP [[41]] L k3=.ok (x4,k4)→hashP so L k=.ok (exHash x3 x1,k4)):=fun {x1} {k1} {x2} {k2} {x3} {k3} {x4} {k4} e1 e2 e3 e4=>by unfold hashP;simp only [Pf.bind,Pf.ret,e1,e2,e3,e4]
 have HK:Hid (∀ {x1 k1 x2 k2},nameP L k=.ok (x1,k1)→passP [[40]] L k1=.ok (x2,k2)→k≤k2):=fun {x1} {k1} {x2} {k2} e1 e2=>by
  have g1:=nameP_goes _ _ _ _ e1
  have g2:=passP_goes e2
  omega
 generalize hashP so L k=RR at *
 clear h h1 ht HX s1
 go_enter Tryz.func242,Tryz.ntmps242
 go_wp2_with fail
 refine (HW.out _ _ R0.out).mono ?_
 rintro e w1 (⟨x1,k1,v,h1,rfl,hv,hr⟩ | ⟨k1,h1,rfl,hr⟩)
 ·obtain rfl:v=.string (txt x1):=hv
  have hB1:=(Below.refl _ w1).alloc (Nat.le_refl _) (.cells #[.int .u8 23,.int .i64 0,.int .u64 0,.int .u64 0,.string (txt x1),.string ⟨#[]⟩,.int .i64 0,.int .i64 0,.slice none 0 0,.int .i64 0] 49)
  have R1:=hide ((R0.out.from hr).next hB1)
  have ZR1:=hide ((hB1.block w.heap.size (Array.getElem?_eq_some_iff.1 (R0.out.keeps hr Z0.out (Nat.le_refl _))).1).trans (R0.out.keeps hr Z0.out (Nat.le_refl _)))
  have ZX1:=hide (heap_alloc_new w1 (.cells #[.int .u8 23,.int .i64 0,.int .u64 0,.int .u64 0,.string (txt x1),.string ⟨#[]⟩,.int .i64 0,.int .i64 0,.slice none 0 0,.int .i64 0] 49))
  have HN:Hid (w.heap.size < w1.heap.size):=(Array.getElem?_eq_some_iff.1 (R0.out.keeps hr Z0.out (Nat.le_refl _))).1
  have H1:=hide h1
  clear hr h1 hB1
  go_wp2_with fail
  have hsz:w1.heap.size+1=(w1.alloc (.cells #[.int .u8 23,.int .i64 0,.int .u64 0,.int .u64 0,.string (txt x1),.string ⟨#[]⟩,.int .i64 0,.int .i64 0,.slice none 0 0,.int .i64 0] 49)).heap.size:=(HS.out _ _).symm
  refine (HP1.out _ _ R1.out _ hsz).mono ?_
  clear hsz
  rintro e w3 (⟨x2,k2,v,h2,rfl,hv,hr⟩ | ⟨k2,h2,rfl,hr⟩)
  ·obtain rfl:v=.tuple #[]:=hv
   have R3:=hide (R1.out.from hr)
   have ZR3:=hide (R1.out.keeps hr ZR1.out (Nat.le_refl _))
   have ZX3:=hide (R1.out.keeps hr ZX1.out (Nat.le_of_lt HN.out))
   have H2:=hide h2
   clear hr h2 ZR1 ZX1
   have HE:=hide (HEx.out _ _ (HK.out H1.out H2.out) R3.out)
   go_wp2_with fail
   refine HE.out.mono ?_
   rintro e w4 (⟨x3,k3,v,h3,rfl,hv,hr⟩ | ⟨k3,h3,rfl,hr⟩)
   ·obtain ⟨s8,n8,m8,rfl⟩:∃ s8 n8 m8,v=.slice s8 n8 m8:=by
     obtain ⟨css,⟨a,cap,h3,_⟩,_⟩:=hv
     exact ⟨_,_,_,h3⟩
    have hX3:=(Array.getElem?_eq_some_iff.1 ZX3.out).1
    have hR3:=(Array.getElem?_eq_some_iff.1 ZR3.out).1
    have ZX4:=R3.out.keeps hr ZX3.out (Nat.le_of_lt HN.out)
    have ZR4:=R3.out.keeps hr ZR3.out (Nat.le_refl _)
    have hz5:(w4.setCell ⟨w1.heap.size,8,none⟩ (.slice s8 n8 m8)).heap.size=w4.heap.size:=by simp [World.setCell]
    have hF5:Fr (·=w1.heap.size) w4 (w4.setCell ⟨w1.heap.size,8,none⟩ (.slice s8 n8 m8)):=(Fr.refl _ w4).set _ _ rfl
    have hlt4:w1.heap.size < w4.heap.size:=Nat.lt_of_lt_of_le hX3 hr.fr.size
    have ZX5:Hid ((w4.setCell ⟨w1.heap.size,8,none⟩ (.slice s8 n8 m8)).heap[w1.heap.size]? = some (.cells #[.int .u8 23,.int .i64 0,.int .u64 0,.int .u64 0,.string (txt x1),.string ⟨#[]⟩,.int .i64 0,.int .i64 0,.slice s8 n8 m8,.int .i64 0] 49 (0,0))):=heap_setCell_same ZX4 _
    have ZR5:=hide ((hF5.block _ (Nat.lt_trans HN.out hlt4) (fun e=>by have e':w.heap.size=w1.heap.size:=e;have:=HN.out;omega)).trans ZR4)
    have K5:Hid (Kx w3 w4.heap.size (w4.setCell ⟨w1.heap.size,8,none⟩ (.slice s8 n8 m8)) (.slice s8 n8 m8) x3):=Kx.low (w:=w3) (W:=w4) (m:=w4.heap.size) hv hX3
    have R5:=hide ((R3.out.from hr).aside hF5 (Nat.le_of_lt HN.out))
    have g8:=cellA ZX4 8
    have e8:=softA ZX4 8
    have HP3:Hid (p < w3.heap.size):=hr.pl
    have hs5:w4.heap.size=(w4.setCell ⟨w1.heap.size,8,none⟩ (.slice s8 n8 m8)).heap.size:=hz5.symm
    have HS5:=hide hs5
    have H3:=hide h3
    have HX3:=hide hX3
    have HR3:=hide hR3
    clear h3 hX3 hR3 ZX4 ZR4 hz5 hF5 hr hv hs5 ZX3 ZR3
    go_wp2_with fail
    refine (HP2.out _ _ R5.out _ HS5.out).mono ?_
    rintro e w6 (⟨x4,k4,v,h4,rfl,hv,hr⟩ | ⟨k4,h4,rfl,hr⟩)
    ·obtain rfl:v=.tuple #[]:=hv
     have R6:=hide (R5.out.from hr)
     have ZX6:=hide (R5.out.keeps hr ZX5.out (Nat.le_of_lt HN.out))
     have ZR6:=hide (R5.out.keeps hr ZR5.out (Nat.le_refl _))
     have K6:=hide (K5.out.rq HP3.out hr)
     have H4:=hide (HO.out H1.out H2.out H3.out h4)
     have hB6:w4.heap.size≤w6.heap.size:=by rw [HS5.out];exact hr.fr.size
     have HB6:=hide hB6
     clear hr h4 g8 e8 hlt4 ZX5 ZR5 K5 hB6 HS5
     have d0:=cellA ZX6.out 0;have d1:=cellA ZX6.out 1;have d2:=cellA ZX6.out 2;have d3:=cellA ZX6.out 3;have d4:=cellA ZX6.out 4;have d5:=cellA ZX6.out 5;have d6:=cellA ZX6.out 6;have d7:=cellA ZX6.out 7;have d8:=cellA ZX6.out 8;have d9:=cellA ZX6.out 9
     have c0:=cellA ZR6.out 0;have c1:=cellA ZR6.out 1;have c2:=cellA ZR6.out 2;have c3:=cellA ZR6.out 3;have c4:=cellA ZR6.out 4;have c5:=cellA ZR6.out 5;have c6:=cellA ZR6.out 6;have c7:=cellA ZR6.out 7;have c8:=cellA ZR6.out 8;have c9:=cellA ZR6.out 9
     have f0:=softA ZR6.out 0;have f1:=softA ZR6.out 1;have f2:=softA ZR6.out 2;have f3:=softA ZR6.out 3;have f4:=softA ZR6.out 4;have f5:=softA ZR6.out 5;have f6:=softA ZR6.out 6;have f7:=softA ZR6.out 7;have f8:=softA ZR6.out 8;have f9:=softA ZR6.out 9
     go_wp2
     have hg:=got0 (cs:=[.int .u8 23,.int .i64 0,.int .u64 0,.int .u64 0,.string (txt x1),.string ⟨#[]⟩,.int .i64 0,.int .i64 0,.slice s8 n8 m8,.int .i64 0]) ZR6.out rfl
     have hF:=fr_all w.heap.size [.int .u8 23,.int .i64 0,.int .u64 0,.int .u64 0,.string (txt x1),.string ⟨#[]⟩,.int .i64 0,.int .i64 0,.slice s8 n8 m8,.int .i64 0] w6 0
     have RS:=hide (R6.out.aside hF (Nat.le_refl _))
     have HXS:Hid (ExR (setAll w.heap.size w6 0 [.int .u8 23,.int .i64 0,.int .u64 0,.int .u64 0,.string (txt x1),.string ⟨#[]⟩,.int .i64 0,.int .i64 0,.slice s8 n8 m8,.int .i64 0]) (Bn w (setAll w.heap.size w6 0 [.int .u8 23,.int .i64 0,.int .u64 0,.int .u64 0,.string (txt x1),.string ⟨#[]⟩,.int .i64 0,.int .i64 0,.slice s8 n8 m8,.int .i64 0])) (.agg #[.int .u8 23,.int .i64 0,.int .u64 0,.int .u64 0,.string (txt x1),.string ⟨#[]⟩,.int .i64 0,.int .i64 0,.slice s8 n8 m8,.int .i64 0]) (exHash x3 x1)) :=
      exHash_val ((ListR.ok exRep_ok mkAgg 10).mono (K6.out.lows HR3.out) fun c hc=>⟨Nat.le_trans (Nat.le_of_lt HR3.out) hc.1,Nat.lt_of_lt_of_le (Nat.lt_of_lt_of_le hc.2 HB6.out) hF.size⟩)
     have q0:=cellA hg 0;have q1:=cellA hg 1;have q2:=cellA hg 2;have q3:=cellA hg 3;have q4:=cellA hg 4;have q5:=cellA hg 5;have q6:=cellA hg 6;have q7:=cellA hg 7;have q8:=cellA hg 8;have q9:=cellA hg 9
     simp only [setAll] at q0 q1 q2 q3 q4 q5 q6 q7 q8 q9 RS HXS
     exact bodyPost_ret (v:=.agg #[.int .u8 23,.int .i64 0,.int .u64 0,.int .u64 0,.string (txt x1),.string ⟨#[]⟩,.int .i64 0,.int .i64 0,.slice s8 n8 m8,.int .i64 0]) (by simp [results,Tryz.results242,go_sem,q0,q1,q2,q3,q4,q5,q6,q7,q8,q9]) rfl (.inl ⟨_,_,_,H4.out,rfl,HXS.out,RS.out⟩)
    ·have R6:=hide (R5.out.from hr)
     have H4:=hide (HE4.out H1.out H2.out H3.out h4)
     clear hr h4
     go_wp2
     exact ⟨rfl,.inr ⟨_,H4.out,rfl,R6.out⟩⟩
   ·have R4:=hide (R3.out.from hr)
    have H3:=hide (HE3.out H1.out H2.out h3)
    clear hr h3
    go_wp2
    exact ⟨rfl,.inr ⟨_,H3.out,rfl,R4.out⟩⟩
  ·have R3:=hide (R1.out.from hr)
   have H2:=hide (HE2.out H1.out h2)
   clear hr h2
   go_wp2
   exact ⟨rfl,.inr ⟨_,H2.out,rfl,R3.out⟩⟩
 ·have R1:=hide (R0.out.from hr)
  have H1:=hide (HE1.out h1)
  clear hr h1
  go_wp2
  exact ⟨rfl,.inr ⟨_,H1.out,rfl,R1.out⟩⟩
def sP (L:List (Wd × Nat)) (k:Nat):List UInt8:=match L[k]? with
 | some x=>x.1.s
 | none=>[]
theorem aheadS {w W:World} {p q:Nat} {L:List (Wd × Nat)} {k:Nat} {dm sm:Value} (h:Rp w W p q L k dm sm) :
  Calls Tryz.prog 17 #[.pointer (some ⟨p,0,none⟩)] W fun e w'=>∃ b c d f g,e=.returned (.agg #[b,.string (txt (sP L k)),c,d,f,g])∧Rp W w' p q L k dm sm:=by
 obtain ⟨x,hx,_⟩:=h.word
 refine (ahead_any h.here hx).mono ?_
 rintro e w' ⟨rfl,hb⟩
 have hl:sP L k=x.1.s:=by unfold sP;rw [hx]
 rw [hl]
 exact ⟨_,_,_,_,_,rfl,h.here.next hb⟩
theorem two_facts {s:List UInt8} {t:List UInt8 × Nat × Nat} (h:twoP s=some t):t.1=s∧t.1 ≠ []∧t.2.1 < 256∧t.2.2≤7:=by
 have hm:t ∈ tws:=List.mem_of_find?_eq_some h
 have hs:=List.find?_some h
 have hall:tws.all (fun t=>decide (t.1 ≠ []) && decide (t.2.1 < 256) && decide (t.2.2≤7))=true:=by decide
 have:=List.all_eq_true.1 hall t hm
 simp only [Bool.and_eq_true,decide_eq_true_eq] at this hs
 exact ⟨hs,this.1.1,this.1.2,this.2⟩
theorem two_passes {L:List (Wd × Nat)} {k:Nat} {t:List UInt8 × Nat × Nat} (h:twoP (sP L k)=some t) (hk:k < L.length):passP [t.1] L k=.ok ((),k+1):=by
 have:=(two_facts h).1
 have hp:passedP t.1 L k=true:=by
  unfold passedP;unfold sP at this
  rw [List.getElem?_eq_getElem hk] at this ⊢
  simp only at this ⊢
  rw [this];simp
 rw [passP,hp,if_pos rfl,passP]
def chL (ch:Nat→Pf Ex) (least ln:Nat):Nat→Ex→Nat→Pf Ex
 | 0,_,_=>fun _ k=>.error k
 | g+1,x,most=>fun L k=>match twoP (sP L k) with
  | none=>.ok (x,k)
  | some t=>if t.2.2 < least ∨ most < t.2.2 then .ok (x,k) else (match ch (t.2.2+1) L (k+1) with
   | .error e=>.error e
   | .ok (y,k1)=>chL ch least ln g (exOp t.2.1 [x,y] ln) (if t.2.2=2 then 1 else t.2.2) L k1)
def chainG (un:Pf Ex) (ch:Nat→Pf Ex) (least:Nat):Pf Ex:=fun L k=>match un L k with
 | .error e=>.error e
 | .ok (x,k1)=>chL ch least (lineP L k) (L.length+1 - k1) x 7 L k1
theorem chL_none {ch:Nat→Pf Ex} {least ln g most:Nat} {x:Ex} {L:List (Wd × Nat)} {k:Nat} (hg:0 < g) (h:twoP (sP L k)=none):chL ch least ln g x most L k=.ok (x,k):=by
 obtain ⟨g,rfl⟩:∃ g',g=g'+1:=⟨g - 1,by omega⟩
 rw [chL];simp only [h]
theorem chL_stop {ch:Nat→Pf Ex} {least ln g most:Nat} {x:Ex} {L:List (Wd × Nat)} {k:Nat} {t:List UInt8 × Nat × Nat} (hg:0 < g) (h:twoP (sP L k)=some t) (hc:t.2.2 < least ∨ most < t.2.2):chL ch least ln g x most L k=.ok (x,k):=by
 obtain ⟨g,rfl⟩:∃ g',g=g'+1:=⟨g - 1,by omega⟩
 rw [chL];simp only [h,hc,if_true]
theorem chL_err {ch:Nat→Pf Ex} {least ln g most e:Nat} {x:Ex} {L:List (Wd × Nat)} {k:Nat} {t:List UInt8 × Nat × Nat} (hg:0 < g) (h:twoP (sP L k)=some t) (hc:¬ (t.2.2 < least ∨ most < t.2.2)) (he:ch (t.2.2+1) L (k+1)=.error e):chL ch least ln g x most L k=.error e:=by
 obtain ⟨g,rfl⟩:∃ g',g=g'+1:=⟨g - 1,by omega⟩
 rw [chL];simp only [h,hc,if_false,he]
theorem chL_go {ch:Nat→Pf Ex} {least ln g most k1:Nat} {x y:Ex} {L:List (Wd × Nat)} {k:Nat} {t:List UInt8 × Nat × Nat} (hg:0 < g) (h:twoP (sP L k)=some t) (hc:¬ (t.2.2 < least ∨ most < t.2.2)) (he:ch (t.2.2+1) L (k+1)=.ok (y,k1)):chL ch least ln g x most L k=chL ch least ln (g - 1) (exOp t.2.1 [x,y] ln) (if t.2.2=2 then 1 else t.2.2) L k1:=by
 obtain ⟨g,rfl⟩:∃ g',g=g'+1:=⟨g - 1,by omega⟩
 rw [chL];simp only [h,hc,if_false,he];rfl
theorem bin_laid {w W:World} {x y:Ex} {a0 a1 a2 a3 a4 a5 a6 a7 a8 a9 c0 c1 c2 c3 c4 c5 c6 c7 c8 c9:Value} {op line:Nat} (hw:w.heap.size≤W.heap.size) (h:ExR W (Bn w W) (.agg #[a0,a1,a2,a3,a4,a5,a6,a7,a8,a9]) x) (h':ExR W (Bn w W) (.agg #[c0,c1,c2,c3,c4,c5,c6,c7,c8,c9]) y) {t:TypeId} {b:Nat} (hb:b=W.heap.size) :
  ExP ((W.alloc (.cells #[a0,a1,a2,a3,a4,a5,a6,a7,a8,a9,c0,c1,c2,c3,c4,c5,c6,c7,c8,c9] t)).alloc (.cells #[.int .u8 (op:Int),.int .i64 0,.int .u64 0,.int .u64 0,.string ⟨#[]⟩,.string ⟨#[]⟩,.int .i64 0,.int .i64 0,.slice (some ⟨b,0,none⟩) 2 2,.int .i64 (line:Int)] 49)) (Bn w ((W.alloc (.cells #[a0,a1,a2,a3,a4,a5,a6,a7,a8,a9,c0,c1,c2,c3,c4,c5,c6,c7,c8,c9] t)).alloc (.cells #[.int .u8 (op:Int),.int .i64 0,.int .u64 0,.int .u64 0,.string ⟨#[]⟩,.string ⟨#[]⟩,.int .i64 0,.int .i64 0,.slice (some ⟨b,0,none⟩) 2 2,.int .i64 (line:Int)] 49))) (.pointer (some ⟨b+1,0,none⟩)) (exOp op [x,y] line):=by
 subst hb
 have s1:∀ o,(W.alloc o).heap.size=W.heap.size+1:=fun o=>by show (W.heap.push _).size=_;rw [Array.size_push]
 have s2:∀ o o',((W.alloc o).alloc o').heap.size=W.heap.size+2:=fun o o'=>by show ((W.heap.push _).push _).size=_;rw [Array.size_push,Array.size_push]
 have n1:=heap_alloc_new W (.cells #[a0,a1,a2,a3,a4,a5,a6,a7,a8,a9,c0,c1,c2,c3,c4,c5,c6,c7,c8,c9] t)
 generalize hO:(Obj.cells #[a0,a1,a2,a3,a4,a5,a6,a7,a8,a9,c0,c1,c2,c3,c4,c5,c6,c7,c8,c9] t)=o1 at *
 generalize hQ:(Obj.cells #[.int .u8 (op:Int),.int .i64 0,.int .u64 0,.int .u64 0,.string ⟨#[]⟩,.string ⟨#[]⟩,.int .i64 0,.int .i64 0,.slice (some ⟨W.heap.size,0,none⟩) 2 2,.int .i64 (line:Int)] 49)=o2
 have k1:((W.alloc o1).alloc o2).heap[W.heap.size]? = some o1:=(heap_alloc_old _ _ (by rw [s1];omega)).trans n1
 have k2:((W.alloc o1).alloc o2).heap[W.heap.size+1]? = some o2:=by rw [← s1 o1];exact heap_alloc_new _ _
 have key:∀ (v:Value) (z:Ex),ExR W (Bn w W) v z→ExR ((W.alloc o1).alloc o2) (Bn w ((W.alloc o1).alloc o2)) v z:=fun v z hz=>by
  refine exRep_ok.frame (exRep_ok.mono hz (Y:=Bn w ((W.alloc o1).alloc o2)) fun b hb=>⟨hb.1,by have:=hb.2;rw [s2];omega⟩) (by rw [s2];omega) fun b hb hlt=>?_
  rw [heap_alloc_old _ _ (by rw [s1];omega),heap_alloc_old _ _ hlt]
 refine ⟨W.heap.size+1,_,rfl,⟨by omega,by rw [s2];omega⟩,k2.trans (by rw [← hQ]),?_⟩
 refine exOp_val (ListR.lit (t:=t) (l:=[x,y]) (css:=[[a0,a1,a2,a3,a4,a5,a6,a7,a8,a9],[c0,c1,c2,c3,c4,c5,c6,c7,c8,c9]]) (k1.trans (by rw [← hO];rfl)) ⟨hw,by rw [s2];omega⟩ rfl ?_)
 intro i hi hi'
 have hi2:i=0 ∨ i=1:=by simp at hi;omega
 rcases hi2 with rfl | rfl
 ·exact ⟨rfl,key _ _ h⟩
 ·exact ⟨rfl,key _ _ h'⟩
set_option maxRecDepth 100000 in
set_option maxHeartbeats 8000000 in
theorem chain_ok {p q:Nat} {L:List (Wd × Nat)} {dm sm:Value} {bt k0:Nat} {un:Pf Ex} {ch:Nat→Pf Ex} (hL:OkL L) (HU:PfOk 203 #[.pointer (some ⟨p,0,none⟩)] p q L dm sm bt k0 un ExP) (HC:ChOk p q L dm sm bt (k0+1) ch) (hun:Goes un) (hch:∀ l,Goes (ch l)) :
  ChOk p q L dm sm bt k0 (chainG un ch):=by
 intro least hle w k h1 h ht
 have HA:=hide (aheadL h)
 have HS:=hide (fun W k' (r:Rp w W p q L k' dm sm)=>aheadS r)
 have HT:=hide (fun W k' (r:Rp w W p q L k' dm sm)=>(ht.go r).tws)
 have HUk:=hide (fun W (r:Rp w W p q L k dm sm)=>HU W k h1 r.here (ht.go r))
 have HCk:=hide (fun W k' l (hl:l≤8) (hk:k < k') (r:Rp w W p q L k' dm sm)=>HC l hl W k' (by omega) r.here (ht.go r))
 have HP:=hide (fun W k' (r:Rp w W p q L k' dm sm) l (hl:l ≠ []) b hb=>pass_one r.here hL l hl (txt l) rfl 9 b hb)
 have HGO:=hide (fun l k' x k1 he=>hch l L k' x k1 he)
 have HE:Hid (∀ e,un L k=.error e→chainG un ch least L k=.error e):=fun e he=>by unfold chainG;rw [he]
 have HO:Hid (∀ x k1,un L k=.ok (x,k1)→chainG un ch least L k=chL ch least (lineP L k) (L.length+1 - k1) x 7 L k1∧k < k1):=fun x k1 he=>⟨by unfold chainG;rw [he],hun _ _ _ _ he⟩
 generalize chainG un ch least L k=RR at *
 generalize lineP L k=ln at *
 clear h h1 ht HU HC hch hun
 go_enter Tryz.func167,Tryz.ntmps167
 go_wp2_with fail
 refine HA.out.mono ?_
 rintro e w0 ⟨b0,b1,b2,b3,b4,rfl,hr⟩
 have R0:=hide hr
 have HPkk:=hide (HUk.out _ hr)
 clear hr HUk
 obtain ⟨_,_,_,fl⟩:=fldW b0 b1 b2 b3 b4 (.int .i64 (ln:Int))
 go_wp2_with fail
 refine HPkk.out.mono ?_
 rintro e w0' (⟨x0,k1,v0,h1,rfl,hv,hr⟩ | ⟨k1,h1,rfl,hr⟩)
 ·have RA:=hide (R0.out.from hr)
  have HQ0:=hide (HO.out _ _ h1)
  have HX0:Hid (ExP w0' (Bn w w0') v0 x0):=exP_ok.mono hv (fun c hc=>⟨Nat.le_trans R0.out.fr.size hc.1,hc.2⟩)
  have hkl:=RA.out.kl
  clear hr h1 hv HO HE fl HA HPkk
  go_wp2
  go_loopg [6,7] (L.length+1 - k1) (fun g v v7 wr=>∃ (v1:Value) (most k':Nat) (x:Ex),v1=v∧v7=.int .i64 (most:Int)∧most≤7∧L.length+1≤g+k'∧k≤k'∧Hid (RR=chL ch least ln g x most L k')∧Hid (ExP wr (Bn w wr) v1 x)∧Hid (Rp w wr p q L k' dm sm))
  case atStart=>exact ⟨_,7,k1,x0,rfl,rfl,by omega,by omega,Nat.le_of_lt HQ0.out.2,HQ0.out.1,HX0.out,RA.out⟩
  case round =>
   obtain ⟨v,most,k',x,rfl,rfl,hmost,hg,hkk,HQ,HX,HR⟩:=hrel
   have hkl':=HR.out.kl
   have HG:=hide hg
   have HKK:=hide hkk
   have hg0:0 < gk:=by omega
   have HG0:=hide hg0
   have HSk:=hide (HS.out _ _ HR.out)
   clear hg hg0 hkl HQ0 HX0 RA hkk
   obtain ⟨s,hs⟩:∃ s,s=sP L k':=⟨_,rfl⟩
   rw [← hs] at HSk
   have HSS:=hide hs
   clear hs
   go_wp2_with fail
   refine HSk.out.mono ?_
   rintro e w1 ⟨d0,d1,d2,d3,d4,rfl,hr⟩
   have X1:=hide (HX.out.rp HR.out hr)
   have R1:=hide (HR.out.from hr)
   have HTk:=hide (twoOf_any (HT.out _ _ R1.out) s)
   clear hr HX HR
   obtain ⟨_,fl1,_,_⟩:=fldW d0 (.string (txt s)) d1 d2 d3 d4
   cases htw:twoP s with
   | none =>
    rw [htw] at HTk
    simp only [twoV] at HTk
    have HF:Hid (RR=.ok (x,k')):=by unfold Hid;rw [HQ.out,chL_none HG0.out (by rw [← HSS.out];exact htw)]
    clear htw HQ
    go_wp2_with fail
    refine HTk.out.mono ?_
    rintro e w2 ⟨rfl,hb⟩
    have hB:=hb.alloc hb.size (.cells #[.string ⟨#[]⟩,.int .u8 0,.int .i64 0] 228)
    have R2:=hide (R1.out.next hB)
    have X2:Hid (ExP (w2.alloc (.cells #[.string ⟨#[]⟩,.int .u8 0,.int .i64 0] 228)) (Bn w (w2.alloc (.cells #[.string ⟨#[]⟩,.int .u8 0,.int .i64 0] 228))) v x):=X1.out.rp R1.out (R1.out.here.next hB)
    clear hb hB
    go_wp2
    go_ret
    exact .inl ⟨x,k',_,HF.out,rfl,X2.out,R2.out⟩
   | some t =>
    rw [htw] at HTk
    simp only [twoV] at HTk
    have htw':twoP (sP L k')=some t:=by rw [← HSS.out];exact htw
    obtain ⟨ht1,ht2,ht3,ht4⟩:=two_facts htw
    have HPS:=hide (two_passes htw' hkl')
    by_cases hc:t.2.2 < least ∨ most < t.2.2
    ·have HF:Hid (RR=.ok (x,k')):=by unfold Hid;rw [HQ.out,chL_stop HG0.out htw' hc]
     obtain ⟨sg,op,lv⟩:=t
     simp only at hc HTk ht1 ht2 ht3 ht4
     clear htw htw' HQ ht1 ht2 ht3 HPS
     by_cases hc1:lv < least
     ·have hI:(lv:Int) < (least:Int):=by omega
      clear hc hc1
      go_wp2_with fail
      refine HTk.out.mono ?_
      rintro e w2 ⟨rfl,hb⟩
      have hB:=hb.alloc hb.size (.cells #[.string (txt sg),.int .u8 (op:Int),.int .i64 (lv:Int)] 228)
      have R2:=hide (R1.out.next hB)
      have X2:Hid (ExP (w2.alloc (.cells #[.string (txt sg),.int .u8 (op:Int),.int .i64 (lv:Int)] 228)) (Bn w (w2.alloc (.cells #[.string (txt sg),.int .u8 (op:Int),.int .i64 (lv:Int)] 228))) v x):=X1.out.rp R1.out (R1.out.here.next hB)
      clear hb hB
      go_wp2
      go_ret
      exact .inl ⟨x,k',_,HF.out,rfl,X2.out,R2.out⟩
     ·have hI:¬ (lv:Int) < (least:Int):=by omega
      have hI2:(most:Int) < (lv:Int):=by omega
      clear hc hc1
      go_wp2_with fail
      refine HTk.out.mono ?_
      rintro e w2 ⟨rfl,hb⟩
      have hB:=hb.alloc hb.size (.cells #[.string (txt sg),.int .u8 (op:Int),.int .i64 (lv:Int)] 228)
      have R2:=hide (R1.out.next hB)
      have X2:Hid (ExP (w2.alloc (.cells #[.string (txt sg),.int .u8 (op:Int),.int .i64 (lv:Int)] 228)) (Bn w (w2.alloc (.cells #[.string (txt sg),.int .u8 (op:Int),.int .i64 (lv:Int)] 228))) v x):=X1.out.rp R1.out (R1.out.here.next hB)
      clear hb hB
      go_wp2
      go_ret
      exact .inl ⟨x,k',_,HF.out,rfl,X2.out,R2.out⟩
    ·have HE1:Hid (∀ e,ch (t.2.2+1) L (k'+1)=.error e→RR=.error e):=fun e he=>by rw [HQ.out,chL_err HG0.out htw' hc he]
     have HE2:Hid (∀ y k1,ch (t.2.2+1) L (k'+1)=.ok (y,k1)→RR=chL ch least ln (gk - 1) (exOp t.2.1 [x,y] ln) (if t.2.2=2 then 1 else t.2.2) L k1∧k'+1 < k1):=fun y k1 he=>⟨by rw [HQ.out,chL_go HG0.out htw' hc he],HGO.out _ _ _ _ he⟩
     obtain ⟨sg,op,lv⟩:=t
     simp only at hc HTk ht1 ht2 ht3 ht4 HE1 HE2 HPS
     have hI:¬ (lv:Int) < (least:Int):=by omega
     have hI2:¬ (most:Int) < (lv:Int):=by omega
     have HPg:=hide (fun W (r:Rp w W p q L k' dm sm) b hb=>HP.out W k' r sg ht2 b hb)
     have HCg:=hide (fun W (r:Rp w W p q L (k'+1) dm sm)=>HCk.out W (k'+1) (lv+1) (by omega) (Nat.lt_succ_of_le HKK.out) r)
     have hadd:IntKind.i64.wrap ((lv:Int)+1)=((lv+1:Nat):Int):=by rw [IntKind.wrap_i64];omega
     clear htw htw' HQ ht1 hc
     generalize txt sg=T at *
     go_wp2_with fail
     refine HTk.out.mono ?_
     rintro e w2 ⟨rfl,hb⟩
     have hB:=hb.alloc hb.size (.cells #[.string T,.int .u8 (op:Int),.int .i64 (lv:Int)] 228)
     have R2:=hide (R1.out.next hB)
     have X2:Hid (ExP (w2.alloc (.cells #[.string T,.int .u8 (op:Int),.int .i64 (lv:Int)] 228)) (Bn w (w2.alloc (.cells #[.string T,.int .u8 (op:Int),.int .i64 (lv:Int)] 228))) v x):=X1.out.rp R1.out (R1.out.here.next hB)
     have ZT2:=hide (heap_alloc_new w2 (.cells #[.string T,.int .u8 (op:Int),.int .i64 (lv:Int)] 228))
     have HN2:Hid (w.heap.size≤w2.heap.size):=Nat.le_trans R1.out.fr.size hb.size
     have hs2:w2.heap.size+1=(w2.alloc (.cells #[.string T,.int .u8 (op:Int),.int .i64 (lv:Int)] 228)).heap.size:=by { show _=(w2.heap.push _).size;rw [Array.size_push] }
     have HS2:=hide hs2
     clear hb hB hs2
     go_wp2_with fail
     refine (HPg.out _ R2.out _ HS2.out).mono ?_
     rintro e w3 (⟨x2,k2,v2,h2,rfl,hv,hr⟩ | ⟨k2,h2,rfl,hr⟩)
     ·obtain rfl:v2=.tuple #[]:=hv
      rw [HPS.out] at h2
      obtain rfl:k'+1=k2:=by injection h2 with h2;injection h2
      have R3:=hide (R2.out.from hr)
      have X3:=hide (X2.out.rp R2.out hr)
      have ZT3:=hide (R2.out.keeps hr ZT2.out HN2.out)
      clear hr h2 X2 ZT2
      have HCh:=hide (HCg.out _ R3.out)
      have t2:=cellA ZT3.out 2
      have hcast:((lv+1:Nat):Int)=(lv:Int)+1:=by omega
      rw [hcast] at HCh
      go_wp2_with fail
      refine HCh.out.mono ?_
      rintro e w4 (⟨y,k4,v4,h4,rfl,hv,hr⟩ | ⟨k4,h4,rfl,hr⟩)
      ·have R4:=hide (R3.out.from hr)
       have X4:=X3.out.rp R3.out hr
       have Y4:ExP w4 (Bn w w4) v4 y:=exP_ok.mono hv (fun c hc=>⟨Nat.le_trans R3.out.fr.size hc.1,hc.2⟩)
       have ZT4:=hide (R3.out.keeps hr ZT3.out HN2.out)
       have H4:=hide (HE2.out _ _ h4)
       obtain ⟨bl,a0,a1,a2,a3,a4,a5,a6,a7,a8,a9,rfl,_,hbl,hRl⟩:=X4.ten
       obtain ⟨br,c0,c1,c2,c3,c4,c5,c6,c7,c8,c9,rfl,_,hbr,hRr⟩:=Y4.ten
       have ZL:=hide hbl
       have ZR:=hide hbr
       have XL:=hide hRl
       have XR:=hide hRr
       clear hr h4 hv X4 Y4 hbl hbr hRl hRr X3 ZT3 t2
       have e0:=cellA ZL.out 0;have e1:=cellA ZL.out 1;have e2:=cellA ZL.out 2;have e3:=cellA ZL.out 3;have e4:=cellA ZL.out 4;have e5:=cellA ZL.out 5;have e6:=cellA ZL.out 6;have e7:=cellA ZL.out 7;have e8:=cellA ZL.out 8;have e9:=cellA ZL.out 9
       have g0:=cellA ZR.out 0;have g1:=cellA ZR.out 1;have g2:=cellA ZR.out 2;have g3:=cellA ZR.out 3;have g4:=cellA ZR.out 4;have g5:=cellA ZR.out 5;have g6:=cellA ZR.out 6;have g7:=cellA ZR.out 7;have g8:=cellA ZR.out 8;have g9:=cellA ZR.out 9
       have t0:=cellA ZT4.out 0;have t1:=cellA ZT4.out 1;have t2:=cellA ZT4.out 2
       have hlt2:w2.heap.size < w4.heap.size:=(Array.getElem?_eq_some_iff.1 ZT4.out).1
       have hltl:bl < w4.heap.size:=(Array.getElem?_eq_some_iff.1 ZL.out).1
       have hltr:br < w4.heap.size:=(Array.getElem?_eq_some_iff.1 ZR.out).1
       go_wp2
       go_region
       have q1:=(Below.refl _ w4).alloc (Nat.le_refl _) (.cells #[a0,a1,a2,a3,a4,a5,a6,a7,a8,a9,c0,c1,c2,c3,c4,c5,c6,c7,c8,c9] 49)
       have q2:=(q1.alloc q1.size (.cells #[.int .u8 (op:Int),.int .i64 0,.int .u64 0,.int .u64 0,.string ⟨#[]⟩,.string ⟨#[]⟩,.int .i64 0,.int .i64 0,.slice (some ⟨w4.heap.size,0,none⟩) 2 2,.int .i64 (ln:Int)] 49)).drew
       have R9:=hide (R4.out.next q2)
       have ZT9:=hide ((q2.block w2.heap.size hlt2).trans ZT4.out)
       have X9:Hid (ExP (((w4.alloc (.cells #[a0,a1,a2,a3,a4,a5,a6,a7,a8,a9,c0,c1,c2,c3,c4,c5,c6,c7,c8,c9] 49)).alloc (.cells #[.int .u8 (op:Int),.int .i64 0,.int .u64 0,.int .u64 0,.string ⟨#[]⟩,.string ⟨#[]⟩,.int .i64 0,.int .i64 0,.slice (some ⟨w4.heap.size,0,none⟩) 2 2,.int .i64 (ln:Int)] 49)).drew) (Bn w (((w4.alloc (.cells #[a0,a1,a2,a3,a4,a5,a6,a7,a8,a9,c0,c1,c2,c3,c4,c5,c6,c7,c8,c9] 49)).alloc (.cells #[.int .u8 (op:Int),.int .i64 0,.int .u64 0,.int .u64 0,.string ⟨#[]⟩,.string ⟨#[]⟩,.int .i64 0,.int .i64 0,.slice (some ⟨w4.heap.size,0,none⟩) 2 2,.int .i64 (ln:Int)] 49)).drew)) (.pointer (some ⟨w4.heap.size+1,0,none⟩)) (exOp op [x,y] ln)):=exP_ok.frame (bin_laid R4.out.fr.size XL.out XR.out rfl) (Nat.le_refl _) (fun _ _ _=>rfl)
       clear q1 q2 e0 e1 e2 e3 e4 e5 e6 e7 e8 e9 g0 g1 g2 g3 g4 g5 g6 g7 g8 g9 t0 t1 t2 hltl hltr ZL ZR XL XR ZT4 R4
       generalize ((w4.alloc (.cells #[a0,a1,a2,a3,a4,a5,a6,a7,a8,a9,c0,c1,c2,c3,c4,c5,c6,c7,c8,c9] 49)).alloc (.cells #[.int .u8 (op:Int),.int .i64 0,.int .u64 0,.int .u64 0,.string ⟨#[]⟩,.string ⟨#[]⟩,.int .i64 0,.int .i64 0,.slice (some ⟨w4.heap.size,0,none⟩) 2 2,.int .i64 (ln:Int)] 49)).drew=w9 at *
       have t2:=cellA ZT9.out 2
       by_cases hl2:lv=2
       ·have hI3:(lv:Int)=2:=by omega
        rw [if_pos hl2] at H4
        go_wp2
        go_roundg (gk - 1)
        case measure=>have:=HG0.out;omega
        case rel=>exact ⟨_,1,k4,_,rfl,rfl,by omega,by have:=HG.out;have:=H4.out.2;omega,by have:=HKK.out;have:=H4.out.2;omega,H4.out.1,X9.out,R9.out⟩
       ·have hI3:¬ (lv:Int)=2:=by omega
        rw [if_neg hl2] at H4
        go_wp2
        go_roundg (gk - 1)
        case measure=>have:=HG0.out;omega
        case rel=>exact ⟨_,lv,k4,_,rfl,rfl,by omega,by have:=HG.out;have:=H4.out.2;omega,by have:=HKK.out;have:=H4.out.2;omega,H4.out.1,X9.out,R9.out⟩
      ·have R4:=hide (R3.out.from hr)
       have H4:=hide (HE1.out _ h4)
       clear hr h4
       go_wp2
       exact ⟨rfl,.inr ⟨_,H4.out,rfl,R4.out⟩⟩
     ·rw [HPS.out] at h2
      cases h2
 ·have RA:=hide (R0.out.from hr)
  have H1:=hide (HE.out _ h1)
  clear hr h1
  go_wp2
  exact ⟨rfl,.inr ⟨_,H1.out,rfl,RA.out⟩⟩
end Go.Proofs.YtabkimknlifdoaaGreatDoor
