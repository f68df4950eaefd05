/- Pieces of the proof: PaPl, PaH. -/
import Derived.Test.YtabkimknlifdoaaGreatDoorJ10
import Derived.Test.YtabkimknlifdoaaGreatDoorJ7
import Derived.Deep.LoopGhost
namespace Go.Proofs.YtabkimknlifdoaaGreatDoor
open Go.RowKit
def kdP (L:List (Wd × Nat)) (k:Nat):Nat:=match L[k]? with
 | some x=>x.1.k
 | none=>0
theorem aheadK {w W:World} {p q:Nat} {L:List (Wd × Nat)} {k:Nat} {dm sm:Value} (h:Rp w W p q L k dm sm) :
  Calls Tryz.prog 17 #[.pointer (some ⟨p,0,none⟩)] W fun e w'=>∃ b c d f g,e=.returned (.agg #[.int .u8 (kdP L k:Int),b,c,d,f,g])∧Rp W w' p q L k dm sm:=by
 obtain ⟨x,hx,_⟩:=h.word
 refine (ahead_any h.here hx).mono ?_
 rintro e w' ⟨rfl,hb⟩
 have hl:kdP L k=x.1.k:=by unfold kdP;rw [hx]
 rw [hl]
 exact ⟨_,_,_,_,_,rfl,h.here.next hb⟩
theorem put_val {w Wc W:World} {cs:List Value} {x:Ex} (h:ExR W (Bn Wc W) (.agg cs.toArray) x) (hr:w.heap.size < Wc.heap.size):ExR (setAll w.heap.size W 0 cs) (Bn w (setAll w.heap.size W 0 cs)) (.agg cs.toArray) x:=by
 have hF:=fr_all w.heap.size cs W 0
 exact exRep_ok.mono (exRep_ok.frame h hF.size fun c hc hlt=>hF.block c hlt (fun e=>by have:c=w.heap.size:=e;have:=hc.1;omega)) fun c hc=>⟨Nat.le_trans (Nat.le_of_lt hr) hc.1,Nat.lt_of_lt_of_le hc.2 hF.size⟩
def exLit (x:Nat × Nat):Ex:=⟨1,x.1,x.2,[],[],0,0,0,[]⟩
theorem exLit_val (W:World) (X:Nat→Prop) (x:Nat × Nat):ExR W X (.agg #[.int .u8 1,.int .i64 (x.1:Int),.int .u64 (wHi x.2),.int .u64 (wLo x.2),.string ⟨#[]⟩,.string ⟨#[]⟩,.int .i64 0,.int .i64 0,.slice none 0 0,.int .i64 0]) (exLit x):=by
 have h:=ExR.mk (W:=W) (X:=X) (x:=exLit x) (va:=.slice none 0 0) ListR.none
 exact h
def plainP (ca ha:Pf Ex):Pf Ex:=fun L k=>if kdP L k=3 then (match litP L k with
  | .error e=>.error e
  | .ok (x,k1)=>.ok (exLit x,k1)) else if passedP [118,97,108,105,100] L k then (match nameP L (k+1) with
  | .error e=>.error e
  | .ok (n,k1)=>.ok (exN 4 n [],k1)) else if passedP [99,97,115,116] L k then ca L (k+1) else if passedP [104,97,115,104] L k then ha L (k+1) else fopP L k
set_option maxRecDepth 100000 in
set_option maxHeartbeats 2000000 in
theorem plain_lit {w:World} {p q:Nat} {L:List (Wd × Nat)} {k:Nat} {dm sm:Value} {r:Pf Ex} (h:Rp w w p q L k dm sm) (hL:OkL L) (hk:kdP L k=3) (hE:∀ e,litP L k=.error e→r L k=.error e) (hO:∀ x k1,litP L k=.ok (x,k1)→r L k=.ok (exLit x,k1)) :
  Calls Tryz.prog 240 #[.pointer (some ⟨p,0,none⟩)] w fun e w'=>PostP (r L k) ExR w p q L dm sm e w':=by
 have R0:=hide (h.next ((Below.refl _ w).alloc (Nat.le_refl _) (.cells #[.int .u8 0,.int .i64 0,.int .u64 0,.int .u64 0,.string ⟨#[]⟩,.string ⟨#[]⟩,.int .i64 0,.int .i64 0,.slice none 0 0,.int .i64 0] 49)))
 have Z0:=hide (heap_alloc_new w (.cells #[.int .u8 0,.int .i64 0,.int .u64 0,.int .u64 0,.string ⟨#[]⟩,.string ⟨#[]⟩,.int .i64 0,.int .i64 0,.slice none 0 0,.int .i64 0] 49))
 have HA:=hide (fun W (r:Rp w W p q L k dm sm)=>aheadK r)
 have HC:=hide (fun W (r:Rp w W p q L k dm sm)=>lit_reads r.here hL)
 have HE:=hide hE
 have HO:=hide hO
 rw [hk] at HA
 clear h hL hk hE hO
 generalize r L k=RR at *
 go_enter Tryz.func240,Tryz.ntmps240
 go_wp2_with fail
 refine (HA.out _ R0.out).mono ?_
 rintro e w1 ⟨b1,b2,b3,b4,b5,rfl,hr⟩
 have Z1:=hide (R0.out.keeps hr Z0.out (Nat.le_refl _))
 have R1:=hide (R0.out.from hr)
 clear hr
 obtain ⟨fl,_,_,_⟩:=fldW (.int .u8 3) b1 b2 b3 b4 b5
 go_wp2_with fail
 refine (HC.out _ R1.out).mono ?_
 rintro e w9 (⟨x,k1,v,h1,rfl,hv,hr⟩ | ⟨k1,h1,rfl,hr⟩)
 ·obtain rfl:v=.agg #[.int .i64 (x.1:Int),.int .u64 (wHi x.2),.int .u64 (wLo x.2)]:=hv
  have Z9:=hide (R1.out.keeps hr Z1.out (Nat.le_refl _))
  have R9:=hide (R1.out.from hr)
  have H1:=hide (HO.out _ _ h1)
  clear hr h1
  have c0:=cellA Z9.out 0;have c1:=cellA Z9.out 1;have c2:=cellA Z9.out 2;have c3:=cellA Z9.out 3;have c4:=cellA Z9.out 4;have c5:=cellA Z9.out 5;have c6:=cellA Z9.out 6;have c7:=cellA Z9.out 7;have c8:=cellA Z9.out 8;have c9:=cellA Z9.out 9
  have f0:=softA Z9.out 0;have f1:=softA Z9.out 1;have f2:=softA Z9.out 2;have f3:=softA Z9.out 3;have f4:=softA Z9.out 4;have f5:=softA Z9.out 5;have f6:=softA Z9.out 6;have f7:=softA Z9.out 7;have f8:=softA Z9.out 8;have f9:=softA Z9.out 9
  go_wp2
  have hg:=got0 (cs:=[.int .u8 1,.int .i64 (x.1:Int),.int .u64 (wHi x.2),.int .u64 (wLo x.2),.string ⟨#[]⟩,.string ⟨#[]⟩,.int .i64 0,.int .i64 0,.slice none 0 0,.int .i64 0]) Z9.out rfl
  have hF:=fr_all w.heap.size [.int .u8 1,.int .i64 (x.1:Int),.int .u64 (wHi x.2),.int .u64 (wLo x.2),.string ⟨#[]⟩,.string ⟨#[]⟩,.int .i64 0,.int .i64 0,.slice none 0 0,.int .i64 0] w9 0
  have RS:=hide (R9.out.aside hF (Nat.le_refl _))
  have HXS:Hid (ExR (setAll w.heap.size w9 0 [.int .u8 1,.int .i64 (x.1:Int),.int .u64 (wHi x.2),.int .u64 (wLo x.2),.string ⟨#[]⟩,.string ⟨#[]⟩,.int .i64 0,.int .i64 0,.slice none 0 0,.int .i64 0]) (Bn w (setAll w.heap.size w9 0 [.int .u8 1,.int .i64 (x.1:Int),.int .u64 (wHi x.2),.int .u64 (wLo x.2),.string ⟨#[]⟩,.string ⟨#[]⟩,.int .i64 0,.int .i64 0,.slice none 0 0,.int .i64 0])) (.agg #[.int .u8 1,.int .i64 (x.1:Int),.int .u64 (wHi x.2),.int .u64 (wLo x.2),.string ⟨#[]⟩,.string ⟨#[]⟩,.int .i64 0,.int .i64 0,.slice none 0 0,.int .i64 0]) (exLit x)):=exLit_val _ _ x
  have q0:=cellA hg 0;have q1:=cellA hg 1;have q2:=cellA hg 2;have q3:=cellA hg 3;have q4:=cellA hg 4;have q5:=cellA hg 5;have q6:=cellA hg 6;have q7:=cellA hg 7;have q8:=cellA hg 8;have q9:=cellA hg 9
  simp only [setAll] at q0 q1 q2 q3 q4 q5 q6 q7 q8 q9 RS HXS
  exact bodyPost_ret (v:=.agg #[.int .u8 1,.int .i64 (x.1:Int),.int .u64 (wHi x.2),.int .u64 (wLo x.2),.string ⟨#[]⟩,.string ⟨#[]⟩,.int .i64 0,.int .i64 0,.slice none 0 0,.int .i64 0]) (by simp [results,Tryz.results240,go_sem,q0,q1,q2,q3,q4,q5,q6,q7,q8,q9]) rfl (.inl ⟨_,_,_,H1.out,rfl,HXS.out,RS.out⟩)
 ·have R9:=hide (R1.out.from hr)
  have H1:=hide (HE.out _ h1)
  clear hr h1
  go_wp2
  exact ⟨rfl,.inr ⟨_,H1.out,rfl,R9.out⟩⟩
set_option maxRecDepth 100000 in
set_option maxHeartbeats 2000000 in
theorem plain_valid {w:World} {p q:Nat} {L:List (Wd × Nat)} {k:Nat} {dm sm:Value} {r:Pf Ex} (h:Rp w w p q L k dm sm) (hL:OkL L) (hk:¬ kdP L k=3) (hb0:passedP [118,97,108,105,100] L k=true) (hE:∀ e,nameP L (k+1)=.error e→r L k=.error e) (hO:∀ x k1,nameP L (k+1)=.ok (x,k1)→r L k=.ok (exN 4 x [],k1)) :
  Calls Tryz.prog 240 #[.pointer (some ⟨p,0,none⟩)] w fun e w'=>PostP (r L k) ExR w p q L dm sm e w':=by
 have R0:=hide (h.next ((Below.refl _ w).alloc (Nat.le_refl _) (.cells #[.int .u8 0,.int .i64 0,.int .u64 0,.int .u64 0,.string ⟨#[]⟩,.string ⟨#[]⟩,.int .i64 0,.int .i64 0,.slice none 0 0,.int .i64 0] 49)))
 have Z0:=hide (heap_alloc_new w (.cells #[.int .u8 0,.int .i64 0,.int .u64 0,.int .u64 0,.string ⟨#[]⟩,.string ⟨#[]⟩,.int .i64 0,.int .i64 0,.slice none 0 0,.int .i64 0] 49))
 have HA:=hide (fun W (r:Rp w W p q L k dm sm)=>aheadK r)
 have HB0:=hide (fun W (r:Rp w W p q L k dm sm)=>passed_any r.here hL [118,97,108,105,100] (by decide))
 have hT0:txt [118,97,108,105,100]=⟨#[118,97,108,105,100]⟩:=rfl
 rw [hT0] at HB0
 rw [hb0] at HB0
 have HC:=hide (fun W (r:Rp w W p q L (k+1) dm sm)=>name_any r.here hL)
 have HE:=hide hE
 have HO:=hide hO
 have hkI:¬ ((kdP L k:Nat):Int)=3:=by omega
 clear h hL hk hT0 hb0 hE hO
 generalize ((kdP L k:Nat):Int)=kd at *
 generalize r L k=RR at *
 go_enter Tryz.func240,Tryz.ntmps240
 go_wp2_with fail
 refine (HA.out _ R0.out).mono ?_
 rintro e w1 ⟨b1,b2,b3,b4,b5,rfl,hr⟩
 have Z1:=hide (R0.out.keeps hr Z0.out (Nat.le_refl _))
 have R1:=hide (R0.out.from hr)
 clear hr
 obtain ⟨fl,_,_,_⟩:=fldW (.int .u8 kd) b1 b2 b3 b4 b5
 go_wp2_with fail
 refine (HB0.out _ R1.out).mono ?_
 rintro e w2 ⟨rfl,hr⟩
 simp only [if_true] at hr
 have Z2:=hide (R1.out.keeps hr Z1.out (Nat.le_refl _))
 have R2:=hide (R1.out.from hr)
 clear hr
 go_wp2_with fail
 refine (HC.out _ R2.out).mono ?_
 rintro e w9 (⟨x,k1,v,h1,rfl,hv,hr⟩ | ⟨k1,h1,rfl,hr⟩)
 ·obtain rfl:v=.string (txt x):=hv
  have Z9:=hide (R2.out.keeps hr Z2.out (Nat.le_refl _))
  have R9:=hide (R2.out.from hr)
  have H1:=hide (HO.out _ _ h1)
  clear hr h1
  have c0:=cellA Z9.out 0;have c1:=cellA Z9.out 1;have c2:=cellA Z9.out 2;have c3:=cellA Z9.out 3;have c4:=cellA Z9.out 4;have c5:=cellA Z9.out 5;have c6:=cellA Z9.out 6;have c7:=cellA Z9.out 7;have c8:=cellA Z9.out 8;have c9:=cellA Z9.out 9
  have f0:=softA Z9.out 0;have f1:=softA Z9.out 1;have f2:=softA Z9.out 2;have f3:=softA Z9.out 3;have f4:=softA Z9.out 4;have f5:=softA Z9.out 5;have f6:=softA Z9.out 6;have f7:=softA Z9.out 7;have f8:=softA Z9.out 8;have f9:=softA Z9.out 9
  go_wp2
  have hg:=got0 (cs:=[.int .u8 4,.int .i64 0,.int .u64 0,.int .u64 0,.string (txt x),.string ⟨#[]⟩,.int .i64 0,.int .i64 0,.slice none 0 0,.int .i64 0]) Z9.out rfl
  have hF:=fr_all w.heap.size [.int .u8 4,.int .i64 0,.int .u64 0,.int .u64 0,.string (txt x),.string ⟨#[]⟩,.int .i64 0,.int .i64 0,.slice none 0 0,.int .i64 0] w9 0
  have RS:=hide (R9.out.aside hF (Nat.le_refl _))
  have HXS:Hid (ExR (setAll w.heap.size w9 0 [.int .u8 4,.int .i64 0,.int .u64 0,.int .u64 0,.string (txt x),.string ⟨#[]⟩,.int .i64 0,.int .i64 0,.slice none 0 0,.int .i64 0]) (Bn w (setAll w.heap.size w9 0 [.int .u8 4,.int .i64 0,.int .u64 0,.int .u64 0,.string (txt x),.string ⟨#[]⟩,.int .i64 0,.int .i64 0,.slice none 0 0,.int .i64 0])) (.agg #[.int .u8 4,.int .i64 0,.int .u64 0,.int .u64 0,.string (txt x),.string ⟨#[]⟩,.int .i64 0,.int .i64 0,.slice none 0 0,.int .i64 0]) (exN 4 x [])):=exN_val _ _ 4 x []
  have q0:=cellA hg 0;have q1:=cellA hg 1;have q2:=cellA hg 2;have q3:=cellA hg 3;have q4:=cellA hg 4;have q5:=cellA hg 5;have q6:=cellA hg 6;have q7:=cellA hg 7;have q8:=cellA hg 8;have q9:=cellA hg 9
  simp only [setAll] at q0 q1 q2 q3 q4 q5 q6 q7 q8 q9 RS HXS
  exact bodyPost_ret (v:=.agg #[.int .u8 4,.int .i64 0,.int .u64 0,.int .u64 0,.string (txt x),.string ⟨#[]⟩,.int .i64 0,.int .i64 0,.slice none 0 0,.int .i64 0]) (by simp [results,Tryz.results240,go_sem,q0,q1,q2,q3,q4,q5,q6,q7,q8,q9]) rfl (.inl ⟨_,_,_,H1.out,rfl,HXS.out,RS.out⟩)
 ·have R9:=hide (R2.out.from hr)
  have H1:=hide (HE.out _ h1)
  clear hr h1
  go_wp2
  exact ⟨rfl,.inr ⟨_,H1.out,rfl,R9.out⟩⟩
set_option maxRecDepth 100000 in
set_option maxHeartbeats 2000000 in
theorem plain_cast {w:World} {p q:Nat} {L:List (Wd × Nat)} {k:Nat} {dm sm:Value} {r:Pf Ex} (h:Rp w w p q L k dm sm) (hL:OkL L) {ca:Pf Ex} (hk:¬ kdP L k=3) (hb0:passedP [118,97,108,105,100] L k=false) (hb1:passedP [99,97,115,116] L k=true) (hE:∀ e,ca L (k+1)=.error e→r L k=.error e) (hO:∀ x k1,ca L (k+1)=.ok (x,k1)→r L k=.ok (x,k1)) (hX:∀ W,Rp w W p q L (k+1) dm sm→Calls Tryz.prog 241 #[.pointer (some ⟨p,0,none⟩)] W fun e w'=>PostP (ca L (k+1)) ExR W p q L dm sm e w') :
  Calls Tryz.prog 240 #[.pointer (some ⟨p,0,none⟩)] w fun e w'=>PostP (r L k) ExR w p q L dm sm e w':=by
 have R0:=hide (h.next ((Below.refl _ w).alloc (Nat.le_refl _) (.cells #[.int .u8 0,.int .i64 0,.int .u64 0,.int .u64 0,.string ⟨#[]⟩,.string ⟨#[]⟩,.int .i64 0,.int .i64 0,.slice none 0 0,.int .i64 0] 49)))
 have Z0:=hide (heap_alloc_new w (.cells #[.int .u8 0,.int .i64 0,.int .u64 0,.int .u64 0,.string ⟨#[]⟩,.string ⟨#[]⟩,.int .i64 0,.int .i64 0,.slice none 0 0,.int .i64 0] 49))
 have HA:=hide (fun W (r:Rp w W p q L k dm sm)=>aheadK r)
 have HB0:=hide (fun W (r:Rp w W p q L k dm sm)=>passed_any r.here hL [118,97,108,105,100] (by decide))
 have hT0:txt [118,97,108,105,100]=⟨#[118,97,108,105,100]⟩:=rfl
 rw [hT0] at HB0
 rw [hb0] at HB0
 have HB1:=hide (fun W (r:Rp w W p q L k dm sm)=>passed_any r.here hL [99,97,115,116] (by decide))
 have hT1:txt [99,97,115,116]=⟨#[99,97,115,116]⟩:=rfl
 rw [hT1] at HB1
 rw [hb1] at HB1
 have HC:=hide hX
 have HE:=hide hE
 have HO:=hide hO
 have hkI:¬ ((kdP L k:Nat):Int)=3:=by omega
 clear h hL hk hT0 hb0 hT1 hb1 hE hO hX
 generalize ((kdP L k:Nat):Int)=kd at *
 generalize r L k=RR at *
 go_enter Tryz.func240,Tryz.ntmps240
 go_wp2_with fail
 refine (HA.out _ R0.out).mono ?_
 rintro e w1 ⟨b1,b2,b3,b4,b5,rfl,hr⟩
 have Z1:=hide (R0.out.keeps hr Z0.out (Nat.le_refl _))
 have R1:=hide (R0.out.from hr)
 clear hr
 obtain ⟨fl,_,_,_⟩:=fldW (.int .u8 kd) b1 b2 b3 b4 b5
 go_wp2_with fail
 refine (HB0.out _ R1.out).mono ?_
 rintro e w2 ⟨rfl,hr⟩
 simp only [if_false,Bool.false_eq_true] at hr
 have Z2:=hide (R1.out.keeps hr Z1.out (Nat.le_refl _))
 have R2:=hide (R1.out.from hr)
 clear hr
 go_wp2_with fail
 refine (HB1.out _ R2.out).mono ?_
 rintro e w3 ⟨rfl,hr⟩
 simp only [if_true] at hr
 have Z3:=hide (R2.out.keeps hr Z2.out (Nat.le_refl _))
 have R3:=hide (R2.out.from hr)
 clear hr
 go_wp2_with fail
 refine (HC.out _ R3.out).mono ?_
 rintro e w9 (⟨x,k1,v,h1,rfl,hv,hr⟩ | ⟨k1,h1,rfl,hr⟩)
 ·obtain ⟨a0,a1,a2,a3,a4,a5,a6,a7,a8,a9,rfl⟩:=hv.ten
  obtain ⟨⟨i0,rfl⟩,⟨i1,rfl⟩,⟨i2,rfl⟩,⟨i3,rfl⟩,⟨t4,rfl⟩,⟨t5,rfl⟩,⟨i6,rfl⟩,⟨i7,rfl⟩,⟨s8,n8,m8,rfl⟩,⟨i9,rfl⟩⟩:=hv.forms
  have HV:=hide hv
  have Z9:=hide (R3.out.keeps hr Z3.out (Nat.le_refl _))
  have R9:=hide (R3.out.from hr)
  have H1:=hide (HO.out _ _ h1)
  clear hr h1 hv
  have c0:=cellA Z9.out 0;have c1:=cellA Z9.out 1;have c2:=cellA Z9.out 2;have c3:=cellA Z9.out 3;have c4:=cellA Z9.out 4;have c5:=cellA Z9.out 5;have c6:=cellA Z9.out 6;have c7:=cellA Z9.out 7;have c8:=cellA Z9.out 8;have c9:=cellA Z9.out 9
  have f0:=softA Z9.out 0;have f1:=softA Z9.out 1;have f2:=softA Z9.out 2;have f3:=softA Z9.out 3;have f4:=softA Z9.out 4;have f5:=softA Z9.out 5;have f6:=softA Z9.out 6;have f7:=softA Z9.out 7;have f8:=softA Z9.out 8;have f9:=softA Z9.out 9
  go_wp2
  have hg:=got0 (cs:=[.int .u8 i0,.int .i64 i1,.int .u64 i2,.int .u64 i3,.string t4,.string t5,.int .i64 i6,.int .i64 i7,.slice s8 n8 m8,.int .i64 i9]) Z9.out rfl
  have hF:=fr_all w.heap.size [.int .u8 i0,.int .i64 i1,.int .u64 i2,.int .u64 i3,.string t4,.string t5,.int .i64 i6,.int .i64 i7,.slice s8 n8 m8,.int .i64 i9] w9 0
  have RS:=hide (R9.out.aside hF (Nat.le_refl _))
  have HXS:Hid (ExR (setAll w.heap.size w9 0 [.int .u8 i0,.int .i64 i1,.int .u64 i2,.int .u64 i3,.string t4,.string t5,.int .i64 i6,.int .i64 i7,.slice s8 n8 m8,.int .i64 i9]) (Bn w (setAll w.heap.size w9 0 [.int .u8 i0,.int .i64 i1,.int .u64 i2,.int .u64 i3,.string t4,.string t5,.int .i64 i6,.int .i64 i7,.slice s8 n8 m8,.int .i64 i9])) (.agg #[.int .u8 i0,.int .i64 i1,.int .u64 i2,.int .u64 i3,.string t4,.string t5,.int .i64 i6,.int .i64 i7,.slice s8 n8 m8,.int .i64 i9]) x):=put_val (cs:=[.int .u8 i0,.int .i64 i1,.int .u64 i2,.int .u64 i3,.string t4,.string t5,.int .i64 i6,.int .i64 i7,.slice s8 n8 m8,.int .i64 i9]) HV.out (Array.getElem?_eq_some_iff.1 Z3.out).1
  have q0:=cellA hg 0;have q1:=cellA hg 1;have q2:=cellA hg 2;have q3:=cellA hg 3;have q4:=cellA hg 4;have q5:=cellA hg 5;have q6:=cellA hg 6;have q7:=cellA hg 7;have q8:=cellA hg 8;have q9:=cellA hg 9
  simp only [setAll] at q0 q1 q2 q3 q4 q5 q6 q7 q8 q9 RS HXS
  exact bodyPost_ret (v:=.agg #[.int .u8 i0,.int .i64 i1,.int .u64 i2,.int .u64 i3,.string t4,.string t5,.int .i64 i6,.int .i64 i7,.slice s8 n8 m8,.int .i64 i9]) (by simp [results,Tryz.results240,go_sem,q0,q1,q2,q3,q4,q5,q6,q7,q8,q9]) rfl (.inl ⟨_,_,_,H1.out,rfl,HXS.out,RS.out⟩)
 ·have R9:=hide (R3.out.from hr)
  have H1:=hide (HE.out _ h1)
  clear hr h1
  go_wp2
  exact ⟨rfl,.inr ⟨_,H1.out,rfl,R9.out⟩⟩
set_option maxRecDepth 100000 in
set_option maxHeartbeats 2000000 in
theorem plain_hash {w:World} {p q:Nat} {L:List (Wd × Nat)} {k:Nat} {dm sm:Value} {r:Pf Ex} (h:Rp w w p q L k dm sm) (hL:OkL L) {ca:Pf Ex} (hk:¬ kdP L k=3) (hb0:passedP [118,97,108,105,100] L k=false) (hb1:passedP [99,97,115,116] L k=false) (hb2:passedP [104,97,115,104] L k=true) (hE:∀ e,ca L (k+1)=.error e→r L k=.error e) (hO:∀ x k1,ca L (k+1)=.ok (x,k1)→r L k=.ok (x,k1)) (hX:∀ W,Rp w W p q L (k+1) dm sm→Calls Tryz.prog 242 #[.pointer (some ⟨p,0,none⟩)] W fun e w'=>PostP (ca L (k+1)) ExR W p q L dm sm e w') :
  Calls Tryz.prog 240 #[.pointer (some ⟨p,0,none⟩)] w fun e w'=>PostP (r L k) ExR w p q L dm sm e w':=by
 have R0:=hide (h.next ((Below.refl _ w).alloc (Nat.le_refl _) (.cells #[.int .u8 0,.int .i64 0,.int .u64 0,.int .u64 0,.string ⟨#[]⟩,.string ⟨#[]⟩,.int .i64 0,.int .i64 0,.slice none 0 0,.int .i64 0] 49)))
 have Z0:=hide (heap_alloc_new w (.cells #[.int .u8 0,.int .i64 0,.int .u64 0,.int .u64 0,.string ⟨#[]⟩,.string ⟨#[]⟩,.int .i64 0,.int .i64 0,.slice none 0 0,.int .i64 0] 49))
 have HA:=hide (fun W (r:Rp w W p q L k dm sm)=>aheadK r)
 have HB0:=hide (fun W (r:Rp w W p q L k dm sm)=>passed_any r.here hL [118,97,108,105,100] (by decide))
 have hT0:txt [118,97,108,105,100]=⟨#[118,97,108,105,100]⟩:=rfl
 rw [hT0] at HB0
 rw [hb0] at HB0
 have HB1:=hide (fun W (r:Rp w W p q L k dm sm)=>passed_any r.here hL [99,97,115,116] (by decide))
 have hT1:txt [99,97,115,116]=⟨#[99,97,115,116]⟩:=rfl
 rw [hT1] at HB1
 rw [hb1] at HB1
 have HB2:=hide (fun W (r:Rp w W p q L k dm sm)=>passed_any r.here hL [104,97,115,104] (by decide))
 have hT2:txt [104,97,115,104]=⟨#[104,97,115,104]⟩:=rfl
 rw [hT2] at HB2
 rw [hb2] at HB2
 have HC:=hide hX
 have HE:=hide hE
 have HO:=hide hO
 have hkI:¬ ((kdP L k:Nat):Int)=3:=by omega
 clear h hL hk hT0 hb0 hT1 hb1 hT2 hb2 hE hO hX
 generalize ((kdP L k:Nat):Int)=kd at *
 generalize r L k=RR at *
 go_enter Tryz.func240,Tryz.ntmps240
 go_wp2_with fail
 refine (HA.out _ R0.out).mono ?_
 rintro e w1 ⟨b1,b2,b3,b4,b5,rfl,hr⟩
 have Z1:=hide (R0.out.keeps hr Z0.out (Nat.le_refl _))
 have R1:=hide (R0.out.from hr)
 clear hr
 obtain ⟨fl,_,_,_⟩:=fldW (.int .u8 kd) b1 b2 b3 b4 b5
 go_wp2_with fail
 refine (HB0.out _ R1.out).mono ?_
 rintro e w2 ⟨rfl,hr⟩
 simp only [if_false,Bool.false_eq_true] at hr
 have Z2:=hide (R1.out.keeps hr Z1.out (Nat.le_refl _))
 have R2:=hide (R1.out.from hr)
 clear hr
 go_wp2_with fail
 refine (HB1.out _ R2.out).mono ?_
 rintro e w3 ⟨rfl,hr⟩
 simp only [if_false,Bool.false_eq_true] at hr
 have Z3:=hide (R2.out.keeps hr Z2.out (Nat.le_refl _))
 have R3:=hide (R2.out.from hr)
 clear hr
 go_wp2_with fail
 refine (HB2.out _ R3.out).mono ?_
 rintro e w4 ⟨rfl,hr⟩
 simp only [if_true] at hr
 have Z4:=hide (R3.out.keeps hr Z3.out (Nat.le_refl _))
 have R4:=hide (R3.out.from hr)
 clear hr
 go_wp2_with fail
 refine (HC.out _ R4.out).mono ?_
 rintro e w9 (⟨x,k1,v,h1,rfl,hv,hr⟩ | ⟨k1,h1,rfl,hr⟩)
 ·obtain ⟨a0,a1,a2,a3,a4,a5,a6,a7,a8,a9,rfl⟩:=hv.ten
  obtain ⟨⟨i0,rfl⟩,⟨i1,rfl⟩,⟨i2,rfl⟩,⟨i3,rfl⟩,⟨t4,rfl⟩,⟨t5,rfl⟩,⟨i6,rfl⟩,⟨i7,rfl⟩,⟨s8,n8,m8,rfl⟩,⟨i9,rfl⟩⟩:=hv.forms
  have HV:=hide hv
  have Z9:=hide (R4.out.keeps hr Z4.out (Nat.le_refl _))
  have R9:=hide (R4.out.from hr)
  have H1:=hide (HO.out _ _ h1)
  clear hr h1 hv
  have c0:=cellA Z9.out 0;have c1:=cellA Z9.out 1;have c2:=cellA Z9.out 2;have c3:=cellA Z9.out 3;have c4:=cellA Z9.out 4;have c5:=cellA Z9.out 5;have c6:=cellA Z9.out 6;have c7:=cellA Z9.out 7;have c8:=cellA Z9.out 8;have c9:=cellA Z9.out 9
  have f0:=softA Z9.out 0;have f1:=softA Z9.out 1;have f2:=softA Z9.out 2;have f3:=softA Z9.out 3;have f4:=softA Z9.out 4;have f5:=softA Z9.out 5;have f6:=softA Z9.out 6;have f7:=softA Z9.out 7;have f8:=softA Z9.out 8;have f9:=softA Z9.out 9
  go_wp2
  have hg:=got0 (cs:=[.int .u8 i0,.int .i64 i1,.int .u64 i2,.int .u64 i3,.string t4,.string t5,.int .i64 i6,.int .i64 i7,.slice s8 n8 m8,.int .i64 i9]) Z9.out rfl
  have hF:=fr_all w.heap.size [.int .u8 i0,.int .i64 i1,.int .u64 i2,.int .u64 i3,.string t4,.string t5,.int .i64 i6,.int .i64 i7,.slice s8 n8 m8,.int .i64 i9] w9 0
  have RS:=hide (R9.out.aside hF (Nat.le_refl _))
  have HXS:Hid (ExR (setAll w.heap.size w9 0 [.int .u8 i0,.int .i64 i1,.int .u64 i2,.int .u64 i3,.string t4,.string t5,.int .i64 i6,.int .i64 i7,.slice s8 n8 m8,.int .i64 i9]) (Bn w (setAll w.heap.size w9 0 [.int .u8 i0,.int .i64 i1,.int .u64 i2,.int .u64 i3,.string t4,.string t5,.int .i64 i6,.int .i64 i7,.slice s8 n8 m8,.int .i64 i9])) (.agg #[.int .u8 i0,.int .i64 i1,.int .u64 i2,.int .u64 i3,.string t4,.string t5,.int .i64 i6,.int .i64 i7,.slice s8 n8 m8,.int .i64 i9]) x):=put_val (cs:=[.int .u8 i0,.int .i64 i1,.int .u64 i2,.int .u64 i3,.string t4,.string t5,.int .i64 i6,.int .i64 i7,.slice s8 n8 m8,.int .i64 i9]) HV.out (Array.getElem?_eq_some_iff.1 Z4.out).1
  have q0:=cellA hg 0;have q1:=cellA hg 1;have q2:=cellA hg 2;have q3:=cellA hg 3;have q4:=cellA hg 4;have q5:=cellA hg 5;have q6:=cellA hg 6;have q7:=cellA hg 7;have q8:=cellA hg 8;have q9:=cellA hg 9
  simp only [setAll] at q0 q1 q2 q3 q4 q5 q6 q7 q8 q9 RS HXS
  exact bodyPost_ret (v:=.agg #[.int .u8 i0,.int .i64 i1,.int .u64 i2,.int .u64 i3,.string t4,.string t5,.int .i64 i6,.int .i64 i7,.slice s8 n8 m8,.int .i64 i9]) (by simp [results,Tryz.results240,go_sem,q0,q1,q2,q3,q4,q5,q6,q7,q8,q9]) rfl (.inl ⟨_,_,_,H1.out,rfl,HXS.out,RS.out⟩)
 ·have R9:=hide (R4.out.from hr)
  have H1:=hide (HE.out _ h1)
  clear hr h1
  go_wp2
  exact ⟨rfl,.inr ⟨_,H1.out,rfl,R9.out⟩⟩
set_option maxRecDepth 100000 in
set_option maxHeartbeats 2000000 in
theorem plain_fop {w:World} {p q:Nat} {L:List (Wd × Nat)} {k:Nat} {dm sm:Value} {r:Pf Ex} (h:Rp w w p q L k dm sm) (hL:OkL L) (hk:¬ kdP L k=3) (hb0:passedP [118,97,108,105,100] L k=false) (hb1:passedP [99,97,115,116] L k=false) (hb2:passedP [104,97,115,104] L k=false) (hE:∀ e,fopP L k=.error e→r L k=.error e) (hO:∀ x k1,fopP L k=.ok (x,k1)→r L k=.ok (x,k1)) :
  Calls Tryz.prog 240 #[.pointer (some ⟨p,0,none⟩)] w fun e w'=>PostP (r L k) ExR w p q L dm sm e w':=by
 have R0:=hide (h.next ((Below.refl _ w).alloc (Nat.le_refl _) (.cells #[.int .u8 0,.int .i64 0,.int .u64 0,.int .u64 0,.string ⟨#[]⟩,.string ⟨#[]⟩,.int .i64 0,.int .i64 0,.slice none 0 0,.int .i64 0] 49)))
 have Z0:=hide (heap_alloc_new w (.cells #[.int .u8 0,.int .i64 0,.int .u64 0,.int .u64 0,.string ⟨#[]⟩,.string ⟨#[]⟩,.int .i64 0,.int .i64 0,.slice none 0 0,.int .i64 0] 49))
 have HA:=hide (fun W (r:Rp w W p q L k dm sm)=>aheadK r)
 have HB0:=hide (fun W (r:Rp w W p q L k dm sm)=>passed_any r.here hL [118,97,108,105,100] (by decide))
 have hT0:txt [118,97,108,105,100]=⟨#[118,97,108,105,100]⟩:=rfl
 rw [hT0] at HB0
 rw [hb0] at HB0
 have HB1:=hide (fun W (r:Rp w W p q L k dm sm)=>passed_any r.here hL [99,97,115,116] (by decide))
 have hT1:txt [99,97,115,116]=⟨#[99,97,115,116]⟩:=rfl
 rw [hT1] at HB1
 rw [hb1] at HB1
 have HB2:=hide (fun W (r:Rp w W p q L k dm sm)=>passed_any r.here hL [104,97,115,104] (by decide))
 have hT2:txt [104,97,115,104]=⟨#[104,97,115,104]⟩:=rfl
 rw [hT2] at HB2
 rw [hb2] at HB2
 have HC:=hide (fun W (r:Rp w W p q L k dm sm)=>fop_any r.here hL)
 have HE:=hide hE
 have HO:=hide hO
 have hkI:¬ ((kdP L k:Nat):Int)=3:=by omega
 clear h hL hk hT0 hb0 hT1 hb1 hT2 hb2 hE hO
 generalize ((kdP L k:Nat):Int)=kd at *
 generalize r L k=RR at *
 go_enter Tryz.func240,Tryz.ntmps240
 go_wp2_with fail
 refine (HA.out _ R0.out).mono ?_
 rintro e w1 ⟨b1,b2,b3,b4,b5,rfl,hr⟩
 have Z1:=hide (R0.out.keeps hr Z0.out (Nat.le_refl _))
 have R1:=hide (R0.out.from hr)
 clear hr
 obtain ⟨fl,_,_,_⟩:=fldW (.int .u8 kd) b1 b2 b3 b4 b5
 go_wp2_with fail
 refine (HB0.out _ R1.out).mono ?_
 rintro e w2 ⟨rfl,hr⟩
 simp only [if_false,Bool.false_eq_true] at hr
 have Z2:=hide (R1.out.keeps hr Z1.out (Nat.le_refl _))
 have R2:=hide (R1.out.from hr)
 clear hr
 go_wp2_with fail
 refine (HB1.out _ R2.out).mono ?_
 rintro e w3 ⟨rfl,hr⟩
 simp only [if_false,Bool.false_eq_true] at hr
 have Z3:=hide (R2.out.keeps hr Z2.out (Nat.le_refl _))
 have R3:=hide (R2.out.from hr)
 clear hr
 go_wp2_with fail
 refine (HB2.out _ R3.out).mono ?_
 rintro e w4 ⟨rfl,hr⟩
 simp only [if_false,Bool.false_eq_true] at hr
 have Z4:=hide (R3.out.keeps hr Z3.out (Nat.le_refl _))
 have R4:=hide (R3.out.from hr)
 clear hr
 go_wp2_with fail
 refine (HC.out _ R4.out).mono ?_
 rintro e w9 (⟨x,k1,v,h1,rfl,hv,hr⟩ | ⟨k1,h1,rfl,hr⟩)
 ·obtain ⟨a0,a1,a2,a3,a4,a5,a6,a7,a8,a9,rfl⟩:=hv.ten
  obtain ⟨⟨i0,rfl⟩,⟨i1,rfl⟩,⟨i2,rfl⟩,⟨i3,rfl⟩,⟨t4,rfl⟩,⟨t5,rfl⟩,⟨i6,rfl⟩,⟨i7,rfl⟩,⟨s8,n8,m8,rfl⟩,⟨i9,rfl⟩⟩:=hv.forms
  have HV:=hide hv
  have Z9:=hide (R4.out.keeps hr Z4.out (Nat.le_refl _))
  have R9:=hide (R4.out.from hr)
  have H1:=hide (HO.out _ _ h1)
  clear hr h1 hv
  have c0:=cellA Z9.out 0;have c1:=cellA Z9.out 1;have c2:=cellA Z9.out 2;have c3:=cellA Z9.out 3;have c4:=cellA Z9.out 4;have c5:=cellA Z9.out 5;have c6:=cellA Z9.out 6;have c7:=cellA Z9.out 7;have c8:=cellA Z9.out 8;have c9:=cellA Z9.out 9
  have f0:=softA Z9.out 0;have f1:=softA Z9.out 1;have f2:=softA Z9.out 2;have f3:=softA Z9.out 3;have f4:=softA Z9.out 4;have f5:=softA Z9.out 5;have f6:=softA Z9.out 6;have f7:=softA Z9.out 7;have f8:=softA Z9.out 8;have f9:=softA Z9.out 9
  go_wp2
  have hg:=got0 (cs:=[.int .u8 i0,.int .i64 i1,.int .u64 i2,.int .u64 i3,.string t4,.string t5,.int .i64 i6,.int .i64 i7,.slice s8 n8 m8,.int .i64 i9]) Z9.out rfl
  have hF:=fr_all w.heap.size [.int .u8 i0,.int .i64 i1,.int .u64 i2,.int .u64 i3,.string t4,.string t5,.int .i64 i6,.int .i64 i7,.slice s8 n8 m8,.int .i64 i9] w9 0
  have RS:=hide (R9.out.aside hF (Nat.le_refl _))
  have HXS:Hid (ExR (setAll w.heap.size w9 0 [.int .u8 i0,.int .i64 i1,.int .u64 i2,.int .u64 i3,.string t4,.string t5,.int .i64 i6,.int .i64 i7,.slice s8 n8 m8,.int .i64 i9]) (Bn w (setAll w.heap.size w9 0 [.int .u8 i0,.int .i64 i1,.int .u64 i2,.int .u64 i3,.string t4,.string t5,.int .i64 i6,.int .i64 i7,.slice s8 n8 m8,.int .i64 i9])) (.agg #[.int .u8 i0,.int .i64 i1,.int .u64 i2,.int .u64 i3,.string t4,.string t5,.int .i64 i6,.int .i64 i7,.slice s8 n8 m8,.int .i64 i9]) x):=put_val (cs:=[.int .u8 i0,.int .i64 i1,.int .u64 i2,.int .u64 i3,.string t4,.string t5,.int .i64 i6,.int .i64 i7,.slice s8 n8 m8,.int .i64 i9]) HV.out (Array.getElem?_eq_some_iff.1 Z4.out).1
  have q0:=cellA hg 0;have q1:=cellA hg 1;have q2:=cellA hg 2;have q3:=cellA hg 3;have q4:=cellA hg 4;have q5:=cellA hg 5;have q6:=cellA hg 6;have q7:=cellA hg 7;have q8:=cellA hg 8;have q9:=cellA hg 9
  simp only [setAll] at q0 q1 q2 q3 q4 q5 q6 q7 q8 q9 RS HXS
  exact bodyPost_ret (v:=.agg #[.int .u8 i0,.int .i64 i1,.int .u64 i2,.int .u64 i3,.string t4,.string t5,.int .i64 i6,.int .i64 i7,.slice s8 n8 m8,.int .i64 i9]) (by simp [results,Tryz.results240,go_sem,q0,q1,q2,q3,q4,q5,q6,q7,q8,q9]) rfl (.inl ⟨_,_,_,H1.out,rfl,HXS.out,RS.out⟩)
 ·have R9:=hide (R4.out.from hr)
  have H1:=hide (HE.out _ h1)
  clear hr h1
  go_wp2
  exact ⟨rfl,.inr ⟨_,H1.out,rfl,R9.out⟩⟩
theorem plainE_ok {p q:Nat} {L:List (Wd × Nat)} {dm sm:Value} {bt k0:Nat} {ca ha:Pf Ex} (hL:OkL L) (HC:PfOk 241 #[.pointer (some ⟨p,0,none⟩)] p q L dm sm bt (k0+1) ca ExR) (HH:PfOk 242 #[.pointer (some ⟨p,0,none⟩)] p q L dm sm bt (k0+1) ha ExR) :
  PfOk 240 #[.pointer (some ⟨p,0,none⟩)] p q L dm sm bt k0 (plainP ca ha) ExR:=by
 intro w k h1 h ht
 by_cases hk:kdP L k=3
 ·exact plain_lit h hL hk (fun e he=>by unfold plainP;simp only [hk,if_true,he]) (fun x k1 he=>by unfold plainP;simp only [hk,if_true,he])
 ·cases b0:passedP [118,97,108,105,100] L k with
  | true=>exact plain_valid h hL hk b0 (fun e he=>by unfold plainP;simp only [hk,if_false,b0,if_true,he]) (fun x k1 he=>by unfold plainP;simp only [hk,if_false,b0,if_true,he])
  | false =>
   cases b1:passedP [99,97,115,116] L k with
   | true=>exact plain_cast h hL hk b0 b1 (fun e he=>by unfold plainP;simp only [hk,if_false,b0,Bool.false_eq_true,b1,if_true,he]) (fun x k1 he=>by unfold plainP;simp only [hk,if_false,b0,Bool.false_eq_true,b1,if_true,he]) (fun W r=>HC W (k+1) (by omega) r.here (ht.go r))
   | false =>
    cases b2:passedP [104,97,115,104] L k with
    | true=>exact plain_hash h hL hk b0 b1 b2 (fun e he=>by unfold plainP;simp only [hk,if_false,b0,Bool.false_eq_true,b1,b2,if_true,he]) (fun x k1 he=>by unfold plainP;simp only [hk,if_false,b0,Bool.false_eq_true,b1,b2,if_true,he]) (fun W r=>HH W (k+1) (by omega) r.here (ht.go r))
    | false=>exact plain_fop h hL hk b0 b1 b2 (fun e he=>by unfold plainP;simp only [hk,if_false,b0,Bool.false_eq_true,b1,b2,he]) (fun x k1 he=>by unfold plainP;simp only [hk,if_false,b0,Bool.false_eq_true,b1,b2,he])
def preL {α:Type} (l:List α):Except Nat (List α × Nat)→Except Nat (List α × Nat)
 | .error e=>.error e
 | .ok (xs,k)=>.ok (l ++ xs,k)
theorem preL_nil {α:Type} (r:Except Nat (List α × Nat)):preL [] r=r:=by
 cases r with
 | error e=>rfl
 | ok x=>rfl
theorem preL_cons {α:Type} (l:List α) (x:α) (r:Except Nat (List α × Nat)):preL (l ++ [x]) r=preL l (match r with | .error e=>.error e | .ok (xs,k2)=>.ok (x :: xs,k2)):=by
 cases r with
 | error e=>rfl
 | ok y=>simp [preL]
theorem untilF_end {α:Type} {en:List UInt8} {f:Pf α} {g:Nat} {L:List (Wd × Nat)} {k:Nat} (hg:0 < g) (h:passedP en L k=true):untilF en f g L k=.ok ([],k+1):=by
 obtain ⟨g,rfl⟩:∃ g',g=g'+1:=⟨g - 1,by omega⟩
 rw [untilF,h,if_pos rfl]
theorem untilF_err {α:Type} {en:List UInt8} {f:Pf α} {g:Nat} {L:List (Wd × Nat)} {k e:Nat} (hg:0 < g) (h:passedP en L k=false) (hf:f L k=.error e):untilF en f g L k=.error e:=by
 obtain ⟨g,rfl⟩:∃ g',g=g'+1:=⟨g - 1,by omega⟩
 rw [untilF,h,if_neg (by decide),hf]
theorem untilF_go {α:Type} {en:List UInt8} {f:Pf α} {g:Nat} {L:List (Wd × Nat)} {k k1:Nat} {x:α} {l:List α} (hg:0 < g) (h:passedP en L k=false) (hf:f L k=.ok (x,k1)):preL l (untilF en f g L k)=preL (l ++ [x]) (untilF en f (g - 1) L k1):=by
 obtain ⟨g,rfl⟩:∃ g',g=g'+1:=⟨g - 1,by omega⟩
 rw [untilF,h,if_neg (by decide),hf,preL_cons]
 rfl
theorem nameP_goes:Goes nameP:=fun L k x k1 h=>by
 unfold nameP at h
 split at h
 ·split at h
  ·cases h
  ·split at h
   ·cases h;omega
   ·cases h
 ·cases h
theorem Tryz.infoStr:(Tryz.prog.info? 9).map (fun i=>(i.zero,i.size,i.bytes))=some (some (.string ⟨#[]⟩),1,16):=by kernel_rfl
set_option maxRecDepth 100000 in
set_option maxHeartbeats 2000000 in
theorem until_string {w:World} {p q:Nat} {L:List (Wd × Nat)} {k:Nat} {dm sm:Value} (h:Rp w w p q L k dm sm) (hL:OkL L) (en:List UInt8) (hen:en ≠ []) :
  Calls Tryz.prog 108 #[.pointer (some ⟨p,0,none⟩),.string (txt en),.func (Fn.func 97) #[.pointer (some ⟨p,0,none⟩)] #[]] w fun e w'=>PostP (untilP en nameP L k) (ListR StrV mkOne 1) w p q L dm sm e w':=by
 obtain ⟨i0,hi0,hz0,hz1,hz2⟩:=info_parts Tryz.infoStr
 have hsm:=h.sml
 have hkl:=h.kl
 have HLS:Hid (Lp StrV mkOne 1 9 w w p q L dm sm k 0 (.slice none 0 0) [] []):=Lp.start h
 have HP:=hide (fun W k' (r:Rp w W p q L k' dm sm)=>passed_any r.here hL en hen)
 have HN:=hide (fun W k' (r:Rp w W p q L k' dm sm)=>name_any r.here hL)
 have HSM:=hide hsm
 have HU:Hid (untilP en nameP L k=untilF en nameP (L.length+1 - k) L k):=rfl
 generalize hR:untilP en nameP L k=RR at *
 clear h hL hen hsm hR
 generalize txt en=T at *
 go_enter Tryz.func108,Tryz.ntmps108
 go_wp2
 go_loopg [7] (L.length+1 - k) (fun g v wr=>∃ (k' n:Nat) (l:List (List UInt8)) (css:List (List Value)),L.length+1≤g+k'∧n≤k'∧Hid (RR=preL l (untilF en nameP g L k'))∧Hid (Lp StrV mkOne 1 9 w wr p q L dm sm k' n v l css))
 case atStart=>exact ⟨k,0,[],[],by omega,Nat.zero_le _,by unfold Hid;rw [preL_nil];exact HU.out,HLS.out⟩
 case round =>
  obtain ⟨k',n,l,css,hg,hn,HQ,HL⟩:=hrel
  have HG:=hide hg
  have HNK:=hide hn
  have hkl':=HL.out.rr.kl
  have hg0:0 < gk:=by omega
  have HG0:=hide hg0
  have HPk:=hide (HP.out _ _ HL.out.rr)
  clear hg hn hg0 hkl HLS HU
  cases hpd:passedP en L k' with
  | true =>
   rw [hpd] at HPk
   have HE:Hid (RR=.ok (l,k'+1)):=by unfold Hid;rw [HQ.out,untilF_end HG0.out hpd];simp [preL]
   clear hpd HQ
   go_wp2_with fail
   refine HPk.out.mono ?_
   rintro e w1 ⟨rfl,hr⟩
   simp only [if_true] at hr
   have L1:=hide (HL.out.go strV_ok hr)
   clear hr
   go_wp2
   go_ret
   exact .inl ⟨l,k'+1,_,HE.out,rfl,L1.out.done strV_ok,L1.out.rr⟩
  | false =>
   rw [hpd] at HPk
   have HE1:Hid (∀ e,nameP L k'=.error e→RR=.error e):=fun e he=>by rw [HQ.out,untilF_err HG0.out hpd he];rfl
   have HE2:Hid (∀ x k1,nameP L k'=.ok (x,k1)→RR=preL (l ++ [x]) (untilF en nameP (gk - 1) L k1)∧k' < k1):=fun x k1 he=>⟨by rw [HQ.out,untilF_go HG0.out hpd he],nameP_goes L k' x k1 he⟩
   clear hpd HQ
   go_wp2_with fail
   refine HPk.out.mono ?_
   rintro e w1 ⟨rfl,hr⟩
   simp only [if_false,Bool.false_eq_true] at hr
   have L1:=hide (HL.out.go strV_ok hr)
   clear hr HL
   go_wp2_with fail
   refine (HN.out _ _ L1.out.rr).mono ?_
   rintro e w2 (⟨x,k2,v2,h2,rfl,hv,hr⟩ | ⟨k2,h2,rfl,hr⟩)
   ·obtain rfl:v2=.string (txt x):=hv
    have H2:=hide (HE2.out _ _ h2)
    have R2:=hide hr
    have O2:=hide (L1.out.go strV_ok hr).own
    have Z2:Hid (w.heap.size≤w2.heap.size):=Nat.le_trans L1.out.rr.fr.size hr.fr.size
    have HSx:Hid (StrV w2 (Bn w1 w2) (mkOne [.string (txt x)]) x):=rfl
    clear hr h2
    generalize txt x=X at *
    go_wp2_with (at_builtin;refine wpList_appC rfl _ _ 44 rfl 9 i0 (.string ⟨#[]⟩) 1 16 Tryz.underlying44 hi0 hz0 hz1 hz2 rfl (by decide) (by decide) w.heap.size _ n css.flatten rfl (ownR_below O2.out ((Below.refl _ _).alloc (Nat.le_refl _) _)) w2.heap.size [.string X] rfl rfl (cells_newC _ [.string X] _) (by intro u hu;simp at hu;subst hu;rfl) (by have:=HNK.out;have:=HSM.out;omega) (by have:=Z2.out;simp;omega) ?_;intro v8 w8 O8 D8;have L8:=hide (L1.out.step strV_ok R2.out HSx.out rfl O8 D8);clear O8 D8)
    go_roundg (gk - 1)
    case measure=>have:=HG0.out;omega
    case rel=>exact ⟨k2,n+1,l ++ [x],css ++ [[Value.string X]],by have:=HG.out;have:=H2.out.2;omega,by have:=HNK.out;have:=H2.out.2;omega,H2.out.1,L8.out⟩
   ·have R2:=hide (L1.out.rr.from hr)
    have H2:=hide (HE1.out _ h2)
    clear hr h2
    go_wp2
    exact ⟨rfl,.inr ⟨k2,H2.out,rfl,R2.out⟩⟩
end Go.Proofs.YtabkimknlifdoaaGreatDoor
