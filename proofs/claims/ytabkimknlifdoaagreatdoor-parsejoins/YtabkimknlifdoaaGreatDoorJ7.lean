/- Pieces of the proof: PaC, PaD, PaE, PaF, GkM, GkN, PaG. -/
import Derived.Test.YtabkimknlifdoaaGreatDoorJ6
import Derived.Deep.LoopGhost
import Derived.Test.YtabkimknlifdoaaGreatDoorJ4
import Derived.ArgAppend
namespace Go.Proofs.YtabkimknlifdoaaGreatDoor
open Go.RowKit
structure OkL (L:List (Wd × Nat)):Prop where
 ne:∀ i (h:i+1 < L.length),L[i].1.k ≠ 0∧(L[i].1.k=2→L[i].1.v < 2147483648)
 en:∀ i (h:i < L.length),i+1=L.length→L[i].1=⟨0,[],0,0⟩
 wd:∀ i (h:i < L.length),L[i].1.w≤128
theorem OkL.lt {L:List (Wd × Nat)} (h:OkL L) {k:Nat} {x:Wd × Nat} (hx:L[k]? = some x) (hn:x.1.s ≠ [] ∨ x.1.k ≠ 0):k+1 < L.length:=by
 obtain ⟨hk,e⟩:=List.getElem?_eq_some_iff.1 hx
 rcases Nat.lt_or_ge (k+1) L.length with h1 | h1
 ·exact h1
 ·have:=h.en k hk (by omega)
  rw [e] at this
  rw [this] at hn
  rcases hn with hn | hn <;> exact absurd rfl hn
abbrev Rep (α:Type):=World→(Nat→Prop)→Value→α→Prop
structure RepOk {α:Type} (rep:Rep α):Prop where
 mono:∀ {W:World} {X Y:Nat→Prop} {v:Value} {x:α},rep W X v x→(∀ b,X b→Y b)→rep W Y v x
 frame:∀ {W W':World} {X:Nat→Prop} {v:Value} {x:α},rep W X v x→W.heap.size≤W'.heap.size→(∀ b,X b→b < W.heap.size→W'.heap[b]? = W.heap[b]?)→rep W' X v x
def Bn (W W':World):Nat→Prop:=fun b=>W.heap.size≤b∧b < W'.heap.size
def PostP {α:Type} (r:Except Nat (α × Nat)) (rep:Rep α) (w:World) (p q:Nat) (L:List (Wd × Nat)) (dm sm:Value) (e:Ending) (w':World):Prop :=
 (∃ x k' v,r=.ok (x,k')∧e=.returned v∧rep w' (Bn w w') v x∧Rp w w' p q L k' dm sm) ∨ (∃ k',r=.error k'∧e=.panicked panP∧Rp w w' p q L k' dm sm)
theorem PostP.lift {α:Type} {r:Except Nat (α × Nat)} {rep:Rep α} (hok:RepOk rep) {w W:World} {p q:Nat} {L:List (Wd × Nat)} {k:Nat} {dm sm:Value} (h:Rp w W p q L k dm sm) {e:Ending} {w':World} (hp:PostP r rep W p q L dm sm e w'):PostP r rep w p q L dm sm e w':=by
 rcases hp with ⟨x,k',v,h1,h2,h3,h4⟩ | ⟨k',h1,h2,h3⟩
 ·exact .inl ⟨x,k',v,h1,h2,hok.mono h3 (fun b hb=>⟨Nat.le_trans h.fr.size hb.1,hb.2⟩),h.from h4⟩
 ·exact .inr ⟨k',h1,h2,h.from h3⟩
theorem plain_ok {α:Type} (f:Value→α→Prop):RepOk (fun (_:World) (_:Nat→Prop) v x=>f v x):=⟨fun h _=>h,fun h _ _=>h⟩
def nameP:Pf (List UInt8):=fun L k=>match L[k]? with
 | some x=>if x.1.s ∈ kws then .error k else if x.1.k=1 then .ok (x.1.s,k+1) else .error k
 | none=>.error k
def StrV:Rep (List UInt8):=fun _ _ v l=>v=.string (txt l)
theorem strV_ok:RepOk StrV:=plain_ok fun v l=>v=.string (txt l)
set_option maxRecDepth 100000 in
set_option maxHeartbeats 1000000 in
theorem name_any {w:World} {p q:Nat} {L:List (Wd × Nat)} {k:Nat} {dm sm:Value} (h:Rp w w p q L k dm sm) (hL:OkL L) :
  Calls Tryz.prog 97 #[.pointer (some ⟨p,0,none⟩)] w fun e w'=>PostP (nameP L k) StrV w p q L dm sm e w':=by
 obtain ⟨x,hx,_⟩:=h.word
 have HA:=hide (ahead_any h hx)
 have HK:=hide (isKey_any x.1.s)
 have HM1:=hide pmust_yes
 have HM0:=hide pmust_no
 have HR:=hide h
 have HX:=hide hx
 have hL1:=hL
 clear h hx hL
 by_cases hk:x.1.s ∈ kws
 ·have HP:Hid (nameP L k=.error k):=by unfold Hid nameP;rw [HX.out];simp only;rw [if_pos hk]
  rw [decide_eq_true hk] at HK
  unfold wdV at HA
  obtain ⟨_,fl1,_,_⟩:=fldW (.int .u8 (x.1.k:Int)) (.string (txt x.1.s)) (.int .i64 (x.1.w:Int)) (.int .u64 (wHi x.1.v)) (.int .u64 (wLo x.1.v)) (.int .i64 (x.2:Int))
  generalize txt x.1.s=T at *
  clear hk
  go_enter Tryz.func97,Tryz.ntmps97
  go_wp2_with fail
  refine HA.out.mono ?_
  rintro e w1 ⟨rfl,hb⟩
  have R1:=hide (HR.out.next hb)
  clear hb
  go_wp2_with fail
  refine (HK.out _).mono ?_
  rintro e w2 ⟨rfl,hw⟩
  subst hw
  go_wp2_with fail
  refine (HM0.out _).mono ?_
  rintro e w3 ⟨rfl,hw⟩
  subst hw
  go_wp2
  exact ⟨rfl,.inr ⟨k,HP.out,rfl,R1.out⟩⟩
 ·rw [decide_eq_false hk] at HK
  by_cases h1:x.1.k=1
  ·have HP:Hid (nameP L k=.ok (x.1.s,k+1)):=by unfold Hid nameP;rw [HX.out];simp only;rw [if_neg hk,if_pos h1]
   have HT:=hide (fun W (r:Rp w W p q L k dm sm)=>take_wd r.here HX.out (hL1.lt HX.out (.inr (by rw [h1];decide))))
   unfold wdV at HA HT
   rw [h1] at HA HT
   obtain ⟨_,fl1,_,_⟩:=fldW (.int .u8 1) (.string (txt x.1.s)) (.int .i64 (x.1.w:Int)) (.int .u64 (wHi x.1.v)) (.int .u64 (wLo x.1.v)) (.int .i64 (x.2:Int))
   have HS:Hid (∀ W X,StrV W X (.string (txt x.1.s)) x.1.s):=fun W X=>rfl
   generalize txt x.1.s=T at *
   clear hk
   go_enter Tryz.func97,Tryz.ntmps97
   go_wp2_with fail
   refine HA.out.mono ?_
   rintro e w1 ⟨rfl,hb⟩
   have R1:=hide (HR.out.next hb)
   clear hb
   go_wp2_with fail
   refine (HK.out _).mono ?_
   rintro e w2 ⟨rfl,hw⟩
   subst hw
   go_wp2_with fail
   refine (HM1.out _).mono ?_
   rintro e w3 ⟨rfl,hw⟩
   subst hw
   go_wp2_with fail
   refine (HT.out _ R1.out).mono ?_
   rintro e w4 ⟨rfl,hr⟩
   have R4:=hide (R1.out.from hr)
   clear hr
   go_wp2
   go_ret
   exact .inl ⟨_,_,_,HP.out,rfl,HS.out _ _,R4.out⟩
  ·have HP:Hid (nameP L k=.error k):=by unfold Hid nameP;rw [HX.out];simp only;rw [if_neg hk,if_neg h1]
   have HT:=hide (fun W (r:Rp w W p q L k dm sm)=>take_not r.here HX.out 1 h1)
   unfold wdV at HA
   obtain ⟨_,fl1,_,_⟩:=fldW (.int .u8 (x.1.k:Int)) (.string (txt x.1.s)) (.int .i64 (x.1.w:Int)) (.int .u64 (wHi x.1.v)) (.int .u64 (wLo x.1.v)) (.int .i64 (x.2:Int))
   generalize txt x.1.s=T at *
   clear hk h1
   go_enter Tryz.func97,Tryz.ntmps97
   go_wp2_with fail
   refine HA.out.mono ?_
   rintro e w1 ⟨rfl,hb⟩
   have R1:=hide (HR.out.next hb)
   clear hb
   go_wp2_with fail
   refine (HK.out _).mono ?_
   rintro e w2 ⟨rfl,hw⟩
   subst hw
   go_wp2_with fail
   refine (HM1.out _).mono ?_
   rintro e w3 ⟨rfl,hw⟩
   subst hw
   go_wp2_with fail
   refine (HT.out _ R1.out).mono ?_
   rintro e w4 ⟨rfl,hr⟩
   have R4:=hide (R1.out.from hr)
   clear hr
   go_wp2
   exact ⟨rfl,.inr ⟨k,HP.out,rfl,R4.out⟩⟩
def passedP (l:List UInt8) (L:List (Wd × Nat)) (k:Nat):Bool:=match L[k]? with
 | some x=>decide (x.1.s=l)
 | none=>false
theorem passed_any {w:World} {p q:Nat} {L:List (Wd × Nat)} {k:Nat} {dm sm:Value} (h:Rp w w p q L k dm sm) (hL:OkL L) (l:List UInt8) (hl:l ≠ []) :
  Calls Tryz.prog 113 #[.pointer (some ⟨p,0,none⟩),.string (txt l)] w fun e w'=>e=.returned (.bool (passedP l L k))∧Rp w w' p q L (if passedP l L k then k+1 else k) dm sm:=by
 obtain ⟨x,hx,_⟩:=h.word
 by_cases e:x.1.s=l
 ·have hp:passedP l L k=true:=by unfold passedP;rw [hx];exact decide_eq_true e
  rw [hp,if_pos rfl,← e]
  exact passed_yes h hx (hL.lt hx (.inl (by rw [e];exact hl)))
 ·have hp:passedP l L k=false:=by unfold passedP;rw [hx];exact decide_eq_false e
  rw [hp,if_neg (by decide)]
  exact passed_no h hx l e
def passP:List (List UInt8)→Pf Unit
 | [],_,k=>.ok ((),k)
 | l :: ls,L,k=>if passedP l L k then passP ls L (k+1) else .error k
def NoV:Rep Unit:=fun _ _ v _=>v=.tuple #[]
theorem noV_ok:RepOk NoV:=plain_ok fun v _=>v=.tuple #[]
set_option maxRecDepth 100000 in
set_option maxHeartbeats 2000000 in
theorem pass_any {w:World} {p q:Nat} {L:List (Wd × Nat)} {k:Nat} {dm sm:Value} (h:Rp w w p q L k dm sm) (hL:OkL L) (ts:List (List UInt8)) (hts:∀ l ∈ ts,l ≠ []) (hn:ts.length≤1000) (r cap:Nat) (hr:∀ i (hi:i < ts.length),w.cell? ⟨r,i,none⟩=some (.string (txt ts[i]))) (hrp:r ≠ p) :
  Calls Tryz.prog 68 #[.pointer (some ⟨p,0,none⟩),.slice (some ⟨r,0,none⟩) ts.length cap] w fun e w'=>PostP (passP ts L k) NoV w p q L dm sm e w':=by
 have HR:=hide h
 have HRR:=hide hr
 have HTS:=hide hts
 have HP:Hid (∀ W k' l,l ≠ []→Rp w W p q L k' dm sm→_):=fun W k' l hl r=>passed_any r.here hL l hl
 have HM1:=hide pmust_yes
 have HM0:=hide pmust_no
 clear h hr hts
 obtain ⟨N,hN⟩:∃ N,N=ts.length:=⟨_,rfl⟩
 rw [← hN] at hn ⊢
 have HN:=hide hN.symm
 clear hN
 go_enter Tryz.func68,Tryz.ntmps68
 go_wp2
 go_loopg [8] N (fun gk i wr=>∃ (j k':Nat),j+gk=N∧i=.int .i64 (j:Int)∧Hid (passP ts L k=passP (ts.drop j) L k')∧Rp w wr p q L k' dm sm)
 case atStart=>exact ⟨0,k,by omega,rfl,by unfold Hid;rw [List.drop_zero],HR.out⟩
 case round =>
  obtain ⟨j,k',hj,rfl,HQ,hR⟩:=hrel
  have R1:=hide hR
  have HJ:=hide hj
  clear hR hj HR
  by_cases hlt:j < N
  ·have hjt:j < ts.length:=by have:=HN.out;omega
   have hjI:(j:Int) < (N:Int):=by omega
   have dj:decide (j < N)=true:=by simp;omega
   have hc:=R1.out.fr.cell (HRR.out j hjt) hrp
   have HD:Hid (ts.drop j=ts[j] :: ts.drop (j+1)):=List.drop_eq_getElem_cons hjt
   have HPj:=hide (HP.out _ k' ts[j] (HTS.out _ (List.getElem_mem hjt)) R1.out)
   generalize hlj:ts[j]=lj at *
   clear hlj
   generalize txt lj=T at *
   cases hpd:passedP lj L k' with
   | true =>
    rw [hpd] at HPj
    have HQ2:Hid (passP ts L k=passP (ts.drop (j+1)) L (k'+1)):=by unfold Hid;rw [HQ.out,HD.out,passP,hpd,if_pos rfl]
    clear hpd HD HQ
    go_wp2_with fail
    refine HPj.out.mono ?_
    rintro e w1 ⟨rfl,hr1⟩
    simp only [if_true] at hr1
    have R2:=hide (R1.out.from hr1)
    clear hr1
    go_wp2_with fail
    refine (HM1.out _).mono ?_
    rintro e w2 ⟨rfl,hw⟩
    subst hw
    go_wp2
    go_roundg (gk - 1)
    case measure=>have:=HJ.out;omega
    case rel=>exact ⟨j+1,k'+1,by have:=HJ.out;omega,by go_num,HQ2,R2.out⟩
   | false =>
    rw [hpd] at HPj
    have HQ2:Hid (passP ts L k=.error k'):=by unfold Hid;rw [HQ.out,HD.out,passP,hpd,if_neg (by decide)]
    clear hpd HD HQ
    go_wp2_with fail
    refine HPj.out.mono ?_
    rintro e w1 ⟨rfl,hr1⟩
    simp only [if_false,Bool.false_eq_true] at hr1
    have R2:=hide (R1.out.from hr1)
    clear hr1
    go_wp2_with fail
    refine (HM0.out _).mono ?_
    rintro e w2 ⟨rfl,hw⟩
    subst hw
    go_wp2
    exact ⟨rfl,.inr ⟨k',HQ2.out,rfl,R2.out⟩⟩
  ·have dj:decide (j < N)=false:=by simp;omega
   have hjI:¬ ((j:Int) < (N:Int)):=by omega
   have HQ2:Hid (passP ts L k=.ok ((),k')):=by unfold Hid;rw [HQ.out,List.drop_eq_nil_of_le (by have:=HN.out;omega)];rfl
   clear HQ
   go_wp2
   go_end0
   exact .inl ⟨(),k',_,HQ2.out,rfl,rfl,R1.out⟩
def Pf.bind {α β:Type} (a:Pf α) (f:α→Pf β):Pf β:=fun L k=>match a L k with
 | .error e=>.error e
 | .ok (x,k1)=>f x L k1
def Pf.ret {α:Type} (x:α):Pf α:=fun _ k=>.ok (x,k)
def wholeP:Pf Nat:=fun L k=>match L[k]? with
 | some x=>if x.1.k=2 then .ok (x.1.v,k+1) else .error k
 | none=>.error k
def IntV:Rep Nat:=fun _ _ v n=>v=.int .i64 (n:Int)
theorem intV_ok:RepOk IntV:=plain_ok fun v (n:Nat)=>v=.int .i64 (n:Int)
theorem whole_reads {w:World} {p q:Nat} {L:List (Wd × Nat)} {k:Nat} {dm sm:Value} (h:Rp w w p q L k dm sm) (hL:OkL L) :
  Calls Tryz.prog 99 #[.pointer (some ⟨p,0,none⟩)] w fun e w'=>PostP (wholeP L k) IntV w p q L dm sm e w':=by
 obtain ⟨x,hx,_⟩:=h.word
 by_cases h2:x.1.k=2
 ·have hlt:=hL.lt hx (.inr (by rw [h2];decide))
  have hv:x.1.v < 2147483648:=by
   obtain ⟨hk,e⟩:=List.getElem?_eq_some_iff.1 hx
   have:=(hL.ne k hlt).2
   rw [e] at this
   exact this h2
  refine (whole_any h hx hlt h2 hv).mono fun e w' ⟨h1,h3⟩=>.inl ⟨x.1.v,k+1,_,?_,h1,rfl,h3⟩
  unfold wholeP;rw [hx];simp only;rw [if_pos h2]
 ·refine (whole_not h hx h2).mono fun e w' ⟨h1,h3⟩=>.inr ⟨k,?_,h1,h3⟩
  unfold wholeP;rw [hx];simp only;rw [if_neg h2]
def litP:Pf (Nat × Nat):=fun L k=>match L[k]? with
 | some x=>if x.1.k=3 then .ok ((x.1.w,x.1.v),k+1) else .error k
 | none=>.error k
def LitV:Rep (Nat × Nat):=fun _ _ v x=>v=.agg #[.int .i64 (x.1:Int),.int .u64 (wHi x.2),.int .u64 (wLo x.2)]
theorem litV_ok:RepOk LitV:=plain_ok fun v (x:Nat × Nat)=>v=.agg #[.int .i64 (x.1:Int),.int .u64 (wHi x.2),.int .u64 (wLo x.2)]
theorem lit_reads {w:World} {p q:Nat} {L:List (Wd × Nat)} {k:Nat} {dm sm:Value} (h:Rp w w p q L k dm sm) (hL:OkL L) :
  Calls Tryz.prog 110 #[.pointer (some ⟨p,0,none⟩)] w fun e w'=>PostP (litP L k) LitV w p q L dm sm e w':=by
 obtain ⟨x,hx,_⟩:=h.word
 by_cases h2:x.1.k=3
 ·have hlt:=hL.lt hx (.inr (by rw [h2];decide))
  refine (lit_any h hx hlt h2).mono fun e w' ⟨h1,h3⟩=>.inl ⟨(x.1.w,x.1.v),k+1,_,?_,h1,rfl,h3⟩
  unfold litP;rw [hx];simp only;rw [if_pos h2]
 ·refine (lit_not h hx h2).mono fun e w' ⟨h1,h3⟩=>.inr ⟨k,?_,h1,h3⟩
  unfold litP;rw [hx];simp only;rw [if_neg h2]
theorem pass_one {w W:World} {p q:Nat} {L:List (Wd × Nat)} {k:Nat} {dm sm:Value} (h:Rp w W p q L k dm sm) (hL:OkL L) (l:List UInt8) (hl:l ≠ []) (T:ByteArray) (hT:T=txt l) (t:TypeId) (b:Nat) (hb:b=W.heap.size) :
  Calls Tryz.prog 68 #[.pointer (some ⟨p,0,none⟩),.slice (some ⟨b,0,none⟩) 1 1] (W.alloc (.cells #[.string T] t)) fun e w'=>PostP (passP [l] L k) NoV w p q L dm sm e w':=by
 subst hT hb
 have h1:Rp w (W.alloc (.cells #[.string (txt l)] t)) p q L k dm sm:=h.next ((Below.refl _ _).alloc (Nat.le_refl _) _)
 have hp:p < W.heap.size:=Nat.lt_of_lt_of_le h.pl h.fr.size
 refine (pass_any h1.here hL [l] (fun x hx=>by simp at hx;rw [hx];exact hl) (by simp) W.heap.size 1 (fun i hi=>?_) (by omega)).mono fun e w' hp2=>?_
 ·have:i=0:=by simp at hi;omega
  subst this
  rw [World.cell?_alloc_new];rfl
 ·exact PostP.lift noV_ok h1 hp2
def closedP {α:Type} (a:Pf α):Pf α:=a.bind fun x=>(passP [[59]]).bind fun _=>Pf.ret x
set_option maxRecDepth 100000 in
set_option maxHeartbeats 1000000 in
theorem closed_int {w:World} {p q:Nat} {L:List (Wd × Nat)} {k:Nat} {dm sm:Value} (h:Rp w w p q L k dm sm) (hL:OkL L) :
  Calls Tryz.prog 100 #[.pointer (some ⟨p,0,none⟩),.func (Fn.func 99) #[.pointer (some ⟨p,0,none⟩)] #[]] w fun e w'=>PostP (closedP wholeP L k) IntV w p q L dm sm e w':=by
 have HW:=hide (whole_reads h hL)
 have HP:=hide (fun W k' (r:Rp w W p q L k' dm sm) b hb=>pass_one r hL [59] (by decide) ⟨#[59]⟩ rfl 9 b hb)
 have HC:Hid (∀ k1,wholeP L k=.error k1→closedP wholeP L k=.error k1):=fun k1 e=>by unfold closedP Pf.bind;rw [e]
 have HC1:Hid (∀ x k1 k2,wholeP L k=.ok (x,k1)→passP [[59]] L k1=.error k2→closedP wholeP L k=.error k2):=fun x k1 k2 e e2=>by unfold closedP Pf.bind;rw [e];simp only;rw [e2]
 have HC2:Hid (∀ x k1 k2,wholeP L k=.ok (x,k1)→passP [[59]] L k1=.ok ((),k2)→closedP wholeP L k=.ok (x,k2)):=fun x k1 k2 e e2=>by unfold closedP Pf.bind;rw [e];simp only;rw [e2];rfl
 clear h
 go_enter Tryz.func100,Tryz.ntmps100
 go_wp2_with fail
 refine HW.out.mono ?_
 rintro e w1 (⟨x,k1,v,h1,rfl,hv,hr⟩ | ⟨k1,h1,rfl,hr⟩)
 ·obtain rfl:v=.int .i64 (x:Int):=hv
  have R1:=hide hr
  have H1:=hide h1
  clear hr h1
  go_wp2_with fail
  refine (HP.out _ _ R1.out _ rfl).mono ?_
  rintro e w2 (⟨y,k2,v,h2,rfl,hv,hr⟩ | ⟨k2,h2,rfl,hr⟩)
  ·obtain rfl:v=.tuple #[]:=hv
   have R2:=hide hr
   have H2:=hide (HC2.out _ _ _ H1.out h2)
   clear hr h2
   go_wp2
   go_ret
   exact .inl ⟨x,k2,_,H2.out,rfl,rfl,R2.out⟩
  ·have R2:=hide hr
   have H2:=hide (HC1.out _ _ _ H1.out h2)
   clear hr h2
   go_wp2
   exact ⟨rfl,.inr ⟨k2,H2.out,rfl,R2.out⟩⟩
 ·have R1:=hide hr
  have H1:=hide (HC.out _ h1)
  clear hr h1
  go_wp2
  exact ⟨rfl,.inr ⟨k1,H1.out,rfl,R1.out⟩⟩
def metaL:List UInt8:=[109,101,116,97]
def ownerP:Pf (List UInt8):=fun L k=>if passedP metaL L k then .ok (metaL,k+1) else nameP L k
set_option maxRecDepth 100000 in
theorem owner_any {w:World} {p q:Nat} {L:List (Wd × Nat)} {k:Nat} {dm sm:Value} (h:Rp w w p q L k dm sm) (hL:OkL L) :
  Calls Tryz.prog 169 #[.pointer (some ⟨p,0,none⟩)] w fun e w'=>PostP (ownerP L k) StrV w p q L dm sm e w':=by
 have HP:=hide (passed_any h hL metaL (by decide))
 have HT:Hid (txt metaL=⟨#[109,101,116,97]⟩):=rfl
 rw [HT.out] at HP
 cases hp:passedP metaL L k with
 | true =>
  rw [hp] at HP
  have HO:Hid (ownerP L k=.ok (metaL,k+1)):=by unfold Hid ownerP;rw [hp,if_pos rfl]
  clear h hp
  go_enter Tryz.func169,Tryz.ntmps169
  go_wp2_with fail
  refine HP.out.mono ?_
  rintro e w1 ⟨rfl,hr⟩
  simp only [if_true] at hr
  have R1:=hide hr
  clear hr
  go_wp2
  go_ret
  exact .inl ⟨metaL,k+1,_,HO.out,rfl,rfl,R1.out⟩
 | false =>
  rw [hp] at HP
  have HO:Hid (ownerP L k=nameP L k):=by unfold Hid ownerP;rw [hp,if_neg (by decide)]
  have HN:=hide (fun W (r:Rp w W p q L k dm sm)=>name_any r.here hL)
  clear h hp
  go_enter Tryz.func169,Tryz.ntmps169
  go_wp2_with fail
  refine HP.out.mono ?_
  rintro e w1 ⟨rfl,hr⟩
  simp only [if_false,Bool.false_eq_true] at hr
  have R1:=hide hr
  clear hr
  go_wp2_with fail
  refine (HN.out _ R1.out).mono ?_
  rintro e w2 (⟨x,k1,v,h1,rfl,hv,hr⟩ | ⟨k1,h1,rfl,hr⟩)
  ·obtain rfl:v=.string (txt x):=hv
   have R2:=hide (R1.out.from hr)
   have H1:=hide (HO.out.trans h1)
   clear hr h1
   go_wp2
   go_ret
   exact .inl ⟨x,k1,_,H1.out,rfl,rfl,R2.out⟩
  ·have R2:=hide (R1.out.from hr)
   have H1:=hide (HO.out.trans h1)
   clear hr h1
   go_wp2
   exact ⟨rfl,.inr ⟨k1,H1.out,rfl,R2.out⟩⟩
def fieldOfP:Pf (List UInt8):=(passP [[46]]).bind fun _=>nameP.bind Pf.ret
set_option maxRecDepth 100000 in
set_option maxHeartbeats 1000000 in
theorem fieldOf_any {w:World} {p q:Nat} {L:List (Wd × Nat)} {k:Nat} {dm sm:Value} (h:Rp w w p q L k dm sm) (hL:OkL L) :
  Calls Tryz.prog 170 #[.pointer (some ⟨p,0,none⟩)] w fun e w'=>PostP (fieldOfP L k) StrV w p q L dm sm e w':=by
 have HS:=hide (pass_one h hL [46] (by decide) ⟨#[46]⟩ rfl 9)
 have HN:=hide (fun W k' (r:Rp w W p q L k' dm sm)=>name_any r.here hL)
 have HE1:Hid (∀ {k1},passP [[46]] L k=.error k1→fieldOfP L k=.error k1):=fun {k1} e1=>by unfold fieldOfP;simp only [Pf.bind,e1]
 have HE2:Hid (∀ {x1 k1 k2},passP [[46]] L k=.ok (x1,k1)→nameP L k1=.error k2→fieldOfP L k=.error k2):=fun {x1} {k1} {k2} e1 e2=>by unfold fieldOfP;simp only [Pf.bind,e1,e2]
 have HO:Hid (∀ {x1 k1 x2 k2},passP [[46]] L k=.ok (x1,k1)→nameP L k1=.ok (x2,k2)→fieldOfP L k=.ok (x2,k2)):=fun {x1} {k1} {x2} {k2} e1 e2=>by unfold fieldOfP;simp only [Pf.bind,Pf.ret,e1,e2]
 clear h
 go_enter Tryz.func170,Tryz.ntmps170
 go_wp2_with fail
 refine (HS.out _ rfl).mono ?_
 rintro e w1 (⟨x1,k1,v,h1,rfl,hv,hr⟩ | ⟨k1,h1,rfl,hr⟩)
 ·obtain rfl:v=.tuple #[]:=hv
  have R1:=hide hr
  have H1:=hide h1
  clear hr h1
  go_wp2_with fail
  refine (HN.out _ _ R1.out).mono ?_
  rintro e w2 (⟨x2,k2,v,h2,rfl,hv,hr⟩ | ⟨k2,h2,rfl,hr⟩)
  ·obtain rfl:v=.string (txt x2):=hv
   have R2:=hide (R1.out.from hr)
   have H2:=hide h2
   clear hr h2
   go_wp2
   go_ret
   exact .inl ⟨_,_,_,HO.out H1.out H2.out,rfl,rfl,R2.out⟩
  ·have R2:=hide (R1.out.from hr)
   have H2:=hide (HE2.out H1.out h2)
   clear hr h2
   go_wp2
   exact ⟨rfl,.inr ⟨_,H2.out,rfl,R2.out⟩⟩
 ·have R1:=hide hr
  have H1:=hide (HE1.out h1)
  clear hr h1
  go_wp2
  exact ⟨rfl,.inr ⟨_,H1.out,rfl,R1.out⟩⟩
set_option maxRecDepth 100000 in
set_option maxHeartbeats 1000000 in
theorem closed_string {w:World} {p q:Nat} {L:List (Wd × Nat)} {k:Nat} {dm sm:Value} (h:Rp w w p q L k dm sm) (hL:OkL L) :
  Calls Tryz.prog 155 #[.pointer (some ⟨p,0,none⟩),.func (Fn.func 97) #[.pointer (some ⟨p,0,none⟩)] #[]] w fun e w'=>PostP (closedP nameP L k) StrV w p q L dm sm e w':=by
 have HN:=hide (name_any h hL)
 have HS:=hide (fun W k' (r:Rp w W p q L k' dm sm) b hb=>pass_one r hL [59] (by decide) ⟨#[59]⟩ rfl 9 b hb)
 have HE1:Hid (∀ {k1},nameP L k=.error k1→closedP nameP L k=.error k1):=fun {k1} e1=>by unfold closedP;simp only [Pf.bind,e1]
 have HE2:Hid (∀ {x1 k1 k2},nameP L k=.ok (x1,k1)→passP [[59]] L k1=.error k2→closedP nameP L k=.error k2):=fun {x1} {k1} {k2} e1 e2=>by unfold closedP;simp only [Pf.bind,e1,e2]
 have HO:Hid (∀ {x1 k1 x2 k2},nameP L k=.ok (x1,k1)→passP [[59]] L k1=.ok (x2,k2)→closedP nameP L k=.ok (x1,k2)):=fun {x1} {k1} {x2} {k2} e1 e2=>by unfold closedP;simp only [Pf.bind,Pf.ret,e1,e2]
 clear h
 go_enter Tryz.func155,Tryz.ntmps155
 go_wp2_with fail
 refine (HN.out).mono ?_
 rintro e w1 (⟨x1,k1,v,h1,rfl,hv,hr⟩ | ⟨k1,h1,rfl,hr⟩)
 ·obtain rfl:v=.string (txt x1):=hv
  have R1:=hide hr
  have H1:=hide h1
  clear hr h1
  go_wp2_with fail
  refine (HS.out _ _ R1.out _ rfl).mono ?_
  rintro e w2 (⟨x2,k2,v,h2,rfl,hv,hr⟩ | ⟨k2,h2,rfl,hr⟩)
  ·obtain rfl:v=.tuple #[]:=hv
   have R2:=hide hr
   have H2:=hide h2
   clear hr h2
   go_wp2
   go_ret
   exact .inl ⟨_,_,_,HO.out H1.out H2.out,rfl,rfl,R2.out⟩
  ·have R2:=hide hr
   have H2:=hide (HE2.out H1.out h2)
   clear hr h2
   go_wp2
   exact ⟨rfl,.inr ⟨_,H2.out,rfl,R2.out⟩⟩
 ·have R1:=hide hr
  have H1:=hide (HE1.out h1)
  clear hr h1
  go_wp2
  exact ⟨rfl,.inr ⟨_,H1.out,rfl,R1.out⟩⟩
def setAll (b:Nat):World→Nat→List Value→World
 | W,_,[]=>W
 | W,o,x :: xs=>setAll b (W.setCell ⟨b,o,none⟩ x) (o+1) xs
theorem fr_all (b:Nat):∀ (cs:List Value) (W:World) (o:Nat),Fr (·=b) W (setAll b W o cs)
 | [],W,_=>Fr.refl _ W
 | x :: xs,W,o=>((Fr.refl (·=b) W).set ⟨b,o,none⟩ x rfl).trans (fr_all b xs _ _) (fun _ _ e=>e)
theorem got_all (b:Nat) (t:TypeId):∀ (cs:List Value) (W:World) (o:Nat) (ys:Array Value),W.heap[b]? = some (.cells ys t (0,0))→ys.size=o+cs.length→(setAll b W o cs).heap[b]? = some (.cells (ys.toList.take o ++ cs).toArray t (0,0))
 | [],W,o,ys,h,hs=>by
  have e:(ys.toList.take o ++ ([]:List Value)).toArray=ys:=by rw [List.append_nil,List.take_of_length_le (by simp at hs;simp;omega)]
  rw [e];exact h
 | x :: xs,W,o,ys,h,hs=>by
  have h1:=heap_setCell_same (k:=o) h x
  have:=got_all b t xs (W.setCell ⟨b,o,none⟩ x) (o+1) (ys.setIfInBounds o x) h1 (by simp at hs ⊢;omega)
  rw [setAll,this]
  have ho:o < ys.toList.length:=by simp at hs ⊢;omega
  rw [Array.toList_setIfInBounds,List.take_set,List.take_succ_eq_append_getElem ho,List.set_append_right _ _ (by simp;omega)]
  have e:o - (List.take o ys.toList).length=0:=by rw [List.length_take];omega
  rw [e,List.set_cons_zero,List.append_assoc]
  rfl
theorem got0 {b:Nat} {t:TypeId} {cs:List Value} {W:World} {ys:Array Value} (h:W.heap[b]? = some (.cells ys t (0,0))) (hs:ys.size=cs.length):(setAll b W 0 cs).heap[b]? = some (.cells cs.toArray t (0,0)):=by
 have:=got_all b t cs W 0 ys h (by omega)
 rwa [List.take_zero,List.nil_append] at this
theorem cellA {W:World} {b:Nat} {cs:Array Value} {t:TypeId} (h:W.heap[b]? = some (.cells cs t (0,0))) (i:Nat):W.cell? ⟨b,i,none⟩=cs[i]?:=by unfold World.cell?;simp only [h];rfl
theorem softA {W:World} {b:Nat} {cs:Array Value} {t:TypeId} (h:W.heap[b]? = some (.cells cs t (0,0))) (i:Nat):W.frozen? ⟨b,i,none⟩=false:=by unfold World.frozen?;simp only [h];simp
theorem Rp.keeps {w W W':World} {p q:Nat} {L:List (Wd × Nat)} {k k':Nat} {dm sm:Value} {b:Nat} {o:Obj} (h:Rp w W p q L k dm sm) (h':Rp W W' p q L k' dm sm) (hb:W.heap[b]? = some o) (hw:w.heap.size≤b):W'.heap[b]? = some o :=
 (h'.fr.block b (Array.getElem?_eq_some_iff.1 hb).1 (fun e=>by have:b=p:=e;have:=h.pl;omega)).trans hb
def fieldP:Pf (List UInt8 × Nat):=nameP.bind fun n=>wholeP.bind fun w=>Pf.ret (n,w)
def FieldV:Rep (List UInt8 × Nat):=fun _ _ v x=>v=.agg #[.string (txt x.1),.int .i64 (x.2:Int)]
theorem fieldV_ok:RepOk FieldV:=plain_ok fun v (x:List UInt8 × Nat)=>v=.agg #[.string (txt x.1),.int .i64 (x.2:Int)]
set_option maxRecDepth 100000 in
set_option maxHeartbeats 1000000 in
theorem field_any {w:World} {p q:Nat} {L:List (Wd × Nat)} {k:Nat} {dm sm:Value} (h:Rp w w p q L k dm sm) (hL:OkL L) :
  Calls Tryz.prog 104 #[.pointer (some ⟨p,0,none⟩)] w fun e w'=>PostP (fieldP L k) FieldV w p q L dm sm e w':=by
 have R0:=hide (h.next ((Below.refl _ w).alloc (Nat.le_refl _) (.cells #[.string ⟨#[]⟩,.int .i64 0] 137)))
 have Z0:=hide (heap_alloc_new w (.cells #[.string ⟨#[]⟩,.int .i64 0] 137))
 have HN:=hide (fun W k' (r:Rp w W p q L k' dm sm)=>name_any r.here hL)
 have HW:=hide (fun W k' (r:Rp w W p q L k' dm sm)=>whole_reads r.here hL)
 have HE1:Hid (∀ {k1},nameP L k=.error k1→fieldP L k=.error k1):=fun {k1} e1=>by unfold fieldP;simp only [Pf.bind,e1]
 have HE2:Hid (∀ {x1 k1 k2},nameP L k=.ok (x1,k1)→wholeP L k1=.error k2→fieldP L k=.error k2):=fun {x1} {k1} {k2} e1 e2=>by unfold fieldP;simp only [Pf.bind,e1,e2]
 have HO:Hid (∀ {x1 k1 x2 k2},nameP L k=.ok (x1,k1)→wholeP L k1=.ok (x2,k2)→fieldP L k=.ok ((x1,x2),k2)):=fun {x1} {k1} {x2} {k2} e1 e2=>by unfold fieldP;simp only [Pf.bind,Pf.ret,e1,e2]
 clear h
 go_enter Tryz.func104,Tryz.ntmps104
 go_wp2_with fail
 refine (HN.out _ _ R0.out).mono ?_
 rintro e w1 (⟨x1,k1,v,h1,rfl,hv,hr⟩ | ⟨k1,h1,rfl,hr⟩)
 ·obtain rfl:v=.string (txt x1):=hv
  have Z1:=hide (R0.out.keeps hr Z0.out (Nat.le_refl _))
  have R1:=hide (R0.out.from hr)
  have H1:=hide h1
  have HFT:Hid (∀ W X (y:Nat),FieldV W X (.agg #[.string (txt x1),.int .i64 (y:Int)]) (x1,y)):=fun _ _ _=>rfl
  clear hr h1
  generalize txt x1=T at *
  go_wp2_with fail
  refine (HW.out _ _ R1.out).mono ?_
  rintro e w2 (⟨x2,k2,v,h2,rfl,hv,hr⟩ | ⟨k2,h2,rfl,hr⟩)
  ·obtain rfl:v=.int .i64 (x2:Int):=hv
   have Z2:=hide (R1.out.keeps hr Z1.out (Nat.le_refl _))
   have R2:=hide (R1.out.from hr)
   have H2:=hide h2
   have HFT2:=hide (fun W X=>HFT.out W X x2)
   clear hr h2
   generalize (x2:Int)=N at *
   have c0:=cellA Z2.out 0;have c1:=cellA Z2.out 1
   have f0:=softA Z2.out 0;have f1:=softA Z2.out 1
   go_wp2
   have hg:=got0 (cs:=[.string T,.int .i64 N]) Z2.out rfl
   have RS:=hide (R2.out.aside (fr_all w.heap.size [.string T,.int .i64 N] w2 0) (Nat.le_refl _))
   have q0:=cellA hg 0;have q1:=cellA hg 1
   simp only [setAll] at q0 q1 RS
   exact bodyPost_ret (v:=.agg #[.string T,.int .i64 N]) (by simp [results,Tryz.results104,go_sem,q0,q1]) rfl (.inl ⟨_,_,_,HO.out H1.out H2.out,rfl,HFT2.out _ _,RS.out⟩)
  ·have R2:=hide (R1.out.from hr)
   have H2:=hide (HE2.out H1.out h2)
   clear hr h2
   go_wp2
   exact ⟨rfl,.inr ⟨_,H2.out,rfl,R2.out⟩⟩
 ·have R1:=hide (R0.out.from hr)
  have H1:=hide (HE1.out h1)
  clear hr h1
  go_wp2
  exact ⟨rfl,.inr ⟨_,H1.out,rfl,R1.out⟩⟩
theorem ownR_fr {E:Nat→Prop} {W W':World} {B e size n:Nat} {v:Value} {xs:List Value} (h:W.ownsRow B e size v n xs) (hf:Fr E W W') (hn:∀ b,v.ownBlock=some b→¬ E b):W'.ownsRow B e size v n xs:=by
 refine ⟨h.1,?_⟩
 rcases h.2 with h0 | ⟨gr,cap,cur,rfl,hg,hcur,rest⟩
 ·exact .inl h0
 ·exact .inr ⟨gr,cap,cur,rfl,hg,(hf.block _ (Array.getElem?_eq_some_iff.1 hcur).1 (hn gr rfl)).trans hcur,rest⟩
theorem ownR_lower {W:World} {B B' e size n:Nat} {v:Value} {xs:List Value} (h:W.ownsRow B e size v n xs) (hb:B'≤B):W.ownsRow B' e size v n xs:=by
 refine ⟨h.1,?_⟩
 rcases h.2 with h0 | ⟨gr,cap,cur,e,hg,rest⟩
 ·exact .inl h0
 ·exact .inr ⟨gr,cap,cur,e,Nat.le_trans hb hg,rest⟩
theorem ownR_below {B et c n:Nat} {W W':World} {v:Value} {xs:List Value} (h:W.ownsRow B et c v n xs) (hb:Below W.heap.size W W'):W'.ownsRow B et c v n xs:=ownR_fr h (E:=fun _=>False) (Fr.ofBelow hb) (fun _ _ e=>e)
theorem wpList_appC {P:Program} {w:World} {ops:Array Oper} {rest:List Oper} {o:Oper} {a:Act} {Q:Exit→Act→World→Prop} (hgd:o.guard=none) (s x:Operand) (t:TypeId) (ho:o.op=.call { callee:=.builtin .append,args:=#[s,x],argTypes:=#[t,t] })
  (et:TypeId) (i0:TypeInfo) (z:Value) (c bytes:Nat) (hu:P.underlying t=some (.slice et)) (hi0:P.info? et=some i0) (hz0:i0.zero=some z) (hz1:i0.size=c) (hz2:i0.bytes=bytes) (hz3:z.cells.size=c) (hc0:0 < c) (hby:bytes≤100000)
  (B:Nat) (v:Value) (n:Nat) (xs:List Value) (hs:a.eval s=v) (hown:w.ownsRow B et c v n xs) (p:Nat) (ys:List Value) (hx:a.eval x=.slice (some ⟨p,0,none⟩) 1 1) (hyl:ys.length=c) (hr:∀ j u,ys[j]? = some u→w.cell? ((⟨p,0,none⟩:Addr).add j)=some u) (hone:∀ u ∈ ys,u.oneCell'=true)
  (hl:n≤1000000000) (hB:B≤w.heap.size)
  (h:∀ v' w',w'.ownsRow B et c v' (n+1) (xs ++ ys)→(v'.ownBlock=v.ownBlock∧w.grownBy w' v.ownBlock) ∨ (w.grownBy w' none∧∀ b,v'.ownBlock=some b→w.heap.size≤b)→wpList P ops Q rest (a.put o.dst v') w') :
  wpList P ops Q (o :: rest) a w:=by
 have hbb:(n+1) * bytes≤140737488355328:=by
  have:(n+1) * bytes≤(1000000000+1) * 100000:=Nat.mul_le_mul (by omega) hby
  omega
 have hyl1:ys.length=1 * c:=by omega
 have hown0:=hown
 rcases hown.2 with ⟨rfl,hn⟩ | ⟨g,cap,cur,rfl,hg,hcur,h1,h2,h3,h4⟩
 ·subst hn
  have hx0:xs=[]:=List.length_eq_zero_iff.1 (by have:=hown.1;omega)
  subst hx0
  refine wpList_append_grows w hgd s x t ho et i0 z c bytes hu hi0 hz0 hz1 hz2 hz3 hc0 none 0 0 [] hs (fun _=>⟨rfl,rfl⟩) (by simp) (fun _ e=>by cases e) ⟨p,0,none⟩ 1 1 ys hx hyl1 hr hone (by omega) (by unfold maxLen;omega) hbb ?_
  intro v' w' r1 r2
  exact h v' w' (ownR_lower r1 hB) (.inr ⟨r2,fun b hb=>(World.ownsRow.lt r1 b hb).1⟩)
 ·by_cases hfit:n+1≤cap
  ·refine wpList_append_fits w hgd s x t ho B et i0 c hu hi0 hz1 g n cap xs hs hown0 ⟨p,0,none⟩ 1 1 ys hx hyl1 hr hone hfit ?_
   intro w' r1 r2
   exact h _ w' r1 (.inl ⟨rfl,r2⟩)
  ·have hcell:∀ b,(some (⟨g,0,none⟩:Addr))=some b→∀ j u,xs[j]? = some u→w.cell? (b.add j)=some u:=fun b e j u hu=>by
    cases e;exact World.ownsRow.cells hown0 (g:=g) rfl j u hu
   refine wpList_append_grows w hgd s x t ho et i0 z c bytes hu hi0 hz0 hz1 hz2 hz3 hc0 (some ⟨g,0,none⟩) n cap xs hs (fun e=>by cases e) hown0.1 hcell ⟨p,0,none⟩ 1 1 ys hx hyl1 hr hone (by omega) (by unfold maxLen;omega) hbb ?_
   intro v' w' r1 r2
   exact h v' w' (ownR_lower r1 hB) (.inr ⟨r2,fun b hb=>(World.ownsRow.lt r1 b hb).1⟩)
theorem cells_newC (w:World) (cs:List Value) (t:TypeId):∀ j u,cs[j]? = some u→(w.alloc (.cells cs.toArray t)).cell? ((⟨w.heap.size,0,none⟩:Addr).add j)=some u:=by
 intro j u hj
 have e:(⟨w.heap.size,0,none⟩:Addr).add j=⟨w.heap.size,j,none⟩:=by rw [Addr.add_mid,Nat.zero_add]
 rw [e,World.cell?_alloc_new]
 simpa using hj
def Sl (W:World) (X:Nat→Prop) (v:Value) (n k:Nat) (vs:List Value):Prop :=
 ∃ a cap,v=.slice a n cap∧vs.length=n * k∧(n≤cap∧n≤maxLen)∧(a=none→cap=0)∧(n=0 ∨ ∃ b,a=some ⟨b,0,none⟩∧X b∧b < W.heap.size∧∀ i (h:i < vs.length),W.cell? ⟨b,i,none⟩=some vs[i])
theorem Sl.mono {W:World} {X Y:Nat→Prop} {v:Value} {n k:Nat} {vs:List Value} (h:Sl W X v n k vs) (hm:∀ b,X b→Y b):Sl W Y v n k vs:=by
 obtain ⟨a,cap,h1,h2,h3,h5,h4⟩:=h
 refine ⟨a,cap,h1,h2,h3,h5,?_⟩
 rcases h4 with h4 | ⟨b,e,hx,hl,hc⟩
 ·exact .inl h4
 ·exact .inr ⟨b,e,hm b hx,hl,hc⟩
theorem Sl.frame {W W':World} {X:Nat→Prop} {v:Value} {n k:Nat} {vs:List Value} (h:Sl W X v n k vs) (hs:W.heap.size≤W'.heap.size) (hf:∀ b,X b→b < W.heap.size→W'.heap[b]? = W.heap[b]?):Sl W' X v n k vs:=by
 obtain ⟨a,cap,h1,h2,h3,h5,h4⟩:=h
 refine ⟨a,cap,h1,h2,h3,h5,?_⟩
 rcases h4 with h4 | ⟨b,e,hx,hl,hc⟩
 ·exact .inl h4
 ·exact .inr ⟨b,e,hx,by omega,fun i hi=>(World.cell?_of_block (w:=W) (a:=⟨b,i,none⟩) (hf b hx hl)).trans (hc i hi)⟩
theorem Sl.own {W:World} {B:Nat} {e:TypeId} {k n:Nat} {v:Value} {vs:List Value} (h:W.ownsRow B e k v n vs) (X:Nat→Prop) (hX:∀ b,v.ownBlock=some b→B≤b→b < W.heap.size→X b):Sl W X v n k vs:=by
 rcases h.2 with ⟨rfl,rfl⟩ | ⟨g,cap,cur,rfl,hg,hcur,h1,h2,h3,h4⟩
 ·exact ⟨none,0,rfl,h.1,⟨Nat.le_refl _,Nat.zero_le _⟩,fun _=>rfl,.inl rfl⟩
 ·have hl:=(Array.getElem?_eq_some_iff.1 hcur).1
  refine ⟨_,cap,rfl,h.1,⟨h1,Nat.le_trans h1 h2⟩,fun e=>by (cases e),.inr ⟨g,rfl,hX g rfl hg hl,hl,fun i hi=>?_⟩⟩
  rw [World.ownsRow.cellAt h i (by rw [← h.1];exact hi),List.getElem?_eq_getElem hi]
def mkAgg (cs:List Value):Value:=.agg cs.toArray
def mkOne (cs:List Value):Value:=cs.headD undef
def ListR {α:Type} (rep:Rep α) (mk:List Value→Value) (K:Nat):Rep (List α):=fun W X v l =>
 ∃ css:List (List Value),Sl W X v l.length K css.flatten∧css.length=l.length∧∀ i (h:i < css.length) (h':i < l.length),css[i].length=K∧rep W X (mk css[i]) l[i]
theorem ListR.ok {α:Type} {rep:Rep α} (hr:RepOk rep) (mk:List Value→Value) (K:Nat):RepOk (ListR rep mk K) where
 mono:=fun ⟨css,h1,h2,h3⟩ hm=>⟨css,h1.mono hm,h2,fun i h h'=>⟨(h3 i h h').1,hr.mono (h3 i h h').2 hm⟩⟩
 frame:=fun ⟨css,h1,h2,h3⟩ hs hf=>⟨css,h1.frame hs hf,h2,fun i h h'=>⟨(h3 i h h').1,hr.frame (h3 i h h').2 hs hf⟩⟩
structure Lp {α:Type} (rep:Rep α) (mk:List Value→Value) (K e:Nat) (W0 W:World) (p q:Nat) (L:List (Wd × Nat)) (dm sm:Value) (k n:Nat) (v:Value) (l:List α) (css:List (List Value)):Prop where
 rr:Rp W0 W p q L k dm sm
 own:W.ownsRow W0.heap.size e K v n css.flatten
 nl:n=l.length
 len:css.length=l.length
 el:∀ i (h:i < css.length) (h':i < l.length),css[i].length=K∧rep W (fun b=>Bn W0 W b∧v.ownBlock ≠ some b) (mk css[i]) l[i]
theorem Lp.start {α:Type} {rep:Rep α} {mk:List Value→Value} {K e:Nat} {W0:World} {p q:Nat} {L:List (Wd × Nat)} {dm sm:Value} {k:Nat} (h:Rp W0 W0 p q L k dm sm):Lp rep mk K e W0 W0 p q L dm sm k 0 (.slice none 0 0) [] [] :=
 ⟨h,World.ownsRow_nil _ _ _ _,rfl,rfl,fun i h _=>by simp at h⟩
theorem Rp.grown {w W W':World} {p q:Nat} {L:List (Wd × Nat)} {k:Nat} {dm sm:Value} {row:Option Nat} (h:Rp w W p q L k dm sm) (hg:W.grownBy W' row) (hr:∀ r,row=some r→w.heap.size≤r):Rp w W' p q L k dm sm:=by
 have hf:Fr (fun b=>row=some b) W W':=Fr.grown hg (fun r e=>e)
 have np:¬ row=some p:=fun e=>by have:=hr p e;have:=h.pl;omega
 have nq:¬ row=some q:=fun e=>by have:=hr q e;have:=h.ql;omega
 obtain ⟨cap,hb,hl⟩:=h.blk
 refine ⟨h.fr.trans hf (fun b hb e=>by have:=hr b e;omega),h.pq,h.pl,h.ql,⟨cap,(hf.block p (Array.getElem?_eq_some_iff.1 hb).1 np).trans hb,hl⟩,fun i hi j u hu=>hf.cell (h.row i hi j u hu) nq,h.kl,h.sml⟩
theorem Lp.go {α:Type} {rep:Rep α} (hok:RepOk rep) {mk:List Value→Value} {K e:Nat} {W0 W W1:World} {p q:Nat} {L:List (Wd × Nat)} {dm sm:Value} {k k1 n:Nat} {v:Value} {l:List α} {css:List (List Value)} (h:Lp rep mk K e W0 W p q L dm sm k n v l css) (hr:Rp W W1 p q L k1 dm sm):Lp rep mk K e W0 W1 p q L dm sm k1 n v l css:=by
 have hp:=h.rr.pl
 have s1:=hr.fr.size
 refine ⟨h.rr.from hr,ownR_fr h.own hr.fr (fun b hb e=>by have:=(World.ownsRow.lt h.own b hb).1;have:b=p:=e;omega),h.nl,h.len,fun i hi hi'=>?_⟩
 obtain ⟨h1,h2⟩:=h.el i hi hi'
 have h3:=hok.frame h2 (W':=W1) s1 (fun b hb hl=>hr.fr.block b hl (fun e=>by have:=hb.1.1;have:b=p:=e;omega))
 exact ⟨h1,hok.mono h3 (fun b hb=>⟨⟨hb.1.1,by have:=hb.1.2;omega⟩,hb.2⟩)⟩
theorem Lp.step {α:Type} {rep:Rep α} (hok:RepOk rep) {mk:List Value→Value} {K e:Nat} {W0 W W1 W2:World} {p q:Nat} {L:List (Wd × Nat)} {dm sm:Value} {k k1 n:Nat} {v v':Value} {l:List α} {css:List (List Value)} {x:α} {cs:List Value} {o:Obj}
  (h:Lp rep mk K e W0 W p q L dm sm k n v l css) (hr:Rp W W1 p q L k1 dm sm) (hrep:rep W1 (Bn W W1) (mk cs) x) (hcs:cs.length=K)
  (ho:W2.ownsRow W0.heap.size e K v' (n+1) (css.flatten ++ cs)) (hd:(v'.ownBlock=v.ownBlock∧(W1.alloc o).grownBy W2 v.ownBlock) ∨ ((W1.alloc o).grownBy W2 none∧∀ b,v'.ownBlock=some b→(W1.alloc o).heap.size≤b)) :
  Lp rep mk K e W0 W2 p q L dm sm k1 (n+1) v' (l ++ [x]) (css ++ [cs]):=by
 have hp:=h.rr.pl
 have s01:=h.rr.fr.size
 have s1:=hr.fr.size
 have hvb:∀ b,v.ownBlock=some b→W0.heap.size≤b∧b < W.heap.size:=World.ownsRow.lt h.own
 have hR1:Rp W0 (W1.alloc o) p q L k1 dm sm:=(h.rr.from hr).next ((Below.refl _ _).alloc (Nat.le_refl _) _)
 have hR2:Rp W0 W2 p q L k1 dm sm:=by
  rcases hd with ⟨_,hg⟩ | ⟨hg,_⟩
  ·exact hR1.grown hg (fun r e=>(hvb r e).1)
  ·exact hR1.grown hg (fun r e=>by cases e)
 have s2:W1.heap.size+1≤W2.heap.size:=by
  rcases hd with ⟨_,hg⟩ | ⟨hg,_⟩ <;> (have:=hg.size;rw [World.size_alloc] at this;exact this)
 have key:∀ b,b < W1.heap.size→v.ownBlock ≠ some b→W2.heap[b]? = W1.heap[b]?:=fun b hb hne=>by
  rcases hd with ⟨_,hg⟩ | ⟨hg,_⟩
  ·rw [hg.block b (by rw [World.size_alloc];omega) (fun e=>hne e.symm),Below.heap_alloc _ _ _ hb]
  ·rw [hg.block b (by rw [World.size_alloc];omega) (fun e=>by cases e),Below.heap_alloc _ _ _ hb]
 have nv:∀ b,b < W1.heap.size→v.ownBlock ≠ some b→v'.ownBlock ≠ some b:=fun b hb hne e'=>by
  rcases hd with ⟨e,_⟩ | ⟨_,hn⟩
  ·exact hne (e ▸ e')
  ·have:=hn b e';rw [World.size_alloc] at this;omega
 refine ⟨hR2,by rw [List.flatten_append,List.flatten_singleton];exact ho,by rw [List.length_append,List.length_singleton,h.nl],by simp [h.len],fun i hi hi'=>?_⟩
 by_cases hlt:i < css.length
 ·have hl:i < l.length:=by rw [← h.len];exact hlt
  obtain ⟨h1,h2⟩:=h.el i hlt hl
  rw [List.getElem_append_left hlt,List.getElem_append_left hl]
  refine ⟨h1,?_⟩
  have h3:=hok.frame h2 (W':=W1) s1 (fun b hb hl=>hr.fr.block b hl (fun e=>by have:=hb.1.1;have:b=p:=e;omega))
  have h4:=hok.frame h3 (W':=W2) (by omega) (fun b hb hl=>key b hl hb.2)
  exact hok.mono h4 (fun b hb=>⟨⟨hb.1.1,by have:=hb.1.2;omega⟩,nv b (by have:=hb.1.2;omega) hb.2⟩)
 ·have ei:i=css.length:=by simp at hi;omega
  subst ei
  have el:css.length=l.length:=h.len
  have e2:(l ++ [x])[css.length]'hi'=x:=by simp [el]
  have e1:(css ++ [cs])[css.length]'hi=cs:=by simp
  rw [e1,e2]
  refine ⟨hcs,?_⟩
  have nvb:∀ b,Bn W W1 b→v.ownBlock ≠ some b:=fun b hb e=>by have:=(hvb b e).2;have:=hb.1;omega
  have h4:=hok.frame hrep (W':=W2) (by omega) (fun b hb hl=>key b hl (nvb b hb))
  exact hok.mono h4 (fun b hb=>⟨⟨by have:=hb.1;omega,by have:=hb.2;omega⟩,nv b hb.2 (nvb b hb)⟩)
theorem Lp.done {α:Type} {rep:Rep α} (hok:RepOk rep) {mk:List Value→Value} {K e:Nat} {W0 W:World} {p q:Nat} {L:List (Wd × Nat)} {dm sm:Value} {k n:Nat} {v:Value} {l:List α} {css:List (List Value)} (h:Lp rep mk K e W0 W p q L dm sm k n v l css):ListR rep mk K W (Bn W0 W) v l :=
 ⟨css,by rw [← h.nl];exact Sl.own h.own _ (fun b _ h1 h2=>⟨h1,h2⟩),h.len,fun i h1 h2=>⟨(h.el i h1 h2).1,hok.mono (h.el i h1 h2).2 (fun b hb=>hb.1)⟩⟩
def untilF {α:Type} (en:List UInt8) (f:Pf α):Nat→Pf (List α)
 | 0,_,k=>.error k
 | g+1,L,k=>if passedP en L k then .ok ([],k+1) else match f L k with
  | .error e=>.error e
  | .ok (x,k1)=>match untilF en f g L k1 with
   | .error e=>.error e
   | .ok (xs,k2)=>.ok (x :: xs,k2)
def untilP {α:Type} (en:List UInt8) (f:Pf α):Pf (List α):=fun L k=>untilF en f (L.length+1 - k) L k
def Goes {α:Type} (f:Pf α):Prop:=∀ L k x k1,f L k=.ok (x,k1)→k < k1
end Go.Proofs.YtabkimknlifdoaaGreatDoor
