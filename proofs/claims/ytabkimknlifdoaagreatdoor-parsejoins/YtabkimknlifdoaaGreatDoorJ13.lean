/- Pieces of the proof: PaEx, PaCe, PaSt. -/
import Derived.Test.YtabkimknlifdoaaGreatDoorJ12
namespace Go.Proofs.YtabkimknlifdoaaGreatDoor
open Go.RowKit
def Stays {α:Type} (f:Pf α):Prop:=∀ L k x k1,f L k=.ok (x,k1)→k≤k1
theorem Goes.stays {α:Type} {f:Pf α} (h:Goes f):Stays f:=fun L k x k1 e=>Nat.le_of_lt (h L k x k1 e)
theorem stays_ret {α:Type} (x:α):Stays (Pf.ret x):=fun L k y k1 e=>by unfold Pf.ret at e;cases e;exact Nat.le_refl _
theorem goes_bind {α β:Type} {a:Pf α} {f:α→Pf β} (h:Goes a) (hf:∀ x,Stays (f x)):Goes (a.bind f):=fun L k y k1 e=>by
 unfold Pf.bind at e
 split at e
 ·cases e
 ·rename_i x k2 e2
  exact Nat.lt_of_lt_of_le (h L k x k2 e2) (hf x L k2 y k1 e)
theorem stays_bind {α β:Type} {a:Pf α} {f:α→Pf β} (h:Stays a) (hf:∀ x,Stays (f x)):Stays (a.bind f):=fun L k y k1 e=>by
 unfold Pf.bind at e
 split at e
 ·cases e
 ·rename_i x k2 e2
  exact Nat.le_trans (h L k x k2 e2) (hf x L k2 y k1 e)
theorem stays_pass:∀ ls,Stays (passP ls)
 | []=>fun L k x k1 e=>by rw [passP] at e;cases e;exact Nat.le_refl _
 | l :: ls=>fun L k x k1 e=>by
  rw [passP] at e
  split at e
  ·exact Nat.le_trans (Nat.le_succ k) (stays_pass ls L (k+1) x k1 e)
  ·cases e
theorem goes_pass (l:List UInt8) (ls:List (List UInt8)):Goes (passP (l :: ls)):=fun L k x k1 e=>by
 rw [passP] at e
 split at e
 ·exact Nat.lt_of_lt_of_le (Nat.lt_succ_self k) (stays_pass ls L (k+1) x k1 e)
 ·cases e
theorem goes_lit:Goes litP:=fun L k x k1 h=>by
 unfold litP at h
 split at h
 ·split at h
  ·cases h;omega
  ·cases h
 ·cases h
theorem goes_owner:Goes ownerP:=fun L k x k1 h=>by
 unfold ownerP at h
 split at h
 ·cases h;omega
 ·exact nameP_goes L k x k1 h
theorem goes_fieldOf:Goes fieldOfP:=goes_bind (goes_pass _ _) fun _=>stays_bind nameP_goes.stays fun _=>stays_ret _
theorem goes_fop:Goes fopP:=fun L k x k1 h=>by
 unfold fopP at h
 split at h
 ·cases h
 ·rename_i n k2 e2
  have g:=goes_owner L k n k2 e2
  split at h
  ·split at h
   ·cases h
   ·rename_i f k3 e3
    have g3:=goes_fieldOf L k2 f k3 e3
    cases h;omega
  ·cases h;exact g
theorem goes_cast {ex:Pf Ex} (h:Goes ex):Goes (castP ex):=goes_bind wholeP_goes fun _=>stays_bind (stays_pass _) fun _=>stays_bind h.stays fun _=>stays_bind (stays_pass _) fun _=>stays_ret _
theorem stays_sm {ex:Pf Ex} (h:Goes ex):∀ g,Stays (smF ex g)
 | 0=>fun L k x k1 e=>by rw [smF] at e;cases e
 | g+1=>fun L k x k1 e=>by
  rw [smF] at e
  simp only at e
  split at e
  ·split at e
   ·cases e
   ·rename_i y k2 e2
    have g2:=h L (k+1) y k2 e2
    split at e
    ·cases e
    ·rename_i xs k3 e3
     have g3:=stays_sm h g L k2 xs k3 e3
     cases e;omega
  ·cases e;exact Nat.le_refl _
theorem goes_some {ex:Pf Ex} (h:Goes ex):Goes (someP ex):=fun L k x k1 e=>by
 unfold someP at e
 split at e
 ·cases e
 ·rename_i y k2 e2
  have g2:=h L k y k2 e2
  cases hs:smF ex (L.length+1 - k2) L k2 with
  | error e3=>rw [hs] at e;cases e
  | ok z =>
   obtain ⟨zs,k3⟩:=z
   have g3:=stays_sm h _ L k2 zs k3 hs
   rw [hs] at e
   simp only [preL] at e
   cases e;omega
theorem goes_hash {so:Pf (List Ex)} (h:Goes so):Goes (hashP so):=goes_bind nameP_goes fun _=>stays_bind (stays_pass _) fun _=>stays_bind h.stays fun _=>stays_bind (stays_pass _) fun _=>stays_ret _
theorem goes_plain {ca ha:Pf Ex} (h:Goes ca) (h':Goes ha):Goes (plainP ca ha):=fun L k x k1 e=>by
 unfold plainP at e
 split at e
 ·split at e
  ·cases e
  ·rename_i y k2 e2
   have:=goes_lit L k y k2 e2
   cases e;omega
 ·split at e
  ·split at e
   ·cases e
   ·rename_i y k2 e2
    have:=nameP_goes L (k+1) y k2 e2
    cases e;omega
  ·split at e
   ·have:=h L (k+1) x k1 e;omega
   ·split at e
    ·have:=h' L (k+1) x k1 e;omega
    ·exact goes_fop L k x k1 e
theorem goes_prim {ch:Nat→Pf Ex} {pl:Pf Ex} (h:∀ l,Goes (ch l)) (h':Goes pl):Goes (primP ch pl):=fun L k x k1 e=>by
 unfold primP at e
 split at e
 ·have:=goes_bind (h 0) (fun x=>stays_bind (stays_pass [[41]]) fun _=>stays_ret x) L (k+1) x k1 e
  omega
 ·split at e
  ·cases e
  ·rename_i y k2 e2
   have:=h' L k y k2 e2
   cases e;omega
theorem stays_cut:Stays cutP:=stays_bind wholeP_goes.stays fun _=>stays_bind (stays_pass _) fun _=>stays_bind wholeP_goes.stays fun _=>stays_bind (stays_pass _) fun _=>stays_ret _
theorem stays_po (ln:Nat):∀ g x,Stays (poF ln g x)
 | 0,_=>fun L k x k1 e=>by rw [poF] at e;cases e
 | g+1,y=>fun L k x k1 e=>by
  rw [poF] at e
  simp only at e
  split at e
  ·split at e
   ·cases e
   ·rename_i nm k2 e2
    have g2:=stays_cut L (k+1) nm k2 e2
    have g3:=stays_po ln g _ L k2 x k1 e
    omega
  ·cases e;exact Nat.le_refl _
theorem goes_post {pr:Pf Ex} (h:Goes pr):Goes (postP pr):=fun L k x k1 e=>by
 unfold postP at e
 split at e
 ·cases e
 ·rename_i y k2 e2
  exact Nat.lt_of_lt_of_le (h L k y k2 e2) (stays_po _ _ _ L k2 x k1 e)
theorem goes_un {po:Pf Ex} (h:Goes po):∀ g,Goes (unF po g)
 | 0=>fun L k x k1 e=>by rw [unF] at e;cases e
 | g+1=>fun L k x k1 e=>by
  rw [unF] at e
  simp only at e
  split at e
  ·split at e
   ·cases e
   ·rename_i y k2 e2
    have:=goes_un h g L (k+1) y k2 e2
    cases e;omega
  ·exact h L k x k1 e
theorem stays_ch {ch:Nat→Pf Ex} (h:∀ l,Goes (ch l)) (least ln:Nat):∀ g x most,Stays (chL ch least ln g x most)
 | 0,_,_=>fun L k x k1 e=>by rw [chL] at e;cases e
 | g+1,y,most=>fun L k x k1 e=>by
  rw [chL] at e
  simp only at e
  split at e
  ·cases e;exact Nat.le_refl _
  ·split at e
   ·cases e;exact Nat.le_refl _
   ·split at e
    ·cases e
    ·rename_i t _ _ _ z k2 e2
     have g2:=h _ L (k+1) z k2 e2
     have g3:=stays_ch h least ln g _ _ L k2 x k1 e
     omega
theorem goes_chain {un:Pf Ex} {ch:Nat→Pf Ex} (hu:Goes un) (h:∀ l,Goes (ch l)) (least:Nat):Goes (chainG un ch least):=fun L k x k1 e=>by
 unfold chainG at e
 split at e
 ·cases e
 ·rename_i y k2 e2
  exact Nat.lt_of_lt_of_le (hu L k y k2 e2) (stays_ch h _ _ _ _ _ L k2 x k1 e)
def unOf (ch:Nat→Pf Ex):Pf Ex:=fun L k=>unF (postP (primP ch (plainP (castP (ch 0)) (hashP (someP (ch 0)))))) (L.length+1 - k) L k
def chainF:Nat→Nat→Pf Ex
 | 0=>fun _ _ k=>.error k
 | f+1=>chainG (unOf (chainF f)) (chainF f)
theorem goes_unOf {ch:Nat→Pf Ex} (h:∀ l,Goes (ch l)):Goes (unOf ch):=fun L k x k1 e=>goes_un (goes_post (goes_prim h (goes_plain (goes_cast (h 0)) (goes_hash (goes_some (h 0)))))) _ L k x k1 e
theorem goes_chainF:∀ f l,Goes (chainF f l)
 | 0,_=>fun L k x k1 e=>by rw [chainF] at e;cases e
 | f+1,l=>by rw [chainF];exact goes_chain (goes_unOf (goes_chainF f)) (goes_chainF f) l
theorem chain_any {p q:Nat} {L:List (Wd × Nat)} {dm sm:Value} {bt:Nat} (hL:OkL L):∀ f k0,L.length≤f+k0→ChOk p q L dm sm bt k0 (chainF f)
 | 0,k0,hk=>fun l _ W k' h1 h _=>by have:=h.kl;omega
 | f+1,k0,hk=>by
  have HC:=chain_any (p:=p) (q:=q) (dm:=dm) (sm:=sm) (bt:=bt) hL f (k0+1) (by omega)
  have HX:=expr_ok HC
  have HPL:=plainE_ok hL (cast_ok hL HX) (hash_ok hL (some_ok hL (goes_chainF f 0) HX))
  have HPO:=post_ok hL (prim_ok hL HC HPL)
  have HU:PfOk 203 #[.pointer (some ⟨p,0,none⟩)] p q L dm sm bt k0 (unOf (chainF f)) ExP:=fun W k' h1 h ht=>unary_ok hL HPO (L.length+1 - k') W k' h1 (by omega) h ht
  rw [chainF]
  exact chain_ok hL HU HC (goes_unOf (goes_chainF f)) (goes_chainF f)
def exprP:Pf Ex:=fun L k=>chainF (L.length - k) 0 L k
theorem expr_any {p q:Nat} {L:List (Wd × Nat)} {dm sm:Value} {bt:Nat} (hL:OkL L) (k0:Nat):PfOk 112 #[.pointer (some ⟨p,0,none⟩)] p q L dm sm bt k0 exprP ExR:=fun W k' _ h ht =>
 expr_ok (chain_any hL (L.length - k') k' (by omega)) W k' (Nat.le_refl _) h ht
set_option maxRecDepth 100000 in
set_option maxHeartbeats 2000000 in
theorem closed_expr {p q:Nat} {L:List (Wd × Nat)} {dm sm:Value} {bt k0:Nat} {ex:Pf Ex} (hL:OkL L) (HX:PfOk 112 #[.pointer (some ⟨p,0,none⟩)] p q L dm sm bt k0 ex ExR) :
  PfOk 117 #[.pointer (some ⟨p,0,none⟩),.func (Fn.func 112) #[.pointer (some ⟨p,0,none⟩)] #[]] p q L dm sm bt k0 (closedP ex) ExR:=by
 intro w k h1 h ht
 have hs0:(w.alloc (.cells #[.int .u8 0,.int .i64 0,.int .u64 0,.int .u64 0,.string ⟨#[]⟩,.string ⟨#[]⟩,.int .i64 0,.int .i64 0,.slice none 0 0,.int .i64 0] 49)).heap.size=w.heap.size+1:=by show (w.heap.push _).size=_;rw [Array.size_push]
 have HS0:=hide hs0
 have R0:=hide (h.next ((Below.refl _ w).alloc (Nat.le_refl _) (.cells #[.int .u8 0,.int .i64 0,.int .u64 0,.int .u64 0,.string ⟨#[]⟩,.string ⟨#[]⟩,.int .i64 0,.int .i64 0,.slice none 0 0,.int .i64 0] 49)))
 have Z0:=hide (heap_alloc_new w (.cells #[.int .u8 0,.int .i64 0,.int .u64 0,.int .u64 0,.string ⟨#[]⟩,.string ⟨#[]⟩,.int .i64 0,.int .i64 0,.slice none 0 0,.int .i64 0] 49))
 have HXk:=hide (HX _ k h1 R0.out.here (ht.go R0.out))
 have HP:=hide (fun W k' (r:Rp w W p q L k' dm sm) b hb=>pass_one r.here hL [59] (by decide) ⟨#[59]⟩ rfl 9 b hb)
 have HE1:Hid (∀ {k1},ex L k=.error k1→closedP ex L k=.error k1):=fun {k1} e1=>by unfold closedP;simp only [Pf.bind,e1]
 have HE2:Hid (∀ {x1 k1 k2},ex L k=.ok (x1,k1)→passP [[59]] L k1=.error k2→closedP ex L k=.error k2):=fun {x1} {k1} {k2} e1 e2=>by unfold closedP;simp only [Pf.bind,e1,e2]
 have HO:Hid (∀ {x1 k1 x2 k2},ex L k=.ok (x1,k1)→passP [[59]] L k1=.ok (x2,k2)→closedP ex L k=.ok (x1,k2)):=fun {x1} {k1} {x2} {k2} e1 e2=>by unfold closedP;simp only [Pf.bind,Pf.ret,e1,e2]
 generalize closedP ex L k=RR at *
 clear h h1 ht HX hs0
 go_enter Tryz.func117,Tryz.ntmps117
 go_wp2_with fail
 refine HXk.out.mono ?_
 generalize (w.alloc (.cells #[.int .u8 0,.int .i64 0,.int .u64 0,.int .u64 0,.string ⟨#[]⟩,.string ⟨#[]⟩,.int .i64 0,.int .i64 0,.slice none 0 0,.int .i64 0] 49))=w0 at *
 rintro e w1 (⟨x1,k1,v,h1,rfl,hv,hr⟩ | ⟨k1,h1,rfl,hr⟩)
 ·obtain ⟨a0,a1,a2,a3,a4,a5,a6,a7,a8,a9,rfl⟩:=hv.ten
  obtain ⟨⟨i0,rfl⟩,⟨i1,rfl⟩,⟨i2,rfl⟩,⟨i3,rfl⟩,⟨t4,rfl⟩,⟨t5,rfl⟩,⟨i6,rfl⟩,⟨i7,rfl⟩,⟨s8,n8,m8,rfl⟩,⟨i9,rfl⟩⟩:=hv.forms
  have zr:=R0.out.keeps hr Z0.out (Nat.le_refl _)
  have hB:=(Below.refl _ w1).alloc (Nat.le_refl _) (.cells #[.int .u8 i0,.int .i64 i1,.int .u64 i2,.int .u64 i3,.string t4,.string t5,.int .i64 i6,.int .i64 i7,.slice s8 n8 m8,.int .i64 i9] 49)
  have hlt:=(Array.getElem?_eq_some_iff.1 zr).1
  have ZR1:=hide ((hB.block _ hlt).trans zr)
  have ZX1:=hide (heap_alloc_new w1 (.cells #[.int .u8 i0,.int .i64 i1,.int .u64 i2,.int .u64 i3,.string t4,.string t5,.int .i64 i6,.int .i64 i7,.slice s8 n8 m8,.int .i64 i9] 49))
  have R1:=hide ((R0.out.from hr).next hB)
  have HN:Hid (w.heap.size≤w1.heap.size):=Nat.le_of_lt hlt
  have hs1:w1.heap.size+1=(w1.alloc (.cells #[.int .u8 i0,.int .i64 i1,.int .u64 i2,.int .u64 i3,.string t4,.string t5,.int .i64 i6,.int .i64 i7,.slice s8 n8 m8,.int .i64 i9] 49)).heap.size:=by { show _=(w1.heap.push _).size;rw [Array.size_push] }
  have HS1:=hide hs1
  have HX1:Hid (ExR (w1.alloc (.cells #[.int .u8 i0,.int .i64 i1,.int .u64 i2,.int .u64 i3,.string t4,.string t5,.int .i64 i6,.int .i64 i7,.slice s8 n8 m8,.int .i64 i9] 49)) (Bn w0 (w1.alloc (.cells #[.int .u8 i0,.int .i64 i1,.int .u64 i2,.int .u64 i3,.string t4,.string t5,.int .i64 i6,.int .i64 i7,.slice s8 n8 m8,.int .i64 i9] 49))) (.agg #[.int .u8 i0,.int .i64 i1,.int .u64 i2,.int .u64 i3,.string t4,.string t5,.int .i64 i6,.int .i64 i7,.slice s8 n8 m8,.int .i64 i9]) x1):=exRep_ok.frame (exRep_ok.mono hv (Y:=Bn w0 (w1.alloc (.cells #[.int .u8 i0,.int .i64 i1,.int .u64 i2,.int .u64 i3,.string t4,.string t5,.int .i64 i6,.int .i64 i7,.slice s8 n8 m8,.int .i64 i9] 49))) fun b hb=>⟨hb.1,Nat.lt_of_lt_of_le hb.2 hB.size⟩) hB.size (fun b hb hl=>hB.block b hl)
  have HPL:Hid (p < w0.heap.size):=hr.pl
  have H1:=hide h1
  clear hr h1 hv zr hB hlt hs1
  go_wp2_with fail
  refine (HP.out _ _ R1.out _ HS1.out).mono ?_
  rintro e w3 (⟨x2,k2,v,h2,rfl,hv,hr⟩ | ⟨k2,h2,rfl,hr⟩)
  ·obtain rfl:v=.tuple #[]:=hv
   have R3:=hide (R1.out.from hr)
   have ZR3:=hide (R1.out.keeps hr ZR1.out (Nat.le_refl _))
   have ZX3:=hide (R1.out.keeps hr ZX1.out HN.out)
   have HX3:Hid (ExR w3 (Bn w0 w3) (.agg #[.int .u8 i0,.int .i64 i1,.int .u64 i2,.int .u64 i3,.string t4,.string t5,.int .i64 i6,.int .i64 i7,.slice s8 n8 m8,.int .i64 i9]) x1):=exRep_ok.frame (exRep_ok.mono HX1.out (Y:=Bn w0 w3) fun b hb=>⟨hb.1,Nat.lt_of_lt_of_le hb.2 hr.fr.size⟩) hr.fr.size (fun b hb hl=>hr.fr.block b hl (fun e=>by have e':b=p:=e;have:=hb.1;have:=HPL.out;omega))
   have H2:=hide (HO.out H1.out h2)
   clear hr h2 ZR1 ZX1 HX1
   have d0:=cellA ZX3.out 0;have d1:=cellA ZX3.out 1;have d2:=cellA ZX3.out 2;have d3:=cellA ZX3.out 3;have d4:=cellA ZX3.out 4;have d5:=cellA ZX3.out 5;have d6:=cellA ZX3.out 6;have d7:=cellA ZX3.out 7;have d8:=cellA ZX3.out 8;have d9:=cellA ZX3.out 9
   have c0:=cellA ZR3.out 0;have c1:=cellA ZR3.out 1;have c2:=cellA ZR3.out 2;have c3:=cellA ZR3.out 3;have c4:=cellA ZR3.out 4;have c5:=cellA ZR3.out 5;have c6:=cellA ZR3.out 6;have c7:=cellA ZR3.out 7;have c8:=cellA ZR3.out 8;have c9:=cellA ZR3.out 9
   have f0:=softA ZR3.out 0;have f1:=softA ZR3.out 1;have f2:=softA ZR3.out 2;have f3:=softA ZR3.out 3;have f4:=softA ZR3.out 4;have f5:=softA ZR3.out 5;have f6:=softA ZR3.out 6;have f7:=softA ZR3.out 7;have f8:=softA ZR3.out 8;have f9:=softA ZR3.out 9
   go_wp2
   have hg:=got0 (cs:=[.int .u8 i0,.int .i64 i1,.int .u64 i2,.int .u64 i3,.string t4,.string t5,.int .i64 i6,.int .i64 i7,.slice s8 n8 m8,.int .i64 i9]) ZR3.out rfl
   have hF:=fr_all w.heap.size [.int .u8 i0,.int .i64 i1,.int .u64 i2,.int .u64 i3,.string t4,.string t5,.int .i64 i6,.int .i64 i7,.slice s8 n8 m8,.int .i64 i9] w3 0
   have RS:=hide (R3.out.aside hF (Nat.le_refl _))
   have HXS:Hid (ExR (setAll w.heap.size w3 0 [.int .u8 i0,.int .i64 i1,.int .u64 i2,.int .u64 i3,.string t4,.string t5,.int .i64 i6,.int .i64 i7,.slice s8 n8 m8,.int .i64 i9]) (Bn w (setAll w.heap.size w3 0 [.int .u8 i0,.int .i64 i1,.int .u64 i2,.int .u64 i3,.string t4,.string t5,.int .i64 i6,.int .i64 i7,.slice s8 n8 m8,.int .i64 i9])) (.agg #[.int .u8 i0,.int .i64 i1,.int .u64 i2,.int .u64 i3,.string t4,.string t5,.int .i64 i6,.int .i64 i7,.slice s8 n8 m8,.int .i64 i9]) x1):=put_val (cs:=[.int .u8 i0,.int .i64 i1,.int .u64 i2,.int .u64 i3,.string t4,.string t5,.int .i64 i6,.int .i64 i7,.slice s8 n8 m8,.int .i64 i9]) HX3.out (by rw [HS0.out];omega)
   have q0:=cellA hg 0;have q1:=cellA hg 1;have q2:=cellA hg 2;have q3:=cellA hg 3;have q4:=cellA hg 4;have q5:=cellA hg 5;have q6:=cellA hg 6;have q7:=cellA hg 7;have q8:=cellA hg 8;have q9:=cellA hg 9
   simp only [setAll] at q0 q1 q2 q3 q4 q5 q6 q7 q8 q9 RS HXS
   exact bodyPost_ret (v:=.agg #[.int .u8 i0,.int .i64 i1,.int .u64 i2,.int .u64 i3,.string t4,.string t5,.int .i64 i6,.int .i64 i7,.slice s8 n8 m8,.int .i64 i9]) (by simp [results,Tryz.results117,go_sem,q0,q1,q2,q3,q4,q5,q6,q7,q8,q9]) rfl (.inl ⟨_,_,_,H2.out,rfl,HXS.out,RS.out⟩)
  ·have R3:=hide (R1.out.from hr)
   have H2:=hide (HE2.out H1.out h2)
   clear hr h2
   go_wp2
   exact ⟨rfl,.inr ⟨_,H2.out,rfl,R3.out⟩⟩
 ·have R1:=hide (R0.out.from hr)
  have H1:=hide (HE1.out h1)
  clear hr h1
  go_wp2
  exact ⟨rfl,.inr ⟨_,H1.out,rfl,R1.out⟩⟩
abbrev Kp:=World→(Nat→Prop)→Prop
structure KpOk (K:Kp):Prop where
 mono:∀ {W:World} {X Y:Nat→Prop},K W X→(∀ b,X b→Y b)→K W Y
 frame:∀ {W W':World} {X:Nat→Prop},K W X→W.heap.size≤W'.heap.size→(∀ b,X b→b < W.heap.size→W'.heap[b]? = W.heap[b]?)→K W' X
theorem KpOk.top:KpOk (fun _ _=>True):=⟨fun _ _=>trivial,fun _ _ _=>trivial⟩
theorem KpOk.and {α:Type} {rep:Rep α} {K:Kp} (h:RepOk rep) (k:KpOk K) (v:Value) (x:α):KpOk (fun W X=>rep W X v x∧K W X) :=
 ⟨fun hh hm=>⟨h.mono hh.1 hm,k.mono hh.2 hm⟩,fun hh hs hf=>⟨h.frame hh.1 hs hf,k.frame hh.2 hs hf⟩⟩
def Off (B:List (Nat × Obj)) (b:Nat):Prop:=∀ x ∈ B,x.1 ≠ b
structure Sp (w W:World) (p q:Nat) (L:List (Wd × Nat)) (k:Nat) (dm sm:Value) (B:List (Nat × Obj)) (K:Kp):Prop where
 rr:Rp w W p q L k dm sm
 bl:∀ x ∈ B,w.heap.size≤x.1∧W.heap[x.1]? = some x.2
 nd:(B.map Prod.fst).Nodup
 ok:KpOk K
 kp:K W (fun b=>Bn w W b∧Off B b)
theorem Sp.lt {w W:World} {p q:Nat} {L:List (Wd × Nat)} {k:Nat} {dm sm:Value} {B:List (Nat × Obj)} {K:Kp} (s:Sp w W p q L k dm sm B K):∀ x ∈ B,x.1 < W.heap.size:=fun x hx=>(Array.getElem?_eq_some_iff.1 (s.bl x hx).2).1
theorem Sp.start {w:World} {p q:Nat} {L:List (Wd × Nat)} {k:Nat} {dm sm:Value} (h:Rp w w p q L k dm sm):Sp w w p q L k dm sm [] (fun _ _=>True) :=
 ⟨h,fun x hx=>by simp at hx,List.nodup_nil,KpOk.top,trivial⟩
theorem Sp.go {w W W':World} {p q:Nat} {L:List (Wd × Nat)} {k k':Nat} {dm sm:Value} {B:List (Nat × Obj)} {K:Kp} (s:Sp w W p q L k dm sm B K) (hr:Rp W W' p q L k' dm sm):Sp w W' p q L k' dm sm B K:=by
 have hp:=s.rr.pl
 have hs:=hr.fr.size
 refine ⟨s.rr.from hr,fun x hx=>⟨(s.bl x hx).1,(hr.fr.block x.1 (s.lt x hx) (fun e=>by have:=(s.bl x hx).1;have:x.1=p:=e;omega)).trans (s.bl x hx).2⟩,s.nd,s.ok,?_⟩
 exact s.ok.mono (s.ok.frame s.kp hs (fun b hb hl=>hr.fr.block b hl (fun e=>by have:=hb.1.1;have:b=p:=e;omega))) (fun b hb=>⟨⟨hb.1.1,Nat.lt_of_lt_of_le hb.1.2 hs⟩,hb.2⟩)
theorem Sp.call {α:Type} {rep:Rep α} {w W W':World} {p q:Nat} {L:List (Wd × Nat)} {k k':Nat} {dm sm:Value} {B:List (Nat × Obj)} {K:Kp} {v:Value} {x:α} (s:Sp w W p q L k dm sm B K) (hok:RepOk rep) (hr:Rp W W' p q L k' dm sm) (h:rep W' (Bn W W') v x):Sp w W' p q L k' dm sm B (fun W X=>rep W X v x∧K W X):=by
 have g:=s.go hr
 refine ⟨g.rr,g.bl,g.nd,KpOk.and hok s.ok v x,⟨hok.mono h (fun b hb=>⟨⟨Nat.le_trans s.rr.fr.size hb.1,hb.2⟩,fun y hy e=>?_⟩),g.kp⟩⟩
 have:=s.lt y hy
 have:=hb.1
 omega
theorem Sp.alloc {w W:World} {p q:Nat} {L:List (Wd × Nat)} {k:Nat} {dm sm:Value} {B:List (Nat × Obj)} {K:Kp} (s:Sp w W p q L k dm sm B K) (cs:Array Value) (t:TypeId) (b:Nat) (hb:b=W.heap.size):Sp w (W.alloc (.cells cs t)) p q L k dm sm ((b,.cells cs t (0,0)) :: B) K:=by
 subst hb
 have s1:(W.alloc (.cells cs t)).heap.size=W.heap.size+1:=by show (W.heap.push _).size=_;rw [Array.size_push]
 refine ⟨s.rr.next ((Below.refl _ _).alloc (Nat.le_refl _) _),fun x hx=>?_,?_,s.ok,?_⟩
 ·rcases List.mem_cons.1 hx with rfl | hx
  ·exact ⟨s.rr.fr.size,heap_alloc_new W _⟩
  ·exact ⟨(s.bl x hx).1,(heap_alloc_old _ _ (s.lt x hx)).trans (s.bl x hx).2⟩
 ·rw [List.map_cons,List.nodup_cons]
  refine ⟨fun h=>?_,s.nd⟩
  obtain ⟨y,hy,e⟩:=List.mem_map.1 h
  have:=s.lt y hy
  omega
 ·refine s.ok.mono (s.ok.frame s.kp (by omega) (fun b hb hl=>heap_alloc_old _ _ hl)) (fun b hb=>⟨⟨hb.1.1,by have:=hb.1.2;omega⟩,fun y hy=>?_⟩)
  rcases List.mem_cons.1 hy with rfl | hy
  ·have:=hb.1.2;exact fun e=>by simp at e;omega
  ·exact hb.2 y hy
theorem Sp.set {w W:World} {p q:Nat} {L:List (Wd × Nat)} {k:Nat} {dm sm:Value} {B1 B2:List (Nat × Obj)} {K:Kp} {b:Nat} {cs:Array Value} {t:TypeId} (s:Sp w W p q L k dm sm (B1 ++ (b,.cells cs t (0,0)) :: B2) K) (i:Nat) (u:Value):Sp w (W.setCell ⟨b,i,none⟩ u) p q L k dm sm (B1 ++ (b,.cells (cs.setIfInBounds i u) t (0,0)) :: B2) K:=by
 have hm:(b,Obj.cells cs t (0,0)) ∈ B1 ++ (b,.cells cs t (0,0)) :: B2:=by simp
 have hF:Fr (·=b) W (W.setCell ⟨b,i,none⟩ u):=(Fr.refl _ W).set _ _ rfl
 have hnd:=s.nd
 rw [List.map_append,List.map_cons,List.nodup_append] at hnd
 obtain ⟨_,hn2,hn3⟩:=hnd
 rw [List.nodup_cons] at hn2
 refine ⟨s.rr.aside hF (s.bl _ hm).1,fun x hx=>?_,?_,s.ok,?_⟩
 ·rcases List.mem_append.1 hx with h | h
  ·have hx':x ∈ B1 ++ (b,.cells cs t (0,0)) :: B2:=List.mem_append_left _ h
   refine ⟨(s.bl x hx').1,(hF.block x.1 (s.lt x hx') (fun e=>?_)).trans (s.bl x hx').2⟩
   exact hn3 x.1 (List.mem_map.2 ⟨x,h,rfl⟩) b (List.mem_cons_self ..) e
  ·rcases List.mem_cons.1 h with rfl | h
   ·exact ⟨(s.bl _ hm).1,heap_setCell_same (s.bl _ hm).2 u⟩
   ·have hx':x ∈ B1 ++ (b,.cells cs t (0,0)) :: B2:=List.mem_append_right _ (List.mem_cons_of_mem _ h)
    refine ⟨(s.bl x hx').1,(hF.block x.1 (s.lt x hx') (fun e=>?_)).trans (s.bl x hx').2⟩
    exact hn2.1 (by have e':x.1=b:=e;rw [← e'];exact List.mem_map.2 ⟨x,h,rfl⟩)
 ·have:=s.nd
  simpa using this
 ·have hoff:∀ c,Off (B1 ++ (b,.cells cs t (0,0)) :: B2) c→Off (B1 ++ (b,.cells (cs.setIfInBounds i u) t (0,0)) :: B2) c:=fun c hc y hy=>by
   rcases List.mem_append.1 hy with h | h
   ·exact hc y (List.mem_append_left _ h)
   ·rcases List.mem_cons.1 h with rfl | h
    ·exact hc (b,.cells cs t (0,0)) hm
    ·exact hc y (List.mem_append_right _ (List.mem_cons_of_mem _ h))
  exact s.ok.mono (s.ok.frame s.kp hF.size (fun c hc hl=>hF.block c hl (fun e=>hc.2 _ hm e.symm))) (fun c hc=>⟨⟨hc.1.1,Nat.lt_of_lt_of_le hc.1.2 hF.size⟩,hoff c hc.2⟩)
theorem Sp.setFrom {w:World} {p q:Nat} {L:List (Wd × Nat)} {k:Nat} {dm sm:Value} {B1 B2:List (Nat × Obj)} {K:Kp} {b:Nat} {t:TypeId}:∀ (us:List Value) (W:World) (o:Nat) (cs:Array Value),Sp w W p q L k dm sm (B1 ++ (b,.cells cs t (0,0)) :: B2) K→∃ cs',cs'.size=cs.size∧Sp w (setAll b W o us) p q L k dm sm (B1 ++ (b,.cells cs' t (0,0)) :: B2) K
 | [],W,o,cs,s=>⟨cs,rfl,s⟩
 | u :: us,W,o,cs,s=>by
  obtain ⟨cs',h1,h2⟩:=Sp.setFrom us (W.setCell ⟨b,o,none⟩ u) (o+1) _ (s.set o u)
  exact ⟨cs',by rw [h1,Array.size_setIfInBounds],h2⟩
theorem Sp.fill {w W:World} {p q:Nat} {L:List (Wd × Nat)} {k:Nat} {dm sm:Value} {B1 B2:List (Nat × Obj)} {K:Kp} {b:Nat} {cs:Array Value} {t:TypeId} (s:Sp w W p q L k dm sm (B1 ++ (b,.cells cs t (0,0)) :: B2) K) (us:List Value) (hs:cs.size=us.length):Sp w (setAll b W 0 us) p q L k dm sm (B1 ++ (b,.cells us.toArray t (0,0)) :: B2) K:=by
 have hm:(b,Obj.cells cs t (0,0)) ∈ B1 ++ (b,.cells cs t (0,0)) :: B2:=by simp
 have hg:=got0 (cs:=us) (s.bl _ hm).2 hs
 obtain ⟨cs',_,h2⟩:=Sp.setFrom us W 0 cs s
 have hm':(b,Obj.cells cs' t (0,0)) ∈ B1 ++ (b,.cells cs' t (0,0)) :: B2:=by simp
 have e:=(h2.bl _ hm').2.symm.trans hg
 injection e with e
 injection e with e
 subst e
 exact h2
theorem Sp.weak {w W:World} {p q:Nat} {L:List (Wd × Nat)} {k:Nat} {dm sm:Value} {B:List (Nat × Obj)} {K K':Kp} (s:Sp w W p q L k dm sm B K) (ok:KpOk K') (h:∀ X,K W X→K' W X):Sp w W p q L k dm sm B K':=⟨s.rr,s.bl,s.nd,ok,h _ s.kp⟩
def PfI {α:Type} (I:World→Prop) (F:Nat) (args:Array Value) (p q:Nat) (L:List (Wd × Nat)) (dm sm:Value) (k0:Nat) (f:Pf α) (rep:Rep α):Prop:=∀ (W:World) (k':Nat),k0≤k'→Rp W W p q L k' dm sm→I W→Calls Tryz.prog F args W fun e w'=>PostP (f L k') rep W p q L dm sm e w'
def Stb (I:World→Prop) (p q:Nat) (L:List (Wd × Nat)) (dm sm:Value):Prop:=∀ (W W':World) (k':Nat),Rp W W' p q L k' dm sm→I W→I W'
theorem bind_ok {α β:Type} {a:Pf α} {g:α→Pf β} {L:List (Wd × Nat)} {k k1:Nat} {x:α} (h:a L k=.ok (x,k1)):(a.bind g) L k=g x L k1:=by unfold Pf.bind;rw [h]
theorem bind_err {α β:Type} {a:Pf α} {g:α→Pf β} {L:List (Wd × Nat)} {k k1:Nat} (h:a L k=.error k1):(a.bind g) L k=.error k1:=by unfold Pf.bind;rw [h]
theorem bindret {α:Type} (a:Pf α) (L:List (Wd × Nat)) (k:Nat):(a.bind Pf.ret) L k=a L k:=by
 unfold Pf.bind
 cases a L k with
 | error e=>rfl
 | ok x=>rfl
def ifP {α:Type} (l:List UInt8) (a b:Pf α):Pf α:=fun L k=>if passedP l L k then a L (k+1) else b L k
theorem ifP_yes {α:Type} {l:List UInt8} {a b:Pf α} {L:List (Wd × Nat)} {k:Nat} (h:passedP l L k=true):ifP l a b L k=a L (k+1):=by unfold ifP;rw [h,if_pos rfl]
theorem ifP_no {α:Type} {l:List UInt8} {a b:Pf α} {L:List (Wd × Nat)} {k:Nat} (h:passedP l L k=false):ifP l a b L k=b L k:=by unfold ifP;rw [h,if_neg (by decide)]
theorem passed_two {w W:World} {p q:Nat} {L:List (Wd × Nat)} {k:Nat} {dm sm:Value} (h:Rp w W p q L k dm sm) (hL:OkL L) (l:List UInt8) (hl:l ≠ []) (T:ByteArray) (hT:T=txt l) :
  Calls Tryz.prog 113 #[.pointer (some ⟨p,0,none⟩),.string T] W fun e w'=>(passedP l L k=true∧e=.returned (.bool true)∧Rp W w' p q L (k+1) dm sm) ∨ (passedP l L k=false∧e=.returned (.bool false)∧Rp W w' p q L k dm sm):=by
 subst hT
 refine (passed_any h.here hL l hl).mono ?_
 rintro e w' ⟨rfl,hr⟩
 cases hp:passedP l L k with
 | true=>rw [hp] at hr;exact .inl ⟨rfl,rfl,hr⟩
 | false=>rw [hp] at hr;exact .inr ⟨rfl,rfl,hr⟩
theorem pass_lay {w W:World} {p q:Nat} {L:List (Wd × Nat)} {k:Nat} {dm sm:Value} (h:Rp w W p q L k dm sm) (hL:OkL L) (ls:List (List UInt8)) (hl:∀ l ∈ ls,l ≠ []) (hn:ls.length≤1000) (cs:Array Value) (hc:cs=(ls.map fun l=>Value.string (txt l)).toArray) (t:TypeId) (b n:Nat) (hb:b=W.heap.size) (hnn:n=ls.length) :
  Calls Tryz.prog 68 #[.pointer (some ⟨p,0,none⟩),.slice (some ⟨b,0,none⟩) n n] (W.alloc (.cells cs t)) fun e w'=>PostP (passP ls L k) NoV W p q L dm sm e w':=by
 subst hc hb hnn
 have hp:p < W.heap.size:=Nat.lt_of_lt_of_le h.pl h.fr.size
 have h1:Rp W (W.alloc (.cells (ls.map fun l=>Value.string (txt l)).toArray t)) p q L k dm sm:=h.here.next ((Below.refl _ _).alloc (Nat.le_refl _) _)
 refine (pass_any h1.here hL ls hl hn W.heap.size ls.length (fun i hi=>?_) (by omega)).mono fun e w' hp2=>PostP.lift noV_ok h1 hp2
 rw [World.cell?_alloc_new]
 simp [hi]
theorem Sp.b0 {w W:World} {p q:Nat} {L:List (Wd × Nat)} {k:Nat} {dm sm:Value} {B:List (Nat × Obj)} {K:Kp} {b:Nat} {o:Obj} (s:Sp w W p q L k dm sm ((b,o) :: B) K):W.heap[b]? = some o:=(s.bl (b,o) (by simp)).2
theorem Sp.l0 {w W:World} {p q:Nat} {L:List (Wd × Nat)} {k:Nat} {dm sm:Value} {B:List (Nat × Obj)} {K:Kp} {b:Nat} {o:Obj} (s:Sp w W p q L k dm sm ((b,o) :: B) K):Bn w W b:=⟨(s.bl (b,o) (by simp)).1,s.lt (b,o) (by simp)⟩
theorem Sp.set0 {w W:World} {p q:Nat} {L:List (Wd × Nat)} {k:Nat} {dm sm:Value} {B:List (Nat × Obj)} {K:Kp} {b:Nat} {cs:Array Value} {t:TypeId} (s:Sp w W p q L k dm sm ((b,.cells cs t (0,0)) :: B) K) (i:Nat) (u:Value):Sp w (W.setCell ⟨b,i,none⟩ u) p q L k dm sm ((b,.cells (cs.setIfInBounds i u) t (0,0)) :: B) K:=Sp.set (B1:=[]) s i u
theorem Sp.fill0 {w W:World} {p q:Nat} {L:List (Wd × Nat)} {k:Nat} {dm sm:Value} {B:List (Nat × Obj)} {K:Kp} {b:Nat} {cs:Array Value} {t:TypeId} (s:Sp w W p q L k dm sm ((b,.cells cs t (0,0)) :: B) K) (us:List Value) (hs:cs.size=us.length):Sp w (setAll b W 0 us) p q L k dm sm ((b,.cells us.toArray t (0,0)) :: B) K:=Sp.fill (B1:=[]) s us hs
theorem Sp.b1 {w W:World} {p q:Nat} {L:List (Wd × Nat)} {k:Nat} {dm sm:Value} {x0:Nat × Obj} {B:List (Nat × Obj)} {K:Kp} {b:Nat} {o:Obj} (s:Sp w W p q L k dm sm (x0 :: (b,o) :: B) K):W.heap[b]? = some o:=(s.bl (b,o) (by simp)).2
theorem Sp.l1 {w W:World} {p q:Nat} {L:List (Wd × Nat)} {k:Nat} {dm sm:Value} {x0:Nat × Obj} {B:List (Nat × Obj)} {K:Kp} {b:Nat} {o:Obj} (s:Sp w W p q L k dm sm (x0 :: (b,o) :: B) K):Bn w W b:=⟨(s.bl (b,o) (by simp)).1,s.lt (b,o) (by simp)⟩
theorem Sp.set1 {w W:World} {p q:Nat} {L:List (Wd × Nat)} {k:Nat} {dm sm:Value} {x0:Nat × Obj} {B:List (Nat × Obj)} {K:Kp} {b:Nat} {cs:Array Value} {t:TypeId} (s:Sp w W p q L k dm sm (x0 :: (b,.cells cs t (0,0)) :: B) K) (i:Nat) (u:Value):Sp w (W.setCell ⟨b,i,none⟩ u) p q L k dm sm (x0 :: (b,.cells (cs.setIfInBounds i u) t (0,0)) :: B) K:=Sp.set (B1:=[x0]) s i u
theorem Sp.fill1 {w W:World} {p q:Nat} {L:List (Wd × Nat)} {k:Nat} {dm sm:Value} {x0:Nat × Obj} {B:List (Nat × Obj)} {K:Kp} {b:Nat} {cs:Array Value} {t:TypeId} (s:Sp w W p q L k dm sm (x0 :: (b,.cells cs t (0,0)) :: B) K) (us:List Value) (hs:cs.size=us.length):Sp w (setAll b W 0 us) p q L k dm sm (x0 :: (b,.cells us.toArray t (0,0)) :: B) K:=Sp.fill (B1:=[x0]) s us hs
theorem Sp.b2 {w W:World} {p q:Nat} {L:List (Wd × Nat)} {k:Nat} {dm sm:Value} {x0 x1:Nat × Obj} {B:List (Nat × Obj)} {K:Kp} {b:Nat} {o:Obj} (s:Sp w W p q L k dm sm (x0 :: x1 :: (b,o) :: B) K):W.heap[b]? = some o:=(s.bl (b,o) (by simp)).2
theorem Sp.set2 {w W:World} {p q:Nat} {L:List (Wd × Nat)} {k:Nat} {dm sm:Value} {x0 x1:Nat × Obj} {B:List (Nat × Obj)} {K:Kp} {b:Nat} {cs:Array Value} {t:TypeId} (s:Sp w W p q L k dm sm (x0 :: x1 :: (b,.cells cs t (0,0)) :: B) K) (i:Nat) (u:Value):Sp w (W.setCell ⟨b,i,none⟩ u) p q L k dm sm (x0 :: x1 :: (b,.cells (cs.setIfInBounds i u) t (0,0)) :: B) K:=Sp.set (B1:=[x0,x1]) s i u
theorem Sp.fill2 {w W:World} {p q:Nat} {L:List (Wd × Nat)} {k:Nat} {dm sm:Value} {x0 x1:Nat × Obj} {B:List (Nat × Obj)} {K:Kp} {b:Nat} {cs:Array Value} {t:TypeId} (s:Sp w W p q L k dm sm (x0 :: x1 :: (b,.cells cs t (0,0)) :: B) K) (us:List Value) (hs:cs.size=us.length):Sp w (setAll b W 0 us) p q L k dm sm (x0 :: x1 :: (b,.cells us.toArray t (0,0)) :: B) K:=Sp.fill (B1:=[x0,x1]) s us hs
theorem Sp.b3 {w W:World} {p q:Nat} {L:List (Wd × Nat)} {k:Nat} {dm sm:Value} {x0 x1 x2:Nat × Obj} {B:List (Nat × Obj)} {K:Kp} {b:Nat} {o:Obj} (s:Sp w W p q L k dm sm (x0 :: x1 :: x2 :: (b,o) :: B) K):W.heap[b]? = some o:=(s.bl (b,o) (by simp)).2
theorem Sp.fill3 {w W:World} {p q:Nat} {L:List (Wd × Nat)} {k:Nat} {dm sm:Value} {x0 x1 x2:Nat × Obj} {B:List (Nat × Obj)} {K:Kp} {b:Nat} {cs:Array Value} {t:TypeId} (s:Sp w W p q L k dm sm (x0 :: x1 :: x2 :: (b,.cells cs t (0,0)) :: B) K) (us:List Value) (hs:cs.size=us.length):Sp w (setAll b W 0 us) p q L k dm sm (x0 :: x1 :: x2 :: (b,.cells us.toArray t (0,0)) :: B) K:=Sp.fill (B1:=[x0,x1,x2]) s us hs
theorem Sp.fin {w W:World} {p q:Nat} {L:List (Wd × Nat)} {k:Nat} {dm sm:Value} {B:List (Nat × Obj)} {K:Kp} (s:Sp w W p q L k dm sm B K):K W (Bn w W):=s.ok.mono s.kp (fun _ hb=>hb.1)
theorem lit1 {α:Type} {rep:Rep α} {mk:List Value→Value} {n:Nat} {W:World} {X:Nat→Prop} {b:Nat} {cs:List Value} {t:TypeId} {x:α} (hb:W.heap[b]? = some (.cells cs.toArray t (0,0))) (hX:X b) (hn:cs.length=n) (h:rep W X (mk cs) x):ListR rep mk n W X (.slice (some ⟨b,0,none⟩) 1 1) [x]:=by
 refine ListR.lit (l:=[x]) (css:=[cs]) (t:=t) (by rw [List.flatten_singleton];exact hb) hX rfl (fun i hi hi'=>?_)
 obtain rfl:i=0:=by simp at hi;omega
 exact ⟨hn,h⟩
theorem lit2 {α:Type} {rep:Rep α} {mk:List Value→Value} {n:Nat} {W:World} {X:Nat→Prop} {b:Nat} {cs ds:List Value} {t:TypeId} {x y:α} (hb:W.heap[b]? = some (.cells (cs ++ ds).toArray t (0,0))) (hX:X b) (hn:cs.length=n) (hm:ds.length=n) (h:rep W X (mk cs) x) (h':rep W X (mk ds) y):ListR rep mk n W X (.slice (some ⟨b,0,none⟩) 2 2) [x,y]:=by
 refine ListR.lit (l:=[x,y]) (css:=[cs,ds]) (t:=t) (by simpa using hb) hX rfl (fun i hi hi'=>?_)
 match i,hi with
 | 0,_=>exact ⟨hn,h⟩
 | 1,_=>exact ⟨hm,h'⟩
theorem StrV.eq {W:World} {X:Nat→Prop} {t:ByteArray} {x:List UInt8} (h:StrV W X (.string t) x):t=txt x:=by injection h
theorem IntV.eq {W:World} {X:Nat→Prop} {i:Int} {x:Nat} (h:IntV W X (.int .i64 i) x):i=(x:Int):=by injection h
theorem LitV.eq {W:World} {X:Nat→Prop} {a b c:Int} {x:Nat × Nat} (h:LitV W X (.agg #[.int .i64 a,.int .u64 b,.int .u64 c]) x):a=(x.1:Int)∧b=wHi x.2∧c=wLo x.2:=by
 injection h with h
 have h:=congrArg Array.toList h
 simp only [List.cons.injEq,Value.int.injEq,true_and,and_true] at h
 exact h
end Go.Proofs.YtabkimknlifdoaaGreatDoor
