/- Pieces of the proof: PaU, PaV, PaW, PaZ. -/
import Derived.Test.YtabkimknlifdoaaGreatDoorJ8
import Derived.Deep.LoopGhost
namespace Go.Proofs.YtabkimknlifdoaaGreatDoor
open Go.RowKit
structure Twp (W:World) (bt p:Nat):Prop where
 tws:Tws W bt
 gp:3 ≠ p
 bp:bt ≠ p
theorem Twp.go {W W':World} {bt p q:Nat} {L:List (Wd × Nat)} {k:Nat} {dm sm:Value} (h:Twp W bt p) (hr:Rp W W' p q L k dm sm):Twp W' bt p:=⟨h.tws.fr hr.fr h.gp h.bp,h.gp,h.bp⟩
def lineP (L:List (Wd × Nat)) (k:Nat):Nat:=match L[k]? with
 | some x=>x.2
 | none=>0
def PfOk {α:Type} (F:Nat) (args:Array Value) (p q:Nat) (L:List (Wd × Nat)) (dm sm:Value) (bt k0:Nat) (f:Pf α) (rep:Rep α):Prop:=∀ (W:World) (k':Nat),k0≤k'→Rp W W p q L k' dm sm→Twp W bt p→Calls Tryz.prog F args W fun e w'=>PostP (f L k') rep W p q L dm sm e w'
theorem aheadL {w W:World} {p q:Nat} {L:List (Wd × Nat)} {k:Nat} {dm sm:Value} (h:Rp w W p q L k dm sm) :
  Calls Tryz.prog 17 #[.pointer (some ⟨p,0,none⟩)] W fun e w'=>∃ a b c d f,e=.returned (.agg #[a,b,c,d,f,.int .i64 (lineP L k:Int)])∧Rp W w' p q L k dm sm:=by
 obtain ⟨x,hx,_⟩:=h.word
 refine (ahead_any h.here hx).mono ?_
 rintro e w' ⟨rfl,hb⟩
 have hl:lineP L k=x.2:=by unfold lineP;rw [hx]
 rw [hl]
 exact ⟨_,_,_,_,_,rfl,h.here.next hb⟩
theorem ExR.ten {W:World} {X:Nat→Prop} {v:Value} {x:Ex} (h:ExR W X v x):∃ a0 a1 a2 a3 a4 a5 a6 a7 a8 a9,v=.agg #[a0,a1,a2,a3,a4,a5,a6,a7,a8,a9]:=by
 obtain ⟨va,h1,_⟩:=h.open
 exact ⟨_,_,_,_,_,_,_,_,_,_,h1⟩
theorem ExP.ten {W:World} {X:Nat→Prop} {v:Value} {x:Ex} (h:ExP W X v x):∃ b a0 a1 a2 a3 a4 a5 a6 a7 a8 a9,v=.pointer (some ⟨b,0,none⟩)∧X b∧W.heap[b]? = some (.cells #[a0,a1,a2,a3,a4,a5,a6,a7,a8,a9] 49 (0,0))∧ExR W X (.agg #[a0,a1,a2,a3,a4,a5,a6,a7,a8,a9]) x:=by
 obtain ⟨b,cs,h1,h2,h3,h4⟩:=h
 obtain ⟨a0,a1,a2,a3,a4,a5,a6,a7,a8,a9,e⟩:=h4.ten
 obtain rfl:cs=#[a0,a1,a2,a3,a4,a5,a6,a7,a8,a9]:=by injection e
 exact ⟨b,a0,a1,a2,a3,a4,a5,a6,a7,a8,a9,h1,h2,h3,h4⟩
def exOp (op:Nat) (args:List Ex) (line:Nat):Ex:=⟨op,0,0,[],[],0,0,line,args⟩
theorem exOp_val {W:World} {X:Nat→Prop} {op:Nat} {args:List Ex} {line:Nat} {va:Value} (h:ListR ExR mkAgg 10 W X va args):ExR W X (.agg #[.int .u8 (op:Int),.int .i64 0,.int .u64 0,.int .u64 0,.string ⟨#[]⟩,.string ⟨#[]⟩,.int .i64 0,.int .i64 0,va,.int .i64 (line:Int)]) (exOp op args line):=by
 have h0:wHi 0=0:=by unfold wHi;simp
 have h1:wLo 0=0:=by unfold wLo;simp
 have h:=ExR.mk (W:=W) (X:=X) (x:=exOp op args line) (va:=va) h
 simp only [exC,exOp,h0,h1,mkAgg] at h
 exact h
theorem un_laid {w W:World} {x:Ex} {a0 a1 a2 a3 a4 a5 a6 a7 a8 a9:Value} {op line:Nat} (hw:w.heap.size≤W.heap.size) (h:ExR W (Bn w W) (.agg #[a0,a1,a2,a3,a4,a5,a6,a7,a8,a9]) x) {t:TypeId} {b:Nat} (hb:b=W.heap.size) :
  ExP ((W.alloc (.cells #[a0,a1,a2,a3,a4,a5,a6,a7,a8,a9] t)).alloc (.cells #[.int .u8 (op:Int),.int .i64 0,.int .u64 0,.int .u64 0,.string ⟨#[]⟩,.string ⟨#[]⟩,.int .i64 0,.int .i64 0,.slice (some ⟨b,0,none⟩) 1 1,.int .i64 (line:Int)] 49)) (Bn w ((W.alloc (.cells #[a0,a1,a2,a3,a4,a5,a6,a7,a8,a9] t)).alloc (.cells #[.int .u8 (op:Int),.int .i64 0,.int .u64 0,.int .u64 0,.string ⟨#[]⟩,.string ⟨#[]⟩,.int .i64 0,.int .i64 0,.slice (some ⟨b,0,none⟩) 1 1,.int .i64 (line:Int)] 49))) (.pointer (some ⟨b+1,0,none⟩)) (exOp op [x] line):=by
 subst hb
 have s1:∀ o,(W.alloc o).heap.size=W.heap.size+1:=fun o=>by show (W.heap.push _).size=_;rw [Array.size_push]
 have s2:∀ o o',((W.alloc o).alloc o').heap.size=W.heap.size+2:=fun o o'=>by show ((W.heap.push _).push _).size=_;rw [Array.size_push,Array.size_push]
 have n1:=heap_alloc_new W (.cells #[a0,a1,a2,a3,a4,a5,a6,a7,a8,a9] t)
 generalize hO:(Obj.cells #[a0,a1,a2,a3,a4,a5,a6,a7,a8,a9] t)=o1 at *
 generalize hQ:(Obj.cells #[.int .u8 (op:Int),.int .i64 0,.int .u64 0,.int .u64 0,.string ⟨#[]⟩,.string ⟨#[]⟩,.int .i64 0,.int .i64 0,.slice (some ⟨W.heap.size,0,none⟩) 1 1,.int .i64 (line:Int)] 49)=o2
 have k1:((W.alloc o1).alloc o2).heap[W.heap.size]? = some o1:=(heap_alloc_old _ _ (by rw [s1];omega)).trans n1
 have k2:((W.alloc o1).alloc o2).heap[W.heap.size+1]? = some o2:=by rw [← s1 o1];exact heap_alloc_new _ _
 have hx:ExR ((W.alloc o1).alloc o2) (Bn w ((W.alloc o1).alloc o2)) (.agg #[a0,a1,a2,a3,a4,a5,a6,a7,a8,a9]) x:=by
  refine exRep_ok.frame (exRep_ok.mono h (Y:=Bn w ((W.alloc o1).alloc o2)) fun b hb=>⟨hb.1,by have:=hb.2;rw [s2];omega⟩) (by rw [s2];omega) fun b hb hlt=>?_
  rw [heap_alloc_old _ _ (by rw [s1];omega),heap_alloc_old _ _ hlt]
 refine ⟨W.heap.size+1,_,rfl,⟨by omega,by rw [s2];omega⟩,k2.trans (by rw [← hQ]),?_⟩
 refine exOp_val (ListR.lit (t:=t) (l:=[x]) (css:=[[a0,a1,a2,a3,a4,a5,a6,a7,a8,a9]]) (k1.trans (by rw [← hO];rfl)) ⟨hw,by rw [s2];omega⟩ rfl ?_)
 intro i hi hi'
 obtain rfl:i=0:=by simp at hi;omega
 exact ⟨rfl,hx⟩
def unF (po:Pf Ex):Nat→Pf Ex
 | 0=>fun _ k=>.error k
 | g+1=>fun L k=>if passedP [126] L k then (match unF po g L (k+1) with
  | .error e=>.error e
  | .ok (x,k1)=>.ok (exOp 11 [x] (lineP L k),k1)) else po L k
set_option maxRecDepth 100000 in
set_option maxHeartbeats 2000000 in
theorem unary_ok {p q:Nat} {L:List (Wd × Nat)} {dm sm:Value} {bt k0:Nat} {po:Pf Ex} (hL:OkL L) (HPO:PfOk 231 #[.pointer (some ⟨p,0,none⟩)] p q L dm sm bt k0 po ExP):∀ (g:Nat) (W:World) (k':Nat),k0≤k'→L.length+1≤g+k'→Rp W W p q L k' dm sm→Twp W bt p →
  Calls Tryz.prog 203 #[.pointer (some ⟨p,0,none⟩)] W fun e w'=>PostP (unF po g L k') ExP W p q L dm sm e w':=by
 intro g
 induction g with
 | zero=>intro W k' _ h2 h3 _;have:=h3.kl;omega
 | succ g ih =>
  intro w k h1 h2 h ht
  have HA:=hide (aheadL h)
  have HP:=hide (fun W (r:Rp w W p q L k dm sm)=>passed_any r.here hL [126] (by decide))
  have hT:txt [126]=⟨#[126]⟩:=rfl
  rw [hT] at HP
  have HT:=hide ht
  clear hT
  cases hp:passedP [126] L k with
  | true =>
   rw [hp] at HP
   have HI:=hide (fun W (r:Rp W W p q L (k+1) dm sm) (t:Twp W bt p)=>ih W (k+1) (by omega) (by omega) r t)
   have HE:Hid (∀ e,unF po g L (k+1)=.error e→unF po (g+1) L k=.error e):=fun e he=>by rw [unF];simp only [hp,if_true,he]
   have HO:Hid (∀ x k1,unF po g L (k+1)=.ok (x,k1)→unF po (g+1) L k=.ok (exOp 11 [x] (lineP L k),k1)):=fun x k1 he=>by rw [unF];simp only [hp,if_true,he]
   clear h h1 h2 ht hp ih HPO
   generalize lineP L k=ln at *
   go_enter Tryz.func203,Tryz.ntmps203
   go_wp2_with fail
   refine HA.out.mono ?_
   rintro e w1 ⟨b0,b1,b2,b3,b4,rfl,hr⟩
   have R1:=hide hr
   have HPk:=hide (HP.out _ hr)
   clear hr
   obtain ⟨_,_,_,fl⟩:=fldW b0 b1 b2 b3 b4 (.int .i64 (ln:Int))
   go_wp2_with fail
   refine HPk.out.mono ?_
   rintro e w2 ⟨rfl,hr⟩
   simp only [if_true] at hr
   have R2:=hide (R1.out.from hr)
   have HIk:=hide (HI.out _ R2.out.here (HT.out.go R2.out))
   clear hr
   go_wp2_with fail
   refine HIk.out.mono ?_
   rintro e w3 (⟨x,k1,v,h1,rfl,hv,hr⟩ | ⟨k1,h1,rfl,hr⟩)
   ·obtain ⟨b,a0,a1,a2,a3,a4,a5,a6,a7,a8,a9,rfl,hX,hb,hR⟩:=hv.ten
    have Z3:=hide hb
    have R3:=hide (R2.out.from hr)
    have H1:=hide (HO.out _ _ h1)
    have HX:Hid (ExR w3 (Bn w w3) (.agg #[a0,a1,a2,a3,a4,a5,a6,a7,a8,a9]) x):=exRep_ok.mono hR (fun c hc=>⟨Nat.le_trans R2.out.fr.size hc.1,hc.2⟩)
    clear hr h1 hv hX hb hR HI HE HO
    have c0:=cellA Z3.out 0;have c1:=cellA Z3.out 1;have c2:=cellA Z3.out 2;have c3:=cellA Z3.out 3;have c4:=cellA Z3.out 4;have c5:=cellA Z3.out 5;have c6:=cellA Z3.out 6;have c7:=cellA Z3.out 7;have c8:=cellA Z3.out 8;have c9:=cellA Z3.out 9
    go_wp2
    go_ret
    have hB:=(Below.refl _ w3).alloc (Nat.le_refl _) (.cells #[a0,a1,a2,a3,a4,a5,a6,a7,a8,a9] 49)
    exact .inl ⟨_,_,_,H1.out,rfl,un_laid (op:=11) R3.out.fr.size HX.out rfl,R3.out.next (hB.alloc hB.size _)⟩
   ·have R3:=hide (R2.out.from hr)
    have H1:=hide (HE.out _ h1)
    clear hr h1
    go_wp2
    exact ⟨rfl,.inr ⟨_,H1.out,rfl,R3.out⟩⟩
  | false =>
   rw [hp] at HP
   have HI:=hide (fun W (r:Rp W W p q L k dm sm) (t:Twp W bt p)=>HPO W k h1 r t)
   have HO:Hid (unF po (g+1) L k=po L k):=by unfold Hid;rw [unF];simp only [hp,Bool.false_eq_true,if_false]
   clear h h1 h2 ht hp ih HPO
   go_enter Tryz.func203,Tryz.ntmps203
   go_wp2_with fail
   refine HA.out.mono ?_
   rintro e w1 ⟨b0,b1,b2,b3,b4,rfl,hr⟩
   have R1:=hide hr
   have HPk:=hide (HP.out _ hr)
   clear hr
   obtain ⟨_,_,_,fl⟩:=fldW b0 b1 b2 b3 b4 (.int .i64 (lineP L k:Int))
   go_wp2_with fail
   refine HPk.out.mono ?_
   rintro e w2 ⟨rfl,hr⟩
   simp only [if_false,Bool.false_eq_true] at hr
   have R2:=hide (R1.out.from hr)
   have HIk:=hide (HI.out _ R2.out.here (HT.out.go R2.out))
   clear hr
   go_wp2_with fail
   refine HIk.out.mono ?_
   intro e w3 hq
   have HQ:=hide (PostP.lift exP_ok R2.out hq)
   rcases hq with ⟨x,k1,v,h1,rfl,hv,hr⟩ | ⟨k1,h1,rfl,hr⟩
   ·clear h1 hv hr
    go_wp2
    go_ret
    rw [HO.out]
    exact HQ.out
   ·clear h1 hr
    go_wp2
    refine ⟨rfl,?_⟩
    rw [HO.out]
    exact HQ.out
def Kx (w:World) (m:Nat) (W:World) (va:Value) (l:List Ex):Prop:=ListR ExR mkAgg 10 W (fun b=>w.heap.size≤b∧b < m) va l
theorem Kx.rp {w W W':World} {m p q:Nat} {L:List (Wd × Nat)} {k k':Nat} {dm sm:Value} {va:Value} {l:List Ex} (h:Kx w m W va l) (hr:Rp w W p q L k dm sm) (hr':Rp W W' p q L k' dm sm):Kx w m W' va l :=
 (ListR.ok exRep_ok mkAgg 10).frame h hr'.fr.size fun b hb hlt=>hr'.fr.block b hlt (fun e=>by have:b=p:=e;have:=hr.pl;have:=hb.1;omega)
theorem Kx.set {w W:World} {m b o:Nat} {u:Value} {va:Value} {l:List Ex} (h:Kx w m W va l) (hb:m≤b):Kx w m (W.setCell ⟨b,o,none⟩ u) va l :=
 have hF:Fr (·=b) W (W.setCell ⟨b,o,none⟩ u):=(Fr.refl _ W).set _ _ rfl
 (ListR.ok exRep_ok mkAgg 10).frame h hF.size fun c hc hlt=>hF.block c hlt (fun e=>by have:c=b:=e;have:=hc.2;omega)
theorem laid_op {w W:World} {x:Ex} {a0 a1 a2 a3 a4 a5 a6 a7 a8 a9:Value} (hw:w.heap.size≤W.heap.size) (h:ExR W (Bn w W) (.agg #[a0,a1,a2,a3,a4,a5,a6,a7,a8,a9]) x) (t:TypeId) (o2:Obj) :
  ((W.alloc (.cells #[a0,a1,a2,a3,a4,a5,a6,a7,a8,a9] t)).alloc o2).heap[W.heap.size+1]? = some o2∧Kx w (W.heap.size+1) ((W.alloc (.cells #[a0,a1,a2,a3,a4,a5,a6,a7,a8,a9] t)).alloc o2) (.slice (some ⟨W.heap.size,0,none⟩) 1 1) [x]:=by
 have s1:∀ o,(W.alloc o).heap.size=W.heap.size+1:=fun o=>by show (W.heap.push _).size=_;rw [Array.size_push]
 have s2:∀ o o',((W.alloc o).alloc o').heap.size=W.heap.size+2:=fun o o'=>by show ((W.heap.push _).push _).size=_;rw [Array.size_push,Array.size_push]
 have n1:=heap_alloc_new W (.cells #[a0,a1,a2,a3,a4,a5,a6,a7,a8,a9] t)
 generalize hO:(Obj.cells #[a0,a1,a2,a3,a4,a5,a6,a7,a8,a9] t)=o1 at *
 have k1:((W.alloc o1).alloc o2).heap[W.heap.size]? = some o1:=(heap_alloc_old _ _ (by rw [s1];omega)).trans n1
 have k2:((W.alloc o1).alloc o2).heap[W.heap.size+1]? = some o2:=by rw [← s1 o1];exact heap_alloc_new _ _
 have hx:ExR ((W.alloc o1).alloc o2) (fun b=>w.heap.size≤b∧b < W.heap.size+1) (.agg #[a0,a1,a2,a3,a4,a5,a6,a7,a8,a9]) x:=by
  refine exRep_ok.frame (exRep_ok.mono h (Y:=fun b=>w.heap.size≤b∧b < W.heap.size+1) fun b hb=>⟨hb.1,by have:=hb.2;omega⟩) (by rw [s2];omega) fun b hb hlt=>?_
  rw [heap_alloc_old _ _ (by rw [s1];omega),heap_alloc_old _ _ hlt]
 refine ⟨k2,ListR.lit (t:=t) (l:=[x]) (css:=[[a0,a1,a2,a3,a4,a5,a6,a7,a8,a9]]) (k1.trans (by rw [← hO];rfl)) ⟨hw,by omega⟩ rfl ?_⟩
 intro i hi hi'
 obtain rfl:i=0:=by simp at hi;omega
 exact ⟨rfl,hx⟩
def exCut (x:Ex) (n m line:Nat):Ex:=⟨15,0,0,[],[],n,m,line,[x]⟩
theorem exCut_val {W:World} {X:Nat→Prop} {x:Ex} {n m line:Nat} {va:Value} (h:ListR ExR mkAgg 10 W X va [x]):ExR W X (.agg #[.int .u8 15,.int .i64 0,.int .u64 0,.int .u64 0,.string ⟨#[]⟩,.string ⟨#[]⟩,.int .i64 (n:Int),.int .i64 (m:Int),va,.int .i64 (line:Int)]) (exCut x n m line):=by
 have h0:wHi 0=0:=by unfold wHi;simp
 have h1:wLo 0=0:=by unfold wLo;simp
 have h:=ExR.mk (W:=W) (X:=X) (x:=exCut x n m line) (va:=va) h
 simp only [exC,exCut,h0,h1,mkAgg] at h
 exact h
def cutP:Pf (Nat × Nat):=wholeP.bind fun n=>(passP [[58]]).bind fun _=>wholeP.bind fun m=>(passP [[93]]).bind fun _=>Pf.ret (n,m)
def poF (ln:Nat):Nat→Ex→Pf Ex
 | 0,_=>fun _ k=>.error k
 | g+1,x=>fun L k=>if passedP [91] L k then (match cutP L (k+1) with
  | .error e=>.error e
  | .ok (nm,k1)=>poF ln g (exCut x nm.1 nm.2 ln) L k1) else .ok (x,k)
def postP (pr:Pf Ex):Pf Ex:=fun L k=>match pr L k with
 | .error e=>.error e
 | .ok (x,k1)=>poF (lineP L k) (L.length+1 - k1) x L k1
theorem poF_end {ln g:Nat} {x:Ex} {L:List (Wd × Nat)} {k:Nat} (hg:0 < g) (h:passedP [91] L k=false):poF ln g x L k=.ok (x,k):=by
 obtain ⟨g,rfl⟩:∃ g',g=g'+1:=⟨g - 1,by omega⟩
 rw [poF];simp only [h,Bool.false_eq_true,if_false]
theorem poF_err {ln g e:Nat} {x:Ex} {L:List (Wd × Nat)} {k:Nat} (hg:0 < g) (h:passedP [91] L k=true) (hc:cutP L (k+1)=.error e):poF ln g x L k=.error e:=by
 obtain ⟨g,rfl⟩:∃ g',g=g'+1:=⟨g - 1,by omega⟩
 rw [poF];simp only [h,if_true,hc]
theorem poF_go {ln g n m k1:Nat} {x:Ex} {L:List (Wd × Nat)} {k:Nat} (hg:0 < g) (h:passedP [91] L k=true) (hc:cutP L (k+1)=.ok ((n,m),k1)):poF ln g x L k=poF ln (g - 1) (exCut x n m ln) L k1:=by
 obtain ⟨g,rfl⟩:∃ g',g=g'+1:=⟨g - 1,by omega⟩
 rw [poF];simp only [h,if_true,hc];rfl
theorem wholeP_goes:Goes wholeP:=fun L k x k1 h=>by
 unfold wholeP at h
 split at h
 ·split at h
  ·cases h;omega
  ·cases h
 ·cases h
theorem passP_goes {l:List UInt8} {L:List (Wd × Nat)} {k k1:Nat} (h:passP [l] L k=.ok ((),k1)):k < k1:=by
 rw [passP] at h
 split at h
 ·rw [passP] at h;cases h;omega
 ·cases h
set_option maxRecDepth 100000 in
set_option maxHeartbeats 4000000 in
theorem post_ok {p q:Nat} {L:List (Wd × Nat)} {dm sm:Value} {bt k0:Nat} {pr:Pf Ex} (hL:OkL L) (HPR:PfOk 239 #[.pointer (some ⟨p,0,none⟩)] p q L dm sm bt k0 pr ExP) :
  PfOk 231 #[.pointer (some ⟨p,0,none⟩)] p q L dm sm bt k0 (postP pr) ExP:=by
 intro w k h1 h ht
 have HA:=hide (aheadL h)
 have HB:=hide (fun W k' (r:Rp w W p q L k' dm sm)=>passed_any r.here hL [91] (by decide))
 have hT:txt [91]=⟨#[91]⟩:=rfl
 rw [hT] at HB
 have HW:=hide (fun W k' (r:Rp w W p q L k' dm sm)=>whole_reads r.here hL)
 have HP1:=hide (fun W k' (r:Rp w W p q L k' dm sm) b hb=>pass_one r.here hL [58] (by decide) ⟨#[58]⟩ rfl 9 b hb)
 have HP2:=hide (fun W k' (r:Rp w W p q L k' dm sm) b hb=>pass_one r.here hL [93] (by decide) ⟨#[93]⟩ rfl 9 b hb)
 have HPk:=hide (fun W (r:Rp w W p q L k dm sm)=>HPR W k h1 r.here (ht.go r))
 have HE:Hid (∀ e,pr L k=.error e→postP pr L k=.error e):=fun e he=>by unfold postP;rw [he]
 have HO:Hid (∀ x k1,pr L k=.ok (x,k1)→postP pr L k=poF (lineP L k) (L.length+1 - k1) x L k1):=fun x k1 he=>by unfold postP;rw [he]
 generalize postP pr L k=RR at *
 generalize lineP L k=ln at *
 clear h h1 ht HPR hT
 go_enter Tryz.func231,Tryz.ntmps231
 go_wp2_with fail
 refine HA.out.mono ?_
 rintro e w0 ⟨b0,b1,b2,b3,b4,rfl,hr⟩
 have R0:=hide hr
 have HPkk:=hide (HPk.out _ hr)
 clear hr HPk
 obtain ⟨_,_,_,fl⟩:=fldW b0 b1 b2 b3 b4 (.int .i64 (ln:Int))
 go_wp2_with fail
 refine HPkk.out.mono ?_
 rintro e w0' (⟨x0,k1,v0,h1,rfl,hv,hr⟩ | ⟨k1,h1,rfl,hr⟩)
 ·have RA:=hide (R0.out.from hr)
  have HQ0:=hide (HO.out _ _ h1)
  have HX0:Hid (ExP w0' (Bn w w0') v0 x0):=exP_ok.mono hv (fun c hc=>⟨Nat.le_trans R0.out.fr.size hc.1,hc.2⟩)
  have hkl:=RA.out.kl
  clear hr h1 hv HO HE fl HA HPkk
  go_wp2
  go_loopg [4] (L.length+1 - k1) (fun g v wr=>∃ (v1:Value) (k':Nat) (x:Ex),v1=v∧L.length+1≤g+k'∧Hid (RR=poF ln g x L k')∧Hid (ExP wr (Bn w wr) v1 x)∧Hid (Rp w wr p q L k' dm sm))
  case atStart=>exact ⟨_,k1,x0,rfl,by omega,HQ0.out,HX0.out,RA.out⟩
  case round =>
   obtain ⟨v,k',x,rfl,hg,HQ,HX,HR⟩:=hrel
   have hkl':=HR.out.kl
   have HG:=hide hg
   have hg0:0 < gk:=by omega
   have HG0:=hide hg0
   have HBk:=hide (HB.out _ _ HR.out)
   clear hg hg0 hkl HQ0 HX0 RA
   cases hp:passedP [91] L k' with
   | false =>
    rw [hp] at HBk
    have HF:Hid (RR=.ok (x,k')):=by unfold Hid;rw [HQ.out,poF_end HG0.out hp]
    clear hp HQ
    go_wp2_with fail
    refine HBk.out.mono ?_
    rintro e w1 ⟨rfl,hr⟩
    simp only [if_false,Bool.false_eq_true] at hr
    have HX1:Hid (ExP w1 (Bn w w1) v x):=by
     refine exP_ok.frame (exP_ok.mono HX.out (Y:=Bn w w1) fun c hc=>⟨hc.1,Nat.lt_of_lt_of_le hc.2 hr.fr.size⟩) hr.fr.size fun c hc hlt=>hr.fr.block c hlt (fun e=>by have:c=p:=e;have:=HR.out.pl;have:=hc.1;omega)
    have R1:=hide (HR.out.from hr)
    clear hr HX
    go_wp2
    go_ret
    exact .inl ⟨x,k',_,HF.out,rfl,HX1.out,R1.out⟩
   | true =>
    rw [hp] at HBk
    have HE0:Hid (∀ e,cutP L (k'+1)=.error e→RR=.error e):=fun e he=>by rw [HQ.out,poF_err HG0.out hp he]
    have HO0:Hid (∀ n m k1,cutP L (k'+1)=.ok ((n,m),k1)→RR=poF ln (gk - 1) (exCut x n m ln) L k1):=fun n m k1 he=>by rw [HQ.out,poF_go HG0.out hp he]
    have HE1:Hid (∀ {k1},wholeP L (k'+1)=.error k1→RR=.error k1):=fun {k1} e1=>HE0.out _ (by unfold cutP;simp only [Pf.bind,e1])
    have HE2:Hid (∀ {x1 k1 k2},wholeP L (k'+1)=.ok (x1,k1)→passP [[58]] L k1=.error k2→RR=.error k2):=fun {x1} {k1} {k2} e1 e2=>HE0.out _ (by unfold cutP;simp only [Pf.bind,e1,e2])
    have HE3:Hid (∀ {x1 k1 x2 k2 k3},wholeP L (k'+1)=.ok (x1,k1)→passP [[58]] L k1=.ok (x2,k2)→wholeP L k2=.error k3→RR=.error k3):=fun {x1} {k1} {x2} {k2} {k3} e1 e2 e3=>HE0.out _ (by unfold cutP;simp only [Pf.bind,e1,e2,e3])
    have HE4:Hid (∀ {x1 k1 x2 k2 x3 k3 k4},wholeP L (k'+1)=.ok (x1,k1)→passP [[58]] L k1=.ok (x2,k2)→wholeP L k2=.ok (x3,k3)→passP [[93]] L k3=.error k4→RR=.error k4):=fun {x1} {k1} {x2} {k2} {x3} {k3} {k4} e1 e2 e3 e4=>HE0.out _ (by unfold cutP;simp only [Pf.bind,e1,e2,e3,e4])
    have HO4:Hid (∀ {x1 k1 x2 k2 x3 k3 x4 k4},wholeP L (k'+1)=.ok (x1,k1)→passP [[58]] L k1=.ok (x2,k2)→wholeP L k2=.ok (x3,k3)→passP [[93]] L k3=.ok (x4,k4)→RR=poF ln (gk - 1) (exCut x x1 x3 ln) L k4∧k' < k4):=fun {x1} {k1} {x2} {k2} {x3} {k3} {x4} {k4} e1 e2 e3 e4=>⟨HO0.out _ _ _ (by unfold cutP;simp only [Pf.bind,Pf.ret,e1,e2,e3,e4]),by
     have g1:=wholeP_goes _ _ _ _ e1
     have g2:=passP_goes e2
     have g3:=wholeP_goes _ _ _ _ e3
     have g4:=passP_goes e4
     omega⟩
    clear hp HQ HE0 HO0
    go_wp2_with fail
    refine HBk.out.mono ?_
    rintro e w1 ⟨rfl,hr⟩
    simp only [if_true] at hr
    have HX1:ExP w1 (Bn w w1) v x:=by
     refine exP_ok.frame (exP_ok.mono HX.out (Y:=Bn w w1) fun c hc=>⟨hc.1,Nat.lt_of_lt_of_le hc.2 hr.fr.size⟩) hr.fr.size fun c hc hlt=>hr.fr.block c hlt (fun e=>by have:c=p:=e;have:=HR.out.pl;have:=hc.1;omega)
    have R1:=hide (HR.out.from hr)
    obtain ⟨b,a0,a1,a2,a3,a4,a5,a6,a7,a8,a9,rfl,_,hb,hR⟩:=HX1.ten
    have Z1:=hide hb
    have HL:=laid_op R1.out.fr.size hR 49 (.cells #[.int .u8 15,.int .i64 0,.int .u64 0,.int .u64 0,.string ⟨#[]⟩,.string ⟨#[]⟩,.int .i64 0,.int .i64 0,.slice (some ⟨w1.heap.size,0,none⟩) 1 1,.int .i64 (ln:Int)] 49)
    have hB1:=(Below.refl _ w1).alloc (Nat.le_refl _) (.cells #[a0,a1,a2,a3,a4,a5,a6,a7,a8,a9] 49)
    have R2:=hide (R1.out.next (hB1.alloc hB1.size (.cells #[.int .u8 15,.int .i64 0,.int .u64 0,.int .u64 0,.string ⟨#[]⟩,.string ⟨#[]⟩,.int .i64 0,.int .i64 0,.slice (some ⟨w1.heap.size,0,none⟩) 1 1,.int .i64 (ln:Int)] 49)))
    have Z2:=hide HL.1
    have K2:=hide HL.2
    have HZ:Hid (w.heap.size≤w1.heap.size+1):=Nat.le_succ_of_le R1.out.fr.size
    clear hr HX1 hb hR HL hB1 HX HR
    have c0:=cellA Z1.out 0;have c1:=cellA Z1.out 1;have c2:=cellA Z1.out 2;have c3:=cellA Z1.out 3;have c4:=cellA Z1.out 4;have c5:=cellA Z1.out 5;have c6:=cellA Z1.out 6;have c7:=cellA Z1.out 7;have c8:=cellA Z1.out 8;have c9:=cellA Z1.out 9
    go_wp2_with fail
    refine (HW.out _ _ R2.out).mono ?_
    rintro e w3 (⟨x1,k1,v,h1,rfl,hv,hr⟩ | ⟨k1,h1,rfl,hr⟩)
    ·obtain rfl:v=.int .i64 (x1:Int):=hv
     have Z3:=hide (R2.out.keeps hr Z2.out HZ.out)
     have K3:=hide (K2.out.rp R2.out hr)
     have R3:=hide (R2.out.from hr)
     have H1:=hide h1
     clear hr h1 K2 Z2 c0 c1 c2 c3 c4 c5 c6 c7 c8 c9
     have c6:=cellA Z3.out 6
     have f6:=softA Z3.out 6
     have K4:=hide (K3.out.set (o:=6) (u:=.int .i64 (x1:Int)) (Nat.le_refl _))
     have R4:=hide (R3.out.aside ((Fr.refl _ w3).set ⟨w1.heap.size+1,6,none⟩ (.int .i64 (x1:Int)) rfl) HZ.out)
     have Z4:Hid ((w3.setCell ⟨w1.heap.size+1,6,none⟩ (.int .i64 (x1:Int))).heap[w1.heap.size+1]? = some (.cells #[.int .u8 15,.int .i64 0,.int .u64 0,.int .u64 0,.string ⟨#[]⟩,.string ⟨#[]⟩,.int .i64 (x1:Int),.int .i64 0,.slice (some ⟨w1.heap.size,0,none⟩) 1 1,.int .i64 (ln:Int)] 49 (0,0))):=heap_setCell_same Z3.out _
     clear K3
     go_wp2_with fail
     have hsz:w3.heap.size=(w3.setCell ⟨w1.heap.size+1,6,none⟩ (.int .i64 (x1:Int))).heap.size:=by simp [World.setCell]
     refine (HP1.out _ _ R4.out _ hsz).mono ?_
     clear hsz
     rintro e w5 (⟨x2,k2,v,h2,rfl,hv,hr⟩ | ⟨k2,h2,rfl,hr⟩)
     ·obtain rfl:v=.tuple #[]:=hv
      have Z5:=hide (R4.out.keeps hr Z4.out HZ.out)
      have K5:=hide (K4.out.rp R4.out hr)
      have R5:=hide (R4.out.from hr)
      have H2:=hide h2
      clear hr h2 K4 Z4 Z3 c6 f6
      go_wp2_with fail
      refine (HW.out _ _ R5.out).mono ?_
      rintro e w6 (⟨x3,k3,v,h3,rfl,hv,hr⟩ | ⟨k3,h3,rfl,hr⟩)
      ·obtain rfl:v=.int .i64 (x3:Int):=hv
       have Z6:=hide (R5.out.keeps hr Z5.out HZ.out)
       have K6:=hide (K5.out.rp R5.out hr)
       have R6:=hide (R5.out.from hr)
       have H3:=hide h3
       clear hr h3 K5 Z5
       have c7:=cellA Z6.out 7
       have f7:=softA Z6.out 7
       have K7:=hide (K6.out.set (o:=7) (u:=.int .i64 (x3:Int)) (Nat.le_refl _))
       have R7:=hide (R6.out.aside ((Fr.refl _ w6).set ⟨w1.heap.size+1,7,none⟩ (.int .i64 (x3:Int)) rfl) HZ.out)
       have Z7:Hid ((w6.setCell ⟨w1.heap.size+1,7,none⟩ (.int .i64 (x3:Int))).heap[w1.heap.size+1]? = some (.cells #[.int .u8 15,.int .i64 0,.int .u64 0,.int .u64 0,.string ⟨#[]⟩,.string ⟨#[]⟩,.int .i64 (x1:Int),.int .i64 (x3:Int),.slice (some ⟨w1.heap.size,0,none⟩) 1 1,.int .i64 (ln:Int)] 49 (0,0))):=heap_setCell_same Z6.out _
       clear K6
       go_wp2_with fail
       have hsz:w6.heap.size=(w6.setCell ⟨w1.heap.size+1,7,none⟩ (.int .i64 (x3:Int))).heap.size:=by simp [World.setCell]
       refine (HP2.out _ _ R7.out _ hsz).mono ?_
       clear hsz
       rintro e w8 (⟨x4,k4,v,h4,rfl,hv,hr⟩ | ⟨k4,h4,rfl,hr⟩)
       ·obtain rfl:v=.tuple #[]:=hv
        have Z8:=R7.out.keeps hr Z7.out HZ.out
        have K8:=K7.out.rp R7.out hr
        have R8:=hide (R7.out.from hr)
        have H4:=hide (HO4.out H1.out H2.out H3.out h4)
        have hlt8:=(Array.getElem?_eq_some_iff.1 Z8).1
        have HX8:Hid (ExP w8 (Bn w w8) (.pointer (some ⟨w1.heap.size+1,0,none⟩)) (exCut x x1 x3 ln)):=⟨w1.heap.size+1,_,rfl,⟨HZ.out,hlt8⟩,Z8,exCut_val ((ListR.ok exRep_ok mkAgg 10).mono K8 fun c hc=>⟨hc.1,Nat.lt_trans hc.2 hlt8⟩)⟩
        clear hr h4 Z8 K8 hlt8 c7 f7 Z7 K7 Z6
        go_wp2
        go_roundg (gk - 1)
        case measure=>have:=HG0.out;omega
        case rel=>exact ⟨_,k4,_,rfl,by have:=HG.out;have:=H4.out.2;omega,H4.out.1,HX8.out,R8.out⟩
       ·have R8:=hide (R7.out.from hr)
        have H4:=hide (HE4.out H1.out H2.out H3.out h4)
        clear hr h4
        go_wp2
        exact ⟨rfl,.inr ⟨_,H4.out,rfl,R8.out⟩⟩
      ·have R6:=hide (R5.out.from hr)
       have H3:=hide (HE3.out H1.out H2.out h3)
       clear hr h3
       go_wp2
       exact ⟨rfl,.inr ⟨_,H3.out,rfl,R6.out⟩⟩
     ·have R5:=hide (R4.out.from hr)
      have H2:=hide (HE2.out H1.out h2)
      clear hr h2
      go_wp2
      exact ⟨rfl,.inr ⟨_,H2.out,rfl,R5.out⟩⟩
    ·have R3:=hide (R2.out.from hr)
     have H1:=hide (HE1.out h1)
     clear hr h1
     go_wp2
     exact ⟨rfl,.inr ⟨_,H1.out,rfl,R3.out⟩⟩
 ·have RA:=hide (R0.out.from hr)
  have H1:=hide (HE.out _ h1)
  clear hr h1
  go_wp2
  exact ⟨rfl,.inr ⟨_,H1.out,rfl,RA.out⟩⟩
theorem ExR.forms {W:World} {X:Nat→Prop} {a0 a1 a2 a3 a4 a5 a6 a7 a8 a9:Value} {x:Ex} (h:ExR W X (.agg #[a0,a1,a2,a3,a4,a5,a6,a7,a8,a9]) x):(∃ i,a0=.int .u8 i)∧(∃ i,a1=.int .i64 i)∧(∃ i,a2=.int .u64 i)∧(∃ i,a3=.int .u64 i)∧(∃ t,a4=.string t)∧(∃ t,a5=.string t)∧(∃ i,a6=.int .i64 i)∧(∃ i,a7=.int .i64 i)∧(∃ s n c,a8=.slice s n c)∧∃ i,a9=.int .i64 i:=by
 obtain ⟨va,h1,css,⟨a,cap,h3,_⟩,_⟩:=h.open
 unfold mkAgg exC at h1
 injection h1 with h1
 have h1:=congrArg Array.toList h1
 simp only [List.cons.injEq] at h1
 obtain ⟨rfl,rfl,rfl,rfl,rfl,rfl,rfl,rfl,rfl,rfl,_⟩:=h1
 exact ⟨⟨_,rfl⟩,⟨_,rfl⟩,⟨_,rfl⟩,⟨_,rfl⟩,⟨_,rfl⟩,⟨_,rfl⟩,⟨_,rfl⟩,⟨_,rfl⟩,⟨_,_,_,h3⟩,⟨_,rfl⟩⟩
def ChOk (p q:Nat) (L:List (Wd × Nat)) (dm sm:Value) (bt k0:Nat) (ch:Nat→Pf Ex):Prop:=∀ least:Nat,least≤8→PfOk 167 #[.pointer (some ⟨p,0,none⟩),.int .i64 (least:Int)] p q L dm sm bt k0 (ch least) ExP
set_option maxRecDepth 100000 in
set_option maxHeartbeats 2000000 in
theorem expr_ok {p q:Nat} {L:List (Wd × Nat)} {dm sm:Value} {bt k0:Nat} {ch:Nat→Pf Ex} (HC:ChOk p q L dm sm bt k0 ch) :
  PfOk 112 #[.pointer (some ⟨p,0,none⟩)] p q L dm sm bt k0 (ch 0) ExR:=by
 intro w k h1 h ht
 have R0:=hide (h.next ((Below.refl _ w).alloc (Nat.le_refl _) (.cells #[.int .u8 0,.int .i64 0,.int .u64 0,.int .u64 0,.string ⟨#[]⟩,.string ⟨#[]⟩,.int .i64 0,.int .i64 0,.slice none 0 0,.int .i64 0] 49)))
 have Z0:=hide (heap_alloc_new w (.cells #[.int .u8 0,.int .i64 0,.int .u64 0,.int .u64 0,.string ⟨#[]⟩,.string ⟨#[]⟩,.int .i64 0,.int .i64 0,.slice none 0 0,.int .i64 0] 49))
 have HCk:=hide (HC 0 (by omega) _ k h1 R0.out.here (ht.go R0.out))
 clear HC h h1 ht
 go_enter Tryz.func112,Tryz.ntmps112
 go_wp2_with fail
 refine HCk.out.mono ?_
 rintro e w1 (⟨x,k1,v,h1,rfl,hv,hr⟩ | ⟨k1,h1,rfl,hr⟩)
 ·obtain ⟨b,a0,a1,a2,a3,a4,a5,a6,a7,a8,a9,rfl,hX,hb,hR⟩:=hv.ten
  obtain ⟨⟨i0,rfl⟩,⟨i1,rfl⟩,⟨i2,rfl⟩,⟨i3,rfl⟩,⟨t4,rfl⟩,⟨t5,rfl⟩,⟨i6,rfl⟩,⟨i7,rfl⟩,⟨s8,n8,m8,rfl⟩,⟨i9,rfl⟩⟩:=hR.forms
  have Z1:=hide (R0.out.keeps hr Z0.out (Nat.le_refl _))
  have R1:=hide (R0.out.from hr)
  have H1:=hide h1
  have ZB:=hide hb
  have HX:=hide hR
  have hne:b ≠ w.heap.size:=fun e=>by have:=hX.1;rw [e] at this;have s1:(w.alloc (.cells #[.int .u8 0,.int .i64 0,.int .u64 0,.int .u64 0,.string ⟨#[]⟩,.string ⟨#[]⟩,.int .i64 0,.int .i64 0,.slice none 0 0,.int .i64 0] 49)).heap.size=w.heap.size+1:=by { show (w.heap.push _).size=_;rw [Array.size_push] };omega
  have HNE:=hide hne
  clear hr h1 hv hX hb hR hne
  have d0:=cellA ZB.out 0;have d1:=cellA ZB.out 1;have d2:=cellA ZB.out 2;have d3:=cellA ZB.out 3;have d4:=cellA ZB.out 4;have d5:=cellA ZB.out 5;have d6:=cellA ZB.out 6;have d7:=cellA ZB.out 7;have d8:=cellA ZB.out 8;have d9:=cellA ZB.out 9
  have c0:=cellA Z1.out 0;have c1:=cellA Z1.out 1;have c2:=cellA Z1.out 2;have c3:=cellA Z1.out 3;have c4:=cellA Z1.out 4;have c5:=cellA Z1.out 5;have c6:=cellA Z1.out 6;have c7:=cellA Z1.out 7;have c8:=cellA Z1.out 8;have c9:=cellA Z1.out 9
  have f0:=softA Z1.out 0;have f1:=softA Z1.out 1;have f2:=softA Z1.out 2;have f3:=softA Z1.out 3;have f4:=softA Z1.out 4;have f5:=softA Z1.out 5;have f6:=softA Z1.out 6;have f7:=softA Z1.out 7;have f8:=softA Z1.out 8;have f9:=softA Z1.out 9
  go_wp2
  have hg:=got0 (cs:=[.int .u8 i0,.int .i64 i1,.int .u64 i2,.int .u64 i3,.string t4,.string t5,.int .i64 i6,.int .i64 i7,.slice s8 n8 m8,.int .i64 i9]) Z1.out rfl
  have hF:=fr_all w.heap.size [.int .u8 i0,.int .i64 i1,.int .u64 i2,.int .u64 i3,.string t4,.string t5,.int .i64 i6,.int .i64 i7,.slice s8 n8 m8,.int .i64 i9] w1 0
  have RS:=hide (R1.out.aside hF (Nat.le_refl _))
  have HXS:Hid (ExR (setAll w.heap.size w1 0 [.int .u8 i0,.int .i64 i1,.int .u64 i2,.int .u64 i3,.string t4,.string t5,.int .i64 i6,.int .i64 i7,.slice s8 n8 m8,.int .i64 i9]) (Bn w (setAll w.heap.size w1 0 [.int .u8 i0,.int .i64 i1,.int .u64 i2,.int .u64 i3,.string t4,.string t5,.int .i64 i6,.int .i64 i7,.slice s8 n8 m8,.int .i64 i9])) (.agg #[.int .u8 i0,.int .i64 i1,.int .u64 i2,.int .u64 i3,.string t4,.string t5,.int .i64 i6,.int .i64 i7,.slice s8 n8 m8,.int .i64 i9]) x):=by
   refine exRep_ok.mono (exRep_ok.frame HX.out hF.size fun c hc hlt=>hF.block c hlt (fun e=>?_)) fun c hc=>⟨Nat.le_trans R0.out.fr.size hc.1,Nat.lt_of_lt_of_le hc.2 hF.size⟩
   have e':c=w.heap.size:=e
   have:=hc.1
   rw [e'] at this
   have s1:(w.alloc (.cells #[.int .u8 0,.int .i64 0,.int .u64 0,.int .u64 0,.string ⟨#[]⟩,.string ⟨#[]⟩,.int .i64 0,.int .i64 0,.slice none 0 0,.int .i64 0] 49)).heap.size=w.heap.size+1:=by { show (w.heap.push _).size=_;rw [Array.size_push] }
   omega
  have q0:=cellA hg 0;have q1:=cellA hg 1;have q2:=cellA hg 2;have q3:=cellA hg 3;have q4:=cellA hg 4;have q5:=cellA hg 5;have q6:=cellA hg 6;have q7:=cellA hg 7;have q8:=cellA hg 8;have q9:=cellA hg 9
  simp only [setAll] at q0 q1 q2 q3 q4 q5 q6 q7 q8 q9 RS HXS
  exact bodyPost_ret (v:=.agg #[.int .u8 i0,.int .i64 i1,.int .u64 i2,.int .u64 i3,.string t4,.string t5,.int .i64 i6,.int .i64 i7,.slice s8 n8 m8,.int .i64 i9]) (by simp [results,Tryz.results112,go_sem,q0,q1,q2,q3,q4,q5,q6,q7,q8,q9]) rfl (.inl ⟨_,_,_,H1.out,rfl,HXS.out,RS.out⟩)
 ·have R1:=hide (R0.out.from hr)
  have H1:=hide h1
  clear hr h1
  go_wp2
  exact ⟨rfl,.inr ⟨_,H1.out,rfl,R1.out⟩⟩
theorem ExP.rp {w W W':World} {p q:Nat} {L:List (Wd × Nat)} {k k':Nat} {dm sm:Value} {v:Value} {x:Ex} (h:ExP W (Bn w W) v x) (hr:Rp w W p q L k dm sm) (hr':Rp W W' p q L k' dm sm):ExP W' (Bn w W') v x :=
 exP_ok.frame (exP_ok.mono h (Y:=Bn w W') fun c hc=>⟨hc.1,Nat.lt_of_lt_of_le hc.2 hr'.fr.size⟩) hr'.fr.size fun c hc hlt=>hr'.fr.block c hlt (fun e=>by have:c=p:=e;have:=hr.pl;have:=hc.1;omega)
def exLn (x:Ex) (ln:Nat):Ex:=⟨x.op,x.w,x.v,x.name,x.field,x.n,x.m,ln,x.args⟩
theorem exLn_val {W:World} {X:Nat→Prop} {a0 a1 a2 a3 a4 a5 a6 a7 a8 a9:Value} {x:Ex} (h:ExR W X (.agg #[a0,a1,a2,a3,a4,a5,a6,a7,a8,a9]) x) (ln:Nat):ExR W X (.agg #[a0,a1,a2,a3,a4,a5,a6,a7,a8,.int .i64 (ln:Int)]) (exLn x ln):=by
 obtain ⟨va,h1,h2⟩:=h.open
 unfold mkAgg exC at h1
 injection h1 with h1
 have h1:=congrArg Array.toList h1
 simp only [List.cons.injEq] at h1
 obtain ⟨rfl,rfl,rfl,rfl,rfl,rfl,rfl,rfl,rfl,_,_⟩:=h1
 exact ExR.mk (x:=exLn x ln) h2
theorem box_laid {w W:World} {x:Ex} {cs:Array Value} (hw:w.heap.size≤W.heap.size) (h:ExR W (Bn w W) (.agg cs) x):ExP (W.alloc (.cells cs 49)) (Bn w (W.alloc (.cells cs 49))) (.pointer (some ⟨W.heap.size,0,none⟩)) x:=by
 have s1:(W.alloc (.cells cs 49)).heap.size=W.heap.size+1:=by show (W.heap.push _).size=_;rw [Array.size_push]
 refine ⟨W.heap.size,cs,rfl,⟨hw,by rw [s1];omega⟩,heap_alloc_new W _,?_⟩
 refine exRep_ok.frame (exRep_ok.mono h (Y:=Bn w (W.alloc (.cells cs 49))) fun b hb=>⟨hb.1,by have:=hb.2;rw [s1];omega⟩) (by rw [s1];omega) fun b hb hlt=>heap_alloc_old _ _ hlt
def primP (ch:Nat→Pf Ex) (pl:Pf Ex):Pf Ex:=fun L k=>if passedP [40] L k then ((ch 0).bind fun x=>(passP [[41]]).bind fun _=>Pf.ret x) L (k+1) else (match pl L k with
 | .error e=>.error e
 | .ok (x,k1)=>.ok (exLn x (lineP L k),k1))
set_option maxRecDepth 100000 in
set_option maxHeartbeats 2000000 in
theorem prim_ok {p q:Nat} {L:List (Wd × Nat)} {dm sm:Value} {bt k0:Nat} {ch:Nat→Pf Ex} {pl:Pf Ex} (hL:OkL L) (HC:ChOk p q L dm sm bt (k0+1) ch) (HPL:PfOk 240 #[.pointer (some ⟨p,0,none⟩)] p q L dm sm bt k0 pl ExR) :
  PfOk 239 #[.pointer (some ⟨p,0,none⟩)] p q L dm sm bt k0 (primP ch pl) ExP:=by
 intro w k h1 h ht
 have HB:=hide (passed_any h hL [40] (by decide))
 have hT:txt [40]=⟨#[40]⟩:=rfl
 rw [hT] at HB
 clear hT
 cases hp:passedP [40] L k with
 | true =>
  rw [hp] at HB
  have HCk:=hide (fun W (r:Rp w W p q L (k+1) dm sm)=>HC 0 (by omega) W (k+1) (by omega) r.here (ht.go r))
  have HP1:=hide (fun W k' (r:Rp w W p q L k' dm sm) b hb=>pass_one r.here hL [41] (by decide) ⟨#[41]⟩ rfl 9 b hb)
  have HE1:Hid (∀ {k1},ch 0 L (k+1)=.error k1→primP ch pl L k=.error k1):=fun {k1} e1=>by unfold primP;simp only [hp,if_true,Pf.bind,e1]
  have HE2:Hid (∀ {x1 k1 k2},ch 0 L (k+1)=.ok (x1,k1)→passP [[41]] L k1=.error k2→primP ch pl L k=.error k2):=fun {x1} {k1} {k2} e1 e2=>by unfold primP;simp only [hp,if_true,Pf.bind,e1,e2]
  have HO:Hid (∀ {x1 k1 x2 k2},ch 0 L (k+1)=.ok (x1,k1)→passP [[41]] L k1=.ok (x2,k2)→primP ch pl L k=.ok (x1,k2)):=fun {x1} {k1} {x2} {k2} e1 e2=>by unfold primP;simp only [hp,if_true,Pf.bind,Pf.ret,e1,e2]
  clear hp h h1 ht HC HPL
  go_enter Tryz.func239,Tryz.ntmps239
  go_wp2_with fail
  refine HB.out.mono ?_
  rintro e w1 ⟨rfl,hr⟩
  simp only [if_true] at hr
  have R1:=hide hr
  clear hr
  go_wp2_with fail
  refine (HCk.out _ R1.out).mono ?_
  rintro e w2 (⟨x1,k1,v,h1,rfl,hv,hr⟩ | ⟨k1,h1,rfl,hr⟩)
  ·have R2:=hide (R1.out.from hr)
   have H1:=hide h1
   have X2:Hid (ExP w2 (Bn w w2) v x1):=exP_ok.mono hv (fun c hc=>⟨Nat.le_trans R1.out.fr.size hc.1,hc.2⟩)
   clear hr h1 hv
   go_wp2_with fail
   refine (HP1.out _ _ R2.out _ rfl).mono ?_
   rintro e w3 (⟨x2,k2,v2,h2,rfl,hv,hr⟩ | ⟨k2,h2,rfl,hr⟩)
   ·obtain rfl:v2=.tuple #[]:=hv
    have X3:=hide (X2.out.rp R2.out hr)
    have R3:=hide (R2.out.from hr)
    have H2:=hide (HO.out H1.out h2)
    clear hr h2
    go_wp2
    go_ret
    exact .inl ⟨_,_,_,H2.out,rfl,X3.out,R3.out⟩
   ·have R3:=hide (R2.out.from hr)
    have H2:=hide (HE2.out H1.out h2)
    clear hr h2
    go_wp2
    exact ⟨rfl,.inr ⟨_,H2.out,rfl,R3.out⟩⟩
  ·have R2:=hide (R1.out.from hr)
   have H1:=hide (HE1.out h1)
   clear hr h1
   go_wp2
   exact ⟨rfl,.inr ⟨_,H1.out,rfl,R2.out⟩⟩
 | false =>
  rw [hp] at HB
  have HA:=hide (fun W (r:Rp w W p q L k dm sm)=>aheadL r)
  have HPk:=hide (fun W (r:Rp w W p q L k dm sm)=>HPL W k h1 r.here (ht.go r))
  have HE1:Hid (∀ {k1},pl L k=.error k1→primP ch pl L k=.error k1):=fun {k1} e1=>by unfold primP;simp only [hp,Bool.false_eq_true,if_false,e1]
  have HO:Hid (∀ {x1 k1},pl L k=.ok (x1,k1)→primP ch pl L k=.ok (exLn x1 (lineP L k),k1)):=fun {x1} {k1} e1=>by unfold primP;simp only [hp,Bool.false_eq_true,if_false,e1]
  clear hp h h1 ht HC HPL
  generalize lineP L k=ln at *
  go_enter Tryz.func239,Tryz.ntmps239
  go_wp2_with fail
  refine HB.out.mono ?_
  rintro e w1 ⟨rfl,hr⟩
  simp only [if_false,Bool.false_eq_true] at hr
  have R1:=hide hr
  clear hr
  go_wp2_with fail
  refine (HA.out _ R1.out).mono ?_
  rintro e w2 ⟨b0,b1,b2,b3,b4,rfl,hr⟩
  have R2:=hide (R1.out.from hr)
  clear hr
  obtain ⟨_,_,_,fl⟩:=fldW b0 b1 b2 b3 b4 (.int .i64 (ln:Int))
  go_wp2_with fail
  refine (HPk.out _ R2.out).mono ?_
  rintro e w3 (⟨x1,k1,v,h1,rfl,hv,hr⟩ | ⟨k1,h1,rfl,hr⟩)
  ·obtain ⟨a0,a1,a2,a3,a4,a5,a6,a7,a8,a9,rfl⟩:=hv.ten
   obtain ⟨⟨i0,rfl⟩,⟨i1,rfl⟩,⟨i2,rfl⟩,⟨i3,rfl⟩,⟨t4,rfl⟩,⟨t5,rfl⟩,⟨i6,rfl⟩,⟨i7,rfl⟩,⟨s8,n8,m8,rfl⟩,⟨i9,rfl⟩⟩:=hv.forms
   have R3:=hide (R2.out.from hr)
   have H1:=hide (HO.out h1)
   have X3:Hid (ExR w3 (Bn w w3) (.agg #[.int .u8 i0,.int .i64 i1,.int .u64 i2,.int .u64 i3,.string t4,.string t5,.int .i64 i6,.int .i64 i7,.slice s8 n8 m8,.int .i64 i9]) x1):=exRep_ok.mono hv (fun c hc=>⟨Nat.le_trans R2.out.fr.size hc.1,hc.2⟩)
   clear hr h1 hv
   go_wp2
   go_ret
   exact .inl ⟨_,_,_,H1.out,rfl,box_laid R3.out.fr.size (exLn_val X3.out ln),R3.out.next ((Below.refl _ _).alloc (Nat.le_refl _) _)⟩
  ·have R3:=hide (R2.out.from hr)
   have H1:=hide (HE1.out h1)
   clear hr h1
   go_wp2
   exact ⟨rfl,.inr ⟨_,H1.out,rfl,R3.out⟩⟩
end Go.Proofs.YtabkimknlifdoaaGreatDoor
