/- Pieces of the proof: PaCa. -/
import Derived.Test.YtabkimknlifdoaaGreatDoorJ9
namespace Go.Proofs.YtabkimknlifdoaaGreatDoor
open Go.RowKit
theorem Kx.low {w W:World} {m b o:Nat} {u:Value} {va:Value} {l:List Ex} (h:Kx w m W va l) (hb:b < w.heap.size):Kx w m (W.setCell ⟨b,o,none⟩ u) va l :=
 have hF:Fr (·=b) W (W.setCell ⟨b,o,none⟩ u):=(Fr.refl _ W).set _ _ rfl
 (ListR.ok exRep_ok mkAgg 10).frame h hF.size fun c hc hlt=>hF.block c hlt (fun e=>by have:c=b:=e;have:=hc.1;omega)
theorem Kx.lows {w W:World} {m b:Nat} {cs:List Value} {va:Value} {l:List Ex} (h:Kx w m W va l) (hb:b < w.heap.size):Kx w m (setAll b W 0 cs) va l :=
 have hF:=fr_all b cs W 0
 (ListR.ok exRep_ok mkAgg 10).frame h hF.size fun c hc hlt=>hF.block c hlt (fun e=>by have:c=b:=e;have:=hc.1;omega)
theorem Kx.rq {w W W':World} {m p q:Nat} {L:List (Wd × Nat)} {k':Nat} {dm sm:Value} {va:Value} {l:List Ex} (h:Kx w m W va l) (hp:p < w.heap.size) (hr':Rp W W' p q L k' dm sm):Kx w m W' va l :=
 (ListR.ok exRep_ok mkAgg 10).frame h hr'.fr.size fun b hb hlt=>hr'.fr.block b hlt (fun e=>by have:b=p:=e;have:=hb.1;omega)
theorem laid_set {w W:World} {x:Ex} {a0 a1 a2 a3 a4 a5 a6 a7 a8 a9:Value} (hw:w.heap.size≤W.heap.size) (h:ExR W (Bn w W) (.agg #[a0,a1,a2,a3,a4,a5,a6,a7,a8,a9]) x) (t:TypeId) (b o:Nat) (u:Value) (hb:b < w.heap.size) :
  Kx w (W.heap.size+1) ((W.setCell ⟨b,o,none⟩ u).alloc (.cells #[a0,a1,a2,a3,a4,a5,a6,a7,a8,a9] t)) (.slice (some ⟨W.heap.size,0,none⟩) 1 1) [x]:=by
 have hz:(W.setCell ⟨b,o,none⟩ u).heap.size=W.heap.size:=by simp [World.setCell]
 have hF:Fr (·=b) W (W.setCell ⟨b,o,none⟩ u):=(Fr.refl _ W).set _ _ rfl
 have s1:∀ ob,((W.setCell ⟨b,o,none⟩ u).alloc ob).heap.size=W.heap.size+1:=fun ob=>by show ((W.setCell ⟨b,o,none⟩ u).heap.push _).size=_;rw [Array.size_push,hz]
 have n1:=heap_alloc_new (W.setCell ⟨b,o,none⟩ u) (.cells #[a0,a1,a2,a3,a4,a5,a6,a7,a8,a9] t)
 rw [hz] at n1
 refine ListR.lit (t:=t) (l:=[x]) (css:=[[a0,a1,a2,a3,a4,a5,a6,a7,a8,a9]]) n1 ⟨hw,by omega⟩ rfl ?_
 intro i hi hi'
 obtain rfl:i=0:=by simp at hi;omega
 refine ⟨rfl,exRep_ok.frame (exRep_ok.mono h (Y:=fun b=>w.heap.size≤b∧b < W.heap.size+1) fun b hb=>⟨hb.1,by have:=hb.2;omega⟩) (by rw [s1];omega) fun c hc hlt=>?_⟩
 rw [heap_alloc_old _ _ (by rw [hz];exact hlt)]
 exact hF.block c hlt (fun e=>by have:c=b:=e;have:=hc.1;omega)
theorem laid_one {w W:World} {x:Ex} {a0 a1 a2 a3 a4 a5 a6 a7 a8 a9:Value} (hw:w.heap.size≤W.heap.size) (h:ExR W (Bn w W) (.agg #[a0,a1,a2,a3,a4,a5,a6,a7,a8,a9]) x) (t:TypeId) :
  Kx w (W.heap.size+1) (W.alloc (.cells #[a0,a1,a2,a3,a4,a5,a6,a7,a8,a9] t)) (.slice (some ⟨W.heap.size,0,none⟩) 1 1) [x]:=by
 have s1:∀ o,(W.alloc o).heap.size=W.heap.size+1:=fun o=>by show (W.heap.push _).size=_;rw [Array.size_push]
 have n1:=heap_alloc_new W (.cells #[a0,a1,a2,a3,a4,a5,a6,a7,a8,a9] t)
 refine ListR.lit (t:=t) (l:=[x]) (css:=[[a0,a1,a2,a3,a4,a5,a6,a7,a8,a9]]) n1 ⟨hw,by omega⟩ rfl ?_
 intro i hi hi'
 obtain rfl:i=0:=by simp at hi;omega
 refine ⟨rfl,exRep_ok.frame (exRep_ok.mono h (Y:=fun b=>w.heap.size≤b∧b < W.heap.size+1) fun b hb=>⟨hb.1,by have:=hb.2;omega⟩) (by rw [s1];omega) fun b hb hlt=>heap_alloc_old _ _ hlt⟩
def exCast (x:Ex) (n:Nat):Ex:=⟨16,0,0,[],[],n,0,0,[x]⟩
theorem exCast_val {W:World} {X:Nat→Prop} {x:Ex} {n:Nat} {va:Value} (h:ListR ExR mkAgg 10 W X va [x]):ExR W X (.agg #[.int .u8 16,.int .i64 0,.int .u64 0,.int .u64 0,.string ⟨#[]⟩,.string ⟨#[]⟩,.int .i64 (n:Int),.int .i64 0,va,.int .i64 0]) (exCast x n):=by
 have h0:wHi 0=0:=by unfold wHi;simp
 have h1:wLo 0=0:=by unfold wLo;simp
 have h:=ExR.mk (W:=W) (X:=X) (x:=exCast x n) (va:=va) h
 simp only [exC,exCast,h0,h1,mkAgg] at h
 exact h
def castP (ex:Pf Ex):Pf Ex:=wholeP.bind fun n=>(passP [[40]]).bind fun _=>ex.bind fun x=>(passP [[41]]).bind fun _=>Pf.ret (exCast x n)
set_option maxRecDepth 100000 in
set_option maxHeartbeats 4000000 in
theorem cast_ok {p q:Nat} {L:List (Wd × Nat)} {dm sm:Value} {bt k0:Nat} {ex:Pf Ex} (hL:OkL L) (HX:PfOk 112 #[.pointer (some ⟨p,0,none⟩)] p q L dm sm bt k0 ex ExR) :
  PfOk 241 #[.pointer (some ⟨p,0,none⟩)] p q L dm sm bt k0 (castP ex) ExR:=by
 intro w k h1 h ht
 have s1:∀ (W:World) o,(W.alloc o).heap.size=W.heap.size+1:=fun W o=>by show (W.heap.push _).size=_;rw [Array.size_push]
 have HS:=hide s1
 have R0:=hide (h.next ((Below.refl _ w).alloc (Nat.le_refl _) (.cells #[.int .u8 0,.int .i64 0,.int .u64 0,.int .u64 0,.string ⟨#[]⟩,.string ⟨#[]⟩,.int .i64 0,.int .i64 0,.slice none 0 0,.int .i64 0] 49)))
 have Z0:=hide (heap_alloc_new w (.cells #[.int .u8 0,.int .i64 0,.int .u64 0,.int .u64 0,.string ⟨#[]⟩,.string ⟨#[]⟩,.int .i64 0,.int .i64 0,.slice none 0 0,.int .i64 0] 49))
 have HW:=hide (fun W k' (r:Rp w W p q L k' dm sm)=>whole_reads r.here hL)
 have HP1:=hide (fun W k' (r:Rp w W p q L k' dm sm) b hb=>pass_one r.here hL [40] (by decide) ⟨#[40]⟩ rfl 9 b hb)
 have HP2:=hide (fun W k' (r:Rp w W p q L k' dm sm) b hb=>pass_one r.here hL [41] (by decide) ⟨#[41]⟩ rfl 9 b hb)
 have HEx:=hide (fun W k' (hk:k≤k') (r:Rp w W p q L k' dm sm)=>HX W k' (Nat.le_trans h1 hk) r.here (ht.go r))
 have HE1:Hid (∀ {k1},wholeP L k=.error k1→castP ex L k=.error k1):=fun {k1} e1=>by unfold castP;simp only [Pf.bind,e1]
 have HE2:Hid (∀ {x1 k1 k2},wholeP L k=.ok (x1,k1)→passP [[40]] L k1=.error k2→castP ex L k=.error k2):=fun {x1} {k1} {k2} e1 e2=>by unfold castP;simp only [Pf.bind,e1,e2]
 have HE3:Hid (∀ {x1 k1 x2 k2 k3},wholeP L k=.ok (x1,k1)→passP [[40]] L k1=.ok (x2,k2)→ex L k2=.error k3→castP ex L k=.error k3):=fun {x1} {k1} {x2} {k2} {k3} e1 e2 e3=>by unfold castP;simp only [Pf.bind,e1,e2,e3]
 have HE4:Hid (∀ {x1 k1 x2 k2 x3 k3 k4},wholeP L k=.ok (x1,k1)→passP [[40]] L k1=.ok (x2,k2)→ex L k2=.ok (x3,k3)→passP [[41]] L k3=.error k4→castP ex L k=.error k4):=fun {x1} {k1} {x2} {k2} {x3} {k3} {k4} e1 e2 e3 e4=>by unfold castP;simp only [Pf.bind,e1,e2,e3,e4]
 have HO:Hid (∀ {x1 k1 x2 k2 x3 k3 x4 k4},wholeP L k=.ok (x1,k1)→passP [[40]] L k1=.ok (x2,k2)→ex L k2=.ok (x3,k3)→passP [[41]] L k3=.ok (x4,k4)→castP ex L k=.ok (exCast x3 x1,k4)):=fun {x1} {k1} {x2} {k2} {x3} {k3} {x4} {k4} e1 e2 e3 e4=>by unfold castP;simp only [Pf.bind,Pf.ret,e1,e2,e3,e4]
 have HK:Hid (∀ {x1 k1 x2 k2},wholeP L k=.ok (x1,k1)→passP [[40]] L k1=.ok (x2,k2)→k≤k2):=fun {x1} {k1} {x2} {k2} e1 e2=>by
  have g1:=wholeP_goes _ _ _ _ e1
  have g2:=passP_goes e2
  omega
 generalize castP ex L k=RR at *
 clear h h1 ht HX s1
 go_enter Tryz.func241,Tryz.ntmps241
 go_wp2_with fail
 refine (HW.out _ _ R0.out).mono ?_
 rintro e w1 (⟨x1,k1,v,h1,rfl,hv,hr⟩ | ⟨k1,h1,rfl,hr⟩)
 ·obtain rfl:v=.int .i64 (x1:Int):=hv
  have hB1:=(Below.refl _ w1).alloc (Nat.le_refl _) (.cells #[.int .u8 16,.int .i64 0,.int .u64 0,.int .u64 0,.string ⟨#[]⟩,.string ⟨#[]⟩,.int .i64 (x1:Int),.int .i64 0,.slice none 0 0,.int .i64 0] 49)
  have R1:=hide ((R0.out.from hr).next hB1)
  have ZR1:=hide ((hB1.block w.heap.size (Array.getElem?_eq_some_iff.1 (R0.out.keeps hr Z0.out (Nat.le_refl _))).1).trans (R0.out.keeps hr Z0.out (Nat.le_refl _)))
  have ZX1:=hide (heap_alloc_new w1 (.cells #[.int .u8 16,.int .i64 0,.int .u64 0,.int .u64 0,.string ⟨#[]⟩,.string ⟨#[]⟩,.int .i64 (x1:Int),.int .i64 0,.slice none 0 0,.int .i64 0] 49))
  have HN:Hid (w.heap.size < w1.heap.size):=(Array.getElem?_eq_some_iff.1 (R0.out.keeps hr Z0.out (Nat.le_refl _))).1
  have H1:=hide h1
  clear hr h1 hB1
  go_wp2_with fail
  have hsz:w1.heap.size+1=(w1.alloc (.cells #[.int .u8 16,.int .i64 0,.int .u64 0,.int .u64 0,.string ⟨#[]⟩,.string ⟨#[]⟩,.int .i64 (x1:Int),.int .i64 0,.slice none 0 0,.int .i64 0] 49)).heap.size:=(HS.out _ _).symm
  refine (HP1.out _ _ R1.out _ hsz).mono ?_
  clear hsz
  rintro e w3 (⟨x2,k2,v,h2,rfl,hv,hr⟩ | ⟨k2,h2,rfl,hr⟩)
  ·obtain rfl:v=.tuple #[]:=hv
   have R3:=hide (R1.out.from hr)
   have ZR3:=hide (R1.out.keeps hr ZR1.out (Nat.le_refl _))
   have ZX3:=hide (R1.out.keeps hr ZX1.out (Nat.le_of_lt HN.out))
   have H2:=hide h2
   clear hr h2 ZR1 ZX1
   have HE:=hide (HEx.out _ _ (HK.out H1.out H2.out) R3.out)
   go_wp2_with fail
   refine HE.out.mono ?_
   rintro e w4 (⟨x3,k3,v,h3,rfl,hv,hr⟩ | ⟨k3,h3,rfl,hr⟩)
   ·obtain ⟨a0,a1,a2,a3,a4,a5,a6,a7,a8,a9,rfl⟩:=hv.ten
    obtain ⟨⟨i0,rfl⟩,⟨i1,rfl⟩,⟨i2,rfl⟩,⟨i3,rfl⟩,⟨t4,rfl⟩,⟨t5,rfl⟩,⟨i6,rfl⟩,⟨i7,rfl⟩,⟨s8,n8,m8,rfl⟩,⟨i9,rfl⟩⟩:=hv.forms
    have hX3:=(Array.getElem?_eq_some_iff.1 ZX3.out).1
    have hR3:=(Array.getElem?_eq_some_iff.1 ZR3.out).1
    have ZX4:=R3.out.keeps hr ZX3.out (Nat.le_of_lt HN.out)
    have ZR4:=R3.out.keeps hr ZR3.out (Nat.le_refl _)
    have hz5:(w4.setCell ⟨w1.heap.size,8,none⟩ (.slice (some ⟨w4.heap.size,0,none⟩) 1 1)).heap.size=w4.heap.size:=by simp [World.setCell]
    have hF5:Fr (·=w1.heap.size) w4 (w4.setCell ⟨w1.heap.size,8,none⟩ (.slice (some ⟨w4.heap.size,0,none⟩) 1 1)):=(Fr.refl _ w4).set _ _ rfl
    have hlt4:w1.heap.size < w4.heap.size:=Nat.lt_of_lt_of_le hX3 hr.fr.size
    have ZX5:Hid (((w4.setCell ⟨w1.heap.size,8,none⟩ (.slice (some ⟨w4.heap.size,0,none⟩) 1 1)).alloc (.cells #[.int .u8 i0,.int .i64 i1,.int .u64 i2,.int .u64 i3,.string t4,.string t5,.int .i64 i6,.int .i64 i7,.slice s8 n8 m8,.int .i64 i9] 49)).heap[w1.heap.size]? = some (.cells #[.int .u8 16,.int .i64 0,.int .u64 0,.int .u64 0,.string ⟨#[]⟩,.string ⟨#[]⟩,.int .i64 (x1:Int),.int .i64 0,.slice (some ⟨w4.heap.size,0,none⟩) 1 1,.int .i64 0] 49 (0,0))):=(heap_alloc_old _ _ (by rw [hz5];exact hlt4)).trans (heap_setCell_same ZX4 _)
    have ZR5:=hide ((heap_alloc_old (w4.setCell ⟨w1.heap.size,8,none⟩ (.slice (some ⟨w4.heap.size,0,none⟩) 1 1)) (.cells #[.int .u8 i0,.int .i64 i1,.int .u64 i2,.int .u64 i3,.string t4,.string t5,.int .i64 i6,.int .i64 i7,.slice s8 n8 m8,.int .i64 i9] 49) (r:=w.heap.size) (by rw [hz5];exact Nat.lt_trans HN.out hlt4)).trans ((hF5.block _ (Nat.lt_trans HN.out hlt4) (fun e=>by have e':w.heap.size=w1.heap.size:=e;have:=HN.out;omega)).trans ZR4))
    have K5:=hide (laid_set hr.fr.size hv 49 w1.heap.size 8 (.slice (some ⟨w4.heap.size,0,none⟩) 1 1) hX3)
    have R5:=hide (((R3.out.from hr).aside hF5 (Nat.le_of_lt HN.out)).next ((Below.refl _ _).alloc (Nat.le_refl _) (.cells #[.int .u8 i0,.int .i64 i1,.int .u64 i2,.int .u64 i3,.string t4,.string t5,.int .i64 i6,.int .i64 i7,.slice s8 n8 m8,.int .i64 i9] 49)))
    have g8:=cellA ZX4 8
    have e8:=softA ZX4 8
    have HP3:Hid (p < w3.heap.size):=hr.pl
    have hs5:w4.heap.size+1=((w4.setCell ⟨w1.heap.size,8,none⟩ (.slice (some ⟨w4.heap.size,0,none⟩) 1 1)).alloc (.cells #[.int .u8 i0,.int .i64 i1,.int .u64 i2,.int .u64 i3,.string t4,.string t5,.int .i64 i6,.int .i64 i7,.slice s8 n8 m8,.int .i64 i9] 49)).heap.size:=by rw [HS.out,hz5]
    have HS5:=hide hs5
    have H3:=hide h3
    have HX3:=hide hX3
    have HR3:=hide hR3
    clear h3 hX3 hR3 ZX4 ZR4 hz5 hF5 hr hv hs5 ZX3 ZR3
    go_wp2_with fail
    refine (HP2.out _ _ R5.out _ HS5.out).mono ?_
    rintro e w6 (⟨x4,k4,v,h4,rfl,hv,hr⟩ | ⟨k4,h4,rfl,hr⟩)
    ·obtain rfl:v=.tuple #[]:=hv
     have R6:=hide (R5.out.from hr)
     have ZX6:=hide (R5.out.keeps hr ZX5.out (Nat.le_of_lt HN.out))
     have ZR6:=hide (R5.out.keeps hr ZR5.out (Nat.le_refl _))
     have K6:=hide (K5.out.rq HP3.out hr)
     have H4:=hide (HO.out H1.out H2.out H3.out h4)
     have hB6:w4.heap.size < w6.heap.size:=Nat.lt_of_lt_of_le (by rw [← HS5.out];omega) hr.fr.size
     have HB6:=hide hB6
     clear hr h4 g8 e8 hlt4 ZX5 ZR5 K5 hB6 HS5
     have d0:=cellA ZX6.out 0;have d1:=cellA ZX6.out 1;have d2:=cellA ZX6.out 2;have d3:=cellA ZX6.out 3;have d4:=cellA ZX6.out 4;have d5:=cellA ZX6.out 5;have d6:=cellA ZX6.out 6;have d7:=cellA ZX6.out 7;have d8:=cellA ZX6.out 8;have d9:=cellA ZX6.out 9
     have c0:=cellA ZR6.out 0;have c1:=cellA ZR6.out 1;have c2:=cellA ZR6.out 2;have c3:=cellA ZR6.out 3;have c4:=cellA ZR6.out 4;have c5:=cellA ZR6.out 5;have c6:=cellA ZR6.out 6;have c7:=cellA ZR6.out 7;have c8:=cellA ZR6.out 8;have c9:=cellA ZR6.out 9
     have f0:=softA ZR6.out 0;have f1:=softA ZR6.out 1;have f2:=softA ZR6.out 2;have f3:=softA ZR6.out 3;have f4:=softA ZR6.out 4;have f5:=softA ZR6.out 5;have f6:=softA ZR6.out 6;have f7:=softA ZR6.out 7;have f8:=softA ZR6.out 8;have f9:=softA ZR6.out 9
     go_wp2
     have hg:=got0 (cs:=[.int .u8 16,.int .i64 0,.int .u64 0,.int .u64 0,.string ⟨#[]⟩,.string ⟨#[]⟩,.int .i64 (x1:Int),.int .i64 0,.slice (some ⟨w4.heap.size,0,none⟩) 1 1,.int .i64 0]) ZR6.out rfl
     have hF:=fr_all w.heap.size [.int .u8 16,.int .i64 0,.int .u64 0,.int .u64 0,.string ⟨#[]⟩,.string ⟨#[]⟩,.int .i64 (x1:Int),.int .i64 0,.slice (some ⟨w4.heap.size,0,none⟩) 1 1,.int .i64 0] w6 0
     have RS:=hide (R6.out.aside hF (Nat.le_refl _))
     have HXS:Hid (ExR (setAll w.heap.size w6 0 [.int .u8 16,.int .i64 0,.int .u64 0,.int .u64 0,.string ⟨#[]⟩,.string ⟨#[]⟩,.int .i64 (x1:Int),.int .i64 0,.slice (some ⟨w4.heap.size,0,none⟩) 1 1,.int .i64 0]) (Bn w (setAll w.heap.size w6 0 [.int .u8 16,.int .i64 0,.int .u64 0,.int .u64 0,.string ⟨#[]⟩,.string ⟨#[]⟩,.int .i64 (x1:Int),.int .i64 0,.slice (some ⟨w4.heap.size,0,none⟩) 1 1,.int .i64 0])) (.agg #[.int .u8 16,.int .i64 0,.int .u64 0,.int .u64 0,.string ⟨#[]⟩,.string ⟨#[]⟩,.int .i64 (x1:Int),.int .i64 0,.slice (some ⟨w4.heap.size,0,none⟩) 1 1,.int .i64 0]) (exCast x3 x1)) :=
      exCast_val ((ListR.ok exRep_ok mkAgg 10).mono (K6.out.lows HR3.out) fun c hc=>⟨Nat.le_trans (Nat.le_of_lt HR3.out) hc.1,Nat.lt_of_lt_of_le (Nat.lt_of_lt_of_le hc.2 HB6.out) hF.size⟩)
     have q0:=cellA hg 0;have q1:=cellA hg 1;have q2:=cellA hg 2;have q3:=cellA hg 3;have q4:=cellA hg 4;have q5:=cellA hg 5;have q6:=cellA hg 6;have q7:=cellA hg 7;have q8:=cellA hg 8;have q9:=cellA hg 9
     simp only [setAll] at q0 q1 q2 q3 q4 q5 q6 q7 q8 q9 RS HXS
     exact bodyPost_ret (v:=.agg #[.int .u8 16,.int .i64 0,.int .u64 0,.int .u64 0,.string ⟨#[]⟩,.string ⟨#[]⟩,.int .i64 (x1:Int),.int .i64 0,.slice (some ⟨w4.heap.size,0,none⟩) 1 1,.int .i64 0]) (by simp [results,Tryz.results241,go_sem,q0,q1,q2,q3,q4,q5,q6,q7,q8,q9]) rfl (.inl ⟨_,_,_,H4.out,rfl,HXS.out,RS.out⟩)
    ·have R6:=hide (R5.out.from hr)
     have H4:=hide (HE4.out H1.out H2.out H3.out h4)
     clear hr h4
     go_wp2
     exact ⟨rfl,.inr ⟨_,H4.out,rfl,R6.out⟩⟩
   ·have R4:=hide (R3.out.from hr)
    have H3:=hide (HE3.out H1.out H2.out h3)
    clear hr h3
    go_wp2
    exact ⟨rfl,.inr ⟨_,H3.out,rfl,R4.out⟩⟩
  ·have R3:=hide (R1.out.from hr)
   have H2:=hide (HE2.out H1.out h2)
   clear hr h2
   go_wp2
   exact ⟨rfl,.inr ⟨_,H2.out,rfl,R3.out⟩⟩
 ·have R1:=hide (R0.out.from hr)
  have H1:=hide (HE1.out h1)
  clear hr h1
  go_wp2
  exact ⟨rfl,.inr ⟨_,H1.out,rfl,R1.out⟩⟩
end Go.Proofs.YtabkimknlifdoaaGreatDoor
