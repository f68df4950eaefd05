/- Pieces of the proof: UA31, LG, LH, LA, OwnB, Fr, LB. -/
import Derived.Test.YtabkimknlifdoaaGreatDoorJ1
import Derived.Test.YtabkimknlifdoaaGreatDoorJ3
import Derived.Laws.RangeAny
import Derived.Test.YtabkimknlifdoaaGreatDoorJ2
import Derived.Maps.AppendAt
import Derived.Laws.AppendOwnNone
namespace Go.Proofs.YtabkimknlifdoaaGreatDoor
open Go.RowKit
set_option maxHeartbeats 32000000 in
set_option maxRecDepth 100000 in
theorem pu31_in (t:ByteArray) (hne:t.size ≠ 0) (hmax:t.size≤9223372036854775806) (w:World) :
  Calls Tryz.prog 178 #[.string t,.int .i64 10,.int .i64 31] w fun e w'=>e=.returned (puV 2147483647 (pu 10 2147483647 0 t.data.toList))∧Below w.heap.size w w':=by
 have hemp:t.toList.isEmpty=false:=by
  rw [← decide_eq_emptyBytes]
  exact decide_eq_false (fun h=>hne (by rw [h];rfl))
 have hcv:=Lib.run_convert_string_bytes (P:=Tryz.prog) w 9 174 5 t (u:=.string) Tryz.underlying9 Tryz.underlying174 Tryz.underlying5
 have hB:∀ j,j < t.size→(Lib.bytesWorld w 5 t).cell? ⟨w.heap.size,j,none⟩=some (.int .u8 (t.data.toList.getD j 0).toNat):=fun j hj=>Lib.bytesWorld_cell w 5 t j hj
 have HBel:Hid (Below w.heap.size w (Lib.bytesWorld w 5 t)):=⟨rfl,rfl,rfl,by rw [Lib.bytesWorld_size];omega,fun k hk=>Lib.bytesWorld_at_old w 5 t k hk⟩
 generalize Lib.bytesWorld w 5 t=W1 at hcv hB HBel
 have hLn:t.data.toList.length=t.size:=by rw [Lib.size_eq]
 generalize t.data.toList=bs at hB hLn ⊢
 have hmv:IntKind.u64.wrap (IntKind.u64.wrap 2147483648 - 1)=2147483647:=by rw [IntKind.wrap_u64,IntKind.wrap_u64];decide
 go_enter Tryz.func178,Tryz.ntmps178
 go_wp2
 go_loop [12,13,101] (fun vu vn vi=>∃ (k acc:Nat) (a:Int),vu=.bool false∧vn=.int .u64 a∧vi=.int .i64 k∧k≤t.size∧Hid (a=(acc:Int)∧acc≤2147483647∧pu 10 2147483647 0 bs=pu 10 2147483647 acc (bs.drop k)))
  (fun _ _ vi=>t.size - (intOf vi).toNat)
 case atStart=>exact ⟨0,0,0,rfl,rfl,rfl,by omega,rfl,by omega,rfl⟩
 case round =>
  obtain ⟨k,acc,a,rfl,rfl,rfl,hk,hh⟩:=hrel
  obtain ⟨ha,hacc,hdec⟩:=hh.out
  clear hh
  have a0:0≤a:=by omega
  have a1:a≤2147483647:=by omega
  by_cases hkn:k < t.size
  ·have hc:=hB k hkn
   have hdrop:bs.drop k=bs[k]'(by omega) :: bs.drop (k+1):=List.drop_eq_getElem_cons (by omega)
   have hget:bs.getD k 0=bs[k]'(by omega):=by simp [List.getD,List.getElem?_eq_getElem (show k < bs.length by omega)]
   rw [hdrop] at hdec
   rw [hget] at hc
   have hdec':pu 10 2147483647 0 bs=if 10≤dval (bs[k]'(by omega)).toNat then .error true else if 2147483647 < acc * 10+dval (bs[k]'(by omega)).toNat then .error false else pu 10 2147483647 (acc * 10+dval (bs[k]'(by omega)).toNat) (bs.drop (k+1)):=hdec
   clear hdec hdrop hget hB
   have hc256:(bs[k]'(by omega)).toNat < 256:=(bs[k]'(by omega)).toNat_lt
   generalize (bs[k]'(by omega)).toNat=c at hc hdec' hc256
   obtain ⟨x,hx,x0,x1,HX⟩:=lower_x c hc256
   have HX':=hide HX
   clear HX
   by_cases hdig:48≤c∧c≤57
   ·obtain ⟨hd0,hd1⟩:=hdig
    have hdv:dval c=c - 48:=by unfold dval;rw [if_pos ⟨hd0,hd1⟩]
    rw [hdv,if_neg (show ¬ (10≤c - 48) by omega)] at hdec'
    clear hx x0 x1 HX' hdv
    obtain ⟨d,hd⟩:∃ d:Int,d=(c:Int) - 48:=⟨_,rfl⟩
    by_cases hov:2147483647 < acc * 10+(c - 48)
    ·rw [if_pos hov] at hdec'
     have HD:=hide hdec'
     clear hdec' hd d
     by_cases hcut:(1844674407370955162:Int)≤a
     ·exfalso;omega
     ·have icut:a < 1844674407370955162:=by omega
      have iov:2147483647 < a * 10+((c:Int) - 48):=by omega
      have hlt:¬ (a * 10+((c:Int) - 48) < a * 10):=by omega
      clear hov hacc ha hcut
      go_wp2
      go_ret2
      exact ⟨by rw [HD.out];rfl,HBel.out⟩
    ·rw [if_neg hov] at hdec'
     have HN:Hid (a * 10+((c:Int) - 48)=((acc * 10+(c - 48):Nat):Int)∧acc * 10+(c - 48)≤2147483647∧pu 10 2147483647 0 bs=pu 10 2147483647 (acc * 10+(c - 48)) (bs.drop (k+1))):=⟨by omega,by omega,hdec'⟩
     have icut:a < 1844674407370955162:=by omega
     have iov:a * 10+((c:Int) - 48)≤2147483647:=by omega
     clear hdec' hov hacc ha hd d
     go_wp2
     exact ⟨⟨k+1,acc * 10+(c - 48),a * 10+((c:Int) - 48),rfl,(by first | rfl | (congr 1;omega)),(by first | rfl | (congr 1;omega)),by omega,HN⟩,by simp [intOf];omega⟩
   ·by_cases hus:c=95
    ·subst hus
     have HX2:Hid (∀ W,Calls Tryz.prog 211 #[.int .u8 95] W fun e w'=>e=.returned (.int .u8 127)∧w'=W):=by
      intro W
      have:=HX'.out W
      rw [hx] at this
      exact this
     rw [show dval 95=255 from rfl,if_pos (by omega)] at hdec'
     have HD:=hide hdec'
     clear hdec' hx hacc ha HX'
     go_wp2_with (refine (HX2.out _).mono ?_;rintro e w' ⟨rfl,rfl⟩)
     all_goals go_ret2
     all_goals exact ⟨by rw [HD.out];rfl,HBel.out⟩
    have hne5:¬ ((c:Int)=95):=by omega
    by_cases hlet:97≤x∧x≤122
    ·obtain ⟨l0,l1⟩:=hlet
     have hdv:dval c=(c ||| 32) - 87:=by unfold dval;rw [if_neg hdig,if_pos ⟨by omega,by omega⟩]
     rw [hdv] at hdec'
     rw [if_pos (show 10≤(c ||| 32) - 87 by omega)] at hdec'
     have HD:=hide hdec'
     clear hdec' hx hacc ha hdv
     go_wp2_with (refine (HX'.out _).mono ?_;rintro e w' ⟨rfl,rfl⟩)
     all_goals go_ret2
     all_goals exact ⟨by rw [HD.out];rfl,HBel.out⟩
    ·have hdv:dval c=255:=by unfold dval;rw [if_neg hdig,if_neg (by omega)]
     rw [hdv,if_pos (by omega)] at hdec'
     have HD:=hide hdec'
     clear hdec' hx hacc ha hdv
     go_wp2_with (refine (HX'.out _).mono ?_;rintro e w' ⟨rfl,rfl⟩)
     all_goals go_ret2
     all_goals exact ⟨by rw [HD.out];rfl,HBel.out⟩
  ·have hkk:k=t.size:=by omega
   subst hkk
   have hF:pu 10 2147483647 acc (bs.drop t.size)=.ok acc:=by rw [List.drop_eq_nil_of_le (by omega)];rfl
   rw [hF] at hdec
   have HD:Hid (pu 10 2147483647 0 bs=.ok acc∧a=(acc:Int)):=⟨hdec,ha⟩
   clear hdec hacc hF a0 a1 ha
   go_wp2
   go_ret2
   exact ⟨by rw [HD.out.1,HD.out.2];rfl,HBel.out⟩
structure Wd where
 k:Nat
 s:List UInt8
 w:Nat
 v:Nat
def WR (o:Option Wd) (ok:Bool) (a b c d:Int) (S:ByteArray):Prop:=(ok=true∧∃ x:Wd,o=some x∧a=(x.k:Int)∧S=txt x.s∧b=(x.w:Int)∧c=wHi x.v∧d=wLo x.v) ∨ (ok=false∧o=none)
def wAgg (a b c d n:Int) (S:ByteArray):Value:=.agg #[.int .u8 a,.string S,.int .i64 b,.int .u64 c,.int .u64 d,.int .i64 n]
def Gives (f:Nat) (l:List UInt8) (o:Option Wd):Prop:=∀ W,Ld W→Calls Tryz.prog f #[.string (txt l)] W fun e w'=>∃ ok a b c d S,WR o ok a b c d S∧e=.returned (.tuple #[wAgg a b c d 0 S,.bool ok])∧Below W.heap.size W w'
theorem clone_any (T:ByteArray) (h:T.size≤281474976710656) (w:World):Calls Tryz.prog 124 #[.string T] w fun e w'=>e=.returned (.string T)∧Below w.heap.size w w':=by
 have HC:=hide (Tryz.stringslite_Clone T w h)
 clear h
 go_enter Tryz.func124,Tryz.ntmps124
 go_wp2_with fail
 refine HC.out.mono ?_
 rintro e w1 ⟨rfl,hb⟩
 have HB:=hide hb
 clear hb
 go_wp2
 go_ret
 exact ⟨rfl,HB.out⟩
theorem cells_of6 {W:World} {b:Nat} {x0 x1 x2 x3 x4 x5:Value} {t:TypeId} (h:W.heap[b]? = some (.cells #[x0,x1,x2,x3,x4,x5] t (0,0))) :
  (W.cell? ⟨b,0,none⟩=some x0∧W.cell? ⟨b,1,none⟩=some x1∧W.cell? ⟨b,2,none⟩=some x2∧W.cell? ⟨b,3,none⟩=some x3∧W.cell? ⟨b,4,none⟩=some x4∧W.cell? ⟨b,5,none⟩=some x5)∧(W.frozen? ⟨b,0,none⟩=false∧W.frozen? ⟨b,1,none⟩=false∧W.frozen? ⟨b,2,none⟩=false∧W.frozen? ⟨b,3,none⟩=false∧W.frozen? ⟨b,4,none⟩=false∧W.frozen? ⟨b,5,none⟩=false):=by
 refine ⟨⟨?_,?_,?_,?_,?_,?_⟩,?_,?_,?_,?_,?_,?_⟩ <;> simp [World.cell?,World.frozen?,h]
def set6 (W:World) (b:Nat) (x0 x1 x2 x3 x4 x5:Value):World:=(((((W.setCell ⟨b,0,none⟩ x0).setCell ⟨b,1,none⟩ x1).setCell ⟨b,2,none⟩ x2).setCell ⟨b,3,none⟩ x3).setCell ⟨b,4,none⟩ x4).setCell ⟨b,5,none⟩ x5
theorem set6_got {W:World} {b:Nat} {t:TypeId} {y0 y1 y2 y3 y4 y5:Value} (h:W.heap[b]? = some (.cells #[y0,y1,y2,y3,y4,y5] t (0,0))) (x0 x1 x2 x3 x4 x5:Value) :
  (set6 W b x0 x1 x2 x3 x4 x5).heap[b]? = some (.cells #[x0,x1,x2,x3,x4,x5] t (0,0)):=by
 have hl:=(Array.getElem?_eq_some_iff.1 h).1
 simp [set6,World.setCell,Array.getElem?_modify,h]
theorem set6_below {W w:World} {B b:Nat} (h:Below B w W) (hb:B≤b) (x0 x1 x2 x3 x4 x5:Value):Below B w (set6 W b x0 x1 x2 x3 x4 x5) :=
 (((((h.setCell (p:=⟨b,0,none⟩) hb x0).setCell (p:=⟨b,1,none⟩) hb x1).setCell (p:=⟨b,2,none⟩) hb x2).setCell (p:=⟨b,3,none⟩) hb x3).setCell (p:=⟨b,4,none⟩) hb x4).setCell (p:=⟨b,5,none⟩) hb x5
theorem wz0:wHi 0=0∧wLo 0=0:=by unfold wHi wLo;omega
def z6:Array Value:=#[.int .u8 0,.string ⟨#[]⟩,.int .i64 0,.int .u64 0,.int .u64 0,.int .i64 0]
def signW (l:List UInt8):Option Wd:=if l=[] then none else some ⟨4,l,0,0⟩
def nameW (l:List UInt8):Option Wd:=if l.length≤255 then some ⟨1,l,0,0⟩ else none
set_option maxRecDepth 100000 in
theorem sign_gives (l:List UInt8) (hl:l.length≤1000000):Gives 78 l (signW l):=by
 intro w _
 have HC:=hide (clone_any (txt l) (by rw [txt_size];omega))
 have HR:Hid (WR (signW l) (!(txt l).toList.isEmpty) 4 0 0 0 (txt l)):=by
  unfold Hid signW
  rw [Lib.toList_data,txt_data]
  cases l with
  | nil=>exact .inr ⟨rfl,rfl⟩
  | cons c l=>exact .inl ⟨rfl,⟨4,c :: l,0,0⟩,by simp,rfl,rfl,rfl,wz0.1.symm,wz0.2.symm⟩
 generalize txt l=T at *
 go_enter Tryz.func78,Tryz.ntmps78
 go_wp2_with fail
 refine (HC.out _).mono ?_
 rintro e w1 ⟨rfl,hb⟩
 have hblk:w1.heap[w.heap.size]? = some (.cells z6 37 (0,0)):=(hb.block _ (by simp)).trans (heap_alloc_new w _)
 have HW:Hid (Below w.heap.size w w1):=((Below.refl _ _).alloc (Nat.le_refl _) _).trans (hb.mono (by simp))
 obtain ⟨⟨k0,k1,k2,k3,k4,k5⟩,f0,f1,f2,f3,f4,f5⟩:=cells_of6 hblk
 have HBk:=hide hblk
 clear hb hblk
 go_wp2
 have hg:=cells_of6 (set6_got HBk.out (.int .u8 4) (.string T) (.int .i64 0) (.int .u64 0) (.int .u64 0) (.int .i64 0))
 unfold set6 at hg
 obtain ⟨⟨q0,q1,q2,q3,q4,q5⟩,_⟩:=hg
 refine bodyPost_ret (v:=.tuple #[wAgg 4 0 0 0 0 T,.bool (!T.toList.isEmpty)]) (by simp [results,Tryz.results78,go_sem,q0,q1,q2,q3,q4,q5,wAgg]) rfl ⟨_,_,_,_,_,_,HR.out,rfl,set6_below HW.out (Nat.le_refl _) _ _ _ _ _ _⟩
set_option maxRecDepth 100000 in
theorem name_gives (l:List UInt8) (hl:l.length≤1000000):Gives 81 l (nameW l):=by
 intro w _
 have HC:=hide (clone_any (txt l) (by rw [txt_size];omega))
 have hsz:=txt_size l
 have HR:Hid (WR (nameW l) (decide (((txt l).size:Int)≤255)) 1 0 0 0 (txt l)):=by
  unfold Hid nameW
  rw [hsz]
  by_cases h:l.length≤255
  ·rw [if_pos h,decide_eq_true (by omega)]
   exact .inl ⟨rfl,⟨1,l,0,0⟩,rfl,rfl,rfl,rfl,wz0.1.symm,wz0.2.symm⟩
  ·rw [if_neg h,decide_eq_false (by omega)]
   exact .inr ⟨rfl,rfl⟩
 have hTm:(txt l).size≤1000000:=by omega
 clear hsz hl
 generalize txt l=T at *
 by_cases hle:((T.size:Nat):Int)≤255
 ·have hd:decide (((T.size:Nat):Int)≤255)=true:=decide_eq_true hle
  rw [hd] at HR
  clear hd
  go_enter Tryz.func81,Tryz.ntmps81
  go_wp2_with fail
  refine (HC.out _).mono ?_
  rintro e w1 ⟨rfl,hb⟩
  have hblk:w1.heap[w.heap.size]? = some (.cells z6 37 (0,0)):=(hb.block _ (by simp)).trans (heap_alloc_new w _)
  have HW:Hid (Below w.heap.size w w1):=((Below.refl _ _).alloc (Nat.le_refl _) _).trans (hb.mono (by simp))
  obtain ⟨⟨k0,k1,k2,k3,k4,k5⟩,f0,f1,f2,f3,f4,f5⟩:=cells_of6 hblk
  have HBk:=hide hblk
  clear hb hblk
  go_wp2
  have hg:=cells_of6 (set6_got HBk.out (.int .u8 1) (.string T) (.int .i64 0) (.int .u64 0) (.int .u64 0) (.int .i64 0))
  unfold set6 at hg
  obtain ⟨⟨q0,q1,q2,q3,q4,q5⟩,_⟩:=hg
  refine bodyPost_ret (v:=.tuple #[wAgg 1 0 0 0 0 T,.bool true]) (by simp [results,Tryz.results81,go_sem,q0,q1,q2,q3,q4,q5,wAgg]) rfl ⟨_,_,_,_,_,_,HR.out,rfl,set6_below HW.out (Nat.le_refl _) _ _ _ _ _ _⟩
 ·have hd:decide (((T.size:Nat):Int)≤255)=false:=decide_eq_false hle
  rw [hd] at HR
  clear hd
  go_enter Tryz.func81,Tryz.ntmps81
  go_wp2_with fail
  refine (HC.out _).mono ?_
  rintro e w1 ⟨rfl,hb⟩
  have hblk:w1.heap[w.heap.size]? = some (.cells z6 37 (0,0)):=(hb.block _ (by simp)).trans (heap_alloc_new w _)
  have HW:Hid (Below w.heap.size w w1):=((Below.refl _ _).alloc (Nat.le_refl _) _).trans (hb.mono (by simp))
  obtain ⟨⟨k0,k1,k2,k3,k4,k5⟩,f0,f1,f2,f3,f4,f5⟩:=cells_of6 hblk
  have HBk:=hide hblk
  clear hb hblk
  go_wp2
  have hg:=cells_of6 (set6_got HBk.out (.int .u8 1) (.string T) (.int .i64 0) (.int .u64 0) (.int .u64 0) (.int .i64 0))
  unfold set6 at hg
  obtain ⟨⟨q0,q1,q2,q3,q4,q5⟩,_⟩:=hg
  refine bodyPost_ret (v:=.tuple #[wAgg 1 0 0 0 0 T,.bool false]) (by simp [results,Tryz.results81,go_sem,q0,q1,q2,q3,q4,q5,wAgg] <;> omega) rfl ⟨_,_,_,_,_,_,HR.out,rfl,set6_below HW.out (Nat.le_refl _) _ _ _ _ _ _⟩
def numW (l:List UInt8):Option Wd:=match prs l with | some (n,v)=>some ⟨3,[],n,v⟩ | none=>none
def wholeW (l:List UInt8):Option Wd:=match puE 2147483647 l 10 with | .ok n=>if Lib.decDigits n=l then some ⟨2,[],64,n⟩ else none | _=>none
theorem pu_mx (b mx:Nat):∀ (l:List UInt8) (acc n:Nat),acc≤mx→pu b mx acc l=.ok n→n≤mx
 | [],acc,n,ha,h=>by simp [pu] at h;omega
 | c :: l,acc,n,ha,h=>by
  simp only [pu] at h
  split at h
  ·cases h
  ·split at h
   ·cases h
   ·exact pu_mx b mx l _ _ (by omega) h
theorem puE_lt31 {l:List UInt8} {n:Nat} (h:puE 2147483647 l 10=.ok n):n≤2147483647:=by
 cases l with
 | nil=>cases h
 | cons c l=>exact pu_mx _ _ _ _ _ (Nat.zero_le _) h
theorem puE_lt {l:List UInt8} {n:Nat} (h:puE 2147483647 l 10=.ok n):n < 18446744073709551616:=by have:=puE_lt31 h;omega
theorem prsV_cases (p:Option (Nat × Nat)):∃ a b c e:Int,prsV p=.tuple #[.agg #[.int .i64 a,.int .u64 b,.int .u64 c],.int .i64 e]∧((∃ n v,p=some (n,v)∧a=(n:Int)∧b=wHi v∧c=wLo v∧e=0) ∨ (p=none∧e=8)):=by
 cases p with
 | none=>exact ⟨0,0,0,8,rfl,.inr ⟨rfl,rfl⟩⟩
 | some p=>exact ⟨_,_,_,0,rfl,.inl ⟨p.1,p.2,rfl,rfl,rfl,rfl,rfl⟩⟩
set_option maxRecDepth 100000 in
theorem num_gives (l:List UInt8) (hl:l.length≤1000000):Gives 84 l (numW l):=by
 intro w hL
 obtain ⟨a,b,c,e,he,hcase⟩:=prsV_cases (prs l)
 have HP:Hid (∀ W,Ld W→_):=fun W h=>parse_any l (by omega) W h
 rw [he] at HP
 have HR:Hid (WR (numW l) (decide (e=0)) 3 a b c ⟨#[]⟩):=by
  unfold Hid numW
  rcases hcase with ⟨n,v,h1,h2,h3,h4,h5⟩ | ⟨h1,h2⟩
  ·rw [h1,h5];exact .inl ⟨by decide,⟨3,[],n,v⟩,rfl,rfl,rfl,h2,h3,h4⟩
  ·rw [h1,h2];exact .inr ⟨by decide,rfl⟩
 have h08:e=0 ∨ e=8:=by
  rcases hcase with ⟨_,_,_,_,_,_,h⟩ | ⟨_,h⟩
  ·exact .inl h
  ·exact .inr h
 have HL:=hide hL
 clear hL hcase he hl
 generalize txt l=T at *
 rcases h08 with rfl | rfl
 all_goals
  go_enter Tryz.func84,Tryz.ntmps84
  go_wp2_with fail
  refine (HP.out _ (HL.out.below ((Below.refl _ _).alloc (Nat.le_refl _) _))).mono ?_
  rintro e w1 ⟨rfl,hb⟩
  have hblk:w1.heap[w.heap.size]? = some (.cells z6 37 (0,0)):=(hb.block _ (by simp)).trans (heap_alloc_new w _)
  have HW:Hid (Below w.heap.size w w1):=((Below.refl _ _).alloc (Nat.le_refl _) _).trans (hb.mono (by simp))
  have hlt:w.heap.size < w1.heap.size:=by have:=hb.size;simp at this;omega
  obtain ⟨⟨k0,k1,k2,k3,k4,k5⟩,f0,f1,f2,f3,f4,f5⟩:=cells_of6 hblk
  have HBk:=hide hblk
  clear hb hblk
  have hne:¬ (w.heap.size=w1.heap.size):=by omega
  go_wp2
  have hs6:w.heap.size < (set6 w1 w.heap.size (.int .u8 3) (.string ⟨#[]⟩) (.int .i64 a) (.int .u64 b) (.int .u64 c) (.int .i64 0)).heap.size:=Nat.lt_of_lt_of_le hlt (set6_below (Below.refl 0 w1) (Nat.zero_le _) _ _ _ _ _ _).size
  have hg:=cells_of6 ((hao _ (.cells #[.int .i64 a,.int .u64 b,.int .u64 c] 35) _ hs6).trans (set6_got HBk.out (.int .u8 3) (.string ⟨#[]⟩) (.int .i64 a) (.int .u64 b) (.int .u64 c) (.int .i64 0)))
  have HBB:=hide ((set6_below HW.out (Nat.le_refl _) (.int .u8 3) (.string ⟨#[]⟩) (.int .i64 a) (.int .u64 b) (.int .u64 c) (.int .i64 0)).alloc (by omega) (.cells #[.int .i64 a,.int .u64 b,.int .u64 c] 35))
  unfold set6 at hg
  obtain ⟨⟨q0,q1,q2,q3,q4,q5⟩,_⟩:=hg
  first
   | refine bodyPost_ret (v:=.tuple #[wAgg 3 a b c 0 ⟨#[]⟩,.bool true]) (by simp [results,Tryz.results84,go_sem,q0,q1,q2,q3,q4,q5,wAgg]) rfl ⟨true,_,_,_,_,_,HR.out,rfl,HBB.out⟩
   | refine bodyPost_ret (v:=.tuple #[wAgg 3 a b c 0 ⟨#[]⟩,.bool false]) (by simp [results,Tryz.results84,go_sem,q0,q1,q2,q3,q4,q5,wAgg]) rfl ⟨false,_,_,_,_,_,HR.out,rfl,HBB.out⟩
set_option maxRecDepth 100000 in
theorem whole_gives (l:List UInt8) (hl:l.length≤1000000):Gives 83 l (wholeW l):=by
 intro w hL
 have HP:Hid (∀ W,Ld W→_):=fun W h=>parseUint_of 10 31 2147483647 pu31_in (.inl rfl) l (by omega) W h
 have HF:Hid (∀ (n:Nat) W,puE 2147483647 l 10=.ok n→Ld W→Calls Tryz.prog 88 #[.int .u64 (n:Int),.int .i64 10] W fun e w'=>e=.returned (.string (txt (Lib.decDigits n)))∧Below W.heap.size W w'):=fun n W hn h=>fmt10 n (puE_lt hn) W h
 have HY:Hid (∀ n,puE 2147483647 l 10=.ok n→Lib.decDigits n=l→wholeW l=some ⟨2,[],64,n⟩):=fun n h1 h2=>by unfold wholeW;rw [h1];simp only;rw [if_pos h2]
 have HNq:Hid (∀ n,puE 2147483647 l 10=.ok n→¬ Lib.decDigits n=l→wholeW l=none):=fun n h1 h2=>by unfold wholeW;rw [h1];simp only;rw [if_neg h2]
 have HNn:Hid ((∀ n,puE 2147483647 l 10 ≠ .ok n)→wholeW l=none):=fun h=>by
  unfold wholeW
  cases hp:puE 2147483647 l 10 with
  | ok n=>exact absurd hp (h n)
  | error b=>cases b <;> rfl
 have HL:=hide hL
 clear hL hl
 obtain ⟨T,hT⟩:∃ T,T=txt l:=⟨_,rfl⟩
 have HT:=hide hT
 rw [← hT] at HP ⊢
 clear hT
 go_enter Tryz.func83,Tryz.ntmps83
 go_wp2_with fail
 refine (HP.out _ (HL.out.below ((Below.refl _ _).alloc (Nat.le_refl _) _))).mono ?_
 rintro e w1 ⟨hb,hpost⟩
 have hblk:w1.heap[w.heap.size]? = some (.cells z6 37 (0,0)):=(hb.block _ (by simp)).trans (heap_alloc_new w _)
 have HW:Hid (Below w.heap.size w w1):=((Below.refl _ _).alloc (Nat.le_refl _) _).trans (hb.mono (by simp))
 have hlt:w.heap.size < w1.heap.size:=by have:=hb.size;simp at this;omega
 clear hb
 rcases hpost with ⟨n,hn,rfl⟩ | ⟨hno,x,v,⟨te,pe,rfl⟩,rfl⟩
 ·have HFn:Hid (∀ W,Ld W→_):=fun W h=>HF.out n W hn h
  have hn32:=puE_lt hn
  by_cases hd:Lib.decDigits n=l
  ·have HR:Hid (WR (wholeW l) true 2 64 0 (n:Int) ⟨#[]⟩):=.inl ⟨rfl,_,HY.out n hn hd,rfl,rfl,rfl,by show (0:Int)=wHi n;have:=puE_lt31 hn;unfold wHi;omega,by show (n:Int)=wLo n;have:=puE_lt31 hn;unfold wLo;omega⟩
   rw [hd,← HT.out] at HFn
   clear hn hd hn32 HY HNq HNn HF
   go_wp2_with fail
   refine (HFn.out _ (HL.out.below HW.out)).mono ?_
   rintro e w2 ⟨rfl,hb⟩
   have hblk2:=(hb.block _ hlt).trans hblk
   have HW2:=hide (HW.out.trans (hb.mono HW.out.size))
   obtain ⟨⟨k0,k1,k2,k3,k4,k5⟩,f0,f1,f2,f3,f4,f5⟩:=cells_of6 hblk2
   have HBk:=hide hblk2
   clear hb hblk hblk2
   go_wp2
   have hg:=cells_of6 (set6_got HBk.out (.int .u8 2) (.string ⟨#[]⟩) (.int .i64 64) (.int .u64 0) (.int .u64 (n:Int)) (.int .i64 0))
   unfold set6 at hg
   obtain ⟨⟨q0,q1,q2,q3,q4,q5⟩,_⟩:=hg
   refine bodyPost_ret (v:=.tuple #[wAgg 2 64 0 (n:Int) 0 ⟨#[]⟩,.bool true]) (by simp [results,Tryz.results83,go_sem,q0,q1,q2,q3,q4,q5,wAgg]) rfl ⟨true,_,_,_,_,_,HR.out,rfl,set6_below HW2.out (Nat.le_refl _) _ _ _ _ _ _⟩
  ·have HR:Hid (WR (wholeW l) false 2 64 0 (n:Int) ⟨#[]⟩):=.inr ⟨rfl,HNq.out n hn hd⟩
   have hne9:((txt (Lib.decDigits n)).toList == T.toList)=false:=by rw [HT.out];exact txt_ne hd
   generalize txt (Lib.decDigits n)=R at *
   clear hn hd hn32 HY HNq HNn HF
   go_wp2_with fail
   refine (HFn.out _ (HL.out.below HW.out)).mono ?_
   rintro e w2 ⟨rfl,hb⟩
   have hblk2:=(hb.block _ hlt).trans hblk
   have HW2:=hide (HW.out.trans (hb.mono HW.out.size))
   obtain ⟨⟨k0,k1,k2,k3,k4,k5⟩,f0,f1,f2,f3,f4,f5⟩:=cells_of6 hblk2
   have HBk:=hide hblk2
   clear hb hblk hblk2
   go_wp2
   have hg:=cells_of6 (set6_got HBk.out (.int .u8 2) (.string ⟨#[]⟩) (.int .i64 64) (.int .u64 0) (.int .u64 (n:Int)) (.int .i64 0))
   unfold set6 at hg
   obtain ⟨⟨q0,q1,q2,q3,q4,q5⟩,_⟩:=hg
   refine bodyPost_ret (v:=.tuple #[wAgg 2 64 0 (n:Int) 0 ⟨#[]⟩,.bool false]) (by simp [results,Tryz.results83,go_sem,q0,q1,q2,q3,q4,q5,wAgg]) rfl ⟨false,_,_,_,_,_,HR.out,rfl,set6_below HW2.out (Nat.le_refl _) _ _ _ _ _ _⟩
 ·have HR:Hid (WR (wholeW l) false 2 64 0 x ⟨#[]⟩):=.inr ⟨rfl,HNn.out hno⟩
  clear hno HY HNq HNn HF
  obtain ⟨⟨k0,k1,k2,k3,k4,k5⟩,f0,f1,f2,f3,f4,f5⟩:=cells_of6 hblk
  have HBk:=hide hblk
  clear hblk
  go_wp2
  have hg:=cells_of6 (set6_got HBk.out (.int .u8 2) (.string ⟨#[]⟩) (.int .i64 64) (.int .u64 0) (.int .u64 x) (.int .i64 0))
  unfold set6 at hg
  obtain ⟨⟨q0,q1,q2,q3,q4,q5⟩,_⟩:=hg
  refine bodyPost_ret (v:=.tuple #[wAgg 2 64 0 x 0 ⟨#[]⟩,.bool false]) (by simp [results,Tryz.results83,go_sem,q0,q1,q2,q3,q4,q5,wAgg]) rfl ⟨false,_,_,_,_,_,HR.out,rfl,set6_below HW.out (Nat.le_refl _) _ _ _ _ _ _⟩
def c10 (l:List UInt8):Nat:=l.count 10
theorem c10_app (a b:List UInt8):c10 (a ++ b)=c10 a+c10 b:=by simp [c10]
theorem c10_le (l:List UInt8):c10 l≤l.length:=List.count_le_length
theorem dec_eats (s:ByteArray) (pos:Nat) (h:pos < s.size) (ha:128≤(s[pos]'h).toNat):pos+(Utf8.decode s pos).2≤s.size∧∀ j,pos≤j→j < pos+(Utf8.decode s pos).2→128≤(s.get! j).toNat:=by
 have e0:s.get! pos=s[pos]'h:=get_at s pos h
 have hn:¬ (s[pos]'h).toNat < 128:=by omega
 have one:pos+1≤s.size∧∀ j,pos≤j→j < pos+1→128≤(s.get! j).toNat:=⟨by omega,fun j h1 h2=>by
  obtain rfl:j=pos:=by omega
  rw [e0];exact ha⟩
 simp only [Utf8.decode,get_at s pos h,hn,if_false]
 split
 ·rename_i h2
  simp at h2
  split
  ·refine ⟨by show pos+2≤_;omega,fun j h1 h3=>?_⟩
   have h3':j < pos+2:=h3
   rcases (by omega:j=pos ∨ j=pos+1) with rfl | rfl
   ·rw [e0];exact ha
   ·have:=h2.2.2;omega
  ·exact one
 ·split
  ·rename_i h2
   simp at h2
   split
   ·refine ⟨by show pos+3≤_;omega,fun j h1 h3=>?_⟩
    have h3':j < pos+3:=h3
    rcases (by omega:j=pos ∨ j=pos+1 ∨ j=pos+2) with rfl | rfl | rfl
    ·rw [e0];exact ha
    ·have:=h2.1.2.2;omega
    ·have:=h2.2.2;omega
   ·exact one
  ·split
   ·rename_i h2
    simp at h2
    split
    ·refine ⟨by show pos+4≤_;omega,fun j h1 h3=>?_⟩
     have h3':j < pos+4:=h3
     rcases (by omega:j=pos ∨ j=pos+1 ∨ j=pos+2 ∨ j=pos+3) with rfl | rfl | rfl | rfl
     ·rw [e0];exact ha
     ·have:=h2.1.1.2.2;omega
     ·have:=h2.1.2.2;omega
     ·have:=h2.2.2;omega
    ·exact one
   ·exact one
theorem txt_getB (l:List UInt8) (j:Nat) (h:j < l.length):(txt l).get! j=l[j]:=by
 have h':j < (txt l).size:=by rw [txt_size];exact h
 have:=get_at (txt l) j h'
 rw [Nat.add_zero] at this
 rw [this]
 simp [txt,ByteArray.getElem_eq_getElem_data]
theorem c10_high {l:List UInt8} {p k:Nat} (hk:p+k≤l.length) (h:∀ j (hj:j < l.length),p≤j→j < p+k→128≤(l[j]).toNat):c10 (l.take (p+k))=c10 (l.take p):=by
 induction k with
 | zero=>rfl
 | succ k ih =>
  have hb:=h (p+k) (by omega) (by omega) (by omega)
  have h0:l[p+k] ≠ 10:=fun e=>by rw [e] at hb;exact absurd hb (by decide)
  have hlt:p+k < l.length:=by omega
  have e1:l.take (p+(k+1))=l.take (p+k) ++ [l[p+k]]:=List.take_succ_eq_append_getElem hlt
  rw [e1,c10_app,ih (by omega) (fun j hj h1 h2=>h j hj h1 (by omega))]
  simp [c10,h0]
set_option maxRecDepth 100000 in
theorem linesIn_any (l:List UInt8) (hl:l.length≤1000000) (w:World) :
  Calls Tryz.prog 122 #[.string (txt l)] w fun e w'=>e=.returned (.int .i64 ((c10 l:Nat):Int))∧Below w.heap.size w w':=by
 obtain ⟨T,hT⟩:∃ T,T=txt l:=⟨_,rfl⟩
 have hsz:T.size=l.length:=by rw [hT,txt_size]
 have HZ:=hide hsz
 have HG:Hid (∀ (k:Nat) (h:k < T.size) (h':k < l.length),T[k]=l[k]):=fun k h h'=>by subst hT;simp [txt,ByteArray.getElem_eq_getElem_data]
 have HG2:Hid (∀ (k:Nat) (h':k < l.length),T.get! k=l[k]):=fun k h'=>by subst hT;exact txt_getB l k h'
 rw [← hT]
 have hTl:T.size≤1000000:=by omega
 clear hT hl hsz
 go_enter Tryz.func122,Tryz.ntmps122
 go_wp2
 go_loopw [3] (fun vn wr=>∃ (p n:Nat),wr=w.iter T p∧vn=.int .i64 (n:Int)∧p≤T.size∧n≤p∧Hid (n=c10 (l.take p))) (fun _ wr=>T.size - wr.iterPos w.heap.size)
 case atStart=>exact ⟨0,0,rfl,rfl,by omega,by omega,by simp [Hid,c10]⟩
 case round =>
  obtain ⟨p,n,rfl,rfl,hp,hnp,HN⟩:=hrel
  by_cases hlt:p < T.size
  ·have hltl:p < l.length:=by rw [← HZ.out];exact hlt
   have hcg:=HG.out p hlt hltl
   rcases Nat.lt_or_ge (T[p]).toNat 128 with ha | ha
   ·have hnx:=fun ty=>run_next_ascii (P:=Tryz.prog) w T p ty hlt ha
    have HS:Hid (∀ m:Nat,m=c10 [l[p]]→n+m=c10 (l.take (p+1))):=fun m hm=>by rw [List.take_succ_eq_append_getElem hltl,c10_app,← HN.out,hm]
    by_cases h10:(T[p]).toNat=10
    ·have h10i:(((T[p]).toNat:Nat):Int)=10:=by omega
     have HE:Hid (n+1=c10 (l.take (p+1))):=HS.out 1 (by rw [← hcg];have:T[p]=10:=UInt8.toNat_inj.1 h10;rw [this];rfl)
     clear HS HN hcg
     go_wp2
     go_roundw
     case rel=>exact ⟨p+1,n+1,rfl,by congr 1,by omega,by omega,HE⟩
     case measure=>simp;omega
    ·have h10i:¬ ((((T[p]).toNat:Nat):Int)=10):=by omega
     have HE:Hid (n=c10 (l.take (p+1))):=HS.out 0 (by rw [← hcg];have:¬ T[p]=10:=fun e=>h10 (by rw [e];rfl);simp [c10,this])
     clear HS HN hcg
     go_wp2
     go_roundw
     case rel=>exact ⟨p+1,n,rfl,rfl,by omega,by omega,HE⟩
     case measure=>simp;omega
   ·have hnx:=fun ty=>run_next_any (P:=Tryz.prog) w T p ty hlt
    have hh:=decode_high T p hlt ha
    have hd:=dec_eats T p hlt ha
    have HE:Hid (n=c10 (l.take (p+(Utf8.decode T p).2))):=by
     unfold Hid
     rw [c10_high (by rw [← HZ.out];exact hd.1) (fun j hj h1 h2=>by rw [← HG2.out j hj];exact hd.2 j h1 h2),← HN.out]
    have hr:¬ ((((Utf8.decode T p).1:Nat):Int)=10):=by omega
    have h1:=hd.1
    have h2:=hh.2
    clear hd hh HN hcg
    generalize (Utf8.decode T p).2=k at *
    generalize (Utf8.decode T p).1=r at *
    go_wp2
    go_roundw
    case rel=>exact ⟨p+k,n,rfl,rfl,by omega,by omega,HE⟩
    case measure=>simp;omega
  ·have hnx:=fun ty=>run_next_end (P:=Tryz.prog) w T p ty hlt
   have HE:Hid (n=c10 l):=by unfold Hid;rw [HN.out,List.take_of_length_le (by rw [← HZ.out];omega)]
   clear HN
   go_wp2
   go_ret
   exact ⟨by rw [← HE.out];rfl,(Below.refl _ _).alloc (Nat.le_refl _) _⟩
theorem heap_setCell_same {W:World} {g k:Nat} {cur:Array Value} {t:TypeId} {fr:Nat × Nat} (h:W.heap[g]? = some (.cells cur t fr)) (v:Value):(W.setCell ⟨g,k,none⟩ v).heap[g]? = some (.cells (cur.setIfInBounds k v) t fr):=by
 simp [World.setCell,Array.getElem?_modify,h]
structure Fr (E:Nat→Prop) (W W':World):Prop where
 os:W'.os=W.os
 tape:W'.tape=W.tape
 output:W'.output=W.output
 size:W.heap.size≤W'.heap.size
 block:∀ b,b < W.heap.size→¬ E b→W'.heap[b]? = W.heap[b]?
theorem Fr.refl (E:Nat→Prop) (W:World):Fr E W W:=⟨rfl,rfl,rfl,Nat.le_refl _,fun _ _ _=>rfl⟩
theorem Fr.trans {E E':Nat→Prop} {W W1 W2:World} (h:Fr E W W1) (k:Fr E' W1 W2) (hE:∀ b,b < W.heap.size→E' b→E b):Fr E W W2 :=
 ⟨k.os.trans h.os,k.tape.trans h.tape,k.output.trans h.output,Nat.le_trans h.size k.size,fun b hb hn=>(k.block b (Nat.lt_of_lt_of_le hb h.size) (fun e=>hn (hE b hb e))).trans (h.block b hb hn)⟩
theorem Fr.ofBelow {E:Nat→Prop} {W W':World} (h:Below W.heap.size W W'):Fr E W W':=⟨h.os,h.tape,h.output,h.size,fun b hb _=>h.block b hb⟩
theorem Fr.below {E:Nat→Prop} {B:Nat} {W W':World} (h:Fr E W W') (hE:∀ b,E b→B≤b) (hB:B≤W.heap.size):Below B W W' :=
 ⟨h.os,h.tape,h.output,h.size,fun b hb=>h.block b (by omega) (fun e=>by have:=hE b e;omega)⟩
theorem Fr.drew {E:Nat→Prop} {W W':World} (h:Fr E W W'):Fr E W W'.drew:=⟨h.os,h.tape,h.output,h.size,h.block⟩
theorem Fr.grown {E:Nat→Prop} {W W':World} {row:Option Nat} (h:W.grownBy W' row) (hE:∀ r,row=some r→E r):Fr E W W':=by
 exact ⟨h.os,h.tape,h.output,h.size,fun b hb hn=>h.block b hb (fun e=>hn (hE b e.symm))⟩
theorem Fr.set {E:Nat→Prop} {W W':World} (h:Fr E W W') (p:Addr) (v:Value) (hE:E p.block):Fr E W (W'.setCell p v):=by
 have hb:=(Below.refl 0 W').setCell (p:=p) (Nat.zero_le _) v
 exact ⟨hb.os.trans h.os,hb.tape.trans h.tape,hb.output.trans h.output,Nat.le_trans h.size hb.size,fun b hb hn=>by rw [Below.heap_setCell _ _ _ _ (fun e=>hn (by rw [e];exact hE))];exact h.block b hb hn⟩
theorem Fr.alloc {E:Nat→Prop} {W W':World} (h:Fr E W W') (o:Obj):Fr E W (W'.alloc o):=h.trans (E':=fun _=>False) (Fr.ofBelow ((Below.refl _ _).alloc (Nat.le_refl _) o)) (fun _ _ e=>e.elim)
theorem Fr.cell {E:Nat→Prop} {W W':World} (h:Fr E W W') {b o:Nat} {v:Value} (hc:W.cell? ⟨b,o,none⟩=some v) (hn:¬ E b):W'.cell? ⟨b,o,none⟩=some v :=
 (World.cell?_of_block (w:=W) (a:=⟨b,o,none⟩) (h.block b (World.block_lt_of_cell? W _ hc) hn)).trans hc
def Tx (W:World) (p:Nat) (r:List UInt8) (n:Nat):Prop:=W.heap[p]? = some (.cells #[.string (txt r),.int .i64 (n:Int)] 59 (0,0))
theorem Tx.lt {W:World} {p:Nat} {r:List UInt8} {n:Nat} (h:Tx W p r n):p < W.heap.size:=(Array.getElem?_eq_some_iff.1 h).1
theorem Tx.cells {W:World} {p:Nat} {r:List UInt8} {n:Nat} (h:Tx W p r n):W.cell? ⟨p,0,none⟩=some (.string (txt r))∧W.cell? ⟨p,1,none⟩=some (.int .i64 (n:Int))∧W.frozen? ⟨p,0,none⟩=false∧W.frozen? ⟨p,1,none⟩=false:=by
 unfold Tx at h
 refine ⟨?_,?_,?_,?_⟩ <;> simp [World.cell?,World.frozen?,h]
theorem Tx.set0 {W:World} {p:Nat} {r:List UInt8} {n:Nat} (h:Tx W p r n) (r':List UInt8):Tx (W.setCell ⟨p,0,none⟩ (.string (txt r'))) p r' n:=by
 unfold Tx at *
 have hl:=(Array.getElem?_eq_some_iff.1 h).1
 simp [World.setCell,Array.getElem?_modify,h]
theorem Tx.set1 {W:World} {p:Nat} {r:List UInt8} {n:Nat} (h:Tx W p r n) (n':Nat):Tx (W.setCell ⟨p,1,none⟩ (.int .i64 (n':Int))) p r n':=by
 unfold Tx at *
 have hl:=(Array.getElem?_eq_some_iff.1 h).1
 simp [World.setCell,Array.getElem?_modify,h]
theorem Tx.below {W W':World} {p:Nat} {r:List UInt8} {n:Nat} (h:Tx W p r n) (hb:Below W.heap.size W W'):Tx W' p r n:=(hb.block _ h.lt).trans h
theorem Tx.drew {W:World} {p:Nat} {r:List UInt8} {n:Nat} (h:Tx W p r n):Tx W.drew p r n:=h
theorem Tx.alloc {W:World} {p:Nat} {r:List UInt8} {n:Nat} (h:Tx W p r n) (o:Obj):Tx (W.alloc o) p r n:=h.below ((Below.refl _ _).alloc (Nat.le_refl _) o)
abbrev FrP (p:Nat) (W W':World):Prop:=Fr (fun b=>b=p) W W'
set_option maxRecDepth 100000 in
theorem take_any (p k n:Nat) (r:List UInt8) (w:World) (hT:Tx w p r n) (hk:k≤r.length) (hr:r.length≤1000000) (hn:n≤1000000) :
  Calls Tryz.prog 73 #[.pointer (some ⟨p,0,none⟩),.int .i64 (k:Int)] w fun e w'=>e=.returned (.string (txt (r.take k)))∧Tx w' p (r.drop k) (n+c10 (r.take k))∧FrP p w w':=by
 have hlen:(r.take k).length≤1000000:=by rw [List.length_take];omega
 have HLn:=hide (linesIn_any (r.take k) hlen)
 have hc1:=c10_le (r.take k)
 obtain ⟨c0,c1,f0,f1⟩:=hT.cells
 have hsz:=txt_size r
 have HE1:Hid ((txt r).extract 0 k=txt (r.take k)):=by unfold Hid;rw [txt_ext];simp
 have HE2:Hid ((txt r).extract k (txt r).size=txt (r.drop k)):=by unfold Hid;rw [txt_ext,txt_size,List.take_of_length_le (Nat.le_refl _)]
 have HT1:=hide (hT.set0 (r.drop k))
 have HF1:Hid (FrP p w (w.setCell ⟨p,0,none⟩ (.string (txt (r.drop k))))):=(Fr.refl _ w).set _ _ rfl
 have HKK:Hid (∀ w',Below (w.setCell ⟨p,0,none⟩ (.string (txt (r.drop k)))).drew.heap.size (w.setCell ⟨p,0,none⟩ (.string (txt (r.drop k)))).drew w'→Tx w' p (r.drop k) n∧FrP p w w'):=fun w' hb=>⟨HT1.out.drew.below hb,HF1.out.drew.trans (Fr.ofBelow hb) (fun _ _ e=>e)⟩
 have hrI:(k:Int)≤((txt r).size:Int):=by omega
 have hk0:(0:Int)≤(k:Int):=by omega
 have HS:Hid (∀ w',Tx w' p (r.drop k) n→Tx (w'.setCell ⟨p,1,none⟩ (.int .i64 ((n+c10 (r.take k):Nat):Int))) p (r.drop k) (n+c10 (r.take k))):=fun w' h=>h.set1 _
 have hw:IntKind.i64.wrap ((n:Int)+((c10 (r.take k):Nat):Int))=((n+c10 (r.take k):Nat):Int):=by rw [IntKind.wrap_i64];omega
 have hc1b:c10 (r.take k)≤1000000:=by omega
 have hw2:(n:Int)+((c10 (r.take k):Nat):Int)=((n+c10 (r.take k):Nat):Int):=by omega
 generalize hN:n+c10 (r.take k)=N at *
 have e1:=HE1.out
 have e2:=HE2.out
 generalize hA:txt (r.take k)=A at *
 generalize hB:txt (r.drop k)=B at *
 generalize txt r=T at *
 generalize r.drop k=R at *
 generalize c10 (r.take k)=C at *
 have hkT:k≤T.size:=by omega
 have hTm:T.size≤1000000:=by omega
 clear hT hlen hc1 hsz
 have HW2:=hide hw2
 clear hw2 hA hB hN
 go_enter Tryz.func73,Tryz.ntmps73
 go_wp2
 go_region_with (first | (go_at_call 122;refine (HLn.out _).mono ?_;rintro e w' ⟨rfl,hb⟩;obtain ⟨hTx,hFr⟩:=HKK.out _ (hb:Below _ _ _);obtain ⟨d0,d1,g0,g1⟩:=hTx.cells;clear hb))
 all_goals (go_wp2;go_ret;exact ⟨rfl,HS.out _ hTx,hFr.set _ _ rfl⟩)
theorem takeW_succ {P:UInt8→Bool} {r:List UInt8} {k:Nat} (h:r.take k ++ (r.drop k).takeWhile P=r.takeWhile P) (hk:k < r.length) :
  (P r[k]=true→r.take (k+1) ++ (r.drop (k+1)).takeWhile P=r.takeWhile P)∧(P r[k]=false→r.takeWhile P=r.take k):=by
 have e:r.drop k=r[k] :: r.drop (k+1):=List.drop_eq_getElem_cons hk
 rw [e,List.takeWhile_cons] at h
 constructor
 ·intro hp
  rw [hp] at h
  simp only [if_true] at h
  rw [List.take_succ_eq_append_getElem hk,List.append_assoc]
  exact h
 ·intro hp
  rw [hp] at h
  simp at h
  exact h.symm
theorem dropW_take {P:UInt8→Bool} {r:List UInt8} {k:Nat} (h:r.takeWhile P=r.take k) (_:k≤r.length):r.dropWhile P=r.drop k:=by
 have e1:r.takeWhile P ++ r.dropWhile P=r:=List.takeWhile_append_dropWhile
 have e2:r.take k ++ r.drop k=r:=List.take_append_drop k r
 rw [h] at e1
 exact List.append_cancel_left (e1.trans e2.symm)
set_option maxRecDepth 100000 in
theorem eat_any (K b p n:Nat) (P:UInt8→Bool) (S:Value) (r:List UInt8) (w:World) (hT:Tx w p r n) (hr:r.length≤1000000) (hn:n≤1000000) (hS:w.cell? ⟨b,0,none⟩=some S)
  (he:∀ args w,(callFunc K args).run Tryz.prog w=.ok (.enter K args) w)
  (HC:∀ (c:UInt8) (W:World),W.cell? ⟨b,0,none⟩=some S→Calls Tryz.prog K #[.int .u8 (c.toNat:Int),.pointer (some ⟨b,0,none⟩)] W fun e w'=>e=.returned (.bool (P c))∧w'=W) :
  Calls Tryz.prog 33 #[.pointer (some ⟨p,0,none⟩),.func (Fn.func K) #[] #[.pointer (some ⟨b,0,none⟩)]] w fun e w'=>e=.returned (.string (txt (r.takeWhile P)))∧Tx w' p (r.dropWhile P) (n+c10 (r.takeWhile P))∧FrP p w w':=by
 obtain ⟨c0,c1,f0,f1⟩:=hT.cells
 have HK:Hid (∀ k,k≤r.length→r.takeWhile P=r.take k→Calls Tryz.prog 73 #[.pointer (some ⟨p,0,none⟩),.int .i64 (k:Int)] w fun e w'=>e=.returned (.string (txt (r.takeWhile P)))∧Tx w' p (r.dropWhile P) (n+c10 (r.takeWhile P))∧FrP p w w'):=fun k hk h=>by
  have:=take_any p k n r w hT hk hr hn
  rw [← h,← dropW_take h hk] at this
  exact this
 have HCC:Hid (∀ c:UInt8,_):=fun c=>HC c w hS
 obtain ⟨T,hTT⟩:∃ T,T=txt r:=⟨_,rfl⟩
 have hsz:T.size=r.length:=by rw [hTT,txt_size]
 have HG:Hid (∀ (k:Nat) (h:k < T.size) (h':k < r.length),T[k]=r[k]):=fun k h h'=>by subst hTT;simp [txt,ByteArray.getElem_eq_getElem_data]
 rw [← hTT] at c0
 have HZ:=hide hsz
 have hTm:T.size≤1000000:=by omega
 clear hTT hsz hT HC hS
 generalize hA:txt (r.takeWhile P)=A at *
 generalize n+c10 (r.takeWhile P)=N at *
 generalize r.dropWhile P=R at *
 clear hA
 go_enter Tryz.func33,Tryz.ntmps33
 go_wp2
 go_loop [5] (fun vi=>∃ k:Nat,vi=.int .i64 (k:Int)∧k≤T.size∧Hid (r.take k ++ (r.drop k).takeWhile P=r.takeWhile P)) (fun vi=>T.size - (intOf vi).toNat)
 case atStart=>exact ⟨0,rfl,by omega,by simp [Hid]⟩
 case round =>
  obtain ⟨k,rfl,hk,HI⟩:=hrel
  by_cases hlt:k < T.size
  ·have hltl:k < r.length:=by rw [← HZ.out];exact hlt
   have hg:=HG.out k hlt hltl
   have hst:=takeW_succ HI.out hltl
   have HD:=hide (HCC.out T[k])
   have hkI:(k:Int) < (T.size:Int):=by omega
   cases hp:P T[k] with
   | true =>
    rw [hp] at HD
    have HE:=hide (hst.1 (by rw [← hg];exact hp))
    clear hst hp hg HI
    go_wp2_with fail
    refine HD.out.mono ?_
    rintro e w' ⟨rfl,rfl⟩
    go_wp2
    exact ⟨⟨k+1,by congr 1,by omega,HE⟩,by simp [intOf];omega⟩
   | false =>
    rw [hp] at HD
    have HE:=hide (HK.out k (by omega) (hst.2 (by rw [← hg];exact hp)))
    clear hst hp hg HI
    go_wp2_with fail
    refine HD.out.mono ?_
    rintro e w' ⟨rfl,rfl⟩
    go_wp2_with fail
    refine HE.out.mono ?_
    rintro e w1 ⟨rfl,h1,h2⟩
    have H1:=hide h1;have H2:=hide h2
    clear h1 h2
    go_wp2
    go_ret
    exact ⟨rfl,H1.out,H2.out⟩
  ·have hkk:k=T.size:=by omega
   have HE:=hide (HK.out k (by rw [← HZ.out];omega) (by
    have:=HI.out
    rw [List.drop_of_length_le (by rw [← HZ.out];omega)] at this
    simpa using this.symm))
   have hkI:¬ ((k:Int) < (T.size:Int)):=by omega
   clear hkk HI
   go_wp2_with fail
   refine HE.out.mono ?_
   rintro e w1 ⟨rfl,h1,h2⟩
   have H1:=hide h1;have H2:=hide h2
   clear h1 h2
   go_wp2
   go_ret
   exact ⟨rfl,H1.out,H2.out⟩
end Go.Proofs.YtabkimknlifdoaaGreatDoor
