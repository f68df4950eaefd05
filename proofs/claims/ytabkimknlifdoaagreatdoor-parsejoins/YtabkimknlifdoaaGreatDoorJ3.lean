/- Pieces of the proof: WOf, WCk, WBs, UCk, UD, UE, LF, UF. -/
import Derived.Test.YtabkimknlifdoaaGreatDoorJ2
import Derived.Deep.QuietTactic
import Derived.BigQuiet
import Derived.Deep.RegionHeld3
import Derived.Lib.IndexLaws
namespace Go.Proofs.YtabkimknlifdoaaGreatDoor
open Go.RowKit
theorem hold3 {B:Nat} {w0 W w1:World} {b:Nat} {x y z:Value} {o1 o2 o3:Nat} (hb:Below W.heap.size W w1) (hS:W.cell? ⟨b,o1,none⟩=some x∧W.cell? ⟨b,o2,none⟩=some y∧W.cell? ⟨b,o3,none⟩=some z∧Below B w0 W) (hB:B≤w0.heap.size) :
  w1.cell? ⟨b,o1,none⟩=some x∧w1.cell? ⟨b,o2,none⟩=some y∧w1.cell? ⟨b,o3,none⟩=some z∧Below B w0 w1:=by
 obtain ⟨h1,h2,h3,h⟩:=hS
 have hlt:b < W.heap.size:=by have:=World.block_lt_of_cell? W _ h1;exact this
 have hz:=h.size
 exact ⟨(hb.cell hlt).trans h1,(hb.cell hlt).trans h2,(hb.cell hlt).trans h3,h.trans (hb.mono (by omega))⟩
def okB (n hi lo:Int):Bool:=mayBe n && (cHi n hi == hi && cLo n lo == lo)
set_option maxHeartbeats 1000000 in
theorem check_may (n hi lo:Int) (w:World) (h0:1≤n) (h1:n≤128) (a0:0≤hi) (a1:hi < 18446744073709551616) (b0:0≤lo) (b1:lo < 18446744073709551616) :
  Calls Tryz.prog 38 #[.agg #[.int .i64 n,.int .u64 hi,.int .u64 lo]] w fun e w' =>
   e=.returned (.bool (cHi n hi == hi && cLo n lo == lo))∧Below w.heap.size w w':=by
 have hm:=mayBe_yes h0 h1
 cases e1:(cHi n hi == hi) <;> cases e2:(cLo n lo == lo)
 all_goals
  go_enter Tryz.func38,Tryz.ntmps38
  go_wp2
  go_region_held3 (fun w'=>w'.cell? ⟨w.heap.size,0,none⟩=some (.int .i64 n)∧w'.cell? ⟨w.heap.size,1,none⟩=some (.int .u64 hi)∧w'.cell? ⟨w.heap.size,2,none⟩=some (.int .u64 lo)∧Below (w.heap.size+1) (w.alloc (.cells #[.int .i64 n,.int .u64 hi,.int .u64 lo] 35)) w') (first | exact hold3 (by assumption) (by assumption) (by simp) | (refine ⟨?_,?_,?_,?_⟩ <;> first | exact (Below.refl _ _).drew | simp [go_sem]))
   (first
    | (go_at_call 85;refine (widthMayBe_any _ _).mono ?_;rintro e w' ⟨rfl,rfl⟩)
    | (go_at_call 86;refine (cut_any n hi lo _ h0 h1 a0 a1 b0 b1).mono ?_;rintro e w1 ⟨rfl,hb⟩))
 all_goals (go_wp2;go_ret;exact ⟨rfl,(((Below.refl _ _).alloc (Nat.le_refl _) _).drew).trans (hb.mono (by simp))⟩)
theorem widthMayBe_no (n:Int) (w:World) (h:mayBe n=false) :
  Calls Tryz.prog 85 #[.int .i64 n] w fun e w'=>e=.returned (.bool false)∧w'=w:=by
 have:=widthMayBe_any n w
 rw [h] at this
 exact this
theorem check_not (n hi lo:Int) (w:World) (h:¬ (1≤n∧n≤128)) :
  Calls Tryz.prog 38 #[.agg #[.int .i64 n,.int .u64 hi,.int .u64 lo]] w fun e w' =>
   e=.returned (.bool false)∧Below w.heap.size w w':=by
 have hm:=mayBe_no h
 clear h
 go_enter Tryz.func38,Tryz.ntmps38
 go_wp2
 go_quiet ((go_at_call 85;exact Calls.quiet_of_same (widthMayBe_no _ _ hm)))
 go_wp2
 go_ret
 exact ⟨rfl,below_drewN ((Below.refl _ _).alloc (Nat.le_refl _) _) _⟩
theorem check_any (n hi lo:Int) (w:World) (a0:0≤hi) (a1:hi < 18446744073709551616) (b0:0≤lo) (b1:lo < 18446744073709551616) :
  Calls Tryz.prog 38 #[.agg #[.int .i64 n,.int .u64 hi,.int .u64 lo]] w fun e w' =>
   e=.returned (.bool (okB n hi lo))∧Below w.heap.size w w':=by
 by_cases h:1≤n∧n≤128
 ·have e:okB n hi lo=(cHi n hi == hi && cLo n lo == lo):=by unfold okB;rw [mayBe_yes h.1 h.2];rfl
  rw [e]
  exact check_may n hi lo w h.1 h.2 a0 a1 b0 b1
 ·have e:okB n hi lo=false:=by unfold okB;rw [mayBe_no h];rfl
  rw [e]
  exact check_not n hi lo w h
def okN (n:Int) (v:Nat):Bool:=mayBe n && decide (v < 2 ^ n.toNat)
theorem checkV (n:Int) (v:Nat) (w:World) (hv:v < top) :
  Calls Tryz.prog 38 #[.agg #[.int .i64 n,.int .u64 (wHi v),.int .u64 (wLo v)]] w fun e w'=>e=.returned (.bool (mayBe n && decide (v < 2 ^ n.toNat)))∧Below w.heap.size w w':=by
 have h:=check_any n (wHi v) (wLo v) w (wHi_bd hv).1 (wHi_bd hv).2 (wLo_bd v).1 (wLo_bd v).2
 have e:okB n (wHi v) (wLo v)=(mayBe n && decide (v < 2 ^ n.toNat)):=by
  unfold okB
  cases hm:mayBe n
  ·rfl
  ·have h0:1≤n∧n≤128:=by simpa [mayBe] using hm
   rw [ok_iff n v h0.1]
 rw [e] at h
 exact h
theorem tx_le (n v:Nat) (hn:n≤128) (hv:v < 340282366920938463463374607431768211456):(Lib.decDigits n).length≤3∧(hx v).length≤32:=by
 constructor
 ·have h:∀ m:Fin 129,(Lib.decDigits m.val).length≤3:=by decide +kernel
  exact h ⟨n,by omega⟩
 ·have e:(340282366920938463463374607431768211456:Nat)=16 ^ 32:=by decide
  rw [e] at hv
  have h:∀ (k v:Nat),v < 16 ^ (k+1)→(hx v).length≤k+1:=by
   intro k
   induction k with
   | zero=>intro v h;rw [hx_small (by simpa using h)];simp
   | succ k ih =>
    intro v h
    by_cases hs:v < 16
    ·rw [hx_small hs];simp
    ·rw [hx_big hs,List.length_append]
     have:=ih (v / 16) (by rw [Nat.pow_succ] at h;omega)
     simp;omega
  exact h 31 v hv
theorem text_no (n:Int) (v:Nat) (w:World) (hv:v < top) (ho:okN n v=false) :
  Calls Tryz.prog 23 #[.agg #[.int .i64 n,.int .u64 (wHi v),.int .u64 (wLo v)]] w fun e w'=>e=.returned (.tuple #[.string (txt []),.int .i64 1])∧Below w.heap.size w w':=by
 have HC:Hid (∀ W,Calls Tryz.prog 38 #[.agg #[.int .i64 n,.int .u64 (wHi v),.int .u64 (wLo v)]] W fun e W'=>e=.returned (.bool false)∧Below W.heap.size W W'):=fun W=>by
  have:=checkV n v W hv
  rw [show (mayBe n && decide (v < 2 ^ n.toNat))=okN n v from rfl,ho] at this
  exact this
 generalize wHi v=h1 at *
 generalize wLo v=l1 at *
 clear ho hv
 go_enter Tryz.func23,Tryz.ntmps23
 go_wp2_with fail
 refine (HC.out _).mono ?_
 rintro e w1 ⟨rfl,hb⟩
 have HW:Hid (Below w.heap.size w w1):=((Below.refl _ _).alloc (Nat.le_refl _) _).trans (hb.mono (by simp))
 clear hb
 go_wp2
 go_ret2
 exact ⟨rfl,HW.out⟩
theorem w_joinN (v:Nat):(wHi v).toNat * 18446744073709551616+(wLo v).toNat=v:=by unfold wHi wLo;omega
theorem text_yes (n:Int) (v:Nat) (w:World) (hL:Ld w) (hv:v < top) (ho:okN n v=true) :
  Calls Tryz.prog 23 #[.agg #[.int .i64 n,.int .u64 (wHi v),.int .u64 (wLo v)]] w fun e w'=>e=.returned (.tuple #[.string (txt (tx n.toNat v)),.int .i64 0])∧Below w.heap.size w w':=by
 have HC:Hid (∀ W,Calls Tryz.prog 38 #[.agg #[.int .i64 n,.int .u64 (wHi v),.int .u64 (wLo v)]] W fun e W'=>e=.returned (.bool true)∧Below W.heap.size W W'):=fun W=>by
  have:=checkV n v W hv
  rw [show (mayBe n && decide (v < 2 ^ n.toNat))=okN n v from rfl,ho] at this
  exact this
 have hn:1≤n∧n≤128:=by
  unfold okN mayBe at ho
  simp at ho
  exact ⟨by omega,by omega⟩
 obtain ⟨N,rfl⟩:∃ N:Nat,n=(N:Int):=⟨n.toNat,by omega⟩
 have HD:Hid (∀ W,Ld W→Calls Tryz.prog 40 #[.int .u64 (wHi v),.int .u64 (wLo v)] W fun e w'=>e=.returned (.string (txt (hx v)))∧Below W.heap.size W w'):=fun W h=>by
  have:=digits_any (wHi v).toNat (wLo v).toNat (by have:=wHi_bd hv;omega) (by have:=(wLo_bd v);omega) W h
  rw [w_joinN] at this
  have e1:(((wHi v).toNat:Nat):Int)=wHi v:=by have:=wHi_bd hv;omega
  have e2:(((wLo v).toNat:Nat):Int)=wLo v:=by have:=wLo_bd v;omega
  rw [e1,e2] at this
  exact this
 have HI:Hid (∀ W,Ld W→_):=fun W h=>itoa_any N (by omega) W h
 have hle:=tx_le N v (by omega) (by unfold top at hv;exact hv)
 have HX:Hid ((txt (Lib.decDigits N) ++ txt [119]) ++ txt (hx v)=txt (tx N v)):=by unfold Hid;rw [cat_txt,cat_txt];congr 1;simp [tx]
 rw [Int.toNat_natCast]
 have hs1:¬ 9223372036854775807 < (txt (Lib.decDigits N)).size+1:=by rw [txt_size];omega
 have hs2:¬ 9223372036854775807 < (txt (Lib.decDigits N)).size+1+(txt (hx v)).size:=by rw [txt_size,txt_size];omega
 generalize txt (tx N v)=R at *
 generalize txt (Lib.decDigits N)=A at *
 generalize txt (hx v)=B at *
 generalize wHi v=h1 at *
 generalize wLo v=l1 at *
 generalize (N:Int)=NI at *
 have HL:=hide hL
 clear ho hL hle hn
 go_enter Tryz.func23,Tryz.ntmps23
 go_wp2_with fail
 refine (HC.out _).mono ?_
 rintro e w1 ⟨rfl,hb⟩
 have hz:w.heap.size < w1.heap.size:=by have:=hb.size;simp at this;omega
 have hk:=cells3T hb
 have HW:Hid (Below w.heap.size w w1):=((Below.refl _ _).alloc (Nat.le_refl _) _).trans (hb.mono (by simp))
 have HL1:=hide (HL.out.below HW.out)
 have hlt:w.heap.size < w1.heap.size:=hz
 clear hb
 obtain ⟨hk0,hk1,hk2⟩:=hk
 have HH:Hid (∀ w',Below w1.heap.size w1 w'→Below w1.heap.size w1 w'∧w'.cell? ⟨w.heap.size,0,none⟩=some (.int .i64 NI)∧w'.cell? ⟨w.heap.size,1,none⟩=some (.int .u64 h1)∧w'.cell? ⟨w.heap.size,2,none⟩=some (.int .u64 l1)) :=
  fun w' h=>⟨h,(h.cell hlt).trans hk0,(h.cell hlt).trans hk1,(h.cell hlt).trans hk2⟩
 go_wp2
 go_region_held3 (fun w'=>Below w1.heap.size w1 w'∧w'.cell? ⟨w.heap.size,0,none⟩=some (.int .i64 NI)∧w'.cell? ⟨w.heap.size,1,none⟩=some (.int .u64 h1)∧w'.cell? ⟨w.heap.size,2,none⟩=some (.int .u64 l1)) (first | exact keepS HH.out (by assumption) (And.left (by assumption)) (Nat.le_refl _) | exact HH.out _ (Below.refl _ _).drew)
  (first
   | (go_at_call 39;refine (HI.out _ (HL1.out.below (And.left (by assumption):Below w1.heap.size w1 _))).mono ?_;rintro e w' ⟨rfl,hb1⟩)
   | (go_at_call 40;refine (HD.out _ (HL1.out.below (And.left (by assumption):Below w1.heap.size w1 _))).mono ?_;rintro e w2 ⟨rfl,hb2⟩))
 all_goals (go_wp2;go_ret2;exact ⟨by rw [← HX.out];rfl,HW.out.trans ((And.left (by assumption):Below w1.heap.size w1 _).mono (by omega))⟩)
theorem idx_w:∀ (l:List UInt8),(Lib.indexByte l 119=-1∧cutL l=l∧cutR' l=[]) ∨ ∃ o:Nat,Lib.indexByte l 119=(o:Int)∧o < l.length∧cutL l=l.take o∧cutR' l=l.drop (o+1)
 | []=>.inl ⟨rfl,rfl,rfl⟩
 | c :: l=>by
  by_cases hc:c=119
  ·subst hc
   exact .inr ⟨0,by simp [Lib.indexByte],by simp,by simp [cutL,notW],by simp [cutR',notW]⟩
  ·have hn:notW c=true:=by simp [notW,hc]
   have hb:(c == 119)=false:=by simpa using hc
   rcases idx_w l with ⟨h1,h2,h3⟩ | ⟨o,h1,h2,h3,h4⟩
   ·exact .inl ⟨by simp [Lib.indexByte,hb,h1],by unfold cutL at h2 ⊢;rw [List.takeWhile_cons,hn];simp only [if_true];rw [h2],by unfold cutR' at h3 ⊢;rw [List.dropWhile_cons,hn];simpa using h3⟩
   ·refine .inr ⟨o+1,?_,by simp;omega,?_,?_⟩
    ·have:¬ ((o:Int)=-1):=by omega
     simp [Lib.indexByte,hb,h1,this]
    ·unfold cutL at h3 ⊢;rw [List.takeWhile_cons,hn];simp only [if_true];rw [h3];rfl
    ·unfold cutR' at h4 ⊢;rw [List.dropWhile_cons,hn];simpa using h4
theorem txt_ext (l:List UInt8) (a b:Nat):(txt l).extract a b=txt ((l.take b).drop a):=by
 apply ByteArray.ext
 simp [txt,List.extract_eq_take_drop,List.drop_take]
theorem cutIn (l:List UInt8) (hl:l.length≤9223372036854775806) (w:World) :
  Calls Tryz.prog 235 #[.string (txt l),.string ⟨#[119]⟩] w fun e w'=>(∃ b,e=.returned (.tuple #[.string (txt (cutL l)),.string (txt (cutR' l)),.bool b]))∧Below w.heap.size w w':=by
 have HI:=hide (Tryz.stringslite_Index_one (txt l) 119)
 have hsz:=txt_size l
 rw [txt_data] at HI
 rcases idx_w l with ⟨h1,h2,h3⟩ | ⟨o,h1,h2,h3,h4⟩
 ·rw [h1] at HI
  rw [h2,h3,txt_nil]
  clear h1 h2 h3
  generalize txt l=T at *
  go_enter Tryz.func235,Tryz.ntmps235
  go_wp2_with fail
  refine (HI.out _).mono ?_
  rintro e w1 ⟨rfl,rfl⟩
  go_wp2
  refine bodyPost_ret (v:=.tuple #[.string T,.string ⟨#[]⟩,.bool false]) (by simp [results,Tryz.results235,go_sem]) rfl ⟨⟨_,rfl⟩,Below.refl _ _⟩
 ·rw [h1] at HI
  have HE1:Hid ((txt l).extract 0 o=txt (cutL l)):=by unfold Hid;rw [txt_ext,h3];simp
  have HE2:Hid ((txt l).extract (o+1) (txt l).size=txt (cutR' l)):=by unfold Hid;rw [txt_ext,h4,txt_size,List.take_of_length_le (Nat.le_refl _)]
  clear h1 h3 h4
  generalize txt (cutL l)=A at *
  generalize txt (cutR' l)=B at *
  have ho:o < (txt l).size:=by omega
  generalize txt l=T at *
  have hT:T.size≤9223372036854775806:=by omega
  clear hsz h2 hl
  go_enter Tryz.func235,Tryz.ntmps235
  go_wp2_with fail
  refine (HI.out _).mono ?_
  rintro e w1 ⟨rfl,rfl⟩
  go_wp2
  go_region
  go_wp2
  refine bodyPost_ret (v:=.tuple #[.string (T.extract 0 o),.string (T.extract (o+1) T.size),.bool true]) (by simp [results,Tryz.results235,go_sem]) rfl ⟨⟨true,by rw [HE1.out,HE2.out]⟩,?_⟩
  exact (Below.refl _ _).drew
theorem cutS_any (l:List UInt8) (hl:l.length≤9223372036854775806) (w:World) :
  Calls Tryz.prog 217 #[.string (txt l),.string ⟨#[119]⟩] w fun e w'=>(∃ b,e=.returned (.tuple #[.string (txt (cutL l)),.string (txt (cutR' l)),.bool b]))∧Below w.heap.size w w':=by
 have HI:=hide (cutIn l hl)
 generalize txt (cutL l)=A at *
 generalize txt (cutR' l)=B at *
 generalize txt l=T at *
 clear hl
 go_enter Tryz.func217,Tryz.ntmps217
 go_wp2_with fail
 refine (HI.out _).mono ?_
 rintro e w1 ⟨⟨b,rfl⟩,hb⟩
 have HB:=hide hb
 clear hb
 go_wp2
 refine bodyPost_ret (v:=.tuple #[.string A,.string B,.bool b]) (by simp [results,Tryz.results217,go_sem]) rfl ⟨⟨_,rfl⟩,HB.out⟩
theorem cut_len (l:List UInt8):(cutL l).length≤l.length∧(cutR' l).length≤l.length:=by
 rcases idx_w l with ⟨_,h2,h3⟩ | ⟨o,_,_,h3,h4⟩
 ·rw [h2,h3];simp
 ·rw [h3,h4];simp;omega
theorem wh_lt (b:Nat) (l:List UInt8):wh b l < 18446744073709551616:=by
 have h:∀ (l:List UInt8) (acc n:Nat),acc≤18446744073709551615→pu b 18446744073709551615 acc l=.ok n→n≤18446744073709551615:=by
  intro l
  induction l with
  | nil=>intro acc n ha h;simp [pu] at h;omega
  | cons c l ih =>
   intro acc n ha h
   simp only [pu] at h
   split at h
   ·cases h
   ·split at h
    ·cases h
    ·exact ih _ _ (by omega) h
 unfold wh
 split
 ·omega
 ·split
  ·have:=h _ 0 _ (by omega) (by assumption);omega
  ·omega
theorem gs_bd (l:List UInt8):gsW l < 18446744073709551616∧gsH l < 18446744073709551616∧gsL l < 18446744073709551616:=⟨wh_lt _ _,wh_lt _ _,wh_lt _ _⟩
def gsN (l:List UInt8):Int:=IntKind.i64.wrap (gsW l:Int)
def Sh3 (b:Nat) (W:World):Prop:=∃ cs:Array Value,W.heap[b]? = some (.cells cs 35 (0,0))∧cs.size=3
def cv (W:World) (b i:Nat):Value:=(W.cell? ⟨b,i,none⟩).getD undef
theorem Sh3.cell {b i:Nat} {W:World} (h:Sh3 b W) (hi:i < 3):W.cell? ⟨b,i,none⟩=some (cv W b i)∧W.frozen? ⟨b,i,none⟩=false:=by
 obtain ⟨cs,h1,h2⟩:=h
 have:W.cell? ⟨b,i,none⟩=some (cs[i]'(by omega)):=by simp [World.cell?,h1,Array.getElem?_eq_getElem (show i < cs.size by omega)]
 refine ⟨by unfold cv;rw [this];rfl,by simp [World.frozen?,h1]⟩
theorem Sh3.set {b i:Nat} {W:World} (h:Sh3 b W) (v:Value):Sh3 b (W.setCell ⟨b,i,none⟩ v):=by
 obtain ⟨cs,h1,h2⟩:=h
 refine ⟨cs.setIfInBounds i v,?_,by simp [h2]⟩
 have hl:=(Array.getElem?_eq_some_iff.1 h1).1
 simp [World.setCell,Array.getElem?_modify,h1]
theorem Sh3.below {b:Nat} {W W':World} (h:Sh3 b W) (hb:Below W.heap.size W W'):Sh3 b W':=by
 obtain ⟨cs,h1,h2⟩:=h
 exact ⟨cs,(hb.block _ (Array.getElem?_eq_some_iff.1 h1).1).trans h1,h2⟩
theorem Sh3.got {b:Nat} {W:World} (h:Sh3 b W) (x y z:Value):(((W.setCell ⟨b,0,none⟩ x).setCell ⟨b,1,none⟩ y).setCell ⟨b,2,none⟩ z).heap[b]? = some (.cells #[x,y,z] 35 (0,0)):=by
 obtain ⟨cs,h1,h2⟩:=h
 have hl:=(Array.getElem?_eq_some_iff.1 h1).1
 obtain ⟨l⟩:=cs
 match l,h2 with
 | [a,b',c],_=>simp [World.setCell,Array.getElem?_modify,h1]
theorem cells_of3 {b:Nat} {W:World} {x y z:Value} (h:W.heap[b]? = some (.cells #[x,y,z] 35 (0,0))):W.cell? ⟨b,0,none⟩=some x∧W.cell? ⟨b,1,none⟩=some y∧W.cell? ⟨b,2,none⟩=some z∧W.frozen? ⟨b,0,none⟩=false∧W.frozen? ⟨b,1,none⟩=false∧W.frozen? ⟨b,2,none⟩=false:=by
 refine ⟨?_,?_,?_,?_,?_,?_⟩ <;> simp [World.cell?,World.frozen?,h]
def S3 (b:Nat) (w W:World):Prop:=Below w.heap.size w W∧Sh3 b W∧W.cell? ⟨b,0,none⟩=some (cv W b 0)∧W.cell? ⟨b,1,none⟩=some (cv W b 1)∧W.cell? ⟨b,2,none⟩=some (cv W b 2)∧W.frozen? ⟨b,0,none⟩=false∧W.frozen? ⟨b,1,none⟩=false∧W.frozen? ⟨b,2,none⟩=false
theorem S3.mk {b:Nat} {w W:World} (h:Below w.heap.size w W) (hs:Sh3 b W):S3 b w W :=
 ⟨h,hs,(hs.cell (by omega)).1,(hs.cell (by omega)).1,(hs.cell (by omega)).1,(hs.cell (by omega)).2,(hs.cell (by omega)).2,(hs.cell (by omega)).2⟩
theorem S3.call {b:Nat} {w W W':World} (h:Below w.heap.size w W) (hs:Sh3 b W) (hb:Below W.heap.size W W'):S3 b w W':=S3.mk (h.trans (hb.mono h.size)) (hs.below hb)
theorem S3.drew {b:Nat} {w W:World} (h:Below w.heap.size w W) (hs:Sh3 b W):S3 b w W.drew:=S3.mk h.drew (by obtain ⟨cs,h1,h2⟩:=hs;exact ⟨cs,h1,h2⟩)
theorem S3.store {w W:World} (h:Below w.heap.size w W) (hs:Sh3 w.heap.size W) (x y z:Value):S3 w.heap.size w (((W.setCell ⟨w.heap.size,0,none⟩ x).setCell ⟨w.heap.size,1,none⟩ y).setCell ⟨w.heap.size,2,none⟩ z) :=
 S3.mk (((h.setCell (Nat.le_refl _) x).setCell (Nat.le_refl _) y).setCell (Nat.le_refl _) z) (((hs.set x).set y).set z)
def WOk (x:ByteArray) (b:Int):Prop:=(b=10 ∨ b=16)∧x.size≤281474976710656
def whI (b:Int) (x:ByteArray):Int:=((wh b.toNat x.data.toList:Nat):Int)
theorem whole_all (x:ByteArray) (b:Int) (h:WOk x b) (w:World) (hL:Ld w) :
  Calls Tryz.prog 218 #[.string x,.int .i64 b] w fun e w'=>e=.returned (.int .u64 (whI b x))∧Below w.heap.size w w':=by
 obtain ⟨h1,h2⟩:=h
 rw [txt_of x] at h2 ⊢
 rw [txt_size] at h2
 rcases h1 with rfl | rfl
 ·have:=whole10 x.data.toList h2 w hL
  simpa only [whI,txt_data,show Int.toNat 10=10 from rfl] using this
 ·have:=whole16 x.data.toList h2 w hL
  simpa only [whI,txt_data,show Int.toNat 16=16 from rfl] using this
set_option maxHeartbeats 4000000 in
set_option maxRecDepth 100000 in
theorem guess_any (l:List UInt8) (hl:l.length≤281474976710656) (w:World) (hL:Ld w) :
  Calls Tryz.prog 180 #[.string (txt l)] w fun e w'=>e=.returned (.agg #[.int .i64 (gsN l),.int .u64 (gsH l:Nat),.int .u64 (gsL l:Nat)])∧Below w.heap.size w w':=by
 have HC:=hide (cutS_any l (by omega))
 have hcl:=cut_len l
 have HW3:=hide whole_all
 have oU:WOk (txt (cutL l)) 10:=⟨.inl rfl,by rw [txt_size];omega⟩
 have o1:WOk (txt ((cutR' l).take ((cutR' l).length - 16))) 16:=⟨.inr rfl,by rw [txt_size,List.length_take];omega⟩
 have o2:WOk (txt ((cutR' l).drop ((cutR' l).length - 16))) 16:=⟨.inr rfl,by rw [txt_size,List.length_drop];omega⟩
 have hw:IntKind.i64.wrap (whI 10 (txt (cutL l)))=gsN l:=by unfold whI gsN gsW;rw [txt_data];rfl
 have HV1:Hid (whI 16 (txt ((cutR' l).take ((cutR' l).length - 16)))=((gsH l:Nat):Int)):=by unfold Hid whI gsH;rw [txt_data];rfl
 have HV2:Hid (whI 16 (txt ((cutR' l).drop ((cutR' l).length - 16)))=((gsL l:Nat):Int)):=by unfold Hid whI gsL;rw [txt_data];rfl
 generalize (gsH l:Int)=h1 at *
 generalize (gsL l:Int)=l1 at *
 generalize gsN l=n1 at *
 have hV:=txt_size (cutR' l)
 have HE1:Hid ((txt (cutR' l)).extract 0 ((cutR' l).length - 16)=txt ((cutR' l).take ((cutR' l).length - 16))):=by unfold Hid;rw [txt_ext];simp
 have HE2:Hid ((txt (cutR' l)).extract ((cutR' l).length - 16) (txt (cutR' l)).size=txt ((cutR' l).drop ((cutR' l).length - 16))):=by unfold Hid;rw [txt_ext,txt_size,List.take_of_length_le (Nat.le_refl _)]
 have hq:(cutR' l).length≤281474976710656:=by omega
 generalize txt ((cutR' l).take ((cutR' l).length - 16))=P1 at *
 generalize txt ((cutR' l).drop ((cutR' l).length - 16))=P2 at *
 generalize (cutR' l).length=q at *
 generalize txt (cutR' l)=V at *
 generalize txt (cutL l)=U at *
 generalize txt l=T at *
 have HL:=hide hL
 obtain ⟨k,hk⟩:∃ k,k=q - 16:=⟨_,rfl⟩
 rw [← hk] at HE1 HE2
 have hmax:max ((q:Int) - 16) 0=(k:Int):=by omega
 have hkV:k≤V.size:=by omega
 have hq63:V.size≤281474976710656:=by omega
 clear hL hl hcl hk
 subst hV
 go_enter Tryz.func180,Tryz.ntmps180
 go_wp2_with fail
 refine (HC.out _).mono ?_
 rintro e w1 ⟨⟨b,rfl⟩,hb⟩
 have hz:w.heap.size < w1.heap.size:=by have:=hb.size;simp at this;omega
 have HW:Hid (Below w.heap.size w w1):=((Below.refl _ _).alloc (Nat.le_refl _) _).trans (hb.mono (by simp))
 have hblk:w1.heap[w.heap.size]? = some (.cells #[.int .i64 0,.int .u64 0,.int .u64 0] 35 (0,0)):=(hb.block _ (by simp)).trans (heap_alloc_new w _)
 have HL1:=hide (HL.out.below HW.out)
 clear hb
 have HSh:Sh3 w.heap.size w1:=⟨_,hblk,rfl⟩
 have HS:=hide (S3.drew HW.out HSh)
 have e1:=HE1.out
 have e2:=HE2.out
 have hkI0:(0:Int)≤(k:Int):=by omega
 have hkI1:(k:Int)≤(V.size:Int):=by omega
 clear hblk hq HSh
 go_wp2
 go_region_held3 (fun w'=>Below w.heap.size w w'∧Sh3 w.heap.size w'∧w'.cell? ⟨w.heap.size,0,none⟩=some (cv w' w.heap.size 0)∧w'.cell? ⟨w.heap.size,1,none⟩=some (cv w' w.heap.size 1)∧w'.cell? ⟨w.heap.size,2,none⟩=some (cv w' w.heap.size 2)∧w'.frozen? ⟨w.heap.size,0,none⟩=false∧w'.frozen? ⟨w.heap.size,1,none⟩=false∧w'.frozen? ⟨w.heap.size,2,none⟩=false)
  (first | exact S3.store (And.left (by assumption)) (And.left (And.right (by assumption))) _ _ _ | exact S3.call (And.left (by assumption)) (And.left (And.right (by assumption))) (by assumption) | exact HS.out)
  (first
   | (go_at_call 218;refine (HW3.out _ _ (by assumption) _ (HL.out.below (And.left (by assumption):Below w.heap.size w _))).mono ?_;rintro e w' ⟨rfl,hb1⟩))
 rename_i hHeld
 have hg:=Sh3.got (((HS.out.2.1.below (by assumption)).below (by assumption)).below (by assumption)) (.int .i64 n1) (.int .u64 (whI 16 P1)) (.int .u64 (whI 16 P2))
 have HF:=hide hHeld.1
 clear hHeld
 generalize ((World.setCell _ ⟨w.heap.size,0,none⟩ (.int .i64 n1)).setCell ⟨w.heap.size,1,none⟩ (.int .u64 (whI 16 P1))).setCell ⟨w.heap.size,2,none⟩ (.int .u64 (whI 16 P2))=WF at *
 obtain ⟨g0,g1,g2,_,_,_⟩:=cells_of3 hg
 clear hg
 rw [HV1.out] at g1
 rw [HV2.out] at g2
 go_wp2
 refine bodyPost_ret (v:=.agg #[.int .i64 n1,.int .u64 h1,.int .u64 l1]) (by simp [results,Tryz.results180,go_sem,g0,g1,g2]) rfl ⟨rfl,HF.out⟩
end Go.Proofs.YtabkimknlifdoaaGreatDoor
namespace Go.Proofs.YtabkimknlifdoaaGreatDoor
open Go.RowKit Go.Sort
abbrev u8V:UInt8→Value:=fun b=>Value.int .u8 (b.toNat:Int)
theorem holds_at0 (w:World) (nd:Nat) (hs:nd≤24):Holds u8V (w.alloc (.cells Lib.zeros24 205)) w.heap.size 0 (Array.replicate nd (0:UInt8)):=fun j hj=>by
 have hj':j < nd:=by simpa using hj
 refine ⟨?_,World.frozen?_alloc_new _ _ _ _⟩
 rw [World.cell?_alloc_new,Lib.zeros24_at _ (by omega),getElem!_pos _ j hj]
 simp
theorem bel_put (w:World) (o:Obj) (dk:Array UInt8) (k:Nat):Below w.heap.size w ((putRow u8V (w.alloc o) w.heap.size 0 dk).drewN k):=by
 obtain ⟨os,_,e⟩:=putRow_grow_new u8V w #[o] w.heap.size 0 dk (Nat.le_refl _)
 rw [alloc_eq_grow,e]
 exact ⟨rfl,rfl,rfl,by show w.heap.size≤(w.heap ++ os).size;rw [Array.size_append];omega,fun j hj=>by show (w.heap ++ os)[j]? = w.heap[j]?;exact Array.getElem?_append_left hj⟩
set_option maxRecDepth 100000 in
theorem fmt10_in (u:Nat) (hu:u < 18446744073709551616) (w:World) (hL:Ld w) :
  Calls Tryz.prog 137 #[.int .u64 (u:Int),.int .i64 10] w fun e w'=>e=.returned (.string (txt (Lib.decDigits u)))∧Below w.heap.size w w':=by
 by_cases hs:u < 100
 ·have HS:=hide (fun W=>Tryz.internal_strconv_small u hs W)
  have hc:IntKind.i64.wrap (u:Int)=(u:Int):=by rw [IntKind.wrap_i64];omega
  have hlt:(u:Int) < 100:=by omega
  clear hL
  go_enter Tryz.func137,Tryz.ntmps137
  go_wp2_with fail
  refine (HS.out _).mono ?_
  rintro e w1 ⟨rfl,rfl⟩
  go_wp2
  go_ret
  exact ⟨rfl,Below.refl _ _⟩
 ·have hu1:1≤u:=by omega
  have hnd20:Lib.nDigits u≤20:=by have:=Lib.numDigits_eq u hu1 hu;split at this <;> omega
  have HT:Hid (∀ o,Calls Tryz.prog 182 #[.int .u64 (u:Int)] (w.alloc o) fun e w'=>e=.returned (.int .i64 (Lib.nDigits u:Int))∧w'=w.alloc o):=fun o=>Tryz.internal_strconv_numDigits u hu1 hu _ (Lib.tabIs_alloc hL.pw _)
  have hal:Tryz.prog.arrayLen 205=24:=by kernel_rfl
  have hsl:∀ W,(Instr.sliceAt 205 (.pointer (some ⟨w.heap.size,0,none⟩)) none (some (.int .i64 (Lib.nDigits u:Int))) none).run Tryz.prog W=.ok (.slice (some ⟨w.heap.size,0,none⟩) (Lib.nDigits u) 24) W:=fun W=>by
   rw [run_sliceAt_array_h W 205 ⟨w.heap.size,0,none⟩ (by kernel_rfl) .i64 (Lib.nDigits u:Int) (by omega) (by rw [hal];omega)]
   go_simp
  have hH0:=holds_at0 w (Lib.nDigits u) (by omega)
  have hfmt:=Tryz.internal_strconv_formatBase10 w.heap.size 0 24 u (Array.replicate (Lib.nDigits u) 0) (w.alloc (.cells Lib.zeros24 205)) hH0 (by rw [Array.size_replicate];exact Lib.lt_pow_nDigits u) hu (by rw [Array.size_replicate];omega)
  rw [Array.size_replicate] at hfmt
  have HF:=hide hfmt
  have HH0:=hide hH0
  have hge:¬ ((u:Int) < 100):=by omega
  clear hH0 hal hfmt hL
  go_enter Tryz.func137,Tryz.ntmps137
  go_wp2_with fail
  refine (HT.out _).mono ?_
  rintro e w1 ⟨rfl,rfl⟩
  go_wp2_with fail
  refine HF.out.mono ?_
  rintro e w2 ⟨rfl,k,v',dk,rfl,hF⟩
  have hcv:(convert 174 9 (.slice (some ⟨w.heap.size,0,none⟩) (Lib.nDigits u) 24)).run Tryz.prog ((putRow u8V (w.alloc (.cells Lib.zeros24 205)) w.heap.size 0 dk).drewN k)=.ok (.string ⟨(Lib.decDigits u).toArray⟩) ((putRow u8V (w.alloc (.cells Lib.zeros24 205)) w.heap.size 0 dk).drewN k):=by
   have h:=run_convert_bytes_back (P:=Tryz.prog) ((putRow u8V (w.alloc (.cells Lib.zeros24 205)) w.heap.size 0 dk).drewN k) 174 9 5 ⟨w.heap.size,0,none⟩ 24 (Lib.decDigits u) Tryz.underlying174 Tryz.underlying5 Tryz.underlying9 (fun j hj=>by
    rw [Lib.row_is_numeral hF j hj,Lib.add_plain,World.cell?_drewN]
    exact cell?_putRow u8V _ w.heap.size 0 _ dk HH0.out (by rw [hF.size,Array.size_replicate]) j (by rw [hF.size];rw [Lib.decDigits_length] at hj;exact hj))
   rw [Lib.decDigits_length] at h
   exact h
  have HB:=hide (bel_put w (.cells Lib.zeros24 205) dk k)
  go_wp2
  go_ret
  exact ⟨rfl,HB.out⟩
theorem fmt10 (u:Nat) (hu:u < 18446744073709551616) (w:World) (hL:Ld w) :
  Calls Tryz.prog 88 #[.int .u64 (u:Int),.int .i64 10] w fun e w'=>e=.returned (.string (txt (Lib.decDigits u)))∧Below w.heap.size w w':=by
 have HF:=hide (fmt10_in u hu w hL)
 clear hL hu
 generalize txt (Lib.decDigits u)=T at *
 go_enter Tryz.func88,Tryz.ntmps88
 go_wp2_with fail
 refine HF.out.mono ?_
 rintro e w1 ⟨rfl,hb⟩
 have HB:=hide hb
 clear hb
 go_wp2
 go_ret
 exact ⟨rfl,HB.out⟩
end Go.Proofs.YtabkimknlifdoaaGreatDoor
namespace Go.Proofs.YtabkimknlifdoaaGreatDoor
open Go.RowKit
def gsV (l:List UInt8):Nat:=gsH l * 18446744073709551616+gsL l
theorem gsV_top (l:List UInt8):gsV l < top:=by
 have:=gs_bd l
 unfold gsV top;omega
theorem gsV_w (l:List UInt8):((gsH l:Nat):Int)=wHi (gsV l)∧((gsL l:Nat):Int)=wLo (gsV l):=by
 have:=gs_bd l
 unfold gsV wHi wLo;omega
def prs (l:List UInt8):Option (Nat × Nat):=if okN (gsN l) (gsV l)=true∧tx (gsN l).toNat (gsV l)=l then some ((gsN l).toNat,gsV l) else none
theorem okN_bd {n:Int} {v:Nat} (h:okN n v=true):1≤n∧n≤128∧v < 2 ^ n.toNat:=by
 unfold okN mayBe at h
 simp at h
 exact ⟨by omega,by omega,h.2⟩
theorem prs_some {l:List UInt8} {n v:Nat} (h:prs l=some (n,v)):okN n v=true∧tx n v=l:=by
 unfold prs at h
 split at h
 ·rename_i hh
  obtain ⟨h1,h2⟩:=hh
  have hb:=okN_bd h1
  simp only [Option.some.injEq,Prod.mk.injEq] at h
  obtain ⟨rfl,rfl⟩:=h
  exact ⟨by rw [show (((gsN l).toNat:Nat):Int)=gsN l by omega];exact h1,h2⟩
 ·cases h
def prsV:Option (Nat × Nat)→Value
 | some (n,v)=>.tuple #[.agg #[.int .i64 (n:Int),.int .u64 (wHi v),.int .u64 (wLo v)],.int .i64 0]
 | none=>.tuple #[.agg #[.int .i64 0,.int .u64 0,.int .u64 0],.int .i64 8]
theorem txt_inj {a b:List UInt8} (h:txt a=txt b):a=b:=by
 have:=congrArg (fun x=>x.data.toList) h
 simpa only [txt_data] using this
theorem txt_ne {a b:List UInt8} (h:¬ a=b):((txt a).toList == (txt b).toList)=false:=by
 rw [Lib.toList_data,Lib.toList_data,txt_data,txt_data]
 simpa using h
theorem hao (w:World) (o:Obj) (k:Nat) (h:k < w.heap.size):(w.alloc o).heap[k]? = w.heap[k]?:=((Below.refl _ w).alloc (Nat.le_refl _) o).block k h
set_option maxRecDepth 100000 in
theorem parseW_ok (T R:ByteArray) (n h1 l1:Int) (w:World) (hL:Ld w) (hR:R=T)
  (HG:Hid (∀ W,Ld W→Calls Tryz.prog 180 #[.string T] W fun e w'=>e=.returned (.agg #[.int .i64 n,.int .u64 h1,.int .u64 l1])∧Below W.heap.size W w'))
  (HT:Hid (∀ W,Ld W→Calls Tryz.prog 23 #[.agg #[.int .i64 n,.int .u64 h1,.int .u64 l1]] W fun e w'=>e=.returned (.tuple #[.string R,.int .i64 0])∧Below W.heap.size W w')) :
  Calls Tryz.prog 134 #[.string T] w fun e w'=>e=.returned (.tuple #[.agg #[.int .i64 n,.int .u64 h1,.int .u64 l1],.int .i64 0])∧Below w.heap.size w w':=by
 have HL:=hide hL
 clear hL
 go_enter Tryz.func134,Tryz.ntmps134
 go_wp2_with fail
 refine (HG.out _ (HL.out.below ((Below.refl _ _).alloc (Nat.le_refl _) _))).mono ?_
 rintro e w1 ⟨rfl,hb⟩
 have hz:w.heap.size < w1.heap.size:=by have:=hb.size;simp at this;omega
 have HW:Hid (Below w.heap.size w w1):=((Below.refl _ _).alloc (Nat.le_refl _) _).trans (hb.mono (by simp))
 have hblk:w1.heap[w.heap.size]? = some (.cells #[.int .i64 0,.int .u64 0,.int .u64 0] 35 (0,0)):=(hb.block _ (by simp)).trans (heap_alloc_new w _)
 clear hb
 go_wp2_with fail
 refine (HT.out _ (HL.out.below (HW.out.alloc (by omega) _))).mono ?_
 rintro e w2 ⟨rfl,hb⟩
 have h2a:=cells_of3 (((hb.block w.heap.size (by simp;omega)).trans (hao w1 _ _ hz)).trans hblk)
 have h2b:=cells_of3 ((hb.block w1.heap.size (by simp)).trans (heap_alloc_new w1 _))
 have HW2:Hid (Below w.heap.size w w2):=(HW.out.alloc (by omega) _).trans (hb.mono (by simp;omega))
 have hsh:Sh3 w.heap.size w2:=⟨_,((hb.block w.heap.size (by simp;omega)).trans (hao w1 _ _ hz)).trans hblk,rfl⟩
 obtain ⟨a0,a1,a2,f0,f1,f2⟩:=h2a
 obtain ⟨b0,b1,b2,g0,g1,g2⟩:=h2b
 clear hb hblk
 have HSh:=hide hsh
 clear hsh
 have hne:¬ (w1.heap.size=w.heap.size):=by omega
 have hne':¬ (w.heap.size=w1.heap.size):=by omega
 go_wp2
 have hg:=cells_of3 (HSh.out.got (.int .i64 n) (.int .u64 h1) (.int .u64 l1))
 have HB:=hide (((HW2.out.setCell (p:=⟨w.heap.size,0,none⟩) (Nat.le_refl _) (.int .i64 n)).setCell (p:=⟨w.heap.size,1,none⟩) (Nat.le_refl _) (.int .u64 h1)).setCell (p:=⟨w.heap.size,2,none⟩) (Nat.le_refl _) (.int .u64 l1))
 obtain ⟨q0,q1,q2,_,_,_⟩:=hg
 refine bodyPost_ret (v:=.tuple #[.agg #[.int .i64 n,.int .u64 h1,.int .u64 l1],.int .i64 0]) (by simp [results,Tryz.results134,go_sem,q0,q1,q2]) rfl ⟨rfl,HB.out⟩
set_option maxRecDepth 100000 in
theorem parseW_ne (T R:ByteArray) (n h1 l1:Int) (w:World) (hL:Ld w) (hR:(R.toList == T.toList)=false)
  (HG:Hid (∀ W,Ld W→Calls Tryz.prog 180 #[.string T] W fun e w'=>e=.returned (.agg #[.int .i64 n,.int .u64 h1,.int .u64 l1])∧Below W.heap.size W w'))
  (HT:Hid (∀ W,Ld W→Calls Tryz.prog 23 #[.agg #[.int .i64 n,.int .u64 h1,.int .u64 l1]] W fun e w'=>e=.returned (.tuple #[.string R,.int .i64 0])∧Below W.heap.size W w')) :
  Calls Tryz.prog 134 #[.string T] w fun e w'=>e=.returned (.tuple #[.agg #[.int .i64 0,.int .u64 0,.int .u64 0],.int .i64 8])∧Below w.heap.size w w':=by
 have HL:=hide hL
 clear hL
 go_enter Tryz.func134,Tryz.ntmps134
 go_wp2_with fail
 refine (HG.out _ (HL.out.below ((Below.refl _ _).alloc (Nat.le_refl _) _))).mono ?_
 rintro e w1 ⟨rfl,hb⟩
 have hz:w.heap.size < w1.heap.size:=by have:=hb.size;simp at this;omega
 have HW:Hid (Below w.heap.size w w1):=((Below.refl _ _).alloc (Nat.le_refl _) _).trans (hb.mono (by simp))
 have hblk:w1.heap[w.heap.size]? = some (.cells #[.int .i64 0,.int .u64 0,.int .u64 0] 35 (0,0)):=(hb.block _ (by simp)).trans (heap_alloc_new w _)
 clear hb
 go_wp2_with fail
 refine (HT.out _ (HL.out.below (HW.out.alloc (by omega) _))).mono ?_
 rintro e w2 ⟨rfl,hb⟩
 have h2a:=cells_of3 (((hb.block w.heap.size (by simp;omega)).trans (hao w1 _ _ hz)).trans hblk)
 have h2b:=cells_of3 ((hb.block w1.heap.size (by simp)).trans (heap_alloc_new w1 _))
 have HW2:Hid (Below w.heap.size w w2):=(HW.out.alloc (by omega) _).trans (hb.mono (by simp;omega))
 have hsh:Sh3 w.heap.size w2:=⟨_,((hb.block w.heap.size (by simp;omega)).trans (hao w1 _ _ hz)).trans hblk,rfl⟩
 obtain ⟨a0,a1,a2,f0,f1,f2⟩:=h2a
 obtain ⟨b0,b1,b2,g0,g1,g2⟩:=h2b
 clear hb hblk
 have HSh:=hide hsh
 clear hsh
 have hne:¬ (w1.heap.size=w.heap.size):=by omega
 have hne':¬ (w.heap.size=w1.heap.size):=by omega
 go_wp2
 have hg:=cells_of3 (HSh.out.got (.int .i64 0) (.int .u64 0) (.int .u64 0))
 have HB:=hide (((HW2.out.setCell (p:=⟨w.heap.size,0,none⟩) (Nat.le_refl _) (.int .i64 0)).setCell (p:=⟨w.heap.size,1,none⟩) (Nat.le_refl _) (.int .u64 0)).setCell (p:=⟨w.heap.size,2,none⟩) (Nat.le_refl _) (.int .u64 0))
 obtain ⟨q0,q1,q2,_,_,_⟩:=hg
 refine bodyPost_ret (v:=.tuple #[.agg #[.int .i64 0,.int .u64 0,.int .u64 0],.int .i64 8]) (by simp [results,Tryz.results134,go_sem,q0,q1,q2]) rfl ⟨rfl,HB.out⟩
set_option maxRecDepth 100000 in
theorem parseW_no (T R:ByteArray) (n h1 l1:Int) (w:World) (hL:Ld w)
  (HG:Hid (∀ W,Ld W→Calls Tryz.prog 180 #[.string T] W fun e w'=>e=.returned (.agg #[.int .i64 n,.int .u64 h1,.int .u64 l1])∧Below W.heap.size W w'))
  (HT:Hid (∀ W,Ld W→Calls Tryz.prog 23 #[.agg #[.int .i64 n,.int .u64 h1,.int .u64 l1]] W fun e w'=>e=.returned (.tuple #[.string R,.int .i64 1])∧Below W.heap.size W w')) :
  Calls Tryz.prog 134 #[.string T] w fun e w'=>e=.returned (.tuple #[.agg #[.int .i64 0,.int .u64 0,.int .u64 0],.int .i64 8])∧Below w.heap.size w w':=by
 have HL:=hide hL
 clear hL
 go_enter Tryz.func134,Tryz.ntmps134
 go_wp2_with fail
 refine (HG.out _ (HL.out.below ((Below.refl _ _).alloc (Nat.le_refl _) _))).mono ?_
 rintro e w1 ⟨rfl,hb⟩
 have hz:w.heap.size < w1.heap.size:=by have:=hb.size;simp at this;omega
 have HW:Hid (Below w.heap.size w w1):=((Below.refl _ _).alloc (Nat.le_refl _) _).trans (hb.mono (by simp))
 have hblk:w1.heap[w.heap.size]? = some (.cells #[.int .i64 0,.int .u64 0,.int .u64 0] 35 (0,0)):=(hb.block _ (by simp)).trans (heap_alloc_new w _)
 clear hb
 go_wp2_with fail
 refine (HT.out _ (HL.out.below (HW.out.alloc (by omega) _))).mono ?_
 rintro e w2 ⟨rfl,hb⟩
 have h2a:=cells_of3 (((hb.block w.heap.size (by simp;omega)).trans (hao w1 _ _ hz)).trans hblk)
 have h2b:=cells_of3 ((hb.block w1.heap.size (by simp)).trans (heap_alloc_new w1 _))
 have HW2:Hid (Below w.heap.size w w2):=(HW.out.alloc (by omega) _).trans (hb.mono (by simp;omega))
 have hsh:Sh3 w.heap.size w2:=⟨_,((hb.block w.heap.size (by simp;omega)).trans (hao w1 _ _ hz)).trans hblk,rfl⟩
 obtain ⟨a0,a1,a2,f0,f1,f2⟩:=h2a
 obtain ⟨b0,b1,b2,g0,g1,g2⟩:=h2b
 clear hb hblk
 have HSh:=hide hsh
 clear hsh
 have hne:¬ (w1.heap.size=w.heap.size):=by omega
 have hne':¬ (w.heap.size=w1.heap.size):=by omega
 go_wp2
 have hg:=cells_of3 (HSh.out.got (.int .i64 0) (.int .u64 0) (.int .u64 0))
 have HB:=hide (((HW2.out.setCell (p:=⟨w.heap.size,0,none⟩) (Nat.le_refl _) (.int .i64 0)).setCell (p:=⟨w.heap.size,1,none⟩) (Nat.le_refl _) (.int .u64 0)).setCell (p:=⟨w.heap.size,2,none⟩) (Nat.le_refl _) (.int .u64 0))
 obtain ⟨q0,q1,q2,_,_,_⟩:=hg
 refine bodyPost_ret (v:=.tuple #[.agg #[.int .i64 0,.int .u64 0,.int .u64 0],.int .i64 8]) (by simp [results,Tryz.results134,go_sem,q0,q1,q2]) rfl ⟨rfl,HB.out⟩
theorem parse_any (l:List UInt8) (hl:l.length≤281474976710656) (w:World) (hL:Ld w) :
  Calls Tryz.prog 134 #[.string (txt l)] w fun e w'=>e=.returned (prsV (prs l))∧Below w.heap.size w w':=by
 have HG:Hid (∀ W,Ld W→_):=fun W h=>guess_any l hl W h
 have hw:=gsV_w l
 have htop:=gsV_top l
 rw [hw.1,hw.2] at HG
 by_cases ho:okN (gsN l) (gsV l)=true
 ·have hb:=okN_bd ho
  have HT:Hid (∀ W,Ld W→_):=fun W h=>text_yes (gsN l) (gsV l) W h htop ho
  by_cases he:tx (gsN l).toNat (gsV l)=l
  ·have hp:prs l=some ((gsN l).toNat,gsV l):=by unfold prs;rw [if_pos ⟨ho,he⟩]
   rw [hp]
   simp only [prsV]
   rw [show (((gsN l).toNat:Nat):Int)=gsN l by omega]
   exact parseW_ok _ _ _ _ _ w hL (by rw [he]) HG HT
  ·have hp:prs l=none:=by unfold prs;rw [if_neg (fun h=>he h.2)]
   rw [hp]
   exact parseW_ne _ _ _ _ _ w hL (txt_ne he) HG HT
 ·have hp:prs l=none:=by unfold prs;rw [if_neg (fun h=>ho h.1)]
  rw [hp]
  exact parseW_no _ (txt []) _ _ _ w hL HG (fun W h=>text_no (gsN l) (gsV l) W htop (by simpa using ho))
end Go.Proofs.YtabkimknlifdoaaGreatDoor
