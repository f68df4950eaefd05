/- Pieces of the proof: LC, LD, LE, USt, LI, LJ. -/
import Derived.Test.YtabkimknlifdoaaGreatDoorJ4
import Derived.Deep.LoopGhost
import Derived.WalkMore
import Derived.Deep.MidRow
import Derived.Shelf.Strings.Builder1
import Derived.Shelf.Strings.Builder2
import Derived.Shelf.Strings.Trim
import Derived.Shelf.Small.Utf8
import Derived.Shelf.Small.Strs
import Derived.Shelf.Strings.BuilderF
import Derived.Shelf.Strconv.Itoa0
import Derived.Shelf.Strconv.Itoa1
import Derived.Shelf.LaysM
import Derived.Shelf.Strconv.Itoa2
import Derived.Shelf.Strconv.Itoa3
import Derived.Shelf.Strconv.Clone
import Derived.Shelf.Strconv.SyntaxError
import Derived.Shelf.LaysC
import Derived.Shelf.Strconv.ToError
import Derived.Shelf.Strconv.RangeError
import Derived.Shelf.Strconv.ToErrorRange
import Derived.Shelf.Strings.Search1
import Derived.Shelf.Strings.Search2
import Derived.Shelf.Strings.Search3
import Derived.Shelf.Strings.Cut
import Derived.Shelf.Strings.Shaped
import Derived.Shelf.Strings.Prefix
import Derived.Shelf.Strings.Runes
import Derived.Shelf.Strings.AsciiSet
import Derived.Shelf.Bits.Mul64
import Derived.Shelf.Strings.Repeat
import Derived.Shelf.Unicode.DecodeSlow
import Derived.Test.YtabkimknlifdoaaGreatDoorProg
import Derived.Shelf.Strings.SlTrimAscii
namespace Go.Proofs.YtabkimknlifdoaaGreatDoor
open Go.RowKit
def isIn (S:List UInt8) (c:UInt8):Bool:=decide (0≤Lib.indexByte S c)
theorem idx_mem:∀ (S:List UInt8) (c:UInt8),0≤Lib.indexByte S c ↔ c ∈ S
 | [],c=>by simp [Lib.indexByte]
 | b :: S,c=>by
  have ih:=idx_mem S c
  have hge:=Lib.indexByte_ge S c
  have e:Lib.indexByte (b :: S) c=if b == c then 0 else if Lib.indexByte S c == -1 then -1 else Lib.indexByte S c+1:=rfl
  rw [e,List.mem_cons]
  by_cases hb:b=c
  ·subst hb;simp
  ·have hb':(b == c)=false:=by simpa using hb
   have hcb:¬ c=b:=fun e=>hb e.symm
   rw [hb']
   by_cases h1:Lib.indexByte S c=-1
   ·have h1':(Lib.indexByte S c == -1)=true:=by simpa using h1
    rw [h1']
    simp only [Bool.false_eq_true,if_false,if_true]
    constructor
    ·intro h;omega
    ·intro h;rcases h with h | h
     ·exact absurd h hcb
     ·have:=ih.2 h;omega
   ·have h1':(Lib.indexByte S c == -1)=false:=by simpa using h1
    rw [h1']
    simp only [Bool.false_eq_true,if_false]
    constructor
    ·intro _;exact .inr (ih.1 (by omega))
    ·intro _;omega
theorem isIn_iff (S:List UInt8) (c:UInt8):isIn S c=true ↔ c ∈ S:=by
 unfold isIn
 rw [decide_eq_true_eq]
 exact idx_mem S c
theorem u8_back (c:UInt8):((c.toNat:Int)).toNat.toUInt8=c:=by simp
theorem among_says (S:ByteArray) (b:Nat) (c:UInt8) (W:World) (h:W.cell? ⟨b,0,none⟩=some (.string S)) :
  Calls Tryz.prog 74 #[.int .u8 (c.toNat:Int),.pointer (some ⟨b,0,none⟩)] W fun e w'=>e=.returned (.bool (isIn S.data.toList c))∧w'=W:=by
 have HI:=hide (fun W=>Tryz.strings_IndexByte S (c.toNat:Int) W)
 rw [u8_back] at HI
 unfold isIn
 generalize Lib.indexByte S.data.toList c=x at *
 go_enter Tryz.func74,Tryz.ntmps74
 go_wp2_with fail
 refine (HI.out _).mono ?_
 rintro e w1 ⟨rfl,rfl⟩
 go_wp2
 go_ret
 exact ⟨rfl,rfl⟩
theorem none_says (S:ByteArray) (b:Nat) (c:UInt8) (W:World) (h:W.cell? ⟨b,0,none⟩=some (.string S)) :
  Calls Tryz.prog 77 #[.int .u8 (c.toNat:Int),.pointer (some ⟨b,0,none⟩)] W fun e w'=>e=.returned (.bool (!isIn S.data.toList c))∧w'=W:=by
 have HI:=hide (fun W=>Tryz.strings_IndexByte S (c.toNat:Int) W)
 rw [u8_back] at HI
 unfold isIn
 generalize Lib.indexByte S.data.toList c=x at *
 have e:(!decide (0≤x))=decide (x < 0):=by by_cases h:0≤x <;> simp [h] <;> omega
 rw [e]
 clear e
 go_enter Tryz.func77,Tryz.ntmps77
 go_wp2_with fail
 refine (HI.out _).mono ?_
 rintro e w1 ⟨rfl,rfl⟩
 go_wp2
 go_ret
 exact ⟨rfl,rfl⟩
theorem among_mk (S:ByteArray) (W:World):Calls Tryz.prog 34 #[.string S] W fun e w'=>e=.returned (.func (Fn.func 74) #[] #[.pointer (some ⟨W.heap.size,0,none⟩)])∧w'=W.alloc (.cells #[.string S] 9):=by
 go_enter Tryz.func34,Tryz.ntmps34
 go_wp2
 go_ret
 exact ⟨rfl,rfl⟩
theorem none_mk (S:ByteArray) (W:World):Calls Tryz.prog 36 #[.string S] W fun e w'=>e=.returned (.func (Fn.func 77) #[] #[.pointer (some ⟨W.heap.size,0,none⟩)])∧w'=W.alloc (.cells #[.string S] 9):=by
 go_enter Tryz.func36,Tryz.ntmps36
 go_wp2
 go_ret
 exact ⟨rfl,rfl⟩
theorem box_cell (W:World) (v:Value) (t:TypeId):(W.alloc (.cells #[v] t)).cell? ⟨W.heap.size,0,none⟩=some v:=by
 rw [World.cell?_alloc_new];rfl
def isBl (c:UInt8):Bool:=isIn [32,9,10] c
def n10 (c:UInt8):Bool:=!isIn [10] c
theorem entersA:∀ args w,(callFunc 74 args).run Tryz.prog w=.ok (.enter 74 args) w:=enters_of Tryz.func74 (by kernel_rfl) rfl
theorem entersN:∀ args w,(callFunc 77 args).run Tryz.prog w=.ok (.enter 77 args) w:=enters_of Tryz.func77 (by kernel_rfl) rfl
theorem eat_among (S:ByteArray) (p n:Nat) (r:List UInt8) (W:World) (hT:Tx W p r n) (hr:r.length≤1000000) (hn:n≤1000000) :
  Calls Tryz.prog 33 #[.pointer (some ⟨p,0,none⟩),.func (Fn.func 74) #[] #[.pointer (some ⟨W.heap.size,0,none⟩)]] (W.alloc (.cells #[.string S] 9)) fun e w'=>e=.returned (.string (txt (r.takeWhile (isIn S.data.toList))))∧Tx w' p (r.dropWhile (isIn S.data.toList)) (n+c10 (r.takeWhile (isIn S.data.toList)))∧FrP p W w':=by
 refine (eat_any 74 W.heap.size p n (isIn S.data.toList) (.string S) r _ (hT.alloc _) hr hn (box_cell _ _ _) entersA (fun c W h=>among_says S _ c W h)).mono fun e w' ⟨h1,h2,h3⟩=>⟨h1,h2,?_⟩
 exact (Fr.ofBelow ((Below.refl _ _).alloc (Nat.le_refl _) _)).trans h3 (fun _ _ e=>e)
theorem eat_none (S:ByteArray) (p n:Nat) (r:List UInt8) (W:World) (hT:Tx W p r n) (hr:r.length≤1000000) (hn:n≤1000000) :
  Calls Tryz.prog 33 #[.pointer (some ⟨p,0,none⟩),.func (Fn.func 77) #[] #[.pointer (some ⟨W.heap.size,0,none⟩)]] (W.alloc (.cells #[.string S] 9)) fun e w'=>e=.returned (.string (txt (r.takeWhile fun c=>!isIn S.data.toList c)))∧Tx w' p (r.dropWhile fun c=>!isIn S.data.toList c) (n+c10 (r.takeWhile fun c=>!isIn S.data.toList c))∧FrP p W w':=by
 refine (eat_any 77 W.heap.size p n (fun c=>!isIn S.data.toList c) (.string S) r _ (hT.alloc _) hr hn (box_cell _ _ _) entersN (fun c W h=>none_says S _ c W h)).mono fun e w' ⟨h1,h2,h3⟩=>⟨h1,h2,?_⟩
 exact (Fr.ofBelow ((Below.refl _ _).alloc (Nat.le_refl _) _)).trans h3 (fun _ _ e=>e)
theorem dropW_le (P:UInt8→Bool) (l:List UInt8):(l.dropWhile P).length≤l.length:=by
 have h:=congrArg List.length (List.takeWhile_append_dropWhile (p:=P) (l:=l))
 rw [List.length_append] at h;omega
theorem dropW_c10 (P:UInt8→Bool) (l:List UInt8):c10 (l.takeWhile P)+c10 (l.dropWhile P)=c10 l:=by
 rw [← c10_app,List.takeWhile_append_dropWhile]
def isRem (r:List UInt8):Bool:=Lib.hasPrefix r [47,47]
theorem isRem_cons {r:List UInt8} (h:isRem r=true):∃ r',r=47 :: 47 :: r':=by
 unfold isRem Lib.hasPrefix at h
 match r,h with
 | a :: b :: r',h=>simp [List.isPrefixOf] at h;obtain ⟨rfl,rfl⟩:=h;exact ⟨r',rfl⟩
 | [a],h=>simp [List.isPrefixOf] at h
 | [],h=>simp [List.isPrefixOf] at h
theorem rem_less {r:List UInt8} (h:isRem r=true):((r.dropWhile n10).dropWhile isBl).length < r.length:=by
 obtain ⟨r',rfl⟩:=isRem_cons h
 have e:(47 :: 47 :: r':List UInt8).dropWhile n10=(47 :: r':List UInt8).dropWhile n10:=by rw [List.dropWhile_cons,if_pos (by decide)]
 rw [e]
 have h1:=dropW_le isBl ((47 :: r':List UInt8).dropWhile n10)
 have h2:=dropW_le n10 (47 :: r')
 simp only [List.length_cons] at h2 ⊢
 omega
def skF:Nat→List UInt8→List UInt8
 | 0,r=>r
 | f+1,r=>if isRem r=true then skF f ((r.dropWhile n10).dropWhile isBl) else r
theorem skF_any:∀ (f g:Nat) (r:List UInt8),r.length < f→r.length < g→skF f r=skF g r
 | 0,_,_,h,_=>by omega
 | _,0,_,_,h=>by omega
 | f+1,g+1,r,h1,h2=>by
  rw [skF,skF]
  split
  ·rename_i h
   have hl:=rem_less h
   exact skF_any f g _ (by omega) (by omega)
  ·rfl
def skR (r:List UInt8):List UInt8:=skF (r.length+1) r
theorem skR_yes {r:List UInt8} (h:isRem r=true):skR r=skR ((r.dropWhile n10).dropWhile isBl):=by
 have hl:=rem_less h
 rw [skR,skF,if_pos h,skR,skF_any r.length _ _ hl (Nat.lt_succ_self _)]
theorem skR_no {r:List UInt8} (h:isRem r=false):skR r=r:=by rw [skR,skF,if_neg (by rw [h];decide)]
def skip (r:List UInt8):List UInt8:=skR (r.dropWhile isBl)
theorem skR_le (r:List UInt8):(skR r).length≤r.length:=by
 induction hn:r.length using Nat.strongRecOn generalizing r with
 | _ n ih =>
  cases h:isRem r with
  | false=>rw [skR_no h];omega
  | true =>
   have hl:=rem_less h
   have:=ih _ (by rw [← hn];exact hl) _ rfl
   rw [skR_yes h];omega
theorem skip_le (r:List UInt8):(skip r).length≤r.length:=Nat.le_trans (skR_le _) (dropW_le _ _)
theorem eatB (p n:Nat) (r:List UInt8) (W:World) (hT:Tx W p r n) (hr:r.length≤1000000) (hn:n≤1000000) :
  Calls Tryz.prog 33 #[.pointer (some ⟨p,0,none⟩),.func (Fn.func 74) #[] #[.pointer (some ⟨W.heap.size,0,none⟩)]] (W.alloc (.cells #[.string ⟨#[32,9,10]⟩] 9)) fun e w'=>(∃ v,e=.returned v)∧Tx w' p (r.dropWhile isBl) (n+c10 (r.takeWhile isBl))∧FrP p W w' :=
 (eat_among ⟨#[32,9,10]⟩ p n r W hT hr hn).mono fun _ _ ⟨h1,h2,h3⟩=>⟨⟨_,h1⟩,h2,h3⟩
theorem eatN (p n:Nat) (r:List UInt8) (W:World) (hT:Tx W p r n) (hr:r.length≤1000000) (hn:n≤1000000) :
  Calls Tryz.prog 33 #[.pointer (some ⟨p,0,none⟩),.func (Fn.func 77) #[] #[.pointer (some ⟨W.heap.size,0,none⟩)]] (W.alloc (.cells #[.string ⟨#[10]⟩] 9)) fun e w'=>(∃ v,e=.returned v)∧Tx w' p (r.dropWhile n10) (n+c10 (r.takeWhile n10))∧FrP p W w' :=
 (eat_none ⟨#[10]⟩ p n r W hT hr hn).mono fun _ _ ⟨h1,h2,h3⟩=>⟨⟨_,h1⟩,h2,h3⟩
set_option maxRecDepth 100000 in
theorem passIdle_any (p n:Nat) (r:List UInt8) (w:World) (hT:Tx w p r n) (hr:r.length≤500000) (hn:n+c10 r≤500000) :
  Calls Tryz.prog 20 #[.pointer (some ⟨p,0,none⟩)] w fun e w'=>e=.returned (.tuple #[])∧(∃ n',Tx w' p (skip r) n'∧n'+c10 (skip r)=n+c10 r)∧FrP p w w':=by
 have HM:=hide among_mk
 have HN:=hide none_mk
 have HEB:=hide eatB
 have HEN:=hide eatN
 have HT:=hide hT
 have HNN:=hide hn
 have HRR:=hide hr
 clear hT hn hr
 go_enter Tryz.func20,Tryz.ntmps20
 go_wp2_with fail
 refine (HM.out _ _).mono ?_
 rintro e w1 ⟨rfl,rfl⟩
 go_wp2_with fail
 refine (HEB.out p n r w HT.out (by have:=HRR.out;omega) (by have:=HNN.out;omega)).mono ?_
 rintro e w2 ⟨⟨v,rfl⟩,h1,h2⟩
 have HS:Hid (∃ r1 n1,Tx w2 p r1 n1∧skR r1=skip r∧n1+c10 r1=n+c10 r∧r1.length≤500000∧FrP p w w2):=⟨_,_,h1,rfl,by have:=dropW_c10 isBl r;omega,Nat.le_trans (dropW_le _ _) HRR.out,h2⟩
 clear h1 h2 HT HRR
 go_wp2
 go_loopg [5] 500001 (fun g _ wr=>∃ r1 n1,r1.length < g∧Tx wr p r1 n1∧Hid (skR r1=skip r∧n1+c10 r1=n+c10 r∧r1.length≤500000∧FrP p w wr))
 case atStart =>
  obtain ⟨r1,n1,a,b,c,d,e⟩:=HS.out
  exact ⟨r1,n1,by omega,a,b,c,d,e⟩
 case round =>
  obtain ⟨r1,n1,hg,hT1,HR⟩:=hrel
  obtain ⟨c0,c1,f0,f1⟩:=hT1.cells
  have HT1:=hide hT1
  have HP:=hide (fun W=>Tryz.strings_HasPrefix (txt r1) ⟨#[47,47]⟩ W)
  rw [txt_data] at HP
  clear hT1
  cases hre:isRem r1 with
  | false =>
   rw [show Lib.hasPrefix r1 (⟨#[47,47]⟩:ByteArray).data.toList=false from hre] at HP
   have HE:Hid (Tx wr p (skip r) n1∧n1+c10 (skip r)=n+c10 r∧FrP p w wr):=by
    have h:=HR.out
    have e:=skR_no hre
    rw [e] at h
    exact ⟨by rw [← h.1];exact HT1.out,by rw [← h.1];exact h.2.1,h.2.2.2⟩
   clear hre HR HT1
   generalize txt r1=T at *
   go_wp2_with fail
   refine (HP.out _).mono ?_
   rintro e w3 ⟨rfl,rfl⟩
   go_wp2
   go_end0
   exact ⟨rfl,⟨n1,HE.out.1,HE.out.2.1⟩,HE.out.2.2⟩
  | true =>
   rw [show Lib.hasPrefix r1 (⟨#[47,47]⟩:ByteArray).data.toList=true from hre] at HP
   have hless:=rem_less hre
   have hsk:=skR_yes hre
   have HE2:Hid (skR ((r1.dropWhile n10).dropWhile isBl)=skip r):=by unfold Hid;rw [← hsk];exact HR.out.1
   have ha:=dropW_c10 n10 r1
   have hb:=dropW_c10 isBl (r1.dropWhile n10)
   have hl1:=dropW_le n10 r1
   have hlen:=HR.out.2.2.1
   have htot:=HR.out.2.1
   have hnn:=HNN.out
   have HA:=hide (fun W h=>HEN.out p n1 r1 W h (by omega) (by omega))
   have HB:=hide (fun W h=>HEB.out p (n1+c10 (r1.takeWhile n10)) (r1.dropWhile n10) W h (by omega) (by omega))
   have HTot:Hid (n1+c10 (r1.takeWhile n10)+c10 ((r1.dropWhile n10).takeWhile isBl)+c10 ((r1.dropWhile n10).dropWhile isBl)=n+c10 r):=by unfold Hid;omega
   have HLen:Hid (((r1.dropWhile n10).dropWhile isBl).length < r1.length∧((r1.dropWhile n10).dropWhile isBl).length≤500000):=⟨hless,by omega⟩
   have HFw:=hide HR.out.2.2.2
   clear hre hless hsk ha hb hl1 hlen htot hnn HR
   generalize hr1T:txt r1=T at *
   clear hr1T
   go_wp2_with fail
   refine (HP.out _).mono ?_
   rintro e w3 ⟨rfl,rfl⟩
   go_wp2_with fail
   refine (HN.out _ _).mono ?_
   rintro e w4 ⟨rfl,rfl⟩
   go_wp2_with fail
   refine (HA.out _ HT1.out).mono ?_
   rintro e w5 ⟨⟨v5,rfl⟩,h5,f5⟩
   have H5:=hide h5
   have F5:Hid (FrP p w w5):=HFw.out.trans f5 (fun _ _ e=>e)
   clear h5 f5
   go_wp2_with fail
   refine (HM.out _ _).mono ?_
   rintro e w6 ⟨rfl,rfl⟩
   go_wp2_with fail
   refine (HB.out _ H5.out).mono ?_
   rintro e w7 ⟨⟨v7,rfl⟩,h7,f7⟩
   have H7:=hide h7
   have F7:Hid (FrP p w w7):=F5.out.trans f7 (fun _ _ e=>e)
   clear h7 f7
   go_wp2
   go_roundg (r1.length)
   case measure=>omega
   case rel=>exact ⟨_,_,HLen.out.1,H7.out,HE2.out,HTot.out,HLen.out.2,F7.out⟩
def sgs:List (List UInt8):=[[61,61],[33,61],[60,61],[60,60],[62,62],[43,43],[38,38],[124,124],[123],[125],[40],[41],[91],[93],[59],[58],[44],[46],[61],[60],[43],[45],[42],[38],[124],[94],[126]]
def sb (i:Nat):ByteArray:=txt (sgs.getD i [])
def sgL:List Value:=(List.range 27).map fun i=>Value.string (sb i)
theorem sgL_len:sgL.length=27:=rfl
theorem sgL_at (j:Nat) (h:j < 27):sgL[j]? = some (Value.string (sb j)):=by simp [sgL,h]
def sgn (r:List UInt8):List UInt8:=(sgs.find? fun s=>s.isPrefixOf r).getD []
theorem sgn_at {r:List UInt8} {j:Nat} (hj:j < 27) (h:∀ m,m < j→(sgs.getD m []).isPrefixOf r=false) (hp:(sgs.getD j []).isPrefixOf r=true):sgn r=sgs.getD j []:=by
 have hjl:j < sgs.length:=hj
 have e:∀ m (hm:m < sgs.length),sgs.getD m []=sgs[m]:=fun m hm=>by simp [List.getD,List.getElem?_eq_getElem hm]
 unfold sgn
 have:sgs.find? (fun s=>s.isPrefixOf r)=some (sgs.getD j []):=by
  rw [List.find?_eq_some_iff_getElem]
  refine ⟨hp,j,hjl,(e j hjl).symm,fun m hm=>?_⟩
  rw [← e m (by omega),h m hm];rfl
 rw [this];rfl
theorem sgn_none {r:List UInt8} (h:∀ m,m < 27→(sgs.getD m []).isPrefixOf r=false):sgn r=[]:=by
 have e:∀ m (hm:m < sgs.length),sgs.getD m []=sgs[m]:=fun m hm=>by simp [List.getD,List.getElem?_eq_getElem hm]
 unfold sgn
 have:sgs.find? (fun s=>s.isPrefixOf r)=none:=by
  rw [List.find?_eq_none]
  intro x hx
  obtain ⟨m,hm,rfl⟩:=List.mem_iff_getElem.1 hx
  rw [← e m hm,h m hm];simp
 rw [this];rfl
theorem sg_small:∀ j:Fin 27,(sgs.getD j.val []).length≤2:=by decide +kernel
theorem pre_no {s r:List UInt8} {i:Nat} (hi:i < s.length) (h:i=r.length ∨ ∃ h':i < r.length,r[i] ≠ s[i]):s.isPrefixOf r=false:=by
 cases hp:s.isPrefixOf r with
 | false=>rfl
 | true =>
  rw [List.isPrefixOf_iff_prefix] at hp
  obtain ⟨t,rfl⟩:=hp
  rcases h with h | ⟨h',h⟩
  ·rw [List.length_append] at h;omega
  ·exact absurd (List.getElem_append_left hi) h
theorem pre_yes {s r:List UInt8} (h:r.take s.length=s.take s.length):s.isPrefixOf r=true:=by
 rw [List.isPrefixOf_iff_prefix,List.prefix_iff_eq_take]
 rw [h];simp
theorem sg_index (j:Nat) (h:j < 27) (W:World):(Instr.index 153 (.agg sgL.toArray) (.int .i64 (j:Int))).run Tryz.prog W=.ok (.string (sb j)) W:=by
 have hu:Tryz.prog.underlying 153=some (.array 27 9):=Tryz.underlying153
 have h2:=sgL_at j h
 simp [Instr.index,asIntOf,run_underlying hu,h,part,Tryz.isAgg9,h2]
theorem sgInfo:(Tryz.prog.info? 153).map (·.size)=some sgL.length:=by kernel_rfl
set_option maxHeartbeats 4000000 in
set_option maxRecDepth 100000 in
theorem signAhead_any (r:List UInt8) (w:World) (hr:r.length≤1000000) (hG:w.rangeAt 0 0 sgL) :
  Calls Tryz.prog 79 #[.string (txt r)] w fun e w'=>e=.returned (.string (txt (sgn r)))∧Below w.heap.size w w':=by
 obtain ⟨T,hT⟩:∃ T,T=txt r:=⟨_,rfl⟩
 have hsz:T.size=r.length:=by rw [hT,txt_size]
 have HG:Hid (∀ (k:Nat) (h:k < T.size) (h':k < r.length),T[k]=r[k]):=fun k h h'=>by subst hT;simp [txt,ByteArray.getElem_eq_getElem_data]
 rw [← hT]
 have HZ:=hide hsz
 have hTm:T.size≤1000000:=by omega
 have HR:=hide hG
 have HI:=hide sg_index
 clear hT hsz hr hG
 generalize hSV:(Value.agg sgL.toArray)=SV at HI
 go_enter Tryz.func79,Tryz.ntmps79
 go_wp2
 go_step3
 go_wp2
 go_step3
 go_wp2_with (first | (refine wpList_load_mid rfl 153 _ rfl 0 0 rfl sgL _ HR.out Tryz.underlying153 rfl sgInfo ?_;rw [hSV]))
 clear hSV
 go_loopg [7] 27 (fun g vi wr=>∃ j:Nat,vi=.int .i64 (j:Int)∧j≤27∧g=27 - j∧Hid (Below w.heap.size w wr∧∀ m,m < j→(sgs.getD m []).isPrefixOf r=false))
 case atStart=>exact ⟨0,rfl,by omega,rfl,Below.refl _ _,fun m hm=>by omega⟩
 case round =>
  obtain ⟨j,rfl,hj,rfl,HO⟩:=hrel
  by_cases hlt:j < 27
  ·have hx:=HI.out j hlt
   have hsm:=sg_small ⟨j,hlt⟩
   simp only at hsm
   obtain ⟨s,hs⟩:∃ s,s=sgs.getD j []:=⟨_,rfl⟩
   obtain ⟨B,hB⟩:∃ B,B=sb j:=⟨_,rfl⟩
   have hBz:B.size=s.length:=by rw [hB,hs];unfold sb;rw [txt_size]
   have HGB:Hid (∀ (k:Nat) (h:k < B.size) (h':k < s.length),B[k]=s[k]):=fun k h h'=>by subst hB hs;simp [sb,txt,ByteArray.getElem_eq_getElem_data]
   rw [← hB] at hx
   rw [← hs] at hsm
   have HBZ:=hide hBz
   have hB2:B.size≤2:=by omega
   have HSJ:=hide hs
   have HYes:Hid (s.isPrefixOf r=true→txt (sgn r)=B):=fun h=>by
    rw [sgn_at hlt HO.out.2 (by rw [← HSJ.out];exact h),hB];rfl
   have HNo:Hid (s.isPrefixOf r=false→∀ m,m < j+1→(sgs.getD m []).isPrefixOf r=false):=fun h m hm=>by
    by_cases e:m=j
    ·rw [e,← HSJ.out];exact h
    ·exact HO.out.2 m (by omega)
   have HB:=hide HO.out.1
   clear hs hB hBz hsm HO
   go_wp2
   go_loopg [12] 3 (fun g vi wr'=>∃ i:Nat,vi=.int .i64 (i:Int)∧i≤B.size∧g=3 - i∧i≤T.size∧Hid (Below w.heap.size w wr'∧r.take i=s.take i))
   case atStart=>exact ⟨0,rfl,by omega,rfl,by omega,HB.out,by simp⟩
   case round =>
    obtain ⟨i,rfl,hi,rfl,hiT,HQ⟩:=hrel
    by_cases hil:i < B.size
    ·have hils:i < s.length:=by rw [← HBZ.out];exact hil
     by_cases hit:i=T.size
     ·have HN:=hide (HNo.out (pre_no hils (.inl (by rw [← HZ.out];exact hit))))
      have HW:=hide HQ.out.1
      have hitB:((i:Int) == (T.size:Int))=true:=by simpa using (show (i:Int)=(T.size:Int) by omega)
      have hilI:(i:Int) < (B.size:Int):=by omega
      clear HQ HYes HNo hit
      go_wp2
      go_region
      go_wp2
      go_roundg (27 - (j+1))
      case measure=>omega
      case rel=>exact ⟨j+1,by congr 1,by omega,rfl,HW.out.drew,HN.out⟩
     ·have hiT':i < T.size:=by omega
      have hir:i < r.length:=by rw [← HZ.out];exact hiT'
      have h1:=HG.out i hiT' hir
      have h2:=HGB.out i hil hils
      have hitB:((i:Int) == (T.size:Int))=false:=by simpa using (show ¬ (i:Int)=(T.size:Int) by omega)
      have hilI:(i:Int) < (B.size:Int):=by omega
      have hiTI:(i:Int) < (T.size:Int):=by omega
      by_cases heq:T[i]=B[i]
      ·have HQ2:Hid (Below w.heap.size w wr.drew∧r.take (i+1)=s.take (i+1)):=by
        refine ⟨HQ.out.1.drew,?_⟩
        rw [List.take_succ_eq_append_getElem hir,List.take_succ_eq_append_getElem hils,HQ.out.2,← h1,← h2,heq]
       have hneB:((((T[i]).toNat:Nat):Int) != (((B[i]).toNat:Nat):Int))=false:=by rw [heq];simp
       clear HQ HYes HNo hit h1 h2
       go_wp2
       go_region
       go_wp2
       go_roundg (3 - (i+1))
       case measure=>omega
       case rel=>exact ⟨i+1,by congr 1,by omega,rfl,by omega,HQ2.out⟩
      ·have HN:=hide (HNo.out (pre_no hils (.inr ⟨hir,by rw [← h1,← h2];exact heq⟩)))
       have HW:=hide HQ.out.1
       have hneB:((((T[i]).toNat:Nat):Int) != (((B[i]).toNat:Nat):Int))=true:=by
        have:¬ (T[i]).toNat=(B[i]).toNat:=fun e=>heq (UInt8.toNat_inj.1 e)
        simp;omega
       clear HQ HYes HNo hit h1 h2 heq
       go_wp2
       go_region
       go_wp2
       go_roundg (27 - (j+1))
       case measure=>omega
       case rel=>exact ⟨j+1,by congr 1,by omega,rfl,HW.out.drew,HN.out⟩
    ·have hiB:i=B.size:=by omega
     have hnl:¬ ((i:Int) < (B.size:Int)):=by omega
     have HY:=hide (HYes.out (pre_yes (by
      have:=HQ.out.2
      rw [hiB,HBZ.out] at this
      exact this)))
     have HW:=hide HQ.out.1
     clear HQ HYes HNo hiB
     go_wp2
     try rw [Exit.noGoto_ret]
     go_ret
     exact ⟨by rw [HY.out];rfl,HW.out⟩
  ·have hj27:j=27:=by omega
   subst hj27
   have HE:=hide (sgn_none HO.out.2)
   have HW:=hide HO.out.1
   clear HO
   go_wp2
   try rw [Exit.noGoto_ret]
   go_ret
   exact ⟨by rw [HE.out];rfl,HW.out⟩
end Go.Proofs.YtabkimknlifdoaaGreatDoor
namespace Go.Proofs
open Go.Shelf
def Tryz.lays160_ren:Go.Shelf.Ren:=⟨fun | 160=>82 | 232=>127 | 231=>126 | 227=>128 | 234=>130 | 233=>129 | 236=>132 | 235=>131 | 228=>174 | 271=>177 | 151=>176 | 197=>175 | 120=>210 | 152=>209 | 260=>208 | 137=>75 | 119=>233 | 224=>206 | 225=>205 | 217=>123 | 266=>171 | n=>n,fun | 9=>9 | 4=>4 | 3=>3 | 5=>5 | 117=>158 | 116=>157 | 0=>0 | 124=>161 | 21=>21 | 105=>200 | 46=>170 | 119=>254 | 139=>257 | 138=>256 | n=>n,fun | 3=>4 | 4=>5 | n=>n⟩
theorem Tryz.lays160:Go.Proofs.Lays.n160 Tryz.prog Tryz.lays160_ren:={
 mixed:=by kernel_rfl
 f119:=Tryz.func233.trans (congrArg some (by kernel_rfl))
 f120:=Tryz.func210.trans (congrArg some (by kernel_rfl))
 f137:=Tryz.func75.trans (congrArg some (by kernel_rfl))
 f151:=Tryz.func176.trans (congrArg some (by kernel_rfl))
 f152:=Tryz.func209.trans (congrArg some (by kernel_rfl))
 f160:=Tryz.func82.trans (congrArg some (by kernel_rfl))
 f197:=Tryz.func175.trans (congrArg some (by kernel_rfl))
 f217:=Tryz.func123.trans (congrArg some (by kernel_rfl))
 f224:=Tryz.func206.trans (congrArg some (by kernel_rfl))
 f225:=Tryz.func205.trans (congrArg some (by kernel_rfl))
 f227:=Tryz.func128.trans (congrArg some (by kernel_rfl))
 f228:=Tryz.func174.trans (congrArg some (by kernel_rfl))
 f231:=Tryz.func126.trans (congrArg some (by kernel_rfl))
 f232:=Tryz.func127.trans (congrArg some (by kernel_rfl))
 f233:=Tryz.func129.trans (congrArg some (by kernel_rfl))
 f234:=Tryz.func130.trans (congrArg some (by kernel_rfl))
 f235:=Tryz.func131.trans (congrArg some (by kernel_rfl))
 f236:=Tryz.func132.trans (congrArg some (by kernel_rfl))
 f260:=Tryz.func208.trans (congrArg some (by kernel_rfl))
 f266:=Tryz.func171.trans (congrArg some (by kernel_rfl))
 f271:=Tryz.func177.trans (congrArg some (by kernel_rfl))
 t0:=Tryz.underlying0
 a0:=Tryz.isAgg0
 z0:=Tryz.sizeOf0
 v0:=Tryz.zeroValue0
 t3:=Tryz.underlying3
 a3:=Tryz.isAgg3
 z3:=Tryz.sizeOf3
 v3:=Tryz.zeroValue3
 t4:=Tryz.underlying4
 a4:=Tryz.isAgg4
 z4:=Tryz.sizeOf4
 v4:=Tryz.zeroValue4
 t5:=Tryz.underlying5
 a5:=Tryz.isAgg5
 z5:=Tryz.sizeOf5
 v5:=Tryz.zeroValue5
 t9:=Tryz.underlying9
 a9:=Tryz.isAgg9
 z9:=Tryz.sizeOf9
 v9:=Tryz.zeroValue9
 t21:=Tryz.underlying21
 a21:=Tryz.isAgg21
 z21:=Tryz.sizeOf21
 v21:=Tryz.zeroValue21
 t46:=Tryz.underlying170
 a46:=Tryz.isAgg170
 z46:=Tryz.sizeOf170
 v46:=Tryz.zeroValue170
 t105:=Tryz.underlying200
 a105:=Tryz.isAgg200
 z105:=Tryz.sizeOf200
 v105:=Tryz.zeroValue200
 t116:=Tryz.underlying157
 a116:=Tryz.isAgg157
 z116:=Tryz.sizeOf157
 t117:=Tryz.underlying158
 a117:=Tryz.isAgg158
 z117:=Tryz.sizeOf158
 v117:=Tryz.zeroValue158
 t119:=Tryz.underlying254
 a119:=Tryz.isAgg254
 z119:=Tryz.sizeOf254
 t124:=Tryz.underlying161
 a124:=Tryz.isAgg161
 z124:=Tryz.sizeOf161
 v124:=Tryz.zeroValue161
 t138:=Tryz.underlying256
 a138:=Tryz.isAgg256
 z138:=Tryz.sizeOf256
 v138:=Tryz.zeroValue256
 t139:=Tryz.underlying257
 a139:=Tryz.isAgg257
 z139:=Tryz.sizeOf257
 v139:=Tryz.zeroValue257
 g3:=by kernel_rfl
 g4:=by kernel_rfl }
end Go.Proofs
namespace Go.Proofs.YtabkimknlifdoaaGreatDoor
open Go.RowKit
def dgS:List UInt8:=[48,49,50,51,52,53,54,55,56,57]
def isD (c:UInt8):Bool:=isIn dgS c
theorem isD_contains (c:UInt8):dgS.contains c=isD c:=by
 have h:=isIn_iff dgS c
 unfold isD
 cases hc:isIn dgS c
 ·rw [hc] at h
  rw [List.contains_eq_mem,decide_eq_false (fun hm=>by have:=h.2 hm;cases this)]
 ·rw [hc] at h
  rw [List.contains_eq_mem,decide_eq_true (h.1 rfl)]
theorem dropWhile_nil {P:UInt8→Bool}:∀ (l:List UInt8),l.dropWhile P=[] ↔ l.all P=true
 | []=>by simp
 | c :: l=>by
  rw [List.dropWhile_cons,List.all_cons]
  cases h:P c
  ·simp
  ·simp only [if_true,Bool.true_and];exact dropWhile_nil l
theorem trim_all (l:List UInt8):Lib.trimS l dgS=[] ↔ l.all isD=true:=by
 unfold Lib.trimS Lib.trimLeftS Lib.trimRightS
 have e:(fun x=>dgS.contains x)=isD:=funext isD_contains
 rw [e]
 constructor
 ·intro h
  rw [dropWhile_nil,List.all_reverse] at h
  have e2:l.reverse=l.reverse.takeWhile isD ++ l.reverse.dropWhile isD:=List.takeWhile_append_dropWhile.symm
  have h3:l.reverse.all isD=true:=by
   rw [e2,List.all_append,h,Bool.and_true]
   exact List.all_takeWhile
  rw [List.all_reverse] at h3
  exact h3
 ·intro h
  have h1:l.reverse.dropWhile isD=[]:=by rw [dropWhile_nil,List.all_reverse];exact h
  rw [h1];rfl
theorem trim_any (l:List UInt8) (hl:l.length≤1000000) (w:World):Calls Tryz.prog 82 #[.string (txt l),.string ⟨#[48,49,50,51,52,53,54,55,56,57]⟩] w fun e w'=>(∃ R,e=.returned (.string R)∧R.toList.isEmpty=l.all isD)∧Below w.heap.size w w':=by
 have:=Any.strings_Trim_laid Tryz.lays160 (by kernel_rfl) (txt l) ⟨#[48,49,50,51,52,53,54,55,56,57]⟩ w (by rw [txt_size];omega) (by decide) (fun j b hb=>by
  have hm:=List.mem_of_getElem? hb
  have hall:∀ x ∈ (⟨#[48,49,50,51,52,53,54,55,56,57]⟩:ByteArray).data.toList,x.toNat < 128:=by decide
  exact hall b hm)
 refine this.mono fun e w' ⟨h1,h2⟩=>⟨⟨_,h1,?_⟩,h2⟩
 rw [Lib.toList_data,txt_data]
 show (Lib.trimS l dgS).isEmpty=_
 have ha:=trim_all l
 cases hb:l.all isD
 ·rw [hb] at ha
  cases ht:Lib.trimS l dgS with
  | nil=>rw [ht] at ha;exact absurd (ha.1 rfl) (by decide)
  | cons _ _=>rfl
 ·rw [hb] at ha
  rw [ha.2 rfl];rfl
theorem sgn_pre (r:List UInt8):r.take (sgn r).length=sgn r∧(sgn r).length≤r.length:=by
 unfold sgn
 cases h:sgs.find? (fun s=>s.isPrefixOf r) with
 | none=>simp
 | some s =>
  have:=List.find?_some h
  simp only [Option.getD_some]
  rw [List.isPrefixOf_iff_prefix] at this
  exact ⟨(List.prefix_iff_eq_take.1 this).symm,this.length_le⟩
theorem sgn_c10 (r:List UInt8):c10 (sgn r)=0:=by
 have h:∀ s ∈ sgs,c10 s=0:=by decide
 unfold sgn
 cases h2:sgs.find? (fun s=>s.isPrefixOf r) with
 | none=>rfl
 | some s=>exact h s (List.mem_of_find?_eq_some h2)
def wd1 (run r:List UInt8):Option Wd × List UInt8:=match run with
 | []=>(signW (sgn r),r.drop (sgn r).length)
 | c :: l=>if isD c then (if (c :: l).all isD then (wholeW (c :: l),r) else (numW (c :: l),r)) else (nameW (c :: l),r)
structure Ls (w:World):Prop where
 ld:Ld w
 sg:w.rangeAt 0 0 sgL
theorem Ls.below {w w':World} (h:Ls w) (hb:Below w.heap.size w w'):Ls w':=by
 refine ⟨h.ld.below hb,fun j v hv=>?_⟩
 have:=h.sg j v hv
 exact (hb.cell (World.block_lt_of_cell? w _ this)).trans this
theorem frB {w0 W W':World} {p:Nat} (hB:Below w0.heap.size w0 W) (hf:FrP p W W') (hp:w0.heap.size≤p):Below w0.heap.size w0 W':=hB.trans (hf.below (fun b e=>by rw [e];exact hp) hB.size)
theorem heap_set_other {W:World} {b q o:Nat} {v:Value} (h:q ≠ b):(W.setCell ⟨b,o,none⟩ v).heap[q]? = W.heap[q]?:=Below.heap_setCell _ _ _ _ h
theorem Tx.set6 {W:World} {p b n:Nat} {r:List UInt8} (h:Tx W p r n) {x0 x1 x2 x3 x4 x5:Value} (hb:p ≠ b):Tx (set6 W b x0 x1 x2 x3 x4 x5) p r n:=by
 unfold Tx at *
 unfold Go.Proofs.YtabkimknlifdoaaGreatDoor.set6
 rw [heap_set_other hb,heap_set_other hb,heap_set_other hb,heap_set_other hb,heap_set_other hb,heap_set_other hb]
 exact h
theorem frset {w W:World} {p b o:Nat} (h:FrP p w W) (v:Value) (hb:w.heap.size≤b):FrP p w (W.setCell ⟨b,o,none⟩ v):=by
 have hs:=(Below.refl 0 W).setCell (p:=⟨b,o,none⟩) (Nat.zero_le _) v
 exact ⟨hs.os.trans h.os,hs.tape.trans h.tape,hs.output.trans h.output,Nat.le_trans h.size hs.size,fun q hq hn=>by rw [heap_set_other (by omega)];exact h.block q hq hn⟩
theorem frset6 {w W:World} {p b:Nat} (h:FrP p w W) {x0 x1 x2 x3 x4 x5:Value} (hb:w.heap.size≤b):FrP p w (set6 W b x0 x1 x2 x3 x4 x5) :=
 frset (frset (frset (frset (frset (frset h x0 hb) x1 hb) x2 hb) x3 hb) x4 hb) x5 hb
theorem afterCall {p n:Nat} {r:List UInt8} {w W1:World} (hT:Tx w p r n) (hb:Below (w.alloc (.cells z6 37)).heap.size (w.alloc (.cells z6 37)) W1) :
  W1.heap[w.heap.size]? = some (.cells z6 37 (0,0))∧Tx W1 p r n∧FrP p w W1 :=
 ⟨(hb.block _ (by simp)).trans (heap_alloc_new w _),(hT.alloc _).below hb,(Fr.ofBelow ((Below.refl _ _).alloc (Nat.le_refl _) _)).trans (Fr.ofBelow hb) (fun _ _ e=>e)⟩
def WordPost (o:Option Wd) (p n:Nat) (r':List UInt8) (w:World) (e:Ending) (w':World):Prop:=∃ ok a b c d S,WR o ok a b c d S∧e=.returned (.tuple #[wAgg a b c d 0 S,.bool ok])∧Tx w' p r' n∧FrP p w w'
set_option maxHeartbeats 2000000 in
set_option maxRecDepth 100000 in
theorem wordOf_any (w0:World) (p n:Nat) (run r:List UInt8) (w:World) (hLs:Ls w0) (hB:Below w0.heap.size w0 w) (hp:w0.heap.size≤p) (hT:Tx w p r n) (hr:r.length≤100000) (hrun:run.length≤100000) (hn:n≤100000) :
  Calls Tryz.prog 37 #[.pointer (some ⟨p,0,none⟩),.string (txt run)] w fun e w'=>WordPost (wd1 run r).1 p n (wd1 run r).2 w e w':=by
 have HNP:Hid (p ≠ w.heap.size):=by unfold Hid;have:=hT.lt;omega
 have HT:=hide hT
 have HB:=hide hB
 have HLs:=hide hLs
 have HBA:Hid (Below w0.heap.size w0 (w.alloc (.cells z6 37))):=hB.alloc hB.size _
 have HLA:=hide (hLs.below HBA.out)
 cases run with
 | nil =>
  obtain ⟨c0,c1,f0,f1⟩:=hT.cells
  have hplt:=hT.lt
  have HS:Hid (∀ W,Ls W→_):=fun W h=>signAhead_any r W (by omega) h.sg
  have hpre:=sgn_pre r
  have hc0:=sgn_c10 r
  have HTk:Hid (∀ W,Tx W p r n→Calls Tryz.prog 73 #[.pointer (some ⟨p,0,none⟩),.int .i64 (((sgn r).length:Nat):Int)] W fun e w'=>e=.returned (.string (txt (sgn r)))∧Tx w' p (r.drop (sgn r).length) n∧FrP p W w'):=fun W h=>by
   have:=take_any p (sgn r).length n r W h hpre.2 (by omega) (by omega)
   rw [hpre.1,hc0,Nat.add_zero] at this
   exact this
  have HG:=hide (sign_gives (sgn r) (by omega))
  have hsz:=txt_size (sgn r)
  have hsz1:(sgn r).length≤100000:=by omega
  show Calls _ _ _ _ fun e w'=>WordPost (signW (sgn r)) p n (r.drop (sgn r).length) w e w'
  unfold WordPost
  rw [txt_nil]
  generalize signW (sgn r)=O at *
  generalize r.drop (sgn r).length=R2 at *
  generalize (sgn r).length=m at *
  have HSf:=HG
  unfold Gives at HSf
  generalize txt (sgn r)=T at *
  generalize txt r=TR at *
  have HP:=hide hp
  clear hT hB hLs hp hr hrun hn hpre hc0 HG
  go_enter Tryz.func37,Tryz.ntmps37
  go_wp2_with fail
  refine (HS.out _ HLA.out).mono ?_
  rintro e w1 ⟨rfl,hb1⟩
  obtain ⟨hk1,ht1,hf1⟩:=afterCall HT.out hb1
  have HK1:=hide hk1;have HT1:=hide ht1;have HF1:=hide hf1
  have HZ1:Hid (w.heap.size < w1.heap.size):=by have:=hb1.size;simp at this;unfold Hid;omega
  clear hb1 hk1 ht1 hf1
  go_wp2_with fail
  refine (HTk.out _ HT1.out).mono ?_
  rintro e w2 ⟨rfl,ht2,hf2⟩
  have HT2:=hide ht2
  have HF2:=hide (HF1.out.trans hf2 (fun _ _ e=>e))
  have HK2:Hid (w2.heap[w.heap.size]? = some (.cells z6 37 (0,0))):=(hf2.block _ HZ1.out (fun e=>HNP.out e.symm)).trans HK1.out
  have HZ2:Hid (w.heap.size < w2.heap.size):=Nat.lt_of_lt_of_le HZ1.out hf2.size
  have HL2:=hide (HLs.out.below (frB (frB HB.out HF1.out HP.out) hf2 HP.out))
  clear ht2 hf2
  go_wp2_with fail
  refine (HSf.out _ HL2.out.ld).mono ?_
  rintro e w3 ⟨ok,a,b,c,d,S,hwr,rfl,hb3⟩
  have HWR:=hide hwr
  have HBk:Hid (w3.heap[w.heap.size]? = some (.cells z6 37 (0,0))):=(hb3.block _ HZ2.out).trans HK2.out
  have HTx:=hide (HT2.out.below hb3)
  have HFr:=hide (HF2.out.trans (Fr.ofBelow hb3) (fun _ _ e=>e))
  clear hwr hb3
  unfold wAgg
  obtain ⟨⟨k0,k1,k2,k3,k4,k5⟩,f0,f1,f2,f3,f4,f5⟩:=cells_of6 HBk.out
  go_wp2
  have hg:=cells_of6 (set6_got HBk.out (.int .u8 a) (.string S) (.int .i64 b) (.int .u64 c) (.int .u64 d) (.int .i64 0))
  have HTF:=hide (HTx.out.set6 (x0:=.int .u8 a) (x1:=.string S) (x2:=.int .i64 b) (x3:=.int .u64 c) (x4:=.int .u64 d) (x5:=.int .i64 0) HNP.out)
  have HFF:=hide (frset6 HFr.out (x0:=.int .u8 a) (x1:=.string S) (x2:=.int .i64 b) (x3:=.int .u64 c) (x4:=.int .u64 d) (x5:=.int .i64 0) (b:=w.heap.size) (Nat.le_refl _))
  unfold set6 at hg HTF HFF
  obtain ⟨⟨q0,q1,q2,q3,q4,q5⟩,_⟩:=hg
  exact bodyPost_ret (v:=.tuple #[wAgg a b c d 0 S,.bool ok]) (by simp [results,Tryz.results37,go_sem,q0,q1,q2,q3,q4,q5,wAgg]) rfl ⟨_,_,_,_,_,_,HWR.out,rfl,HTF.out,HFF.out⟩
 | cons c0 l =>
  have hemp:(txt (c0 :: l)).toList.isEmpty=false:=by rw [Lib.toList_data,txt_data];rfl
  have HE1:Hid ((txt (c0 :: l)).extract 0 1=⟨#[c0]⟩):=by unfold Hid;rw [txt_ext];rfl
  have HCo:=hide (fun W=>Tryz.strings_Contains_one ⟨#[48,49,50,51,52,53,54,55,56,57]⟩ c0 W)
  rw [show decide (0≤Lib.indexByte (⟨#[48,49,50,51,52,53,54,55,56,57]⟩:ByteArray).data.toList c0)=isD c0 from rfl] at HCo
  have hs1:1≤(txt (c0 :: l)).size:=by rw [txt_size];simp
  have hs1I:(1:Int)≤((txt (c0 :: l)).size:Int):=by omega
  have hsm:(txt (c0 :: l)).size≤100000:=by rw [txt_size];exact hrun
  have HN:=hide (name_gives (c0 :: l) (by omega))
  have HW:=hide (whole_gives (c0 :: l) (by omega))
  have HU:=hide (num_gives (c0 :: l) (by omega))
  have HTr:=hide (trim_any (c0 :: l) (by omega))
  have HP:=hide hp
  have HBA2:Hid (∀ W,Below (w.alloc (.cells z6 37)).heap.size (w.alloc (.cells z6 37)) W→Below w0.heap.size w0 W):=fun W h=>HBA.out.trans (h.mono HBA.out.size)
  unfold Gives at HN HW HU
  show Calls _ _ _ _ fun e w'=>WordPost (wd1 (c0 :: l) r).1 p n (wd1 (c0 :: l) r).2 w e w'
  cases hd:isD c0 with
  | false =>
   have e1:wd1 (c0 :: l) r=(nameW (c0 :: l),r):=by unfold wd1;simp only;rw [hd];rfl
   rw [e1]
   rw [hd] at HCo
   unfold WordPost
   generalize nameW (c0 :: l)=O at *
   generalize txt (c0 :: l)=T at *
   have he1:=HE1.out
   clear hT hB hLs hp hr hrun hn HW HU HTr hd e1
   go_enter Tryz.func37,Tryz.ntmps37
   go_wp2_with fail
   refine (HCo.out _).mono ?_
   rintro e w1 ⟨rfl,rfl⟩
   go_wp2_with fail
   refine (HN.out _ HLA.out.ld).mono ?_
   rintro e w3 ⟨ok,a,b,c,d,S,hwr,rfl,hb3⟩
   have HWR:=hide hwr
   obtain ⟨hk1,ht1,hf1⟩:=afterCall HT.out hb3
   have HBk:=hide hk1;have HTx:=hide ht1;have HFr:=hide hf1
   clear hwr hb3 hk1 ht1 hf1
   unfold wAgg
   obtain ⟨⟨k0,k1,k2,k3,k4,k5⟩,f0,f1,f2,f3,f4,f5⟩:=cells_of6 HBk.out
   go_wp2
   have hg:=cells_of6 (set6_got HBk.out (.int .u8 a) (.string S) (.int .i64 b) (.int .u64 c) (.int .u64 d) (.int .i64 0))
   have HTF:=hide (HTx.out.set6 (x0:=.int .u8 a) (x1:=.string S) (x2:=.int .i64 b) (x3:=.int .u64 c) (x4:=.int .u64 d) (x5:=.int .i64 0) HNP.out)
   have HFF:=hide (frset6 HFr.out (x0:=.int .u8 a) (x1:=.string S) (x2:=.int .i64 b) (x3:=.int .u64 c) (x4:=.int .u64 d) (x5:=.int .i64 0) (b:=w.heap.size) (Nat.le_refl _))
   unfold set6 at hg HTF HFF
   obtain ⟨⟨q0,q1,q2,q3,q4,q5⟩,_⟩:=hg
   exact bodyPost_ret (v:=.tuple #[wAgg a b c d 0 S,.bool ok]) (by simp [results,Tryz.results37,go_sem,q0,q1,q2,q3,q4,q5,wAgg]) rfl ⟨_,_,_,_,_,_,HWR.out,rfl,HTF.out,HFF.out⟩
  | true =>
   rw [hd] at HCo
   cases ha:(c0 :: l).all isD with
   | true =>
    have e1:wd1 (c0 :: l) r=(wholeW (c0 :: l),r):=by unfold wd1;simp only;rw [hd,ha];rfl
    rw [e1]
    rw [ha] at HTr
    unfold WordPost
    generalize wholeW (c0 :: l)=O at *
    generalize txt (c0 :: l)=T at *
    have he1:=HE1.out
    clear hT hB hLs hp hr hrun hn HN HU hd e1 ha
    go_enter Tryz.func37,Tryz.ntmps37
    go_wp2_with fail
    refine (HCo.out _).mono ?_
    rintro e w1 ⟨rfl,rfl⟩
    go_wp2_with fail
    refine (HTr.out _).mono ?_
    rintro e w2 ⟨⟨R,rfl,hR⟩,hb2⟩
    have HB2:=hide hb2
    have HL2:=hide (HLs.out.below (HBA2.out _ hb2))
    clear hb2
    go_wp2_with fail
    refine (HW.out _ HL2.out.ld).mono ?_
    rintro e w3 ⟨ok,a,b,c,d,S,hwr,rfl,hb3⟩
    have HWR:=hide hwr
    obtain ⟨hk1,ht1,hf1⟩:=afterCall HT.out (HB2.out.trans (hb3.mono HB2.out.size))
    have HBk:=hide hk1;have HTx:=hide ht1;have HFr:=hide hf1
    clear hwr hb3 hk1 ht1 hf1
    unfold wAgg
    obtain ⟨⟨k0,k1,k2,k3,k4,k5⟩,f0,f1,f2,f3,f4,f5⟩:=cells_of6 HBk.out
    go_wp2
    have hg:=cells_of6 (set6_got HBk.out (.int .u8 a) (.string S) (.int .i64 b) (.int .u64 c) (.int .u64 d) (.int .i64 0))
    have HTF:=hide (HTx.out.set6 (x0:=.int .u8 a) (x1:=.string S) (x2:=.int .i64 b) (x3:=.int .u64 c) (x4:=.int .u64 d) (x5:=.int .i64 0) HNP.out)
    have HFF:=hide (frset6 HFr.out (x0:=.int .u8 a) (x1:=.string S) (x2:=.int .i64 b) (x3:=.int .u64 c) (x4:=.int .u64 d) (x5:=.int .i64 0) (b:=w.heap.size) (Nat.le_refl _))
    unfold set6 at hg HTF HFF
    obtain ⟨⟨q0,q1,q2,q3,q4,q5⟩,_⟩:=hg
    exact bodyPost_ret (v:=.tuple #[wAgg a b c d 0 S,.bool ok]) (by simp [results,Tryz.results37,go_sem,q0,q1,q2,q3,q4,q5,wAgg]) rfl ⟨_,_,_,_,_,_,HWR.out,rfl,HTF.out,HFF.out⟩
   | false =>
    have e1:wd1 (c0 :: l) r=(numW (c0 :: l),r):=by unfold wd1;simp only;rw [hd,ha];rfl
    rw [e1]
    rw [ha] at HTr
    unfold WordPost
    generalize numW (c0 :: l)=O at *
    generalize txt (c0 :: l)=T at *
    have he1:=HE1.out
    clear hT hB hLs hp hr hrun hn HN HW hd e1 ha
    go_enter Tryz.func37,Tryz.ntmps37
    go_wp2_with fail
    refine (HCo.out _).mono ?_
    rintro e w1 ⟨rfl,rfl⟩
    go_wp2_with fail
    refine (HTr.out _).mono ?_
    rintro e w2 ⟨⟨R,rfl,hR⟩,hb2⟩
    have HB2:=hide hb2
    have HL2:=hide (HLs.out.below (HBA2.out _ hb2))
    clear hb2
    go_wp2_with fail
    refine (HU.out _ HL2.out.ld).mono ?_
    rintro e w3 ⟨ok,a,b,c,d,S,hwr,rfl,hb3⟩
    have HWR:=hide hwr
    obtain ⟨hk1,ht1,hf1⟩:=afterCall HT.out (HB2.out.trans (hb3.mono HB2.out.size))
    have HBk:=hide hk1;have HTx:=hide ht1;have HFr:=hide hf1
    clear hwr hb3 hk1 ht1 hf1
    unfold wAgg
    obtain ⟨⟨k0,k1,k2,k3,k4,k5⟩,f0,f1,f2,f3,f4,f5⟩:=cells_of6 HBk.out
    go_wp2
    have hg:=cells_of6 (set6_got HBk.out (.int .u8 a) (.string S) (.int .i64 b) (.int .u64 c) (.int .u64 d) (.int .i64 0))
    have HTF:=hide (HTx.out.set6 (x0:=.int .u8 a) (x1:=.string S) (x2:=.int .i64 b) (x3:=.int .u64 c) (x4:=.int .u64 d) (x5:=.int .i64 0) HNP.out)
    have HFF:=hide (frset6 HFr.out (x0:=.int .u8 a) (x1:=.string S) (x2:=.int .i64 b) (x3:=.int .u64 c) (x4:=.int .u64 d) (x5:=.int .i64 0) (b:=w.heap.size) (Nat.le_refl _))
    unfold set6 at hg HTF HFF
    obtain ⟨⟨q0,q1,q2,q3,q4,q5⟩,_⟩:=hg
    exact bodyPost_ret (v:=.tuple #[wAgg a b c d 0 S,.bool ok]) (by simp [results,Tryz.results37,go_sem,q0,q1,q2,q3,q4,q5,wAgg]) rfl ⟨_,_,_,_,_,_,HWR.out,rfl,HTF.out,HFF.out⟩
end Go.Proofs.YtabkimknlifdoaaGreatDoor
