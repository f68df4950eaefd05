/- Pieces of the proof: PaX, PaT, PaLd, PaY. -/
import Derived.Test.YtabkimknlifdoaaGreatDoorJ7
import Derived.Deep.LoopGhost
import Derived.Test.YtabkimknlifdoaaGreatDoorJ2
import Derived.Test.YtabkimknlifdoaaGreatDoorJ5
import Derived.Deep.Strs
import Derived.SevenTiedAt
import Derived.Lay
namespace Go.Proofs.YtabkimknlifdoaaGreatDoor
open Go.RowKit
structure Ex where
 op:Nat
 w:Nat
 v:Nat
 name:List UInt8
 field:List UInt8
 n:Nat
 m:Nat
 line:Nat
 args:List Ex
def exC (x:Ex) (va:Value):List Value:=[.int .u8 (x.op:Int),.int .i64 (x.w:Int),.int .u64 (wHi x.v),.int .u64 (wLo x.v),.string (txt x.name),.string (txt x.field),.int .i64 (x.n:Int),.int .i64 (x.m:Int),va,.int .i64 (x.line:Int)]
def exR:Nat→Rep Ex
 | 0=>fun _ _ _ _=>False
 | d+1=>fun W X v x=>∃ va,v=mkAgg (exC x va)∧ListR (exR d) mkAgg 10 W X va x.args
theorem exR_ok:∀ d,RepOk (exR d)
 | 0=>⟨fun h _=>h,fun h _ _=>h⟩
 | d+1=>⟨fun ⟨va,h1,h2⟩ hm=>⟨va,h1,(ListR.ok (exR_ok d) mkAgg 10).mono h2 hm⟩,fun ⟨va,h1,h2⟩ hs hf=>⟨va,h1,(ListR.ok (exR_ok d) mkAgg 10).frame h2 hs hf⟩⟩
theorem exR_up:∀ (d:Nat) {W:World} {X:Nat→Prop} {v:Value} {x:Ex},exR d W X v x→exR (d+1) W X v x
 | 0,_,_,_,_,h=>h.elim
 | d+1,_,_,_,_,⟨va,h1,css,h2,h3,h4⟩=>⟨va,h1,css,h2,h3,fun i h h'=>⟨(h4 i h h').1,exR_up d (h4 i h h').2⟩⟩
theorem exR_le {d d':Nat} (hd:d≤d') {W:World} {X:Nat→Prop} {v:Value} {x:Ex} (h:exR d W X v x):exR d' W X v x:=by
 obtain ⟨j,rfl⟩:=Nat.exists_eq_add_of_le hd
 induction j with
 | zero=>exact h
 | succ j ih=>exact exR_up _ (ih (by omega))
def ExR:Rep Ex:=fun W X v x=>∃ d,exR d W X v x
theorem exRep_ok:RepOk ExR:=⟨fun ⟨d,h⟩ hm=>⟨d,(exR_ok d).mono h hm⟩,fun ⟨d,h⟩ hs hf=>⟨d,(exR_ok d).frame h hs hf⟩⟩
theorem list_depth {W:World} {X:Nat→Prop}:∀ (l:List Ex) (css:List (List Value)),css.length=l.length→(∀ i (h:i < css.length) (h':i < l.length),css[i].length=10∧ExR W X (mkAgg css[i]) l[i])→∃ d,∀ i (h:i < css.length) (h':i < l.length),css[i].length=10∧exR d W X (mkAgg css[i]) l[i]
 | [],css,hl,_=>⟨0,fun i _ h'=>by simp at h'⟩
 | x :: l,[],hl,_=>by simp at hl
 | x :: l,cs :: css,hl,h=>by
  obtain ⟨d1,h1⟩:=list_depth l css (by simpa using hl) (fun i hi hi'=>h (i+1) (by simpa using hi) (by simpa using hi'))
  obtain ⟨h0,d2,h2⟩:=h 0 (by simp) (by simp)
  refine ⟨max d1 d2,fun i hi hi'=>?_⟩
  cases i with
  | zero=>exact ⟨h0,exR_le (Nat.le_max_right _ _) h2⟩
  | succ i=>exact ⟨(h1 i (by simpa using hi) (by simpa using hi')).1,exR_le (Nat.le_max_left _ _) (h1 i (by simpa using hi) (by simpa using hi')).2⟩
theorem ListR.one {W:World} {X:Nat→Prop} {v:Value} {l:List Ex} (h:ListR ExR mkAgg 10 W X v l):∃ d,ListR (exR d) mkAgg 10 W X v l:=by
 obtain ⟨css,h1,h2,h3⟩:=h
 obtain ⟨d,h4⟩:=list_depth l css h2 h3
 exact ⟨d,css,h1,h2,h4⟩
theorem ExR.mk {W:World} {X:Nat→Prop} {va:Value} {x:Ex} (h:ListR ExR mkAgg 10 W X va x.args):ExR W X (mkAgg (exC x va)) x:=by
 obtain ⟨d,h⟩:=h.one
 exact ⟨d+1,va,rfl,h⟩
theorem ExR.open {W:World} {X:Nat→Prop} {v:Value} {x:Ex} (h:ExR W X v x):∃ va,v=mkAgg (exC x va)∧ListR ExR mkAgg 10 W X va x.args:=by
 obtain ⟨d,h⟩:=h
 cases d with
 | zero=>exact h.elim
 | succ d =>
  obtain ⟨va,h1,css,h2,h3,h4⟩:=h
  exact ⟨va,h1,css,h2,h3,fun i hi hi'=>⟨(h4 i hi hi').1,d,(h4 i hi hi').2⟩⟩
theorem ListR.none {α:Type} {rep:Rep α} {mk:List Value→Value} {K:Nat} {W:World} {X:Nat→Prop}:ListR rep mk K W X (.slice Option.none 0 0) [] :=
 ⟨[],⟨Option.none,0,rfl,by simp,⟨Nat.le_refl _,Nat.zero_le _⟩,fun _=>rfl,.inl rfl⟩,rfl,fun i h _=>by simp at h⟩
theorem ListR.lit {α:Type} {rep:Rep α} {mk:List Value→Value} {K:Nat} {W:World} {X:Nat→Prop} {b:Nat} {t:TypeId} {l:List α} {css:List (List Value)} (hb:W.heap[b]? = some (.cells css.flatten.toArray t (0,0))) (hX:X b) (hl:css.length=l.length) (he:∀ i (h:i < css.length) (h':i < l.length),css[i].length=K∧rep W X (mk css[i]) l[i]) (hn:l.length≤maxLen:=by simp [maxLen]):ListR rep mk K W X (.slice (some ⟨b,0,Option.none⟩) l.length l.length) l:=by
 refine ⟨css,⟨some ⟨b,0,Option.none⟩,l.length,rfl,?_,⟨Nat.le_refl _,hn⟩,(fun e=>by (cases e)),.inr ⟨b,rfl,hX,(Array.getElem?_eq_some_iff.1 hb).1,fun i hi=>?_⟩⟩,hl,he⟩
 ·have:∀ c ∈ css,c.length=K:=fun c hc=>by
   obtain ⟨i,hi,rfl⟩:=List.getElem_of_mem hc
   exact (he i hi (by omega)).1
  rw [List.length_flatten,← hl]
  clear he hb hl
  induction css with
  | nil=>simp
  | cons c cs ih =>
   simp only [List.map_cons,List.sum_cons,List.length_cons]
   rw [ih (fun c hc=>this c (List.mem_cons_of_mem _ hc)),this c (List.mem_cons_self ..),Nat.succ_mul,Nat.add_comm]
 ·rw [cellA hb i];simp
def ExP:Rep Ex:=fun W X v x=>∃ b cs,v=.pointer (some ⟨b,0,none⟩)∧X b∧W.heap[b]? = some (.cells cs 49 (0,0))∧ExR W X (.agg cs) x
theorem exP_ok:RepOk ExP:=⟨fun ⟨b,cs,h1,h2,h3,h4⟩ hm=>⟨b,cs,h1,hm b h2,h3,exRep_ok.mono h4 hm⟩,fun ⟨b,cs,h1,h2,h3,h4⟩ hs hf=>⟨b,cs,h1,h2,(hf b h2 (Array.getElem?_eq_some_iff.1 h3).1).trans h3,exRep_ok.frame h4 hs hf⟩⟩
def tws:List (List UInt8 × Nat × Nat):=[([124,124],22,0),([38,38],21,1),([61,61],17,2),([33,61],18,2),([60],19,2),([60,61],20,2),([38],8,3),([124],9,3),([94],10,3),([43],5,4),([45],6,4),([43,43],14,5),([42],7,6),([60,60],12,7),([62,62],13,7)]
theorem tws_len:tws.length=15:=rfl
def twC (x:List UInt8 × Nat × Nat):List Value:=[.string (txt x.1),.int .u8 (x.2.1:Int),.int .i64 (x.2.2:Int)]
structure Tws (W:World) (bt:Nat):Prop where
 tab:∃ off,W.cell? ⟨3,0,none⟩=some (.slice (some ⟨bt,off,none⟩) 15 15)∧∀ i (h:i < tws.length),∀ j u,(twC tws[i])[j]? = some u→W.cell? ⟨bt,off+i * 3+j,none⟩=some u
 gl:3 < W.heap.size
 bl:bt < W.heap.size
theorem Tws.fr {W W':World} {bt:Nat} {E:Nat→Prop} (h:Tws W bt) (hf:Fr E W W') (h1:¬ E 3) (h2:¬ E bt):Tws W' bt :=
 ⟨by obtain ⟨off,h0,hr⟩:=h.tab;exact ⟨off,hf.cell h0 h1,fun i hi j u hu=>hf.cell (hr i hi j u hu) h2⟩,Nat.lt_of_lt_of_le h.gl hf.size,Nat.lt_of_lt_of_le h.bl hf.size⟩
def twoP (s:List UInt8):Option (List UInt8 × Nat × Nat):=tws.find? fun x=>decide (x.1=s)
theorem twoP_at {s:List UInt8} {j:Nat} (hj:j < tws.length) (h:∀ m (hm:m < tws.length),m < j→tws[m].1 ≠ s) (hp:tws[j].1=s):twoP s=some tws[j]:=by
 unfold twoP
 rw [List.find?_eq_some_iff_getElem]
 refine ⟨by simp [hp],j,hj,rfl,fun m hm=>?_⟩
 simp [h m (by omega) hm]
theorem twoP_none {s:List UInt8} (h:∀ m (hm:m < tws.length),tws[m].1 ≠ s):twoP s=none:=by
 unfold twoP
 rw [List.find?_eq_none]
 intro x hx
 obtain ⟨m,hm,rfl⟩:=List.mem_iff_getElem.1 hx
 simp [h m hm]
def twoV:Option (List UInt8 × Nat × Nat)→Value
 | none=>.tuple #[.agg #[.string ⟨#[]⟩,.int .u8 0,.int .i64 0],.bool false]
 | some x=>.tuple #[.agg #[.string (txt x.1),.int .u8 (x.2.1:Int),.int .i64 (x.2.2:Int)],.bool true]
set_option maxHeartbeats 4000000 in
set_option maxRecDepth 100000 in
theorem twoOf_any {w:World} {bt:Nat} (h:Tws w bt) (s:List UInt8) :
  Calls Tryz.prog 204 #[.string (txt s)] w fun e w'=>e=.returned (twoV (twoP s))∧Below w.heap.size w w':=by
 obtain ⟨off,hc,hrw⟩:=h.tab
 have HRW:=hide hrw
 clear hrw
 have HT:=hide h
 have HS:Hid (∀ j (hj:j < tws.length),((txt tws[j].1).toList == (txt s).toList)=decide (tws[j].1=s)):=fun j hj=>by
  rw [Lib.toList_data,Lib.toList_data,txt_data,txt_data]
  by_cases e:tws[j].1=s
  ·rw [decide_eq_true e,e];simp
  ·rw [decide_eq_false e];exact beq_eq_false_iff_ne.2 e
 have hgl:=h.gl
 have hbl:=h.bl
 clear h
 generalize txt s=T at *
 have Z0:=hide (heap_alloc_new w (.cells #[.string ⟨#[]⟩,.int .u8 0,.int .i64 0] 228))
 have HA:Hid (Below w.heap.size w (w.alloc (.cells #[.string ⟨#[]⟩,.int .u8 0,.int .i64 0] 228))):=(Below.refl _ _).alloc (Nat.le_refl _) _
 have HT0:Hid (Tws (w.alloc (.cells #[.string ⟨#[]⟩,.int .u8 0,.int .i64 0] 228)) bt):=HT.out.fr (E:=fun _=>False) (Fr.ofBelow HA.out) (fun e=>e) (fun e=>e)
 have HR0:Hid (∀ i (h:i < tws.length),∀ c u,(twC tws[i])[c]? = some u→(w.alloc (.cells #[.string ⟨#[]⟩,.int .u8 0,.int .i64 0] 228)).cell? ⟨bt,off+i * 3+c,none⟩=some u):=fun i hi c u hu=>(Fr.ofBelow (E:=fun _=>False) HA.out).cell (HRW.out i hi c u hu) (fun e=>e)
 have hs0:(w.alloc (.cells #[.string ⟨#[]⟩,.int .u8 0,.int .i64 0] 228)).heap.size=w.heap.size+1:=by show (w.heap.push _).size=_;rw [Array.size_push]
 have HZ:=hide hs0
 clear hs0
 go_enter Tryz.func204,Tryz.ntmps204
 go_wp2
 generalize (w.alloc (.cells #[.string ⟨#[]⟩,.int .u8 0,.int .i64 0] 228))=w0 at *
 go_loopg [8] 15 (fun g vi wr=>∃ j:Nat,vi=.int .i64 (j:Int)∧j≤15∧g=15 - j∧Hid (Below w0.heap.size w0 wr∧∀ m (hm:m < tws.length),m < j→tws[m].1 ≠ s))
 case atStart=>exact ⟨0,rfl,by omega,rfl,Below.refl _ _,fun m hm h=>by omega⟩
 case round =>
  obtain ⟨j,rfl,hj,rfl,HO⟩:=hrel
  have Z1:=hide ((HO.out.1.block w.heap.size (by rw [HZ.out];omega)).trans Z0.out)
  have f0:=softA Z1.out 0;have f1:=softA Z1.out 1;have f2:=softA Z1.out 2
  have z0:=cellA Z1.out 0;have z1:=cellA Z1.out 1;have z2:=cellA Z1.out 2
  have hsz:w.heap.size < wr.heap.size:=(Array.getElem?_eq_some_iff.1 Z1.out).1
  clear hc hgl hbl
  by_cases hlt:j < 15
  ·have hx:∀ c u,(twC (tws[j]'hlt))[c]? = some u→w0.cell? ⟨bt,off+j * 3+c,none⟩=some u:=fun c u hu=>HR0.out j hlt c u hu
   obtain ⟨x,hxx⟩:∃ x,x=tws[j]'hlt:=⟨_,rfl⟩
   have HXX:=hide hxx
   have hbeq:=HS.out j hlt
   rw [← hxx] at hx hbeq
   have HB:=Fr.ofBelow (E:=fun _=>False) HO.out.1
   have d0:=HB.cell (hx 0 _ rfl) (fun e=>e)
   have d1:=HB.cell (hx 1 _ rfl) (fun e=>e)
   have d2:=HB.cell (hx 2 _ rfl) (fun e=>e)
   simp only [Nat.add_zero] at d0
   have hjI:(j:Int) < 15:=by omega
   have hbt:bt < wr.heap.size:=Nat.lt_of_lt_of_le HT0.out.bl HO.out.1.size
   clear hx HB hxx
   cases hd:decide (x.1=s) with
   | true =>
    rw [hd] at hbeq
    have HE:Hid (twoV (twoP s)=.tuple #[.agg #[.string (txt x.1),.int .u8 (x.2.1:Int),.int .i64 (x.2.2:Int)],.bool true]):=by
     unfold Hid;rw [twoP_at hlt HO.out.2 (by rw [← HXX.out];exact of_decide_eq_true hd),← HXX.out];rfl
    clear hd
    generalize txt x.1=a0 at *
    generalize (x.2.1:Int)=a1 at *
    generalize (x.2.2:Int)=a2 at *
    go_wp2
    have hg:=got0 (cs:=[.string a0,.int .u8 a1,.int .i64 a2]) Z1.out rfl
    have hg2:=(((Below.refl _ _).alloc (Nat.le_refl _) (.cells #[.string a0,.int .u8 a1,.int .i64 a2] 228)).block w.heap.size (Array.getElem?_eq_some_iff.1 hg).1).trans hg
    have q0:=cellA hg2 0;have q1:=cellA hg2 1;have q2:=cellA hg2 2
    simp only [setAll] at q0 q1 q2
    have HB:Hid (Below w.heap.size w wr):=HA.out.trans (HO.out.1.mono (by rw [HZ.out];omega))
    refine bodyPost_ret (v:=.tuple #[.agg #[.string a0,.int .u8 a1,.int .i64 a2],.bool true]) (by simp [results,Tryz.results204,go_sem,q0,q1,q2]) rfl ⟨by rw [HE.out],?_⟩
    have b3:=((HB.out.setCell (p:=⟨w.heap.size,0,none⟩) (Nat.le_refl _) (.string a0)).setCell (p:=⟨w.heap.size,1,none⟩) (Nat.le_refl _) (.int .u8 a1)).setCell (p:=⟨w.heap.size,2,none⟩) (Nat.le_refl _) (.int .i64 a2)
    exact b3.alloc b3.size _
   | false =>
    rw [hd] at hbeq
    have HE:Hid (∀ m (hm:m < tws.length),m < j+1→tws[m].1 ≠ s):=fun m hm h=>by
     by_cases e:m=j
     ·subst e;exact fun e'=>of_decide_eq_false hd (by rw [HXX.out];exact e')
     ·exact HO.out.2 m hm (by omega)
    clear hd
    generalize txt x.1=a0 at *
    generalize (x.2.1:Int)=a1 at *
    generalize (x.2.2:Int)=a2 at *
    go_wp2
    go_roundg (15 - (j+1))
    case measure=>omega
    case rel =>
     refine ⟨j+1,congrArg (Value.int .i64) (by omega),by omega,rfl,?_,HE.out⟩
     exact HO.out.1.alloc HO.out.1.size _
  ·have HE:Hid (twoV (twoP s)=.tuple #[.agg #[.string ⟨#[]⟩,.int .u8 0,.int .i64 0],.bool false]):=by
    unfold Hid;rw [twoP_none fun m hm=>HO.out.2 m hm (by have:=tws_len;omega)];rfl
   have HB:=hide HO.out.1
   clear HO HS HT
   go_wp2
   have hg:=got0 (cs:=[.string ⟨#[]⟩,.int .u8 0,.int .i64 0]) Z1.out rfl
   have HF:=hide (fr_all w.heap.size [.string ⟨#[]⟩,.int .u8 0,.int .i64 0] wr 0)
   have q0:=cellA hg 0;have q1:=cellA hg 1;have q2:=cellA hg 2
   simp only [setAll] at q0 q1 q2 HF
   have HBB:Hid (Below w.heap.size w wr):=HA.out.trans (HB.out.mono (by rw [HZ.out];omega))
   refine bodyPost_ret (v:=.tuple #[.agg #[.string ⟨#[]⟩,.int .u8 0,.int .i64 0],.bool false]) (by simp [results,Tryz.results204,go_sem,q0,q1,q2]) rfl ⟨by rw [HE.out],?_⟩
   exact ((HBB.out.setCell (p:=⟨w.heap.size,0,none⟩) (Nat.le_refl _) (.string ⟨#[]⟩)).setCell (p:=⟨w.heap.size,1,none⟩) (Nat.le_refl _) (.int .u8 0)).setCell (p:=⟨w.heap.size,2,none⟩) (Nat.le_refl _) (.int .i64 0)
end Go.Proofs.YtabkimknlifdoaaGreatDoor
namespace Go.Proofs.YtabkimknlifdoaaGreatDoor
open Go.ChangeShapes Go.WideShapes Go.ChangeAt Go.ChangeMaps Go.RowKit
theorem table_strN {P:Program} {t e:TypeId} {n i:Nat} {b:ByteArray} (ht:P.underlying t=some (.array n e)) (he:P.underlying e=some .string) (hc:P.cellsOf e=1) {W:World} {g fuel:Nat} {nm:String} {cs:Array Value} {l:List (DataW Unit)} {p:List MemPlace}
  (hg:P.globalNamed nm=some g) (hv:W.var? P nm=some cs) (hd:DataW.trod (fun _=>()) P W 0 (fun _=>true) false fuel t cs.toList=some (.agg l,p)) (hi:i < n) (hl:l[i]? = some (.lit (.string b.data.toList))):W.cell? ⟨g,i,none⟩=some (.string b):=by
 obtain ⟨xs,m,rfl,hx,hlen,hn,hel⟩:=DataW.trod_array ht hd
 have h15:=hel i hi
 rw [hc] at h15
 obtain ⟨y,ey⟩:=some_atN (l:=xs) (i:=i) (by omega)
 rw [ey] at h15
 obtain ⟨s,e1,e2,_⟩:=DataW.trod_string he h15
 have hx':=congrArg Prod.fst hx
 simp only [DataW.agg.injEq] at hx'
 have h2:(xs.map (·.1))[i]? = some y.1:=by rw [List.getElem?_map,ey];rfl
 rw [← hx',hl,e2] at h2
 have h3:b.data.toList=s.data.toList:=by
  injection h2 with h2;injection h2 with h2;injection h2
 have h4:b=s:=ByteArray.ext (Array.ext' h3)
 subst h4
 rw [World.var?_cell hg hv i,← Array.getElem?_toList]
 have:=congrArg (fun l=>l[0]?) e1
 simpa [List.getElem?_take,List.getElem?_drop] using this
theorem gSg : Tryz.prog.globalNamed "pointsman/lex.signs" = some 0 := by kernel_rfl
theorem tSg:(Tryz.prog.globals[0]?).map (·.type)=some 153:=by kernel_rfl
theorem cSg:Tryz.prog.cellsOf 9=1:=by kernel_rfl
theorem laidSg:(Rows.laid_pointsman_lex_signs:DataW Unit)=.agg ((List.range 27).map fun i=>.lit (.string (sb i).data.toList)):=by kernel_rfl
theorem laidSg_at (i:Nat) (h:i < 27):((List.range 27).map fun i=>(DataW.lit (.string (sb i).data.toList):DataW Unit))[i]? = some (.lit (.string (sb i).data.toList)):=by
 simp [h]
theorem cells_three {W:World} {base:Nat} {a:Addr} {cs:List Value} (h:W.cells? base a 3=some cs):∃ u v x,cs=[u,v,x]∧W.cell? a=some u∧W.cell? (a.add 1)=some v∧W.cell? (a.add 2)=some x:=by
 unfold World.cells? at h
 split at h
 ·simp only [List.range_succ,List.range_zero,List.nil_append,List.cons_append,List.mapM_cons,List.mapM_nil] at h
  cases h0:W.cell? (a.add 0) with
  | none=>simp [h0] at h
  | some u =>
   cases h1:W.cell? (a.add 1) with
   | none=>simp [h0,h1] at h
   | some v =>
    cases h2:W.cell? (a.add 2) with
    | none=>simp [h0,h1,h2] at h
    | some x =>
     simp [h0,h1,h2] at h
     refine ⟨u,v,x,h.symm,?_,rfl,rfl⟩
     have e:a.add 0=a:=by simp [Addr.add]
     rw [← e];exact h0
 ·cases h
set_option maxRecDepth 100000 in
theorem cell_lt {W:World} {a:Addr} {v:Value} (h:W.cell? a=some v):a.spot=none∧a.block < W.heap.size:=by
 unfold World.cell? at h
 cases hb:W.heap[a.block]? with
 | none=>rw [hb] at h;simp at h
 | some o =>
  refine ⟨?_,(Array.getElem?_eq_some_iff.1 hb).1⟩
  rw [hb] at h
  cases o with
  | cells c t f =>
   simp only at h
   split at h
   ·cases h
   ·rename_i hs;simpa using hs
  | _=>simp at h
set_option maxRecDepth 100000 in
theorem add_atP (b o i:Nat):(⟨b,o,none⟩:Addr).add i=⟨b,o+i,none⟩:=by simp [Addr.add]
theorem gTw : Tryz.prog.globalNamed "pointsman/parse.twos" = some 3 := by kernel_rfl
theorem tTw:(Tryz.prog.globals[3]?).map (·.type)=some 252:=by kernel_rfl
theorem cTw:Tryz.prog.cellsOf 228=3:=by kernel_rfl
theorem cTwS:Tryz.prog.cellsOf 9=1:=by kernel_rfl
theorem cTwB:Tryz.prog.cellsOf 46=1:=by kernel_rfl
theorem cTwI:Tryz.prog.cellsOf 3=1:=by kernel_rfl
def twD (x:List UInt8 × Nat × Nat):DataW Unit:=.agg [.lit (.string x.1),.lit (.int .u8 (x.2.1:Int)),.lit (.int .i64 (x.2.2:Int))]
theorem laidTw:(Rows.laid_pointsman_parse_twos:DataW Unit)=.slice (tws.map twD) []:=by kernel_rfl
theorem tws_laid {W : World} {fuel : Nat} {cs : Array Value} {p : List MemPlace} (hv : W.var? Tryz.prog "pointsman/parse.twos" = some cs) (hd : DataW.trod (fun _ => ()) Tryz.prog W 0 (fun _ => true) false fuel 252 cs.toList = some (Rows.laid_pointsman_parse_twos, p)) : ∃ bt, Tws W bt := by
 rcases DataW.trod_slice Tryz.underlying252 hd with ⟨_,hx⟩ | ⟨a,len,cap,elems,rest,n,_,hcs,hx,_,hl,_,hlen,hel,hsp,_⟩
 ·have:=congrArg Prod.fst hx
  rw [laidTw] at this
  cases this
 ·have hx':=congrArg Prod.fst hx
  rw [laidTw] at hx'
  simp only [DataW.slice.injEq] at hx'
  obtain ⟨he,hr⟩:=hx'
  have h15:elems.length=15:=by
   have:=congrArg List.length he
   simpa [tws_len] using this.symm
  have hr0:rest.length=0:=by
   have:=congrArg List.length hr
   simpa using this.symm
  have hrl:=(hsp rfl).1
  obtain rfl:len=15:=by omega
  obtain rfl:cap=15:=by omega
  clear hsp hl
  rw [cTw] at hel
  obtain ⟨b,off,sp⟩:=a
  have hs0:sp=none:=by
   have h0:=hel 0 (by omega)
   rw [List.getElem?_eq_getElem (by omega),Option.bind_eq_some_iff] at h0
   obtain ⟨cs',hc',_⟩:=h0
   obtain ⟨u,v,x,_,hc0,_,_⟩:=cells_three hc'
   exact (cell_lt hc0).1
  subst hs0
  have H:∀ i (h:i < tws.length),W.cell? ⟨b,off+i * 3,none⟩=some (.string (txt tws[i].1))∧W.cell? ⟨b,off+i * 3+1,none⟩=some (.int .u8 (tws[i].2.1:Int))∧W.cell? ⟨b,off+i * 3+2,none⟩=some (.int .i64 (tws[i].2.2:Int)):=by
   intro i hi
   have hi15:i < 15:=by rw [tws_len] at hi;exact hi
   have hE:=hel i hi15
   have hi':i < elems.length:=by omega
   rw [List.getElem?_eq_getElem hi',Option.bind_eq_some_iff] at hE
   obtain ⟨cs',hc',hy⟩:=hE
   obtain ⟨u,v,x,rfl,hcu,hcv,hcx⟩:=cells_three hc'
   obtain ⟨y0,y1,y2,n',hye,_,ht0,ht1,ht2⟩:=Go.Deep.trod_struct3 Tryz.underlying228 hy
   have hd1:twD tws[i]=(elems[i]).1:=by
    have h2:(tws.map twD)[i]? = (elems.map (·.1))[i]?:=by rw [he]
    rw [List.getElem?_map,List.getElem?_map,List.getElem?_eq_getElem hi,List.getElem?_eq_getElem hi'] at h2
    exact Option.some.inj h2
   rw [hye] at hd1
   unfold twD at hd1
   simp only [DataW.agg.injEq,List.cons.injEq,and_true] at hd1
   obtain ⟨q0,q1,q2⟩:=hd1
   simp only [List.drop_zero,List.drop_succ_cons] at ht0 ht1 ht2
   rw [cTwS] at ht0
   rw [cTwB] at ht1
   rw [cTwI] at ht2
   replace ht0:DataW.trod (fun _=>()) Tryz.prog W 0 (fun _=>true) false n' 9 [u]=some y0:=ht0
   replace ht1:DataW.trod (fun _=>()) Tryz.prog W 0 (fun _=>true) false n' 46 [v]=some y1:=ht1
   replace ht2:DataW.trod (fun _=>()) Tryz.prog W 0 (fun _=>true) false n' 3 [x]=some y2:=ht2
   obtain ⟨s,e0,f0,_⟩:=DataW.trod_string Tryz.underlying9 ht0
   obtain ⟨m1,e1,f1,_⟩:=DataW.trod_int Tryz.underlying46 ht1
   obtain ⟨m2,e2,f2,_⟩:=DataW.trod_int Tryz.underlying3 ht2
   rw [f0] at q0
   rw [f1] at q1
   rw [f2] at q2
   simp only [List.cons.injEq,and_true] at e0 e1 e2
   subst e0 e1 e2
   injection q0 with q0;injection q0 with q0
   injection q1 with q1;injection q1 with _ q1
   injection q2 with q2;injection q2 with _ q2
   rw [add_atP] at hcu hcv hcx
   rw [add_atP] at hcv hcx
   refine ⟨?_,?_,?_⟩
   ·have hs:txt s.data.toList=s:=by apply ByteArray.ext;unfold txt;simp
    exact hcu.trans (congrArg (fun b=>some (Value.string b)) ((congrArg txt q0).trans hs).symm)
   ·exact hcv.trans (congrArg (fun m=>some (Value.int .u8 m)) q1.symm)
   ·exact hcx.trans (congrArg (fun m=>some (Value.int .i64 m)) q2.symm)
  have at0:W.cell? ⟨3,0,none⟩=some (.slice (some ⟨b,off,none⟩) 15 15):=by
   rw [World.var?_cell gTw hv 0,← Array.getElem?_toList,hcs]
   rfl
  refine ⟨b,⟨off,at0,fun i hi j u hu=>?_⟩,(cell_lt at0).2,(cell_lt (H 0 (by rw [tws_len];omega)).1).2⟩
  obtain ⟨h0,h1,h2⟩:=H i hi
  unfold twC at hu
  match j,hu with
  | 0,hu=>cases hu;exact h0
  | 1,hu=>cases hu;exact h1
  | 2,hu=>cases hu;exact h2
  | j+3,hu=>cases hu
def laidP : List (String × DataW Unit) := [("math/bits.deBruijn32tab", Rows.laid_math_bits_deBruijn32tab), ("math/bits.deBruijn64tab", Rows.laid_math_bits_deBruijn64tab), ("internal/strconv.uint64pow10", Rows.laid_internal_strconv_uint64pow10), ("unicode/utf8.acceptRanges", Rows.laid_unicode_utf8_acceptRanges), ("strconv.ErrRange", Rows.laid_strconv_ErrRange), ("strconv.ErrSyntax", Rows.laid_strconv_ErrSyntax), ("pointsman/lex.signs", Rows.laid_pointsman_lex_signs), ("pointsman/parse.twos", Rows.laid_pointsman_parse_twos), ("unicode/utf8.first", Rows.laid_unicode_utf8_first)]
theorem door_metP (os:Os) (args:Array Value):laidMetH Tryz.prog laidP ((World.laidAll Tryz.prog os laidP).forCall (fun _ _=>0) ⟨#[],args,[]⟩).memory:=by
 rw [MakeChecks.laidMetH_plain _ _ _ (by kernel_rfl)]
 exact laidMet_laidAll _ (by kernel_rfl) (by kernel_rfl)
theorem of_laidP {W:World} (h:laidMetH Tryz.prog laidP W):Ls W∧∃ bt,Tws W bt:=by
 rw [MakeChecks.laidMetH_plain _ _ _ (by kernel_rfl)] at h
 obtain ⟨ps,⟨g0,t0,cs0,f0,p0,q0,hg0,ht0,hv0,hd0,⟨g1,t1,cs1,f1,p1,q1,hg1,ht1,hv1,hd1,⟨g2,t2,cs2,f2,p2,q2,hg2,ht2,hv2,hd2,⟨g3,t3,cs3,f3,p3,q3,hg3,ht3,hv3,hd3,⟨g4,t4,cs4,f4,p4,q4,hg4,ht4,hv4,hd4,⟨g5,t5,cs5,f5,p5,q5,hg5,ht5,hv5,hd5,⟨g6,t6,cs6,f6,p6,q6,hg6,ht6,hv6,hd6,⟨g7,t7,cs7,f7,p7,q7,hg7,ht7,hv7,hd7,_,_⟩,_⟩,_⟩,_⟩,_⟩,_⟩,_⟩,_⟩,_,_⟩:=h
 obtain rfl:=Option.some.inj (gTabV.symm.trans hg1)
 obtain rfl:=Option.some.inj (tTabV.symm.trans ht1)
 obtain rfl:=Option.some.inj (gPow.symm.trans hg2)
 obtain rfl:=Option.some.inj (tPowV.symm.trans ht2)
 obtain rfl:=Option.some.inj (gErV.symm.trans hg4)
 obtain rfl:=Option.some.inj (tErV.symm.trans ht4)
 obtain rfl:=Option.some.inj (gEsV.symm.trans hg5)
 obtain rfl:=Option.some.inj (tEsV.symm.trans ht5)
 obtain rfl:=Option.some.inj (gSg.symm.trans hg6)
 obtain rfl:=Option.some.inj (tSg.symm.trans ht6)
 obtain rfl:=Option.some.inj (gTw.symm.trans hg7)
 obtain rfl:=Option.some.inj (tTw.symm.trans ht7)
 refine ⟨?_,tws_laid hv7 hd7⟩
 refine ⟨⟨table_atN Tryz.underlying267 Tryz.underlying5 cellsYV hg1 hv1 hd1 (by decide) rfl,?_,iface_cell Tryz.underlying163 hg5 hv5 hd5,iface_cell Tryz.underlying163 hg4 hv4 hd4⟩,fun j v hj=>?_⟩
 ·have:=Lib.cells_of_tab (zs:=Lib.pow10Tab) Tryz.underlying242 Tryz.underlying33 cU64V cPowV hd2
  unfold Lib.TabIs
  rw [hv2,← this]
 ·have hlt:j < 27:=by have:=(List.getElem?_eq_some_iff.1 hj).1;rw [sgL_len] at this;exact this
  rw [sgL_at j hlt] at hj
  injection hj with hj
  subst hj
  rw [laidSg] at hd6
  rw [Nat.zero_add]
  exact table_strN Tryz.underlying153 Tryz.underlying9 cSg hg6 hv6 hd6 hlt (laidSg_at j hlt)
end Go.Proofs.YtabkimknlifdoaaGreatDoor
namespace Go.Proofs.YtabkimknlifdoaaGreatDoor
open Go.RowKit
def exN (op:Nat) (n f:List UInt8):Ex:=⟨op,0,0,n,f,0,0,0,[]⟩
theorem exN_val (W:World) (X:Nat→Prop) (op:Nat) (n f:List UInt8):ExR W X (.agg #[.int .u8 (op:Int),.int .i64 0,.int .u64 0,.int .u64 0,.string (txt n),.string (txt f),.int .i64 0,.int .i64 0,.slice none 0 0,.int .i64 0]) (exN op n f):=by
 have h0:wHi 0=0:=by unfold wHi;simp
 have h1:wLo 0=0:=by unfold wLo;simp
 have h:=ExR.mk (W:=W) (X:=X) (x:=exN op n f) (va:=.slice none 0 0) ListR.none
 simp only [exC,exN,h0,h1,mkAgg] at h
 exact h
def fopP:Pf Ex:=fun L k=>match ownerP L k with
 | .error e=>.error e
 | .ok (n,k1)=>if decide (n=metaL) || passedP [46] L k1 then (match fieldOfP L k1 with
  | .error e=>.error e
  | .ok (f,k2)=>.ok (exN 2 n f,k2)) else .ok (exN 3 n [],k1)
theorem isP_any {w W:World} {p q:Nat} {L:List (Wd × Nat)} {k:Nat} {dm sm:Value} (h:Rp w W p q L k dm sm) (l:List UInt8) :
  Calls Tryz.prog 168 #[.pointer (some ⟨p,0,none⟩),.string (txt l)] W fun e w'=>e=.returned (.bool (passedP l L k))∧Rp W w' p q L k dm sm:=by
 obtain ⟨x,hx,_⟩:=h.word
 refine (is_any h.here hx l).mono ?_
 rintro e w' ⟨rfl,hb⟩
 refine ⟨?_,h.here.next hb⟩
 unfold passedP
 rw [hx]
set_option maxRecDepth 100000 in
set_option maxHeartbeats 2000000 in
theorem fop_any {w:World} {p q:Nat} {L:List (Wd × Nat)} {k:Nat} {dm sm:Value} (h:Rp w w p q L k dm sm) (hL:OkL L) :
  Calls Tryz.prog 243 #[.pointer (some ⟨p,0,none⟩)] w fun e w'=>PostP (fopP L k) ExR w p q L dm sm e w':=by
 have R0:=hide (h.next ((Below.refl _ w).alloc (Nat.le_refl _) (.cells #[.int .u8 0,.int .i64 0,.int .u64 0,.int .u64 0,.string ⟨#[]⟩,.string ⟨#[]⟩,.int .i64 0,.int .i64 0,.slice none 0 0,.int .i64 0] 49)))
 have Z0:=hide (heap_alloc_new w (.cells #[.int .u8 0,.int .i64 0,.int .u64 0,.int .u64 0,.string ⟨#[]⟩,.string ⟨#[]⟩,.int .i64 0,.int .i64 0,.slice none 0 0,.int .i64 0] 49))
 have HN:=hide (fun W k' (r:Rp w W p q L k' dm sm)=>owner_any r.here hL)
 have HI:=hide (fun W k' (r:Rp w W p q L k' dm sm)=>isP_any r [46])
 have HF:=hide (fun W k' (r:Rp w W p q L k' dm sm)=>fieldOf_any r.here hL)
 have hT:txt [46]=⟨#[46]⟩:=rfl
 rw [hT] at HI
 have HE1:Hid (∀ {k1},ownerP L k=.error k1→fopP L k=.error k1):=fun {k1} e1=>by unfold fopP;rw [e1]
 have HM:Hid (∀ {n k1},ownerP L k=.ok (n,k1)→(decide (n=metaL) || passedP [46] L k1)=true→(∀ k2,fieldOfP L k1=.error k2→fopP L k=.error k2)∧∀ f k2,fieldOfP L k1=.ok (f,k2)→fopP L k=.ok (exN 2 n f,k2)):=fun {n} {k1} e1 e2=>⟨fun k2 e3=>by unfold fopP;simp only [e1,e2,if_true,e3],fun f k2 e3=>by unfold fopP;simp only [e1,e2,if_true,e3]⟩
 have HO:Hid (∀ {n k1},ownerP L k=.ok (n,k1)→(decide (n=metaL) || passedP [46] L k1)=false→fopP L k=.ok (exN 3 n [],k1)):=fun {n} {k1} e1 e2=>by unfold fopP;simp only [e1,e2,Bool.false_eq_true,if_false]
 clear h hT
 go_enter Tryz.func243,Tryz.ntmps243
 go_wp2_with fail
 refine (HN.out _ _ R0.out).mono ?_
 rintro e w1 (⟨x1,k1,v,h1,rfl,hv,hr⟩ | ⟨k1,h1,rfl,hr⟩)
 ·obtain rfl:v=.string (txt x1):=hv
  have Z1:=hide (R0.out.keeps hr Z0.out (Nat.le_refl _))
  have R1:=hide (R0.out.from hr)
  have hbeq:((txt x1).toList == [109,101,116,97])=decide (x1=metaL):=by
   rw [Lib.toList_data,txt_data]
   by_cases e:x1=metaL
   ·rw [decide_eq_true e,e];rfl
   ·rw [decide_eq_false e];exact beq_eq_false_iff_ne.2 e
  have HV:Hid (∀ W X (op:Nat) f,ExR W X (.agg #[.int .u8 (op:Int),.int .i64 0,.int .u64 0,.int .u64 0,.string (txt x1),.string (txt f),.int .i64 0,.int .i64 0,.slice none 0 0,.int .i64 0]) (exN op x1 f)):=fun W X op f=>exN_val W X op x1 f
  have H1:=hide h1
  clear hr h1
  cases hm:decide (x1=metaL) with
  | true =>
   rw [hm] at hbeq
   obtain ⟨HM1,HM2⟩:=HM.out H1.out (by rw [hm];rfl)
   replace HM1:=hide HM1
   replace HM2:=hide HM2
   clear hm
   generalize txt x1=T at *
   go_wp2_with fail
   refine (HF.out _ _ R1.out).mono ?_
   rintro e w2 (⟨x2,k2,v,h2,rfl,hv,hr⟩ | ⟨k2,h2,rfl,hr⟩)
   ·obtain rfl:v=.string (txt x2):=hv
    have Z9:=hide (R1.out.keeps hr Z1.out (Nat.le_refl _))
    have R9:=hide (R1.out.from hr)
    have H2:=hide (HM2.out _ _ h2)
    have HV2:=hide (fun W X=>HV.out W X 2 x2)
    clear hr h2 HV
    generalize txt x2=F at *
    have c0:=cellA Z9.out 0;have c1:=cellA Z9.out 1;have c2:=cellA Z9.out 2;have c3:=cellA Z9.out 3;have c4:=cellA Z9.out 4;have c5:=cellA Z9.out 5;have c6:=cellA Z9.out 6;have c7:=cellA Z9.out 7;have c8:=cellA Z9.out 8;have c9:=cellA Z9.out 9
    have f0:=softA Z9.out 0;have f1:=softA Z9.out 1;have f2:=softA Z9.out 2;have f3:=softA Z9.out 3;have f4:=softA Z9.out 4;have f5:=softA Z9.out 5;have f6:=softA Z9.out 6;have f7:=softA Z9.out 7;have f8:=softA Z9.out 8;have f9:=softA Z9.out 9
    go_wp2
    have hg:=got0 (cs:=[.int .u8 2,.int .i64 0,.int .u64 0,.int .u64 0,.string T,.string F,.int .i64 0,.int .i64 0,.slice none 0 0,.int .i64 0]) Z9.out rfl
    have RS:=hide (R9.out.aside (fr_all w.heap.size [.int .u8 2,.int .i64 0,.int .u64 0,.int .u64 0,.string T,.string F,.int .i64 0,.int .i64 0,.slice none 0 0,.int .i64 0] w2 0) (Nat.le_refl _))
    have q0:=cellA hg 0;have q1:=cellA hg 1;have q2:=cellA hg 2;have q3:=cellA hg 3;have q4:=cellA hg 4;have q5:=cellA hg 5;have q6:=cellA hg 6;have q7:=cellA hg 7;have q8:=cellA hg 8;have q9:=cellA hg 9
    simp only [setAll] at q0 q1 q2 q3 q4 q5 q6 q7 q8 q9 RS
    exact bodyPost_ret (v:=.agg #[.int .u8 2,.int .i64 0,.int .u64 0,.int .u64 0,.string T,.string F,.int .i64 0,.int .i64 0,.slice none 0 0,.int .i64 0]) (by simp [results,Tryz.results243,go_sem,q0,q1,q2,q3,q4,q5,q6,q7,q8,q9]) rfl (.inl ⟨_,_,_,H2.out,rfl,HV2.out _ _,RS.out⟩)
   ·have R9:=hide (R1.out.from hr)
    have H2:=hide (HM1.out _ h2)
    clear hr h2
    go_wp2
    exact ⟨rfl,.inr ⟨_,H2.out,rfl,R9.out⟩⟩
  | false =>
   rw [hm] at hbeq
   have HIk:=hide (HI.out _ _ R1.out)
   have HMk:=hide (fun h=>HM.out (n:=x1) H1.out (by rw [hm];exact h))
   have HOk:=hide (fun h=>HO.out (n:=x1) H1.out (by rw [hm];exact h))
   simp only [Bool.false_or] at HMk HOk
   clear hm HM HO
   generalize txt x1=T at *
   cases hp:passedP [46] L k1 with
   | true =>
    rw [hp] at HIk
    obtain ⟨HM1,HM2⟩:=HMk.out hp
    replace HM1:=hide HM1
    replace HM2:=hide HM2
    clear hp HMk HOk
    go_wp2_with fail
    refine HIk.out.mono ?_
    rintro e w2 ⟨rfl,hr⟩
    have Z2:=hide (R1.out.keeps hr Z1.out (Nat.le_refl _))
    have R2:=hide (R1.out.from hr)
    clear hr
    go_wp2_with fail
    refine (HF.out _ _ R2.out).mono ?_
    rintro e w3 (⟨x2,k2,v,h2,rfl,hv,hr⟩ | ⟨k2,h2,rfl,hr⟩)
    ·obtain rfl:v=.string (txt x2):=hv
     have Z9:=hide (R2.out.keeps hr Z2.out (Nat.le_refl _))
     have R9:=hide (R2.out.from hr)
     have H2:=hide (HM2.out _ _ h2)
     have HV2:=hide (fun W X=>HV.out W X 2 x2)
     clear hr h2 HV
     generalize txt x2=F at *
     have c0:=cellA Z9.out 0;have c1:=cellA Z9.out 1;have c2:=cellA Z9.out 2;have c3:=cellA Z9.out 3;have c4:=cellA Z9.out 4;have c5:=cellA Z9.out 5;have c6:=cellA Z9.out 6;have c7:=cellA Z9.out 7;have c8:=cellA Z9.out 8;have c9:=cellA Z9.out 9
     have f0:=softA Z9.out 0;have f1:=softA Z9.out 1;have f2:=softA Z9.out 2;have f3:=softA Z9.out 3;have f4:=softA Z9.out 4;have f5:=softA Z9.out 5;have f6:=softA Z9.out 6;have f7:=softA Z9.out 7;have f8:=softA Z9.out 8;have f9:=softA Z9.out 9
     go_wp2
     have hg:=got0 (cs:=[.int .u8 2,.int .i64 0,.int .u64 0,.int .u64 0,.string T,.string F,.int .i64 0,.int .i64 0,.slice none 0 0,.int .i64 0]) Z9.out rfl
     have RS:=hide (R9.out.aside (fr_all w.heap.size [.int .u8 2,.int .i64 0,.int .u64 0,.int .u64 0,.string T,.string F,.int .i64 0,.int .i64 0,.slice none 0 0,.int .i64 0] w3 0) (Nat.le_refl _))
     have q0:=cellA hg 0;have q1:=cellA hg 1;have q2:=cellA hg 2;have q3:=cellA hg 3;have q4:=cellA hg 4;have q5:=cellA hg 5;have q6:=cellA hg 6;have q7:=cellA hg 7;have q8:=cellA hg 8;have q9:=cellA hg 9
     simp only [setAll] at q0 q1 q2 q3 q4 q5 q6 q7 q8 q9 RS
     exact bodyPost_ret (v:=.agg #[.int .u8 2,.int .i64 0,.int .u64 0,.int .u64 0,.string T,.string F,.int .i64 0,.int .i64 0,.slice none 0 0,.int .i64 0]) (by simp [results,Tryz.results243,go_sem,q0,q1,q2,q3,q4,q5,q6,q7,q8,q9]) rfl (.inl ⟨_,_,_,H2.out,rfl,HV2.out _ _,RS.out⟩)
    ·have R9:=hide (R2.out.from hr)
     have H2:=hide (HM1.out _ h2)
     clear hr h2
     go_wp2
     exact ⟨rfl,.inr ⟨_,H2.out,rfl,R9.out⟩⟩
   | false =>
    rw [hp] at HIk
    have H2:=hide (HOk.out hp)
    have HV2:=hide (fun W X=>HV.out W X 3 [])
    clear hp HMk HOk HV
    go_wp2_with fail
    refine HIk.out.mono ?_
    rintro e w2 ⟨rfl,hr⟩
    have Z2:=hide (R1.out.keeps hr Z1.out (Nat.le_refl _))
    have R2:=hide (R1.out.from hr)
    clear hr
    have c0:=cellA Z2.out 0;have c1:=cellA Z2.out 1;have c2:=cellA Z2.out 2;have c3:=cellA Z2.out 3;have c4:=cellA Z2.out 4;have c5:=cellA Z2.out 5;have c6:=cellA Z2.out 6;have c7:=cellA Z2.out 7;have c8:=cellA Z2.out 8;have c9:=cellA Z2.out 9
    have f0:=softA Z2.out 0;have f1:=softA Z2.out 1;have f2:=softA Z2.out 2;have f3:=softA Z2.out 3;have f4:=softA Z2.out 4;have f5:=softA Z2.out 5;have f6:=softA Z2.out 6;have f7:=softA Z2.out 7;have f8:=softA Z2.out 8;have f9:=softA Z2.out 9
    go_wp2
    have hg:=got0 (cs:=[.int .u8 3,.int .i64 0,.int .u64 0,.int .u64 0,.string T,.string ⟨#[]⟩,.int .i64 0,.int .i64 0,.slice none 0 0,.int .i64 0]) Z2.out rfl
    have RS:=hide (R2.out.aside (fr_all w.heap.size [.int .u8 3,.int .i64 0,.int .u64 0,.int .u64 0,.string T,.string ⟨#[]⟩,.int .i64 0,.int .i64 0,.slice none 0 0,.int .i64 0] w2 0) (Nat.le_refl _))
    have q0:=cellA hg 0;have q1:=cellA hg 1;have q2:=cellA hg 2;have q3:=cellA hg 3;have q4:=cellA hg 4;have q5:=cellA hg 5;have q6:=cellA hg 6;have q7:=cellA hg 7;have q8:=cellA hg 8;have q9:=cellA hg 9
    simp only [setAll] at q0 q1 q2 q3 q4 q5 q6 q7 q8 q9 RS
    exact bodyPost_ret (v:=.agg #[.int .u8 3,.int .i64 0,.int .u64 0,.int .u64 0,.string T,.string ⟨#[]⟩,.int .i64 0,.int .i64 0,.slice none 0 0,.int .i64 0]) (by simp [results,Tryz.results243,go_sem,q0,q1,q2,q3,q4,q5,q6,q7,q8,q9]) rfl (.inl ⟨_,_,_,H2.out,rfl,HV2.out _ _,RS.out⟩)
 ·have R2:=hide (R0.out.from hr)
  have H1:=hide (HE1.out h1)
  clear hr h1
  go_wp2
  exact ⟨rfl,.inr ⟨_,H1.out,rfl,R2.out⟩⟩
end Go.Proofs.YtabkimknlifdoaaGreatDoor
