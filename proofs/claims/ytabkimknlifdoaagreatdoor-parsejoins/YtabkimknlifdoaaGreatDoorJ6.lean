/- Pieces of the proof: LK, LL, PaA, PaB, PaK. -/
import Derived.Test.YtabkimknlifdoaaGreatDoorJ5
import Derived.Maps.AppendAt
import Derived.RegionTactic
namespace Go.Proofs.YtabkimknlifdoaaGreatDoor
open Go.RowKit
def anL:List UInt8:=[97,98,99,100,101,102,103,104,105,106,107,108,109,110,111,112,113,114,115,116,117,118,119,120,121,122,65,66,67,68,69,70,71,72,73,74,75,76,77,78,79,80,81,82,83,84,85,86,87,88,89,90,95,48,49,50,51,52,53,54,55,56,57]
def isW (c:UInt8):Bool:=isIn anL c
theorem isW_10 {l:List UInt8}:c10 (l.takeWhile isW)=0:=by
 unfold c10
 rw [List.count_eq_zero]
 intro h
 have h2:=List.all_takeWhile (p:=isW) (l:=l)
 rw [List.all_eq_true] at h2
 have h3:=h2 10 h
 have h4:isW 10=false:=by decide +kernel
 rw [h4] at h3
 cases h3
theorem eatW (S:ByteArray) (p n b:Nat) (r:List UInt8) (W:World) (hb:b=W.heap.size) (hS:S.data.toList=anL) (hT:Tx W p r n) (hr:r.length≤1000000) (hn:n≤1000000) :
  Calls Tryz.prog 33 #[.pointer (some ⟨p,0,none⟩),.func (Fn.func 74) #[] #[.pointer (some ⟨b,0,none⟩)]] (W.alloc (.cells #[.string S] 9)) fun e w'=>e=.returned (.string (txt (r.takeWhile isW)))∧Tx w' p (r.dropWhile isW) n∧FrP p W w':=by
 subst hb
 have:=eat_among S p n r W hT hr hn
 rw [hS,show isIn anL=isW from rfl,isW_10,Nat.add_zero] at this
 exact this
def wdA (r:List UInt8):Option Wd × List UInt8:=wd1 (r.takeWhile isW) (r.dropWhile isW)
set_option maxHeartbeats 2000000 in
set_option maxRecDepth 100000 in
theorem word_any (w0:World) (p n:Nat) (r:List UInt8) (w:World) (hLs:Ls w0) (hB:Below w0.heap.size w0 w) (hp:w0.heap.size≤p) (hT:Tx w p r n) (hr:r.length≤100000) (hn:n≤100000) :
  Calls Tryz.prog 21 #[.pointer (some ⟨p,0,none⟩)] w fun e w'=>∃ ok a b c d S,WR (wdA r).1 ok a b c d S∧e=.returned (.tuple #[wAgg a b c d (n:Int) S,.bool ok])∧Tx w' p (wdA r).2 n∧FrP p w w':=by
 have HM:=hide among_mk
 have HE:=hide (fun S b W hb hS h=>eatW S p n b r W hb hS h (by omega) (by omega))
 have hl1:(r.takeWhile isW).length≤r.length:=by
  have h:=congrArg List.length (List.takeWhile_append_dropWhile (p:=isW) (l:=r))
  rw [List.length_append] at h;omega
 have hl2:=dropW_le isW r
 have HO:=hide (fun W h1 h2=>wordOf_any w0 p n (r.takeWhile isW) (r.dropWhile isW) W hLs h1 hp h2 (by omega) (by omega) (by omega))
 unfold wdA
 unfold WordPost at HO
 generalize (wd1 (r.takeWhile isW) (r.dropWhile isW)).1=O at *
 generalize (wd1 (r.takeWhile isW) (r.dropWhile isW)).2=R2 at *
 generalize txt (r.takeWhile isW)=T at *
 have HT:=hide hT
 have HB:=hide hB
 have HP:=hide hp
 have HTA:=hide (hT.alloc (.cells z6 37))
 have HNP:Hid (p < w.heap.size):=hT.lt
 clear hT hB hLs hp hr hn hl1 hl2
 go_enter Tryz.func21,Tryz.ntmps21
 go_wp2_with fail
 refine (HM.out _ _).mono ?_
 rintro e w1 ⟨rfl,rfl⟩
 go_wp2_with fail
 refine (HE.out _ _ (w.alloc _) (by simp) (by kernel_rfl) (HT.out.alloc _)).mono ?_
 rintro e w2 ⟨rfl,ht2,hf2⟩
 have HZ2:Hid (w.heap.size < w2.heap.size):=by have:=hf2.size;simp at this;unfold Hid;omega
 have HK2:Hid (w2.heap[w.heap.size]? = some (.cells z6 37 (0,0))):=(hf2.block _ (by simp) (fun e=>by have:=HNP.out;omega)).trans (heap_alloc_new w _)
 have HF2:Hid (FrP p w w2):=(Fr.ofBelow ((Below.refl _ _).alloc (Nat.le_refl _) _)).trans hf2 (fun _ _ e=>e)
 have HT2:=hide ht2
 clear ht2 hf2
 go_wp2_with fail
 refine (HO.out _ (frB HB.out HF2.out HP.out) HT2.out).mono ?_
 rintro e w3 ⟨ok,a,b,c,d,S,hwr,rfl,ht3,hf3⟩
 have HWR:=hide hwr
 have hlt3:w.heap.size < w3.heap.size:=Nat.lt_of_lt_of_le HZ2.out hf3.size
 have hk3:w3.heap[w.heap.size]? = some (.cells z6 37 (0,0)):=(hf3.block _ HZ2.out (fun e=>by have:=HNP.out;omega)).trans HK2.out
 have HF3:Hid (FrP p w w3):=HF2.out.trans hf3 (fun _ _ e=>e)
 obtain ⟨t0,t1,_,_⟩:=ht3.cells
 have hp3:=ht3.lt
 obtain ⟨⟨k0,k1,k2,k3,k4,k5⟩,f0,f1,f2,f3,f4,f5⟩:=cells_of6 hk3
 have HT3:=hide ht3
 have HK3:=hide hk3
 clear hwr ht3 hf3 hk3
 unfold wAgg
 have hne:¬ (w.heap.size=w3.heap.size):=by omega
 go_wp2
 have hs6:w.heap.size < (set6 w3 w.heap.size (.int .u8 a) (.string S) (.int .i64 b) (.int .u64 c) (.int .u64 d) (.int .i64 (n:Int))).heap.size:=Nat.lt_of_lt_of_le hlt3 (set6_below (Below.refl 0 w3) (Nat.zero_le _) _ _ _ _ _ _).size
 have hg:=cells_of6 ((hao _ (.cells #[.int .u8 a,.string S,.int .i64 b,.int .u64 c,.int .u64 d,.int .i64 (n:Int)] 37) _ hs6).trans (set6_got HK3.out (.int .u8 a) (.string S) (.int .i64 b) (.int .u64 c) (.int .u64 d) (.int .i64 (n:Int))))
 have HTF:=hide ((HT3.out.set6 (x0:=.int .u8 a) (x1:=.string S) (x2:=.int .i64 b) (x3:=.int .u64 c) (x4:=.int .u64 d) (x5:=.int .i64 (n:Int)) (show p ≠ w.heap.size by have:=HNP.out;omega)).alloc (.cells #[.int .u8 a,.string S,.int .i64 b,.int .u64 c,.int .u64 d,.int .i64 (n:Int)] 37))
 have HFF:=hide ((frset6 HF3.out (x0:=.int .u8 a) (x1:=.string S) (x2:=.int .i64 b) (x3:=.int .u64 c) (x4:=.int .u64 d) (x5:=.int .i64 (n:Int)) (b:=w.heap.size) (Nat.le_refl _)).alloc (.cells #[.int .u8 a,.string S,.int .i64 b,.int .u64 c,.int .u64 d,.int .i64 (n:Int)] 37))
 unfold set6 at hg HTF HFF
 obtain ⟨⟨q0,q1,q2,q3,q4,q5⟩,_⟩:=hg
 exact bodyPost_ret (v:=.tuple #[wAgg a b c d (n:Int) S,.bool ok]) (by simp [results,Tryz.results21,go_sem,q0,q1,q2,q3,q4,q5,wAgg]) rfl ⟨_,_,_,_,_,_,HWR.out,rfl,HTF.out,HFF.out⟩
abbrev LR:=Except Nat (List (Wd × Nat))
def LR.app (a:List (Wd × Nat)):LR→LR
 | .error k=>.error k
 | .ok ws=>.ok (a ++ ws)
theorem LR.app_nil (x:LR):LR.app [] x=x:=by cases x <;> rfl
theorem LR.app_app (a b:List (Wd × Nat)) (x:LR):LR.app a (LR.app b x)=LR.app (a ++ b) x:=by
 cases x with
 | error k=>rfl
 | ok ws=>simp [LR.app]
theorem takeW_split (P:UInt8→Bool) (l:List UInt8):(l.takeWhile P).length+(l.dropWhile P).length=l.length:=by
 have h:=congrArg List.length (List.takeWhile_append_dropWhile (p:=P) (l:=l))
 rw [List.length_append] at h;exact h
theorem wdA_less {r r':List UInt8} {x:Wd} (h:wdA r=(some x,r')):r'.length < r.length:=by
 unfold wdA at h
 have hs:=takeW_split isW r
 cases hr:r.takeWhile isW with
 | nil =>
  rw [hr] at h hs
  simp only [wd1,Prod.mk.injEq] at h
  have hl:=sgn_pre (r.dropWhile isW)
  obtain ⟨h1,h2⟩:=h
  have hne:sgn (r.dropWhile isW) ≠ []:=fun e=>by rw [e] at h1;simp [signW] at h1
  have hpos:0 < (sgn (r.dropWhile isW)).length:=List.length_pos_iff.2 hne
  rw [← h2,List.length_drop]
  simp at hs
  omega
 | cons c l =>
  rw [hr] at h hs
  have e2:r'=r.dropWhile isW:=by
   unfold wd1 at h
   simp only at h
   split at h
   ·split at h
    ·exact (Prod.mk.inj h).2.symm
    ·exact (Prod.mk.inj h).2.symm
   ·exact (Prod.mk.inj h).2.symm
  rw [e2]
  simp at hs
  omega
def tkF:Nat→List UInt8→Nat→LR
 | 0,_,_=>.ok []
 | f+1,r,n=>if r=[] then .ok [] else match wdA r with
  | (none,_)=>.error n
  | (some x,r')=>LR.app [(x,n)] (tkF f (skip r') (n+c10 r' - c10 (skip r')))
theorem tkF_any:∀ (f g:Nat) (r:List UInt8) (n:Nat),r.length < f→r.length < g→tkF f r n=tkF g r n
 | 0,_,_,_,h,_=>by omega
 | _,0,_,_,_,h=>by omega
 | f+1,g+1,r,n,h1,h2=>by
  rw [tkF,tkF]
  split
  ·rfl
  ·split
   ·rfl
   ·rename_i x r' h
    have hl:=Nat.lt_of_le_of_lt (skip_le r') (wdA_less h)
    rw [tkF_any f g (skip r') _ (by omega) (by omega)]
def tk (r:List UInt8) (n:Nat):LR:=tkF (r.length+1) r n
theorem tk_nil (n:Nat):tk [] n=.ok []:=by rw [tk,tkF];simp
theorem tk_none {r r':List UInt8} {n:Nat} (h0:r ≠ []) (h:wdA r=(none,r')):tk r n=.error n:=by
 rw [tk,tkF,if_neg h0,h]
theorem tk_some {r r':List UInt8} {n:Nat} {x:Wd} (h0:r ≠ []) (h:wdA r=(some x,r')):tk r n=LR.app [(x,n)] (tk (skip r') (n+c10 r' - c10 (skip r'))):=by
 rw [tk,tkF,if_neg h0,h]
 have hl:=Nat.lt_of_le_of_lt (skip_le r') (wdA_less h)
 simp only
 rw [tk,tkF_any r.length ((skip r').length+1) (skip r') _ hl (by omega)]
def toks (s:List UInt8):LR:=tk (skip s) (c10 s - c10 (skip s))
def wcl (x:Wd × Nat):List Value:=[.int .u8 (x.1.k:Int),.string (txt x.1.s),.int .i64 (x.1.w:Int),.int .u64 (wHi x.1.v),.int .u64 (wLo x.1.v),.int .i64 (x.2:Int)]
def wcs (xs:List (Wd × Nat)):List Value:=(xs.map wcl).flatten
theorem wcs_snoc (xs:List (Wd × Nat)) (x:Wd × Nat):wcs (xs ++ [x])=wcs xs ++ wcl x:=by simp [wcs]
def OwnW (W:World) (B:Nat) (v:Value) (xs:List (Wd × Nat)):Prop:=W.ownsRow B 37 6 v xs.length (wcs xs)
theorem OwnW.nil (W:World) (B:Nat):OwnW W B (.slice none 0 0) []:=⟨rfl,.inl ⟨rfl,rfl⟩⟩
theorem OwnW.fr {W W':World} {B p:Nat} {v:Value} {xs:List (Wd × Nat)} (h:OwnW W B v xs) (hf:FrP p W W') (hp:p < B):OwnW W' B v xs:=by
 obtain ⟨hl,h0 | ⟨g,cap,cur,hv,hb,hh,r⟩⟩:=h
 ·exact ⟨hl,.inl h0⟩
 ·exact ⟨hl,.inr ⟨g,cap,cur,hv,hb,(hf.block g (Array.getElem?_eq_some_iff.1 hh).1 (by omega)).trans hh,r⟩⟩
theorem OwnW.alloc {W:World} {B:Nat} {v:Value} {xs:List (Wd × Nat)} (h:OwnW W B v xs) (o:Obj):OwnW (W.alloc o) B v xs:=by
 obtain ⟨hl,h0 | ⟨g,cap,cur,hv,hb,hh,r⟩⟩:=h
 ·exact ⟨hl,.inl h0⟩
 ·exact ⟨hl,.inr ⟨g,cap,cur,hv,hb,(hao W o g (Array.getElem?_eq_some_iff.1 hh).1).trans hh,r⟩⟩
theorem OwnW.lower {W:World} {B B':Nat} {v:Value} {xs:List (Wd × Nat)} (h:OwnW W B v xs) (hB:B'≤B):OwnW W B' v xs:=by
 obtain ⟨hl,h0 | ⟨g,cap,cur,hv,hb,hh,r⟩⟩:=h
 ·exact ⟨hl,.inl h0⟩
 ·exact ⟨hl,.inr ⟨g,cap,cur,hv,by omega,hh,r⟩⟩
theorem OwnW.block {W:World} {B:Nat} {v:Value} {xs:List (Wd × Nat)} (h:OwnW W B v xs) {g:Nat} (hg:v.ownBlock=some g):B≤g∧g < W.heap.size:=by
 obtain ⟨hl,⟨rfl,_⟩ | ⟨g',cap,cur,rfl,hb,hh,r⟩⟩:=h
 ·cases hg
 ·cases hg;exact ⟨hb,(Array.getElem?_eq_some_iff.1 hh).1⟩
theorem infoW:(Tryz.prog.info? 37).map (fun i=>(i.zero,i.size,i.bytes))=some (some (.agg z6),6,56):=by kernel_rfl
theorem cells_new6 (w:World) (cs:List Value) (t:TypeId):∀ j u,cs[j]? = some u→(w.alloc (.cells cs.toArray t)).cell? ((⟨w.heap.size,0,none⟩:Addr).add j)=some u:=by
 intro j u hj
 have e:(⟨w.heap.size,0,none⟩:Addr).add j=⟨w.heap.size,j,none⟩:=by rw [Addr.add_mid,Nat.zero_add]
 rw [e,World.cell?_alloc_new]
 simpa using hj
def panP:List PanicEntry:=[{ v:=.iface 150 (.agg #[]),recovered:=false }]
theorem pmust_yes (w:World):Calls Tryz.prog 67 #[.bool true] w fun e w'=>e=.returned (.tuple #[])∧w'=w:=by
 go_enter Tryz.func67,Tryz.ntmps67
 go_wp2
 go_end0
 exact ⟨rfl,rfl⟩
theorem pmust_no (w:World):Calls Tryz.prog 67 #[.bool false] w fun e w'=>e=.panicked panP∧w'=w:=by
 go_enter Tryz.func67,Tryz.ntmps67
 go_wp2
 exact ⟨rfl,rfl,rfl⟩
structure Rp (w W:World) (p q:Nat) (L:List (Wd × Nat)) (k:Nat) (dm sm:Value):Prop where
 fr:Fr (·=p) w W
 pq:q ≠ p
 pl:p < w.heap.size
 ql:q < w.heap.size
 blk:∃ cap,W.heap[p]? = some (.cells #[.slice (some ⟨q,0,none⟩) L.length cap,.int .i64 (k:Int),dm,sm] 90 (0,0))∧L.length≤cap
 row:∀ i (h:i < L.length),∀ j u,(wcl L[i])[j]? = some u→W.cell? ⟨q,i * 6+j,none⟩=some u
 kl:k < L.length
 sml:L.length≤65537
theorem Rp.cells {w W:World} {p q:Nat} {L:List (Wd × Nat)} {k:Nat} {dm sm:Value} (h:Rp w W p q L k dm sm):∃ cap,L.length≤cap∧W.cell? ⟨p,0,none⟩=some (.slice (some ⟨q,0,none⟩) L.length cap)∧W.cell? ⟨p,1,none⟩=some (.int .i64 (k:Int))∧W.cell? ⟨p,2,none⟩=some dm∧W.cell? ⟨p,3,none⟩=some sm∧∀ o,W.frozen? ⟨p,o,none⟩=false:=by
 obtain ⟨cap,hb,hc⟩:=h.blk
 refine ⟨cap,hc,?_,?_,?_,?_,fun o=>?_⟩
 ·unfold World.cell?;simp only [hb];rfl
 ·unfold World.cell?;simp only [hb];rfl
 ·unfold World.cell?;simp only [hb];rfl
 ·unfold World.cell?;simp only [hb];rfl
 ·unfold World.frozen?;simp only [hb];simp
theorem Rp.next {w W W':World} {p q:Nat} {L:List (Wd × Nat)} {k:Nat} {dm sm:Value} (h:Rp w W p q L k dm sm) (hb:Below W.heap.size W W'):Rp w W' p q L k dm sm:=by
 have hf:Fr (·=p) w W':=h.fr.trans (E':=fun _=>False) (Fr.ofBelow hb) (fun _ _ e=>e.elim)
 obtain ⟨cap,hc,hl⟩:=h.blk
 refine ⟨hf,h.pq,h.pl,h.ql,⟨cap,(hb.block p (Array.getElem?_eq_some_iff.1 hc).1).trans hc,hl⟩,fun i hi j u hu=>?_,h.kl,h.sml⟩
 exact (Fr.ofBelow (E:=fun _=>False) hb).cell (h.row i hi j u hu) (fun e=>e)
theorem Rp.here {w W:World} {p q:Nat} {L:List (Wd × Nat)} {k:Nat} {dm sm:Value} (h:Rp w W p q L k dm sm):Rp W W p q L k dm sm :=
 ⟨Fr.refl _ _,h.pq,Nat.lt_of_lt_of_le h.pl h.fr.size,Nat.lt_of_lt_of_le h.ql h.fr.size,h.blk,h.row,h.kl,h.sml⟩
theorem Rp.from {w W W':World} {p q:Nat} {L:List (Wd × Nat)} {k k':Nat} {dm sm:Value} (h:Rp w W p q L k dm sm) (h':Rp W W' p q L k' dm sm):Rp w W' p q L k' dm sm :=
 ⟨h.fr.trans h'.fr (fun _ _ e=>e),h.pq,h.pl,h.ql,h'.blk,h'.row,h'.kl,h'.sml⟩
theorem Rp.step {w W:World} {p q:Nat} {L:List (Wd × Nat)} {k:Nat} {dm sm:Value} (h:Rp w W p q L k dm sm) (k':Nat) (hk:k' < L.length):Rp w (W.setCell ⟨p,1,none⟩ (.int .i64 (k':Int))) p q L k' dm sm:=by
 obtain ⟨cap,hc,hl⟩:=h.blk
 have hF:Fr (·=p) W (W.setCell ⟨p,1,none⟩ (.int .i64 (k':Int))):=(Fr.refl _ W).set _ _ rfl
 refine ⟨h.fr.trans hF (fun _ _ e=>e),h.pq,h.pl,h.ql,⟨cap,heap_setCell_same hc _,hl⟩,fun i hi j u hu=>?_,hk,h.sml⟩
 exact hF.cell (h.row i hi j u hu) h.pq
theorem Rp.aside {w W W':World} {p q:Nat} {L:List (Wd × Nat)} {k:Nat} {dm sm:Value} (h:Rp w W p q L k dm sm) {c:Nat} (hf:Fr (·=c) W W') (hc:w.heap.size≤c):Rp w W' p q L k dm sm:=by
 have hp:=h.pl
 have hq:=h.ql
 obtain ⟨cap,hb,hl⟩:=h.blk
 refine ⟨h.fr.trans hf (fun b hb e=>by have:b=c:=e;omega),h.pq,h.pl,h.ql,⟨cap,(hf.block p (Array.getElem?_eq_some_iff.1 hb).1 (fun e=>by have:p=c:=e;omega)).trans hb,hl⟩,fun i hi j u hu=>?_,h.kl,h.sml⟩
 exact hf.cell (h.row i hi j u hu) (fun e=>by have:q=c:=e;omega)
theorem fr_set6 (W:World) (b:Nat) (x0 x1 x2 x3 x4 x5:Value):Fr (·=b) W (set6 W b x0 x1 x2 x3 x4 x5):=by
 unfold set6
 have h0:=(Fr.refl (·=b) W).set ⟨b,0,none⟩ x0 rfl
 have h1:=h0.set ⟨b,1,none⟩ x1 rfl
 have h2:=h1.set ⟨b,2,none⟩ x2 rfl
 have h3:=h2.set ⟨b,3,none⟩ x3 rfl
 have h4:=h3.set ⟨b,4,none⟩ x4 rfl
 exact h4.set ⟨b,5,none⟩ x5 rfl
theorem Rp.word {w W:World} {p q:Nat} {L:List (Wd × Nat)} {k:Nat} {dm sm:Value} (h:Rp w W p q L k dm sm):∃ x,L[k]? = some x∧W.cell? ⟨q,k * 6,none⟩=some (.int .u8 (x.1.k:Int))∧W.cell? ⟨q,k * 6+1,none⟩=some (.string (txt x.1.s))∧W.cell? ⟨q,k * 6+2,none⟩=some (.int .i64 (x.1.w:Int))∧W.cell? ⟨q,k * 6+3,none⟩=some (.int .u64 (wHi x.1.v))∧W.cell? ⟨q,k * 6+4,none⟩=some (.int .u64 (wLo x.1.v))∧W.cell? ⟨q,k * 6+5,none⟩=some (.int .i64 (x.2:Int)) :=
 ⟨L[k]'h.kl,List.getElem?_eq_getElem h.kl,h.row k h.kl 0 _ rfl,h.row k h.kl 1 _ rfl,h.row k h.kl 2 _ rfl,h.row k h.kl 3 _ rfl,h.row k h.kl 4 _ rfl,h.row k h.kl 5 _ rfl⟩
def wdV (x:Wd × Nat):Value:=.agg #[.int .u8 (x.1.k:Int),.string (txt x.1.s),.int .i64 (x.1.w:Int),.int .u64 (wHi x.1.v),.int .u64 (wLo x.1.v),.int .i64 (x.2:Int)]
set_option maxRecDepth 100000 in
set_option maxHeartbeats 2000000 in
theorem ahead_any {w:World} {p q:Nat} {L:List (Wd × Nat)} {k:Nat} {dm sm:Value} {x:Wd × Nat} (h:Rp w w p q L k dm sm) (hx:L[k]? = some x) :
  Calls Tryz.prog 17 #[.pointer (some ⟨p,0,none⟩)] w fun e w'=>e=.returned (wdV x)∧Below w.heap.size w w':=by
 obtain ⟨cap,hcap,c0,c1,_,_,fz⟩:=h.cells
 obtain ⟨y,hy,d0,d1,d2,d3,d4,d5⟩:=h.word
 obtain rfl:x=y:=Option.some.inj (hx.symm.trans hy)
 have hkl:=h.kl
 have hkI:(k:Int) < (L.length:Int):=by omega
 unfold wdV
 generalize (x.1.k:Int)=a0 at *
 generalize txt x.1.s=a1 at *
 generalize (x.1.w:Int)=a2 at *
 generalize wHi x.1.v=a3 at *
 generalize wLo x.1.v=a4 at *
 generalize (x.2:Int)=a5 at *
 have hp:=h.pl
 have hq:=h.ql
 clear h hx hy fz
 go_enter Tryz.func17,Tryz.ntmps17
 go_wp2
 go_region
 all_goals
  go_wp2
  have hg:=cells_of6 (show (w.alloc (.cells #[.int .u8 a0,.string a1,.int .i64 a2,.int .u64 a3,.int .u64 a4,.int .i64 a5] 37)).drew.heap[w.heap.size]? = _ from heap_alloc_new w _)
  obtain ⟨⟨q0,q1,q2,q3,q4,q5⟩,_⟩:=hg
  exact bodyPost_ret (v:=.agg #[.int .u8 a0,.string a1,.int .i64 a2,.int .u64 a3,.int .u64 a4,.int .i64 a5]) (by simp [results,Tryz.results17,go_sem,q0,q1,q2,q3,q4,q5]) rfl ⟨rfl,((Below.refl _ _).alloc (Nat.le_refl _) _).drew⟩
set_option maxRecDepth 100000 in
theorem fldW (a b c d e f:Value):(∀ W,(Instr.field 37 (.agg #[a,b,c,d,e,f]) 0).run Tryz.prog W=.ok a W)∧(∀ W,(Instr.field 37 (.agg #[a,b,c,d,e,f]) 1).run Tryz.prog W=.ok b W)∧(∀ W,(Instr.field 37 (.agg #[a,b,c,d,e,f]) 2).run Tryz.prog W=.ok (.agg #[c,d,e]) W)∧(∀ W,(Instr.field 37 (.agg #[a,b,c,d,e,f]) 3).run Tryz.prog W=.ok f W) :=
 ⟨fun W=>by rfl,fun W=>by rfl,fun W=>by rfl,fun W=>by rfl⟩
set_option maxRecDepth 100000 in
theorem is_any {w:World} {p q:Nat} {L:List (Wd × Nat)} {k:Nat} {dm sm:Value} {x:Wd × Nat} (h:Rp w w p q L k dm sm) (hx:L[k]? = some x) (l:List UInt8) :
  Calls Tryz.prog 168 #[.pointer (some ⟨p,0,none⟩),.string (txt l)] w fun e w'=>e=.returned (.bool (decide (x.1.s=l)))∧Below w.heap.size w w':=by
 have HA:=hide (ahead_any h hx)
 have hb:((txt x.1.s).toList == (txt l).toList)=decide (x.1.s=l):=by
  rw [Lib.toList_data,Lib.toList_data,txt_data,txt_data]
  by_cases e:x.1.s=l
  ·rw [decide_eq_true e,e];simp
  ·rw [decide_eq_false e];exact beq_eq_false_iff_ne.2 e
 unfold wdV at HA
 generalize decide (x.1.s=l)=bb at *
 generalize txt x.1.s=a1 at *
 generalize txt l=T at *
 clear h hx
 go_enter Tryz.func168,Tryz.ntmps168
 go_wp2_with fail
 refine HA.out.mono ?_
 rintro e w1 ⟨rfl,hb1⟩
 have HB:=hide hb1
 clear hb1
 obtain ⟨_,fl1,_,_⟩:=fldW (.int .u8 (x.1.k:Int)) (.string a1) (.int .i64 (x.1.w:Int)) (.int .u64 (wHi x.1.v)) (.int .u64 (wLo x.1.v)) (.int .i64 (x.2:Int))
 go_wp2
 go_ret
 exact ⟨by rw [← hb];rfl,HB.out⟩
set_option maxRecDepth 100000 in
theorem passed_yes {w:World} {p q:Nat} {L:List (Wd × Nat)} {k:Nat} {dm sm:Value} {x:Wd × Nat} (h:Rp w w p q L k dm sm) (hx:L[k]? = some x) (hk:k+1 < L.length) :
  Calls Tryz.prog 113 #[.pointer (some ⟨p,0,none⟩),.string (txt x.1.s)] w fun e w'=>e=.returned (.bool true)∧Rp w w' p q L (k+1) dm sm:=by
 have HI:=hide (is_any h hx x.1.s)
 rw [decide_eq_true rfl] at HI
 have HR:=hide h
 have HK:=hide hk
 have hsm:=h.sml
 have hadd:IntKind.i64.wrap ((k:Int)+1)=((k+1:Nat):Int):=by rw [IntKind.wrap_i64];omega
 generalize txt x.1.s=T at *
 clear h hx hk hsm
 go_enter Tryz.func113,Tryz.ntmps113
 go_wp2_with fail
 refine HI.out.mono ?_
 rintro e w1 ⟨rfl,hb⟩
 have R1:=hide (HR.out.next hb)
 obtain ⟨cap,_,c0,c1,_,_,fz⟩:=R1.out.cells
 have f1:=fz 1
 have S1:=hide (R1.out.step (k+1) HK.out)
 clear hb fz
 go_wp2
 go_ret
 exact ⟨rfl,S1.out⟩
set_option maxRecDepth 100000 in
theorem passed_no {w:World} {p q:Nat} {L:List (Wd × Nat)} {k:Nat} {dm sm:Value} {x:Wd × Nat} (h:Rp w w p q L k dm sm) (hx:L[k]? = some x) (l:List UInt8) (hl:¬ x.1.s=l) :
  Calls Tryz.prog 113 #[.pointer (some ⟨p,0,none⟩),.string (txt l)] w fun e w'=>e=.returned (.bool false)∧Rp w w' p q L k dm sm:=by
 have HI:=hide (is_any h hx l)
 rw [decide_eq_false hl] at HI
 have HR:=hide h
 generalize txt l=T at *
 clear h hx hl
 go_enter Tryz.func113,Tryz.ntmps113
 go_wp2_with fail
 refine HI.out.mono ?_
 rintro e w1 ⟨rfl,hb⟩
 have R1:=hide (HR.out.next hb)
 clear hb
 go_wp2
 go_ret
 exact ⟨rfl,R1.out⟩
set_option maxRecDepth 100000 in
set_option maxHeartbeats 1000000 in
theorem take_wd {w:World} {p q:Nat} {L:List (Wd × Nat)} {k:Nat} {dm sm:Value} {x:Wd × Nat} (h:Rp w w p q L k dm sm) (hx:L[k]? = some x) (hk:k+1 < L.length) :
  Calls Tryz.prog 153 #[.pointer (some ⟨p,0,none⟩),.int .u8 (x.1.k:Int)] w fun e w'=>e=.returned (wdV x)∧Rp w w' p q L (k+1) dm sm:=by
 have HA:=hide (fun W (r:Rp w W p q L k dm sm)=>ahead_any r.here hx)
 have HM:=hide pmust_yes
 have HR:=hide (h.next ((Below.refl _ w).alloc (Nat.le_refl _) (.cells z6 37)))
 have HZ:=hide (heap_alloc_new w (.cells z6 37))
 have HK:=hide hk
 have hsm:=h.sml
 have hpl:=h.pl
 have hadd:IntKind.i64.wrap ((k:Int)+1)=((k+1:Nat):Int):=by rw [IntKind.wrap_i64];omega
 unfold wdV at *
 have hkk:((x.1.k:Int) == (x.1.k:Int))=true:=by simp
 generalize (x.1.k:Int)=a0 at *
 generalize txt x.1.s=a1 at *
 generalize (x.1.w:Int)=a2 at *
 generalize wHi x.1.v=a3 at *
 generalize wLo x.1.v=a4 at *
 generalize (x.2:Int)=a5 at *
 clear h hx hk hsm
 go_enter Tryz.func153,Tryz.ntmps153
 go_wp2_with fail
 refine (HA.out _ HR.out).mono ?_
 rintro e w1 ⟨rfl,hb⟩
 have R1:=hide ((HR.out.next hb).next ((Below.refl _ w1).alloc (Nat.le_refl _) (.cells #[.int .u8 a0,.string a1,.int .i64 a2,.int .u64 a3,.int .u64 a4,.int .i64 a5] 37)))
 have Z1:=hide ((hb.block w.heap.size (by simp)).trans HZ.out)
 have hs1:w.heap.size < w1.heap.size:=by have:=hb.size;simp at this;omega
 have B1:Hid (Below w.heap.size w w1):=((Below.refl _ _).alloc (Nat.le_refl _) _).trans (hb.mono (by simp))
 clear hb
 go_wp2_with fail
 refine (HM.out _).mono ?_
 rintro e w2 ⟨rfl,hw⟩
 subst hw
 obtain ⟨cap,_,c0,c1,_,_,fz⟩:=R1.out.cells
 have f1:=fz 1
 obtain ⟨⟨k0,k1,k2,k3,k4,k5⟩,g0,g1,g2,g3,g4,g5⟩:=cells_of6 Z1.out
 have hne:¬ (w.heap.size=w1.heap.size):=by omega
 have hnp:¬ (p=w.heap.size):=by omega
 have hnp2:¬ (w.heap.size=p):=by omega
 have hn1:¬ (p=w1.heap.size):=by omega
 clear fz c0
 go_wp2
 have hX:((w1.alloc (.cells #[.int .u8 a0,.string a1,.int .i64 a2,.int .u64 a3,.int .u64 a4,.int .i64 a5] 37)).setCell ⟨p,1,none⟩ (.int .i64 ((k:Int)+1))).heap[w.heap.size]? = some (.cells z6 37 (0,0)):=by
  rw [Below.heap_setCell _ _ _ _ hnp2]
  exact (hao _ _ _ hs1).trans Z1.out
 have hg:=cells_of6 (set6_got hX (.int .u8 a0) (.string a1) (.int .i64 a2) (.int .u64 a3) (.int .u64 a4) (.int .i64 a5))
 have RS:=hide ((R1.out.step (k+1) HK.out).aside (fr_set6 _ w.heap.size (.int .u8 a0) (.string a1) (.int .i64 a2) (.int .u64 a3) (.int .u64 a4) (.int .i64 a5)) (Nat.le_refl _))
 unfold set6 at hg RS
 obtain ⟨⟨q0,q1,q2,q3,q4,q5⟩,_⟩:=hg
 exact bodyPost_ret (v:=.agg #[.int .u8 a0,.string a1,.int .i64 a2,.int .u64 a3,.int .u64 a4,.int .i64 a5]) (by simp [results,Tryz.results153,go_sem,q0,q1,q2,q3,q4,q5]) rfl ⟨rfl,RS.out⟩
set_option maxRecDepth 100000 in
set_option maxHeartbeats 1000000 in
theorem take_not {w:World} {p q:Nat} {L:List (Wd × Nat)} {k:Nat} {dm sm:Value} {x:Wd × Nat} (h:Rp w w p q L k dm sm) (hx:L[k]? = some x) (kd:Nat) (hk:¬ x.1.k=kd) :
  Calls Tryz.prog 153 #[.pointer (some ⟨p,0,none⟩),.int .u8 (kd:Int)] w fun e w'=>e=.panicked panP∧Rp w w' p q L k dm sm:=by
 have HA:=hide (fun W (r:Rp w W p q L k dm sm)=>ahead_any r.here hx)
 have HM:=hide pmust_no
 have HR:=hide (h.next ((Below.refl _ w).alloc (Nat.le_refl _) (.cells z6 37)))
 unfold wdV at *
 have hkk:((x.1.k:Int) == (kd:Int))=false:=beq_eq_false_iff_ne.2 (fun e=>hk (by omega))
 generalize (x.1.k:Int)=a0 at *
 generalize (kd:Int)=a9 at *
 generalize txt x.1.s=a1 at *
 generalize (x.1.w:Int)=a2 at *
 generalize wHi x.1.v=a3 at *
 generalize wLo x.1.v=a4 at *
 generalize (x.2:Int)=a5 at *
 clear h hx hk
 go_enter Tryz.func153,Tryz.ntmps153
 go_wp2_with fail
 refine (HA.out _ HR.out).mono ?_
 rintro e w1 ⟨rfl,hb⟩
 have R1:=hide ((HR.out.next hb).next ((Below.refl _ w1).alloc (Nat.le_refl _) (.cells #[.int .u8 a0,.string a1,.int .i64 a2,.int .u64 a3,.int .u64 a4,.int .i64 a5] 37)))
 clear hb
 go_wp2_with fail
 refine (HM.out _).mono ?_
 rintro e w2 ⟨rfl,hw⟩
 subst hw
 go_wp2
 exact ⟨rfl,rfl,R1.out⟩
abbrev Pf (α:Type):=List (Wd × Nat)→Nat→Except Nat (α × Nat)
set_option maxRecDepth 100000 in
theorem whole_any {w:World} {p q:Nat} {L:List (Wd × Nat)} {k:Nat} {dm sm:Value} {x:Wd × Nat} (h:Rp w w p q L k dm sm) (hx:L[k]? = some x) (hk:k+1 < L.length) (hw2:x.1.k=2) (hv:x.1.v < 2147483648) :
  Calls Tryz.prog 99 #[.pointer (some ⟨p,0,none⟩)] w fun e w'=>e=.returned (.int .i64 (x.1.v:Int))∧Rp w w' p q L (k+1) dm sm:=by
 have HT:=hide (take_wd h hx hk)
 have hlo:wLo x.1.v=(x.1.v:Int):=by unfold wLo;omega
 have hcv:IntKind.i64.wrap (x.1.v:Int)=(x.1.v:Int):=by rw [IntKind.wrap_i64];omega
 unfold wdV at HT
 rw [hw2,hlo] at HT
 generalize (x.1.v:Int)=V at *
 generalize txt x.1.s=a1 at *
 generalize (x.1.w:Int)=a2 at *
 generalize wHi x.1.v=a3 at *
 generalize (x.2:Int)=a5 at *
 clear h hx hk hv hlo
 obtain ⟨_,_,fl2,_⟩:=fldW (.int .u8 2) (.string a1) (.int .i64 a2) (.int .u64 a3) (.int .u64 V) (.int .i64 a5)
 have flb:∀ W,(Instr.field 35 (.agg #[.int .i64 a2,.int .u64 a3,.int .u64 V]) 2).run Tryz.prog W=.ok (.int .u64 V) W:=fun W=>by rfl
 go_enter Tryz.func99,Tryz.ntmps99
 go_wp2_with fail
 refine HT.out.mono ?_
 rintro e w1 ⟨rfl,hr⟩
 have R1:=hide hr
 clear hr
 go_wp2
 go_ret
 exact ⟨rfl,R1.out⟩
set_option maxRecDepth 100000 in
theorem whole_not {w:World} {p q:Nat} {L:List (Wd × Nat)} {k:Nat} {dm sm:Value} {x:Wd × Nat} (h:Rp w w p q L k dm sm) (hx:L[k]? = some x) (hw2:¬ x.1.k=2) :
  Calls Tryz.prog 99 #[.pointer (some ⟨p,0,none⟩)] w fun e w'=>e=.panicked panP∧Rp w w' p q L k dm sm:=by
 have HT:=hide (take_not h hx 2 hw2)
 clear h hx hw2
 go_enter Tryz.func99,Tryz.ntmps99
 go_wp2_with fail
 refine HT.out.mono ?_
 rintro e w1 ⟨rfl,hr⟩
 have R1:=hide hr
 clear hr
 go_wp2
 exact ⟨rfl,rfl,R1.out⟩
def setP3 (W:World) (b:Nat) (x0 x1 x2:Value):World:=((W.setCell ⟨b,0,none⟩ x0).setCell ⟨b,1,none⟩ x1).setCell ⟨b,2,none⟩ x2
theorem cellsP3 {W:World} {b:Nat} {x0 x1 x2:Value} {t:TypeId} (h:W.heap[b]? = some (.cells #[x0,x1,x2] t (0,0))):(W.cell? ⟨b,0,none⟩=some x0∧W.cell? ⟨b,1,none⟩=some x1∧W.cell? ⟨b,2,none⟩=some x2)∧∀ o,W.frozen? ⟨b,o,none⟩=false:=by
 refine ⟨⟨?_,?_,?_⟩,fun o=>?_⟩
 ·unfold World.cell?;simp only [h];rfl
 ·unfold World.cell?;simp only [h];rfl
 ·unfold World.cell?;simp only [h];rfl
 ·unfold World.frozen?;simp only [h];simp
theorem setP3_got {W:World} {b:Nat} {t:TypeId} {y0 y1 y2:Value} (h:W.heap[b]? = some (.cells #[y0,y1,y2] t (0,0))) (x0 x1 x2:Value):(setP3 W b x0 x1 x2).heap[b]? = some (.cells #[x0,x1,x2] t (0,0)):=by
 unfold setP3
 exact heap_setCell_same (heap_setCell_same (heap_setCell_same h _) _) _
theorem fr_setP3 (W:World) (b:Nat) (x0 x1 x2:Value):Fr (·=b) W (setP3 W b x0 x1 x2):=by
 unfold setP3
 have h0:=(Fr.refl (·=b) W).set ⟨b,0,none⟩ x0 rfl
 have h1:=h0.set ⟨b,1,none⟩ x1 rfl
 exact h1.set ⟨b,2,none⟩ x2 rfl
set_option maxRecDepth 100000 in
theorem lit_any {w:World} {p q:Nat} {L:List (Wd × Nat)} {k:Nat} {dm sm:Value} {x:Wd × Nat} (h:Rp w w p q L k dm sm) (hx:L[k]? = some x) (hk:k+1 < L.length) (hw2:x.1.k=3) :
  Calls Tryz.prog 110 #[.pointer (some ⟨p,0,none⟩)] w fun e w'=>e=.returned (.agg #[.int .i64 (x.1.w:Int),.int .u64 (wHi x.1.v),.int .u64 (wLo x.1.v)])∧Rp w w' p q L (k+1) dm sm:=by
 have HR:=hide (h.next ((Below.refl _ w).alloc (Nat.le_refl _) (.cells #[.int .i64 0,.int .u64 0,.int .u64 0] 35)))
 have HT:=hide (take_wd HR.out.here hx hk)
 have HZ:=hide (heap_alloc_new w (.cells #[.int .i64 0,.int .u64 0,.int .u64 0] 35))
 have hpl:=h.pl
 unfold wdV at HT
 rw [hw2] at HT
 generalize wLo x.1.v=V at *
 generalize txt x.1.s=a1 at *
 generalize (x.1.w:Int)=a2 at *
 generalize wHi x.1.v=a3 at *
 generalize (x.2:Int)=a5 at *
 clear h hx hk hw2
 obtain ⟨_,_,fl2,_⟩:=fldW (.int .u8 3) (.string a1) (.int .i64 a2) (.int .u64 a3) (.int .u64 V) (.int .i64 a5)
 go_enter Tryz.func110,Tryz.ntmps110
 go_wp2_with fail
 refine HT.out.mono ?_
 rintro e w1 ⟨rfl,hr⟩
 have hz1:=(hr.fr.block w.heap.size (by simp) (by show ¬ w.heap.size=p;omega)).trans HZ.out
 have R1:=hide (HR.out.from hr)
 have Z1:=hide hz1
 obtain ⟨⟨k0,k1,k2⟩,gz⟩:=cellsP3 hz1
 have g0:=gz 0;have g1:=gz 1;have g2:=gz 2
 clear hr hz1 gz HT
 go_wp2
 have hg:=cellsP3 (setP3_got Z1.out (.int .i64 a2) (.int .u64 a3) (.int .u64 V))
 have RS:=hide (R1.out.aside (fr_setP3 _ w.heap.size (.int .i64 a2) (.int .u64 a3) (.int .u64 V)) (Nat.le_refl _))
 unfold setP3 at hg RS
 obtain ⟨⟨q0,q1,q2⟩,_⟩:=hg
 exact bodyPost_ret (v:=.agg #[.int .i64 a2,.int .u64 a3,.int .u64 V]) (by simp [results,Tryz.results110,go_sem,q0,q1,q2]) rfl ⟨rfl,RS.out⟩
set_option maxRecDepth 100000 in
theorem lit_not {w:World} {p q:Nat} {L:List (Wd × Nat)} {k:Nat} {dm sm:Value} {x:Wd × Nat} (h:Rp w w p q L k dm sm) (hx:L[k]? = some x) (hw2:¬ x.1.k=3) :
  Calls Tryz.prog 110 #[.pointer (some ⟨p,0,none⟩)] w fun e w'=>e=.panicked panP∧Rp w w' p q L k dm sm:=by
 have HR:=hide (h.next ((Below.refl _ w).alloc (Nat.le_refl _) (.cells #[.int .i64 0,.int .u64 0,.int .u64 0] 35)))
 have HT:=hide (take_not HR.out.here hx 3 hw2)
 clear h hx hw2
 go_enter Tryz.func110,Tryz.ntmps110
 go_wp2_with fail
 refine HT.out.mono ?_
 rintro e w1 ⟨rfl,hr⟩
 have R1:=hide (HR.out.from hr)
 clear hr
 go_wp2
 exact ⟨rfl,rfl,R1.out⟩
def kws:List (List UInt8):=[[104,101,97,100,101,114],[109,101,116,97],[114,101,103,105,115,116,101,114],[99,111,117,110,116,101,114],[109,101,116,101,114],[112,97,114,115,101,114],[97,99,116,105,111,110],[116,97,98,108,101],[99,111,110,116,114,111,108],[100,101,112,97,114,115,101,114],[107,101,121],[97,99,116,105,111,110,115],[100,101,102,97,117,108,116],[115,105,122,101],[116,97,107,101],[103,111],[115,101,108,101,99,116],[101,108,115,101],[101,120,97,99,116],[112,114,101,102,105,120],[109,97,115,107],[114,97,110,103,101],[105,102],[97,112,112,108,121],[109,97,107,101],[103,111,110,101],[99,111,117,110,116],[114,101,97,100],[119,114,105,116,101],[114,97,110,100,111,109],[100,114,111,112],[100,105,103,101,115,116],[99,108,111,110,101],[97,103,97,105,110],[114,111,117,110,100],[118,97,108,105,100],[99,97,115,116],[104,97,115,104]]
set_option maxRecDepth 100000 in
set_option maxHeartbeats 8000000 in
theorem key_all (T:ByteArray) (w:World) (B:Bool) (hy:∀ l ∈ kws,(T.toList == l)=true→B=true) (hn:(∀ l ∈ kws,(T.toList == l)=false)→B=false):Calls Tryz.prog 152 #[.string T] w fun e w'=>e=.returned (.bool B)∧w'=w:=by
 have HY:=hide hy
 have HN:=hide hn
 clear hy hn
 cases f0:T.toList == [104,101,97,100,101,114] with
 | true =>
  rw [HY.out _ (by decide) f0]
  clear HY HN
  go_enter Tryz.func152,Tryz.ntmps152
  go_wp2
  go_ret
  exact ⟨rfl,rfl⟩
 | false =>
 cases f1:T.toList == [109,101,116,97] with
 | true =>
  rw [HY.out _ (by decide) f1]
  clear HY HN
  go_enter Tryz.func152,Tryz.ntmps152
  go_wp2
  go_ret
  exact ⟨rfl,rfl⟩
 | false =>
 cases f2:T.toList == [114,101,103,105,115,116,101,114] with
 | true =>
  rw [HY.out _ (by decide) f2]
  clear HY HN
  go_enter Tryz.func152,Tryz.ntmps152
  go_wp2
  go_ret
  exact ⟨rfl,rfl⟩
 | false =>
 cases f3:T.toList == [99,111,117,110,116,101,114] with
 | true =>
  rw [HY.out _ (by decide) f3]
  clear HY HN
  go_enter Tryz.func152,Tryz.ntmps152
  go_wp2
  go_ret
  exact ⟨rfl,rfl⟩
 | false =>
 cases f4:T.toList == [109,101,116,101,114] with
 | true =>
  rw [HY.out _ (by decide) f4]
  clear HY HN
  go_enter Tryz.func152,Tryz.ntmps152
  go_wp2
  go_ret
  exact ⟨rfl,rfl⟩
 | false =>
 cases f5:T.toList == [112,97,114,115,101,114] with
 | true =>
  rw [HY.out _ (by decide) f5]
  clear HY HN
  go_enter Tryz.func152,Tryz.ntmps152
  go_wp2
  go_ret
  exact ⟨rfl,rfl⟩
 | false =>
 cases f6:T.toList == [97,99,116,105,111,110] with
 | true =>
  rw [HY.out _ (by decide) f6]
  clear HY HN
  go_enter Tryz.func152,Tryz.ntmps152
  go_wp2
  go_ret
  exact ⟨rfl,rfl⟩
 | false =>
 cases f7:T.toList == [116,97,98,108,101] with
 | true =>
  rw [HY.out _ (by decide) f7]
  clear HY HN
  go_enter Tryz.func152,Tryz.ntmps152
  go_wp2
  go_ret
  exact ⟨rfl,rfl⟩
 | false =>
 cases f8:T.toList == [99,111,110,116,114,111,108] with
 | true =>
  rw [HY.out _ (by decide) f8]
  clear HY HN
  go_enter Tryz.func152,Tryz.ntmps152
  go_wp2
  go_ret
  exact ⟨rfl,rfl⟩
 | false =>
 cases f9:T.toList == [100,101,112,97,114,115,101,114] with
 | true =>
  rw [HY.out _ (by decide) f9]
  clear HY HN
  go_enter Tryz.func152,Tryz.ntmps152
  go_wp2
  go_ret
  exact ⟨rfl,rfl⟩
 | false =>
 cases f10:T.toList == [107,101,121] with
 | true =>
  rw [HY.out _ (by decide) f10]
  clear HY HN
  go_enter Tryz.func152,Tryz.ntmps152
  go_wp2
  go_ret
  exact ⟨rfl,rfl⟩
 | false =>
 cases f11:T.toList == [97,99,116,105,111,110,115] with
 | true =>
  rw [HY.out _ (by decide) f11]
  clear HY HN
  go_enter Tryz.func152,Tryz.ntmps152
  go_wp2
  go_ret
  exact ⟨rfl,rfl⟩
 | false =>
 cases f12:T.toList == [100,101,102,97,117,108,116] with
 | true =>
  rw [HY.out _ (by decide) f12]
  clear HY HN
  go_enter Tryz.func152,Tryz.ntmps152
  go_wp2
  go_ret
  exact ⟨rfl,rfl⟩
 | false =>
 cases f13:T.toList == [115,105,122,101] with
 | true =>
  rw [HY.out _ (by decide) f13]
  clear HY HN
  go_enter Tryz.func152,Tryz.ntmps152
  go_wp2
  go_ret
  exact ⟨rfl,rfl⟩
 | false =>
 cases f14:T.toList == [116,97,107,101] with
 | true =>
  rw [HY.out _ (by decide) f14]
  clear HY HN
  go_enter Tryz.func152,Tryz.ntmps152
  go_wp2
  go_ret
  exact ⟨rfl,rfl⟩
 | false =>
 cases f15:T.toList == [103,111] with
 | true =>
  rw [HY.out _ (by decide) f15]
  clear HY HN
  go_enter Tryz.func152,Tryz.ntmps152
  go_wp2
  go_ret
  exact ⟨rfl,rfl⟩
 | false =>
 cases f16:T.toList == [115,101,108,101,99,116] with
 | true =>
  rw [HY.out _ (by decide) f16]
  clear HY HN
  go_enter Tryz.func152,Tryz.ntmps152
  go_wp2
  go_ret
  exact ⟨rfl,rfl⟩
 | false =>
 cases f17:T.toList == [101,108,115,101] with
 | true =>
  rw [HY.out _ (by decide) f17]
  clear HY HN
  go_enter Tryz.func152,Tryz.ntmps152
  go_wp2
  go_ret
  exact ⟨rfl,rfl⟩
 | false =>
 cases f18:T.toList == [101,120,97,99,116] with
 | true =>
  rw [HY.out _ (by decide) f18]
  clear HY HN
  go_enter Tryz.func152,Tryz.ntmps152
  go_wp2
  go_ret
  exact ⟨rfl,rfl⟩
 | false =>
 cases f19:T.toList == [112,114,101,102,105,120] with
 | true =>
  rw [HY.out _ (by decide) f19]
  clear HY HN
  go_enter Tryz.func152,Tryz.ntmps152
  go_wp2
  go_ret
  exact ⟨rfl,rfl⟩
 | false =>
 cases f20:T.toList == [109,97,115,107] with
 | true =>
  rw [HY.out _ (by decide) f20]
  clear HY HN
  go_enter Tryz.func152,Tryz.ntmps152
  go_wp2
  go_ret
  exact ⟨rfl,rfl⟩
 | false =>
 cases f21:T.toList == [114,97,110,103,101] with
 | true =>
  rw [HY.out _ (by decide) f21]
  clear HY HN
  go_enter Tryz.func152,Tryz.ntmps152
  go_wp2
  go_ret
  exact ⟨rfl,rfl⟩
 | false =>
 cases f22:T.toList == [105,102] with
 | true =>
  rw [HY.out _ (by decide) f22]
  clear HY HN
  go_enter Tryz.func152,Tryz.ntmps152
  go_wp2
  go_ret
  exact ⟨rfl,rfl⟩
 | false =>
 cases f23:T.toList == [97,112,112,108,121] with
 | true =>
  rw [HY.out _ (by decide) f23]
  clear HY HN
  go_enter Tryz.func152,Tryz.ntmps152
  go_wp2
  go_ret
  exact ⟨rfl,rfl⟩
 | false =>
 cases f24:T.toList == [109,97,107,101] with
 | true =>
  rw [HY.out _ (by decide) f24]
  clear HY HN
  go_enter Tryz.func152,Tryz.ntmps152
  go_wp2
  go_ret
  exact ⟨rfl,rfl⟩
 | false =>
 cases f25:T.toList == [103,111,110,101] with
 | true =>
  rw [HY.out _ (by decide) f25]
  clear HY HN
  go_enter Tryz.func152,Tryz.ntmps152
  go_wp2
  go_ret
  exact ⟨rfl,rfl⟩
 | false =>
 cases f26:T.toList == [99,111,117,110,116] with
 | true =>
  rw [HY.out _ (by decide) f26]
  clear HY HN
  go_enter Tryz.func152,Tryz.ntmps152
  go_wp2
  go_ret
  exact ⟨rfl,rfl⟩
 | false =>
 cases f27:T.toList == [114,101,97,100] with
 | true =>
  rw [HY.out _ (by decide) f27]
  clear HY HN
  go_enter Tryz.func152,Tryz.ntmps152
  go_wp2
  go_ret
  exact ⟨rfl,rfl⟩
 | false =>
 cases f28:T.toList == [119,114,105,116,101] with
 | true =>
  rw [HY.out _ (by decide) f28]
  clear HY HN
  go_enter Tryz.func152,Tryz.ntmps152
  go_wp2
  go_ret
  exact ⟨rfl,rfl⟩
 | false =>
 cases f29:T.toList == [114,97,110,100,111,109] with
 | true =>
  rw [HY.out _ (by decide) f29]
  clear HY HN
  go_enter Tryz.func152,Tryz.ntmps152
  go_wp2
  go_ret
  exact ⟨rfl,rfl⟩
 | false =>
 cases f30:T.toList == [100,114,111,112] with
 | true =>
  rw [HY.out _ (by decide) f30]
  clear HY HN
  go_enter Tryz.func152,Tryz.ntmps152
  go_wp2
  go_ret
  exact ⟨rfl,rfl⟩
 | false =>
 cases f31:T.toList == [100,105,103,101,115,116] with
 | true =>
  rw [HY.out _ (by decide) f31]
  clear HY HN
  go_enter Tryz.func152,Tryz.ntmps152
  go_wp2
  go_ret
  exact ⟨rfl,rfl⟩
 | false =>
 cases f32:T.toList == [99,108,111,110,101] with
 | true =>
  rw [HY.out _ (by decide) f32]
  clear HY HN
  go_enter Tryz.func152,Tryz.ntmps152
  go_wp2
  go_ret
  exact ⟨rfl,rfl⟩
 | false =>
 cases f33:T.toList == [97,103,97,105,110] with
 | true =>
  rw [HY.out _ (by decide) f33]
  clear HY HN
  go_enter Tryz.func152,Tryz.ntmps152
  go_wp2
  go_ret
  exact ⟨rfl,rfl⟩
 | false =>
 cases f34:T.toList == [114,111,117,110,100] with
 | true =>
  rw [HY.out _ (by decide) f34]
  clear HY HN
  go_enter Tryz.func152,Tryz.ntmps152
  go_wp2
  go_ret
  exact ⟨rfl,rfl⟩
 | false =>
 cases f35:T.toList == [118,97,108,105,100] with
 | true =>
  rw [HY.out _ (by decide) f35]
  clear HY HN
  go_enter Tryz.func152,Tryz.ntmps152
  go_wp2
  go_ret
  exact ⟨rfl,rfl⟩
 | false =>
 cases f36:T.toList == [99,97,115,116] with
 | true =>
  rw [HY.out _ (by decide) f36]
  clear HY HN
  go_enter Tryz.func152,Tryz.ntmps152
  go_wp2
  go_ret
  exact ⟨rfl,rfl⟩
 | false =>
 cases f37:T.toList == [104,97,115,104] with
 | true =>
  rw [HY.out _ (by decide) f37]
  clear HY HN
  go_enter Tryz.func152,Tryz.ntmps152
  go_wp2
  go_ret
  exact ⟨rfl,rfl⟩
 | false =>
 rw [HN.out (by
  intro l hl
  simp only [kws,List.mem_cons,List.not_mem_nil,or_false] at hl
  rcases hl with rfl | rfl | rfl | rfl | rfl | rfl | rfl | rfl | rfl | rfl | rfl | rfl | rfl | rfl | rfl | rfl | rfl | rfl | rfl | rfl | rfl | rfl | rfl | rfl | rfl | rfl | rfl | rfl | rfl | rfl | rfl | rfl | rfl | rfl | rfl | rfl | rfl | rfl <;> assumption)]
 clear HY HN
 go_enter Tryz.func152,Tryz.ntmps152
 go_wp2
 go_ret
 exact ⟨rfl,rfl⟩
theorem isKey_any (l:List UInt8) (w:World):Calls Tryz.prog 152 #[.string (txt l)] w fun e w'=>e=.returned (.bool (decide (l ∈ kws)))∧w'=w:=by
 have hT:(txt l).toList=l:=by rw [Lib.toList_data,txt_data]
 refine key_all (txt l) w _ (fun k hk e=>?_) (fun h=>?_)
 ·rw [hT,beq_iff_eq] at e
  rw [e];exact decide_eq_true hk
 ·refine decide_eq_false fun hl=>?_
  have:=h l hl
  rw [hT] at this
  simp at this
end Go.Proofs.YtabkimknlifdoaaGreatDoor
