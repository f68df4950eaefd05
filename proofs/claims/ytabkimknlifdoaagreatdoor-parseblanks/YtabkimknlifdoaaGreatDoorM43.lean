/- Pieces of the proof: LNm, PaEv, PaAl, PaAv, PLw, PLx, PBw. -/
import Derived.Test.YtabkimknlifdoaaGreatDoorM15
import Derived.Test.YtabkimknlifdoaaGreatDoorM42
import Derived.Test.YtabkimknlifdoaaGreatDoorM39
import Derived.Test.YtabkimknlifdoaaGreatDoorM40
namespace Go.Proofs.YtabkimknlifdoaaGreatDoor
open Go.RowKit
theorem wcl_len (x:Wd × Nat):(wcl x).length=6:=rfl
theorem wcs_get:∀ (L:List (Wd × Nat)) (i j:Nat) (hi:i < L.length) (_:j < 6),(wcs L)[i * 6+j]? = (wcl L[i])[j]?
 | [],i,j,hi,_=>by simp at hi
 | x :: L,0,j,_,hj=>by
  rw [wcs,List.map_cons,List.flatten_cons,List.getElem?_append_left (by rw [wcl_len];omega)]
  simp
 | x :: L,i+1,j,hi,hj=>by
  rw [wcs,List.map_cons,List.flatten_cons,List.getElem?_append_right (by rw [wcl_len];omega)]
  have:=wcs_get L i j (by simpa using hi) hj
  rw [wcs] at this
  have e:(i+1) * 6+j - (wcl x).length=i * 6+j:=by rw [wcl_len];omega
  rw [e,this]
  simp
def RdG (W:World) (g:Nat) (L:List (Wd × Nat)):Prop:=g < W.heap.size∧∀ k (hk:k < L.length) j u,(wcl L[k])[j]? = some u→W.cell? ⟨g,k * 6+j,none⟩=some u
def SlW (W:World) (v:Value) (L:List (Wd × Nat)):Prop:=(v=.slice none 0 0∧L=[]) ∨ ∃ g cap,v=.slice (some ⟨g,0,none⟩) L.length cap∧RdG W g L
theorem lt6 {α:Type} {l:List α} {j:Nat} {u:α} (hl:l.length=6) (h:l[j]? = some u):j < 6:=by
 have:=(List.getElem?_eq_some_iff.1 h).1;omega
theorem OwnW.sl {W:World} {B:Nat} {v:Value} {L:List (Wd × Nat)} (h:OwnW W B v L):SlW W v L:=by
 obtain ⟨hl,⟨rfl,h0⟩ | ⟨g,cap,cur,rfl,hb,hh,h1,h2,h3,h4⟩⟩:=h
 ·exact .inl ⟨rfl,List.length_eq_zero_iff.1 h0⟩
 ·refine .inr ⟨g,cap,rfl,(Array.getElem?_eq_some_iff.1 hh).1,fun k hk j u hu=>?_⟩
  have hj:=lt6 (wcl_len _) hu
  have h5:=wcs_get L k j hk hj
  rw [hu,← h4,List.getElem?_take,if_pos (by omega)] at h5
  simp [World.cell?,hh]
  rw [← Array.getElem?_toList];exact h5
theorem RdG.keep {W W':World} {g:Nat} {L:List (Wd × Nat)} (h:RdG W g L) (hb:Below W.heap.size W W'):RdG W' g L :=
 ⟨Nat.lt_of_lt_of_le h.1 hb.size,fun k hk j u hu=>(hb.cell (p:=⟨g,k * 6+j,none⟩) h.1).trans (h.2 k hk j u hu)⟩
theorem SlW.keep {W W':World} {v:Value} {L:List (Wd × Nat)} (h:SlW W v L) (hb:Below W.heap.size W W'):SlW W' v L:=by
 rcases h with h | ⟨g,cap,e,h⟩
 ·exact .inl h
 ·exact .inr ⟨g,cap,e,h.keep hb⟩
theorem OwnW.shape {W:World} {B:Nat} {v:Value} {xs:List (Wd × Nat)} (h:OwnW W B v xs):∃ ad cap,v=.slice ad xs.length cap:=by
 obtain ⟨hl,⟨rfl,h0⟩ | ⟨g,cap,cur,hv,_⟩⟩:=h
 ·exact ⟨none,0,by rw [h0]⟩
 ·exact ⟨_,_,hv⟩
theorem words_ok {s:List UInt8} {xs:List (Wd × Nat)} (h:toks s=.ok xs) (hl:s.length≤65536) (T:ByteArray) (hT:T=txt s) (W:World) (hL:Ls W) :
  Calls Tryz.prog 9 #[.string T] W fun e w'=>∃ v,e=.returned (.tuple #[v,.int .i64 0,.int .i64 0])∧OwnW w' W.heap.size v xs∧xs.length≤65536∧Below W.heap.size W w':=by
 subst hT
 refine (words_any s W hL (by omega)).mono ?_
 rintro e w' ⟨hb,⟨h1,_⟩ | ⟨_,⟨k,h1,_⟩ | ⟨ys,v,h1,h2,h3,h4⟩⟩⟩
 ·omega
 ·rw [h] at h1;cases h1
 ·rw [h] at h1;cases h1;exact ⟨v,h4,h3,h2,hb⟩
def arg (x:Ex) (i:Nat):Ex:=x.args.getD i ⟨0,0,0,[],[],0,0,0,[]⟩
def txA:List UInt8:=[97,99,116,105,111,110,32,102,40,112,32,56,41,32,123,32,104,46,97,32,61,32,126,112,91,51,58,48,93,32,43,43,32,99,97,115,116,32,52,40,104,46,98,41,32,43,32,56,119,49,59,32,125]
def chkA (r:PRes):Bool:=match r with
 | .ok [d]=>d.kind == 7 && d.name == [102] && (match d.body with
  | [s]=>(match s.args with
   | [x]=>x.op == 5 && x.args.length == 2 && (arg x 0).op == 14 && (arg x 0).args.length == 2 && (arg (arg x 0) 0).op == 11 && (arg (arg x 0) 0).args.length == 1 && (arg (arg (arg x 0) 0) 0).op == 15 && (arg x 1).w == 8 && (arg x 1).v == 1
   | _=>false)
  | _=>false)
 | _=>false
set_option maxRecDepth 100000 in
theorem chkA_yes:chkA (parseL txA)=true:=by kernel_rfl
theorem item {α:Type} {rep:Rep α} {K:Nat} {W:World} {X:Nat→Prop} {v:Value} {l:List α} (h:ListR rep mkAgg K W X v l) (hK:0 < K) (hl:l ≠ []):∃ b c,v=.slice (some ⟨b,0,none⟩) l.length c∧b < W.heap.size∧∀ j (hj:j < l.length),∃ cs,cs.length=K∧rep W X (mkAgg cs) l[j]∧∀ i (hi:i < cs.length),W.cell? ⟨b,j * K+i,none⟩=some cs[i]:=by
 obtain ⟨s,c,rfl,_,h | ⟨b,rfl,_,hb,h2⟩⟩:=list_items h hK
 ·exact absurd h hl
 ·exact ⟨b,c,rfl,hb,h2⟩
theorem ex_cells {W:World} {X:Nat→Prop} {cs:List Value} {x:Ex} (h:ExR W X (mkAgg cs) x):∃ va,cs=exC x va∧ListR ExR mkAgg 10 W X va x.args:=by
 obtain ⟨va,e,h2⟩:=h.open
 unfold mkAgg at e
 injection e with e
 have:=congrArg Array.toList e
 exact ⟨va,by simpa using this,h2⟩
theorem sm_cells {W:World} {X:Nat→Prop} {cs:List Value} {x:Sm} (h:SmR W X (mkAgg cs) x):∃ va vb ve,cs=smC x va vb ve∧ListR ExR mkAgg 10 W X va x.args:=by
 obtain ⟨va,vb,ve,e,h2,_⟩:=h.open
 unfold mkAgg at e
 injection e with e
 have:=congrArg Array.toList e
 exact ⟨va,vb,ve,by simpa using this,h2⟩
theorem dc_cells {W:World} {X:Nat→Prop} {cs:List Value} {x:Dc} (h:DeclR W X (mkAgg cs) x):∃ vf vs vk va vg vb ve,cs=dcC x vf vs vk va vg vb ve∧ListR SmR mkAgg 9 W X vb x.body:=by
 obtain ⟨vf,vs,vk,va,vg,vb,ve,e,h2⟩:=h
 unfold mkAgg at e
 injection e with e
 have:=congrArg Array.toList e
 exact ⟨vf,vs,vk,va,vg,vb,ve,by simpa using this,h2.b⟩
structure ExAt (W:World) (b o:Nat) (x:Ex) (va:Value):Prop where
 c:∀ i (hi:i < (exC x va).length),W.cell? ⟨b,o+i,none⟩=some (exC x va)[i]
 l:b < W.heap.size
theorem exs_at {W:World} {X:Nat→Prop} {v:Value} {l:List Ex} (h:ListR ExR mkAgg 10 W X v l) (hl:l ≠ []):∃ b c,v=.slice (some ⟨b,0,none⟩) l.length c∧∀ j (hj:j < l.length),∃ va,ExAt W b (j * 10) l[j] va∧ListR ExR mkAgg 10 W X va l[j].args:=by
 obtain ⟨b,c,e,hb,h2⟩:=item h (by decide) hl
 refine ⟨b,c,e,fun j hj=>?_⟩
 obtain ⟨cs,_,h3,h4⟩:=h2 j hj
 obtain ⟨va,rfl,h5⟩:=ex_cells h3
 exact ⟨va,⟨h4,hb⟩,h5⟩
theorem ExAt.next {W W':World} {b o:Nat} {x:Ex} {va:Value} (h:ExAt W b o x va) (hb:Below W.heap.size W W'):ExAt W' b o x va:=⟨fun i hi=>(hb.cell h.l).trans (h.c i hi),Nat.lt_of_lt_of_le h.l hb.size⟩
structure Tree1 (W:World) (X:Nat→Prop) (v:Value) (d:Dc) (s:Sm) (x:Ex) (b1 b2 b3 c1 c2 c3:Nat) (va:Value):Prop where
 v1:v=.slice (some ⟨b1,0,none⟩) 1 c1
 k:W.cell? ⟨b1,0,none⟩=some (.int .u8 (d.kind:Int))
 n:W.cell? ⟨b1,1,none⟩=some (.string (txt d.name))
 bd:W.cell? ⟨b1,12,none⟩=some (.slice (some ⟨b2,0,none⟩) 1 c2)
 ag:W.cell? ⟨b2,5,none⟩=some (.slice (some ⟨b3,0,none⟩) 1 c3)
 l1:b1 < W.heap.size
 l2:b2 < W.heap.size
 ex:ExAt W b3 0 x va
 argl:ListR ExR mkAgg 10 W X va x.args
theorem tree1 {W:World} {X:Nat→Prop} {v:Value} {d:Dc} {s:Sm} {x:Ex} (h:ListR DeclR mkAgg 15 W X v [d]) (hs:d.body=[s]) (hx:s.args=[x]):∃ b1 b2 b3 c1 c2 c3 va,Tree1 W X v d s x b1 b2 b3 c1 c2 c3 va:=by
 obtain ⟨b1,c1,e1,hb1,h1⟩:=item h (by decide) (by simp)
 obtain ⟨cs,hc,hd,hcells⟩:=h1 0 (by simp)
 obtain ⟨vf,vs,vk,va0,vg,vb,ve,rfl,hbody⟩:=dc_cells hd
 have hd0:([d]:List Dc)[0]=d:=rfl
 rw [hd0] at hcells hbody
 rw [hs] at hbody
 obtain ⟨b2,c2,e2,hb2,h2⟩:=item hbody (by decide) (by simp)
 obtain ⟨cs2,hc2,hd2,hcells2⟩:=h2 0 (by simp)
 obtain ⟨va1,vb1,ve1,rfl,hargs⟩:=sm_cells hd2
 have hs0:([s]:List Sm)[0]=s:=rfl
 rw [hs0] at hcells2 hargs
 rw [hx] at hargs
 obtain ⟨b3,c3,e3,h3⟩:=exs_at hargs (by simp)
 obtain ⟨va,h4,h5⟩:=h3 0 (by simp)
 refine ⟨b1,b2,b3,c1,c2,c3,va,e1,?_,?_,?_,?_,hb1,hb2,?_,h5⟩
 ·have:=hcells 0 (by simp [dcC]);simpa [dcC] using this
 ·have:=hcells 1 (by simp [dcC]);simpa [dcC] using this
 ·have:=hcells 12 (by simp [dcC]);simpa [dcC,e2] using this
 ·have:=hcells2 5 (by simp [smC]);simpa [smC,e3] using this
 ·simpa using h4
theorem chkA_open {r:PRes} (h:chkA r=true):∃ d s x y z,r=.ok [d]∧d.kind=7∧d.name=[102]∧d.body=[s]∧s.args=[x]∧x.op=5∧x.args=[y,z]∧y.op=14∧z.w=8∧z.v=1∧∃ y0 y1 y00,y.args=[y0,y1]∧y0.op=11∧y0.args=[y00]∧y00.op=15:=by
 unfold chkA at h
 split at h
 ·rename_i d
  simp only [Bool.and_eq_true,beq_iff_eq] at h
  obtain ⟨⟨hk,hn⟩,h⟩:=h
  split at h
  ·rename_i s hs
   split at h
   ·rename_i x hx
    simp only [Bool.and_eq_true,beq_iff_eq] at h
    obtain ⟨⟨⟨⟨⟨⟨⟨⟨h1,h2⟩,h3⟩,h4⟩,h5⟩,h6⟩,h7⟩,h8⟩,h9⟩:=h
    match hxa:x.args,h2 with
    | [y,z],_ =>
     have ey:arg x 0=y:=by unfold arg;rw [hxa];rfl
     have ez:arg x 1=z:=by unfold arg;rw [hxa];rfl
     rw [ey] at h3 h4 h5 h6 h7
     rw [ez] at h8 h9
     match hya:y.args,h4 with
     | [y0,y1],_ =>
      have e0:arg y 0=y0:=by unfold arg;rw [hya];rfl
      rw [e0] at h5 h6 h7
      match hy0:y0.args,h6 with
      | [y00],_ =>
       have e00:arg y0 0=y00:=by unfold arg;rw [hy0];rfl
       rw [e00] at h7
       exact ⟨d,s,x,y,z,rfl,hk,hn,hs,hx,h1,hxa,h3,h8,h9,y0,y1,y00,hya,h5,hy0,h7⟩
   ·cases h
  ·cases h
 ·cases h
def txB:List UInt8:=[99,111,110,116,114,111,108,32,123,10,100,114,111,112,59]
def txC:List UInt8:=[99,111,110,116,114,111,108,32,123,32,97,32,61,61,32,98,32,61,61,32,99,59,32,125]
set_option maxRecDepth 100000 in
theorem txB_is:parseL txB=.error (1,5):=by kernel_rfl
set_option maxRecDepth 100000 in
theorem txC_is:parseL txC=.error (0,5):=by kernel_rfl
theorem ExAt.at {W:World} {b o:Nat} {x:Ex} {va:Value} (h:ExAt W b o x va):W.cell? ⟨b,o,none⟩=some (.int .u8 (x.op:Int))∧W.cell? ⟨b,o+1,none⟩=some (.int .i64 (x.w:Int))∧W.cell? ⟨b,o+2,none⟩=some (.int .u64 (wHi x.v))∧W.cell? ⟨b,o+3,none⟩=some (.int .u64 (wLo x.v))∧W.cell? ⟨b,o+4,none⟩=some (.string (txt x.name))∧W.cell? ⟨b,o+5,none⟩=some (.string (txt x.field))∧W.cell? ⟨b,o+6,none⟩=some (.int .i64 (x.n:Int))∧W.cell? ⟨b,o+7,none⟩=some (.int .i64 (x.m:Int))∧W.cell? ⟨b,o+8,none⟩=some va∧W.cell? ⟨b,o+9,none⟩=some (.int .i64 (x.line:Int)) :=
 ⟨h.c 0 (by simp [exC]),h.c 1 (by simp [exC]),h.c 2 (by simp [exC]),h.c 3 (by simp [exC]),h.c 4 (by simp [exC]),h.c 5 (by simp [exC]),h.c 6 (by simp [exC]),h.c 7 (by simp [exC]),h.c 8 (by simp [exC]),h.c 9 (by simp [exC])⟩
theorem ExAt.alloc {W:World} {b o:Nat} {x:Ex} {va:Value} (h:ExAt W b o x va) (ob:Obj):ExAt (W.alloc ob) b o x va:=h.next ((Below.refl _ _).alloc (Nat.le_refl _) _)
theorem Tws.below {W W':World} {bt:Nat} (h:Tws W bt) (hb:Below W.heap.size W W'):Tws W' bt:=h.fr (E:=fun _=>False) (Fr.ofBelow hb) (fun e=>e) (fun e=>e)
theorem Tree1.next {W W':World} {X:Nat→Prop} {v:Value} {d:Dc} {s:Sm} {x:Ex} {b1 b2 b3 c1 c2 c3:Nat} {va:Value} (h:Tree1 W X v d s x b1 b2 b3 c1 c2 c3 va) (hb:Below W.heap.size W W'):Tree1 W' X v d s x b1 b2 b3 c1 c2 c3 va :=
 ⟨h.v1,(hb.cell h.l1).trans h.k,(hb.cell h.l1).trans h.n,(hb.cell h.l1).trans h.bd,(hb.cell h.l2).trans h.ag,Nat.lt_of_lt_of_le h.l1 hb.size,Nat.lt_of_lt_of_le h.l2 hb.size,h.ex.next hb,(ListR.ok exRep_ok mkAgg 10).frame h.argl hb.size (fun b _ hl=>hb.block b hl)⟩
theorem parse_err {s:List UInt8} {x:Nat × Nat} (h:parseL s=.error x) (hl:s.length≤65536) (T:ByteArray) (hT:T=txt s) (W:World) {bt:Nat} (hLs:Ls W) (hTw:Tws W bt):Calls Tryz.prog 8 #[.string T] W fun e w'=>e=.returned (.tuple #[.slice none 0 0,.int .i64 (x.1:Int),.int .i64 (x.2:Int)])∧Below W.heap.size W w':=by
 refine (pparse_any s W hLs hTw (by omega) T hT).mono ?_
 rintro e w' ⟨hb,hm⟩
 rw [h] at hm
 exact ⟨hm,hb⟩
theorem parse_ok {s:List UInt8} {ds:List Dc} (h:parseL s=.ok ds) (hl:s.length≤65536) (T:ByteArray) (hT:T=txt s) (W:World) {bt:Nat} (hLs:Ls W) (hTw:Tws W bt):Calls Tryz.prog 8 #[.string T] W fun e w'=>∃ v,e=.returned (.tuple #[v,.int .i64 0,.int .i64 0])∧ListR DeclR mkAgg 15 w' (Bn W w') v ds∧Below W.heap.size W w':=by
 refine (pparse_any s W hLs hTw (by omega) T hT).mono ?_
 rintro e w' ⟨hb,hm⟩
 rw [h] at hm
 obtain ⟨v,h1,h2⟩:=hm
 exact ⟨v,h1,h2,hb⟩
set_option maxRecDepth 100000 in
set_option maxHeartbeats 8000000 in
theorem alive8_any (w:World) {bt:Nat} (hLs:Ls w) (hTw:Tws w bt):Calls Tryz.prog 10 #[] w fun e w'=>e=.returned (.bool true)∧Below w.heap.size w w':=by
 obtain ⟨d,s,x,y,z,hp,hk,hn,hs,hx,hop,hxa,hy,hzw,hzv,y0,y1,y00,hya,hy0,hy0a,hy00⟩:=chkA_open chkA_yes
 have HA:=hide (parse_ok hp (by decide) ⟨#[97,99,116,105,111,110,32,102,40,112,32,56,41,32,123,32,104,46,97,32,61,32,126,112,91,51,58,48,93,32,43,43,32,99,97,115,116,32,52,40,104,46,98,41,32,43,32,56,119,49,59,32,125]⟩ rfl w hLs hTw)
 have HB:=hide (fun W (hb:Below w.heap.size w W)=>parse_err txB_is (by decide) ⟨#[99,111,110,116,114,111,108,32,123,10,100,114,111,112,59]⟩ rfl W (hLs.below hb) (hTw.below hb))
 have HC:=hide (fun W (hb:Below w.heap.size w W)=>parse_err txC_is (by decide) ⟨#[99,111,110,116,114,111,108,32,123,32,97,32,61,61,32,98,32,61,61,32,99,59,32,125]⟩ rfl W (hLs.below hb) (hTw.below hb))
 have HT:Hid (∀ W X v,ListR DeclR mkAgg 15 W X v [d]→∃ b1 b2 b3 c1 c2 c3 va,Tree1 W X v d s x b1 b2 b3 c1 c2 c3 va):=fun W X v h=>tree1 h hs hx
 have hz0:wHi z.v=0:=by rw [hzv];unfold wHi;simp
 have hz1:wLo z.v=1:=by rw [hzv];unfold wLo;simp
 have HF:Hid ((d.kind:Int)=7∧txt d.name=⟨#[102]⟩∧(x.op:Int)=5∧(y.op:Int)=14∧(z.w:Int)=8∧(y0.op:Int)=11∧(y00.op:Int)=15∧wHi z.v=0∧wLo z.v=1):=⟨by rw [hk];rfl,by rw [hn];rfl,by rw [hop];rfl,by rw [hy];rfl,by rw [hzw];rfl,by rw [hy0];rfl,by rw [hy00];rfl,hz0,hz1⟩
 have HAr:Hid (x.args=[y,z]∧y.args=[y0,y1]∧y0.args=[y00]):=⟨hxa,hya,hy0a⟩
 clear hp hk hn hs hx hop hxa hy hzw hzv hya hy0 hy0a hy00 hz0 hz1 hLs hTw
 go_enter Tryz.func10,Tryz.ntmps10
 go_wp2_with fail
 refine HA.out.mono ?_
 rintro e w1 ⟨v,rfl,hv,hb1⟩
 obtain ⟨b1,b2,b3,c1,c2,c3,va,t1⟩:=HT.out _ _ _ hv
 have T1:=hide t1
 obtain rfl:=t1.v1
 have B1:=hide hb1
 clear t1 hv hb1 HA HT
 go_wp2_with fail
 refine (HB.out _ B1.out).mono ?_
 rintro e w2 ⟨rfl,hb2⟩
 have B2:=hide (B1.out.trans (hb2.mono B1.out.size))
 have T2:=hide (T1.out.next hb2)
 clear hb2 T1 HB B1
 go_wp2_with fail
 refine (HC.out _ B2.out).mono ?_
 rintro e w3 ⟨rfl,hb3⟩
 have B3:=hide (B2.out.trans (hb3.mono B2.out.size))
 have t3:=T2.out.next hb3
 have T3:=hide t3
 obtain ⟨hxa,hya,hy0a⟩:=HAr.out
 have hal:=t3.argl
 rw [hxa] at hal
 obtain ⟨b4,c4,rfl,h4⟩:=exs_at hal (by simp)
 obtain ⟨vy,ey,hyl⟩:=h4 0 (by simp)
 obtain ⟨vz,ez,_⟩:=h4 1 (by simp)
 have hyl2:ListR ExR mkAgg 10 w3 (Bn w w1) vy y.args:=hyl
 rw [hya] at hyl2
 obtain ⟨b5,c5,rfl,h5⟩:=exs_at hyl2 (by simp)
 obtain ⟨vy0,ey0,hy0l⟩:=h5 0 (by simp)
 have hy0l2:ListR ExR mkAgg 10 w3 (Bn w w1) vy0 y0.args:=hy0l
 rw [hy0a] at hy0l2
 obtain ⟨b6,c6,rfl,h6⟩:=exs_at hy0l2 (by simp)
 obtain ⟨vy00,ey00,_⟩:=h6 0 (by simp)
 obtain ⟨f1,f2,f3,f4,f5,f6,f7,f8,f9⟩:=HF.out
 obtain ⟨e0,e1,e2,e3,e4,e5,e6,e7,e8,e9⟩:=t3.ex.at
 have gk:=t3.k;have gn:=t3.n;have gb:=t3.bd;have ga:=t3.ag
 have AY:∀ o,(w3.alloc o).cell? ⟨b4,0,none⟩=some (.int .u8 14)∧(w3.alloc o).cell? ⟨b4,8,none⟩=some (.slice (some ⟨b5,0,none⟩) 2 c5):=fun o=>by
  have:=(ey.alloc o).at
  simp only [Nat.zero_mul,Nat.zero_add] at this
  exact ⟨by rw [this.1];exact congrArg (fun t=>some (Value.int .u8 t)) f4,this.2.2.2.2.2.2.2.2.1⟩
 have AZ:∀ o,(w3.alloc o).cell? ⟨b4,11,none⟩=some (.int .i64 8)∧(w3.alloc o).cell? ⟨b4,12,none⟩=some (.int .u64 0)∧(w3.alloc o).cell? ⟨b4,13,none⟩=some (.int .u64 1):=fun o=>by
  have:=(ez.alloc o).at
  exact ⟨by have h:=this.2.1;rw [h];exact congrArg (fun t=>some (Value.int .i64 t)) f5,by have h:=this.2.2.1;rw [h];exact congrArg (fun t=>some (Value.int .u64 t)) f8,by have h:=this.2.2.2.1;rw [h];exact congrArg (fun t=>some (Value.int .u64 t)) f9⟩
 have AY0:∀ o,(w3.alloc o).cell? ⟨b5,0,none⟩=some (.int .u8 11)∧(w3.alloc o).cell? ⟨b5,8,none⟩=some (.slice (some ⟨b6,0,none⟩) 1 c6):=fun o=>by
  have:=(ey0.alloc o).at
  simp only [Nat.zero_mul,Nat.zero_add] at this
  exact ⟨by rw [this.1];exact congrArg (fun t=>some (Value.int .u8 t)) f6,this.2.2.2.2.2.2.2.2.1⟩
 have AY00:∀ o,(w3.alloc o).cell? ⟨b6,0,none⟩=some (.int .u8 15):=fun o=>by
  have:=(ey00.alloc o).at
  simp only [Nat.zero_mul,Nat.zero_add] at this
  rw [this.1];exact congrArg (fun t=>some (Value.int .u8 t)) f7
 rw [f1] at gk
 rw [f2] at gn
 rw [f3] at e0
 obtain ⟨AY1,AY2⟩:(∀ o,(w3.alloc o).cell? ⟨b4,0,none⟩=some (.int .u8 14))∧(∀ o,(w3.alloc o).cell? ⟨b4,8,none⟩=some (.slice (some ⟨b5,0,none⟩) 2 c5)):=⟨fun o=>(AY o).1,fun o=>(AY o).2⟩
 obtain ⟨AZ1,AZ2,AZ3⟩:(∀ o,(w3.alloc o).cell? ⟨b4,11,none⟩=some (.int .i64 8))∧(∀ o,(w3.alloc o).cell? ⟨b4,12,none⟩=some (.int .u64 0))∧(∀ o,(w3.alloc o).cell? ⟨b4,13,none⟩=some (.int .u64 1)):=⟨fun o=>(AZ o).1,fun o=>(AZ o).2.1,fun o=>(AZ o).2.2⟩
 obtain ⟨AW1,AW2⟩:(∀ o,(w3.alloc o).cell? ⟨b5,0,none⟩=some (.int .u8 11))∧(∀ o,(w3.alloc o).cell? ⟨b5,8,none⟩=some (.slice (some ⟨b6,0,none⟩) 1 c6)):=⟨fun o=>(AY0 o).1,fun o=>(AY0 o).2⟩
 have hlen:(x.args.length:Int)=2:=by rw [hxa];rfl
 simp only [List.length_cons,List.length_nil] at *
 generalize (x.w:Int)=n1 at *
 generalize wHi x.v=n2 at *
 generalize wLo x.v=n3 at *
 generalize txt x.name=t4 at *
 generalize txt x.field=t5 at *
 generalize (x.n:Int)=n6 at *
 generalize (x.m:Int)=n7 at *
 generalize (x.line:Int)=n9 at *
 clear t3 hb3 hal h4 h5 h6 ey ez hyl hyl2 hy0l hy0l2 ey0 ey00 f1 f2 f3 f4 f5 f6 f7 f8 f9 hxa hya hy0a AY AZ AY0 HC T2 HF HAr hlen
 go_wp2
 go_ret
 exact ⟨rfl,B3.out.alloc B3.out.size _⟩
theorem catL (a b:List UInt8):txt a ++ txt b=txt (a ++ b):=by
 apply ByteArray.ext
 rw [ByteArray.data_append]
 unfold txt
 simp
theorem ahT_next {ws:List Wd} {j:Nat} (h:j < ws.length) {A:ByteArray} (hA:A=txt (ahT (ws.take j))):(A ++ txt (toldW ws[j])) ++ (⟨#[10]⟩:ByteArray)=txt (ahT (ws.take (j+1))):=by
 rw [List.take_succ_eq_append_getElem h,ahT_snoc,hA,show (⟨#[10]⟩:ByteArray)=txt [10] from rfl,catL,catL]
theorem blT_next {ws:List Wd} {j:Nat} (h:j < ws.length) {A:ByteArray} (hA:A=txt (blT (ws.take j))):(A ++ txt (toldW ws[j])) ++ (⟨#[32]⟩:ByteArray)=txt (blT (ws.take (j+1))):=by
 rw [List.take_succ_eq_append_getElem h,blT_snoc,hA,show (⟨#[32]⟩:ByteArray)=txt [32] from rfl,catL,catL]
theorem parseL_ne {s:List UInt8} {x:Nat × Nat} (h:parseL s=.error x):x.2 ≠ 0:=by
 unfold parseL at h
 split at h
 ·cases h;simp
 ·split at h
  ·cases h;simp
  ·split at h
   ·cases h;simp
   ·split at h
    ·cases h;simp
    ·cases h
theorem words_all (s:List UInt8) (w:World) (hLs:Ls w) (hs:s.length≤9223372036854775807):Calls Tryz.prog 9 #[.string (txt s)] w fun e w'=>∃ (ad:Option Addr) (n c:Nat) (k q:Int),e=.returned (.tuple #[.slice ad n c,.int .i64 k,.int .i64 q])∧Below w.heap.size w w':=by
 refine (words_any s w hLs hs).mono ?_
 rintro e w' ⟨hb,⟨_,h1⟩ | ⟨h0,⟨k,_,h1⟩ | ⟨ys,v,h1,h2,h3,h4⟩⟩⟩
 ·exact ⟨_,_,_,_,_,h1,hb⟩
 ·exact ⟨_,_,_,_,_,h1,hb⟩
 ·obtain ⟨ad,cap,rfl⟩:=h3.shape
  exact ⟨_,_,_,_,_,h4,hb⟩
set_option maxHeartbeats 4000000 in
set_option maxRecDepth 100000 in
theorem blanks_no (s:List UInt8) (w:World) {bt:Nat} (hLs:Ls w) (hTw:Tws w bt) (hs:s.length≤9223372036854775807) {x:Nat × Nat} (h:parseL s=.error x) (h0:x.2 ≠ 0) :
  Calls Tryz.prog 3 #[.string (txt s)] w fun e w'=>e=.returned (.bool true)∧Below w.heap.size w w':=by
 have HA:=hide (fun W (hb:Below w.heap.size w W)=>alive8_any W (hLs.below hb) (hTw.below hb))
 have HP:=hide (pparse_any s w hLs hTw hs (txt s) rfl)
 have HW:=hide (fun W (hb:Below w.heap.size w W)=>words_all s W (hLs.below hb) hs)
 have HX:=hide h
 have hc:¬ ((x.2:Int)=0):=by omega
 clear hLs hTw h
 generalize txt s=T at *
 go_enter Tryz.func3,Tryz.ntmps3
 go_wp2_with fail
 refine HP.out.mono ?_
 rintro e w1 ⟨hb,hr⟩
 rw [HX.out] at hr
 dsimp only at hr
 subst hr
 have B1:=hide hb
 clear hb HP HX
 go_wp2_with fail
 refine (HW.out _ B1.out).mono ?_
 rintro e w2 ⟨ad,n,c,k,q,rfl,hb⟩
 have B2:=hide (B1.out.trans (hb.mono B1.out.size))
 clear hb
 go_wp2_with fail
 refine (HA.out _ B2.out).mono ?_
 rintro e w3 ⟨rfl,hb⟩
 have B3:=hide (B2.out.trans (hb.mono B2.out.size))
 clear hb
 go_wp2_with fail
 refine (HA.out _ B3.out).mono ?_
 rintro e w4 ⟨rfl,hb⟩
 have B4:=hide (B3.out.trans (hb.mono B3.out.size))
 clear hb
 go_wp2
 go_ret
 exact ⟨rfl,B4.out⟩
set_option maxHeartbeats 4000000 in
set_option maxRecDepth 100000 in
theorem blanks_out (s:List UInt8) (xs:List (Wd × Nat)) (ds:List Dc) (w:World) {bt:Nat} (hLs:Ls w) (hTw:Tws w bt) (hp:parseL s=.ok ds) (h:toks s=.ok xs) (hn8:8000 < xs.length) :
  Calls Tryz.prog 3 #[.string (txt s)] w fun e w'=>e=.returned (.bool true)∧Below w.heap.size w w':=by
 have hs:=(parseL_words hp).1
 have HA:=hide (fun W (hb:Below w.heap.size w W)=>alive8_any W (hLs.below hb) (hTw.below hb))
 have HP:=hide (parse_yes hp (txt s) rfl w hLs hTw)
 have HW:=hide (fun W (hb:Below w.heap.size w W)=>words_ok h hs (txt s) rfl W (hLs.below hb))
 clear hLs hTw h hp hs
 generalize txt s=T at *
 have hi:(8000:Int) < (xs.length:Int):=by omega
 go_enter Tryz.func3,Tryz.ntmps3
 go_wp2_with fail
 refine HP.out.mono ?_
 rintro e w1 ⟨v,rfl,hr,hb⟩
 have B1:=hide hb
 clear hb HP hr
 go_wp2_with fail
 refine (HW.out _ B1.out).mono ?_
 rintro e w2 ⟨v2,rfl,ho1,hl1,hb⟩
 have B2:=hide (B1.out.trans (hb.mono B1.out.size))
 obtain ⟨ad1,cap1,rfl⟩:=ho1.shape
 clear hb ho1
 generalize xs.length=n at *
 go_wp2_with fail
 refine (HA.out _ B2.out).mono ?_
 rintro e w3 ⟨rfl,hb⟩
 have B3:=hide (B2.out.trans (hb.mono B2.out.size))
 clear hb
 go_wp2_with fail
 refine (HA.out _ B3.out).mono ?_
 rintro e w4 ⟨rfl,hb⟩
 have B4:=hide (B3.out.trans (hb.mono B3.out.size))
 clear hb
 go_wp2
 go_ret
 exact ⟨rfl,B4.out⟩
set_option maxHeartbeats 8000000 in
set_option maxRecDepth 100000 in
theorem blanks_in (s:List UInt8) (xs:List (Wd × Nat)) (ds:List Dc) (w:World) {bt:Nat} (hLs:Ls w) (hTw:Tws w bt) (hp:parseL s=.ok ds) (h:toks s=.ok xs) (hn8:xs.length≤8000) :
  Calls Tryz.prog 3 #[.string (txt s)] w fun e w'=>e=.returned (.bool true)∧Below w.heap.size w w':=by
 have hs:=(parseL_words hp).1
 have HA:=hide (fun W (hb:Below w.heap.size w W)=>alive8_any W (hLs.below hb) (hTw.below hb))
 have HP0:=hide (parse_yes hp (txt s) rfl w hLs hTw)
 have HW:=hide (fun W (hb:Below w.heap.size w W)=>words_ok h hs (txt s) rfl W (hLs.below hb))
 have HP:=hide (fun (t:List UInt8) (d:List Dc) (T:ByteArray) W (hb:Below w.heap.size w W) (ht:parseL t=.ok d) (hT:T=txt t)=>parse_yes ht T hT W (hLs.below hb) (hTw.below hb))
 have HT:=hide (fun (x:Wd) (ln:Nat) W (hb:Below w.heap.size w W) (hg:Good x)=>told_any x ln W (hLs.below hb) hg)
 have HF:=hide (blk_of hp h)
 have HG:=hide (toks_good h).1
 obtain ⟨n,hn⟩:∃ n,xs.length=n:=⟨_,rfl⟩
 have HN0:=hide hn
 rw [hn] at hn8
 have hi:¬ (8000:Int) < (n:Int):=by omega
 clear hLs hTw h hn hp hs
 generalize txt s=T at *
 go_enter Tryz.func3,Tryz.ntmps3
 go_wp2_with fail
 refine HP0.out.mono ?_
 rintro e w1 ⟨vp,rfl,hr,hb⟩
 have B1:=hide hb
 have P1:=hide hr
 clear hb HP0 hr
 go_wp2_with fail
 refine (HW.out _ B1.out).mono ?_
 rintro e w2 ⟨v2,rfl,ho1,hl1,hb⟩
 have B2:=hide (B1.out.trans (hb.mono B1.out.size))
 have P2:=hide ((ListR.ok declR_ok mkAgg 15).frame P1.out hb.size (fun b _ hl=>hb.block b hl))
 have S2:=hide ho1.sl
 obtain ⟨ad1,cap1,rfl⟩:=ho1.shape
 rw [HN0.out] at S2 ⊢
 clear hb ho1 hl1 HW P1
 go_wp2_with fail
 refine (HA.out _ B2.out).mono ?_
 rintro e w3 ⟨rfl,hb⟩
 have B3:=hide (B2.out.trans (hb.mono B2.out.size))
 have P3:=hide ((ListR.ok declR_ok mkAgg 15).frame P2.out hb.size (fun b _ hl=>hb.block b hl))
 have S3:=hide (S2.out.keep hb)
 clear hb S2 B2 P2 HA
 go_wp2
 go_loopw [9,10,11] (fun va vb vi wr=>∃ (j:Nat) (A B:ByteArray),va=.string A∧vb=.string B∧vi=.int .i64 (j:Int)∧j≤n∧A.size≤256 * j∧B.size=A.size∧Hid (A=txt (blT ((xs.map (·.1)).take j)))∧Hid (B=txt (ahT ((xs.map (·.1)).take j)))∧Hid (Below w3.heap.size w3 wr)) (fun _ _ vi _=>n - (intOf vi).toNat)
 case atStart=>exact ⟨0,_,_,rfl,rfl,rfl,by omega,by decide,rfl,rfl,rfl,Below.refl _ _⟩
 case round =>
  obtain ⟨j,A,B,rfl,rfl,rfl,hj,hAz,hBz,HAj,HBj,HB⟩:=hrel
  by_cases hbig:65536 < A.size
  ·have ib:¬ (A.size:Int)≤65536:=by omega
   have ib2:(65536:Int) < (A.size:Int):=by omega
   have BR:=hide (B3.out.trans (HB.out.mono B3.out.size))
   by_cases hltn:j < n
   ·have hltI:(j:Int) < (n:Int):=by omega
    go_wp2
    go_ret
    exact ⟨rfl,BR.out⟩
   ·have hltI:¬ (j:Int) < (n:Int):=by omega
    go_wp2
    go_ret
    exact ⟨rfl,BR.out⟩
  ·have ib:(A.size:Int)≤65536:=by omega
   have ib2:¬ (65536:Int) < (A.size:Int):=by omega
   by_cases hltn:j < n
   ·have hlt:j < xs.length:=by rw [HN0.out];exact hltn
    have hltI:(j:Int) < (n:Int):=by omega
    have hR:∃ g,ad1=some ⟨g,0,none⟩∧RdG wr g xs:=by
     rcases S3.out.keep HB.out with ⟨_,e⟩ | ⟨g,c,e,hr⟩
     ·rw [e] at hlt;simp at hlt
     ·injection e with e1;exact ⟨g,e1,hr⟩
    obtain ⟨g,rfl,hr⟩:=hR
    have HGx:=hide (HG.out _ (List.getElem_mem hlt))
    have HN:Hid ((A ++ txt (toldW xs[j].1)) ++ (⟨#[32]⟩:ByteArray)=txt (blT ((xs.map (·.1)).take (j+1)))):=by
     have:=blT_next (ws:=xs.map (·.1)) (j:=j) (by rw [List.length_map];exact hlt) HAj.out
     rw [List.getElem_map] at this
     exact this
    have HM:Hid ((B ++ txt (toldW xs[j].1)) ++ (⟨#[10]⟩:ByteArray)=txt (ahT ((xs.map (·.1)).take (j+1)))):=by
     have:=ahT_next (ws:=xs.map (·.1)) (j:=j) (by rw [List.length_map];exact hlt) HBj.out
     rw [List.getElem_map] at this
     exact this
    have hTl:(txt (toldW xs[j].1)).size≤255:=by rw [txt_size];exact good_len HGx.out
    have HC:=hide (fun W (hb:Below wr.heap.size wr W)=>And.intro ((hr.keep hb).2 j hlt 0 _ rfl) (And.intro ((hr.keep hb).2 j hlt 1 _ rfl) (And.intro ((hr.keep hb).2 j hlt 2 _ rfl) (And.intro ((hr.keep hb).2 j hlt 3 _ rfl) (And.intro ((hr.keep hb).2 j hlt 4 _ rfl) ((hr.keep hb).2 j hlt 5 _ rfl))))))
    clear hr HAj HBj
    generalize xs[j]=xj at *
    obtain ⟨x,ln⟩:=xj
    try dsimp only at HN HM hTl
    have HTx:=hide (fun W hb=>HT.out x ln W hb HGx.out)
    generalize txt (toldW x)=D at *
    have z1:¬ 9223372036854775807 < A.size+D.size:=by omega
    have z2:¬ 9223372036854775807 < A.size+D.size+1:=by omega
    have z3:¬ 9223372036854775807 < B.size+D.size:=by omega
    have z4:¬ 9223372036854775807 < B.size+D.size+1:=by omega
    have hNz:((A ++ D) ++ (⟨#[32]⟩:ByteArray)).size≤256 * (j+1):=by
     rw [ByteArray.size_append,ByteArray.size_append]
     show A.size+D.size+1≤_
     omega
    have hMz:((B ++ D) ++ (⟨#[10]⟩:ByteArray)).size=((A ++ D) ++ (⟨#[32]⟩:ByteArray)).size:=by
     rw [ByteArray.size_append,ByteArray.size_append,ByteArray.size_append,ByteArray.size_append,hBz]
     rfl
    obtain ⟨c0,c1,c2,c3,c4,c5⟩:=HC.out wr (Below.refl _ _)
    rw [Nat.add_zero] at c0
    try dsimp only at c0 c1 c2 c3 c4 c5
    go_wp2_with fail
    refine (HTx.out _ (B3.out.trans (HB.out.mono B3.out.size))).mono ?_
    rintro e w5 ⟨rfl,hb⟩
    have HB5:=hide (HB.out.trans (hb.mono HB.out.size))
    clear c0 c1 c2 c3 c4 c5
    obtain ⟨d0,d1,d2,d3,d4,d5⟩:=HC.out w5 hb
    rw [Nat.add_zero] at d0
    try dsimp only at d0 d1 d2 d3 d4 d5
    clear hb HC
    go_wp2_with fail
    refine (HTx.out _ (B3.out.trans (HB5.out.mono B3.out.size))).mono ?_
    rintro e w6 ⟨rfl,hb⟩
    have HB6:=hide (HB5.out.trans (hb.mono HB5.out.size))
    clear hb
    go_wp2
    exact ⟨⟨j+1,_,_,rfl,rfl,by congr 1,by omega,hNz,hMz,HN,HM,HB6⟩,by simp [intOf];omega⟩
   ·have hltI:¬ (j:Int) < (n:Int):=by omega
    obtain rfl:j=n:=by omega
    have HAz:Hid (A=txt (blT (xs.map (·.1)))):=by
     have:=HAj.out
     rw [List.take_of_length_le (by rw [List.length_map,HN0.out];exact Nat.le_refl _)] at this
     exact this
    have HBx:Hid (B=txt (ahT (xs.map (·.1)))):=by
     have:=HBj.out
     rw [List.take_of_length_le (by rw [List.length_map,HN0.out];exact Nat.le_refl _)] at this
     exact this
    have hAs:(blT (xs.map (·.1))).length≤65536:=by rw [← txt_size,← HAz.out];omega
    obtain ⟨dq,q1,q2⟩:=HF.out.b hAs
    obtain ⟨dr,r1,r2⟩:=HF.out.n hAs
    have Q2:=hide q2
    have R2:=hide r2
    have HQ:=hide (fun W hb=>HP.out _ dq A W hb q1 HAz.out)
    have HR:=hide (fun W hb=>HP.out _ dr B W hb r1 HBx.out)
    have Qs:=hide (parseL_small q1)
    have Rs:=hide (parseL_small r1)
    have Ps:=hide HF.out.s
    have BR:=hide (B3.out.trans (HB.out.mono B3.out.size))
    have PR:=hide ((ListR.ok declR_ok mkAgg 15).frame P3.out HB.out.size (fun b _ hl=>HB.out.block b hl))
    clear HAj HBj HB S3 B3 P3 hltn hj HF HAz HBx hAs q1 q2 r1 r2 HP HT HG hAz hBz
    go_wp2_with fail
    refine (HQ.out _ BR.out).mono ?_
    rintro e w6 ⟨vq,rfl,hq,hb⟩
    have B6:=hide (BR.out.trans (hb.mono BR.out.size))
    have P6:=hide ((ListR.ok declR_ok mkAgg 15).frame PR.out hb.size (fun b _ hl=>hb.block b hl))
    have Q6:=hide hq
    clear hb hq BR PR HQ
    go_wp2_with fail
    refine (HR.out _ B6.out).mono ?_
    rintro e w7 ⟨vr,rfl,hr,hb⟩
    have B7:=hide (B6.out.trans (hb.mono B6.out.size))
    have P7:=hide ((ListR.ok declR_ok mkAgg 15).frame P6.out hb.size (fun b _ hl=>hb.block b hl))
    have Q7:=hide ((ListR.ok declR_ok mkAgg 15).frame Q6.out hb.size (fun b _ hl=>hb.block b hl))
    have R7:=hide hr
    clear hb hr B6 P6 Q6 HR
    go_wp2_with fail
    refine (bare_any Ps.out.1 Ps.out.2 _ _ _ P7.out).mono ?_
    rintro e w8 ⟨u8,rfl,hu,hb⟩
    have B8:=hide (B7.out.trans (hb.mono B7.out.size))
    have P8:=hide ((ListR.ok declR_ok mkAgg 15).frame P7.out hb.size (fun b _ hl=>hb.block b hl))
    have Q8:=hide ((ListR.ok declR_ok mkAgg 15).frame Q7.out hb.size (fun b _ hl=>hb.block b hl))
    have R8:=hide ((ListR.ok declR_ok mkAgg 15).frame R7.out hb.size (fun b _ hl=>hb.block b hl))
    have U8:=hide hu
    clear hb hu B7 P7 Q7 R7
    go_wp2_with fail
    refine (bare_any Qs.out.1 Qs.out.2 _ _ _ Q8.out).mono ?_
    rintro e w9 ⟨u9,rfl,hu,hb⟩
    have B9:=hide (B8.out.trans (hb.mono B8.out.size))
    have P9:=hide ((ListR.ok declR_ok mkAgg 15).frame P8.out hb.size (fun b _ hl=>hb.block b hl))
    have R9:=hide ((ListR.ok declR_ok mkAgg 15).frame R8.out hb.size (fun b _ hl=>hb.block b hl))
    have U9:=hide ((ListT.ok (dcV_ok true) _ _ _).frame U8.out hb.size (fun b _ hl=>hb.block b hl))
    have V9:=hide (prog_q Q2.out hu)
    clear hb hu B8 P8 Q8 R8 U8
    go_wp2_with fail
    refine (same_bare Ps.out.1 Ps.out.2 U9.out V9.out).mono ?_
    rintro e wa ⟨rfl,hb⟩
    have Ba:=hide (B9.out.trans (hb.mono B9.out.size))
    have Pa:=hide ((ListR.ok declR_ok mkAgg 15).frame P9.out hb.size (fun b _ hl=>hb.block b hl))
    have Ra:=hide ((ListR.ok declR_ok mkAgg 15).frame R9.out hb.size (fun b _ hl=>hb.block b hl))
    clear hb B9 P9 R9 U9 V9
    go_wp2_with fail
    refine (bare_any Ps.out.1 Ps.out.2 _ _ _ Pa.out).mono ?_
    rintro e wb ⟨ub,rfl,hu,hb⟩
    have Bb:=hide (Ba.out.trans (hb.mono Ba.out.size))
    have Rb:=hide ((ListR.ok declR_ok mkAgg 15).frame Ra.out hb.size (fun b _ hl=>hb.block b hl))
    have Ub:=hide hu
    clear hb hu Ba Pa Ra
    go_wp2_with fail
    refine (bare_any Rs.out.1 Rs.out.2 _ _ _ Rb.out).mono ?_
    rintro e wc ⟨uc,rfl,hu,hb⟩
    have Bc:=hide (Bb.out.trans (hb.mono Bb.out.size))
    have Uc:=hide ((ListT.ok (dcV_ok true) _ _ _).frame Ub.out hb.size (fun b _ hl=>hb.block b hl))
    have Vc:=hide (prog_q R2.out hu)
    clear hb hu Bb Rb Ub
    go_wp2_with fail
    refine (same_bare Ps.out.1 Ps.out.2 Uc.out Vc.out).mono ?_
    rintro e wd ⟨rfl,hb⟩
    have Bd:=hide (Bc.out.trans (hb.mono Bc.out.size))
    clear hb
    go_wp2
    go_ret
    exact ⟨rfl,Bd.out⟩
theorem blanks_any (s:List UInt8) (w:World) {bt:Nat} (hLs:Ls w) (hTw:Tws w bt) (hs:s.length≤9223372036854775807) :
  Calls Tryz.prog 3 #[.string (txt s)] w fun e w'=>e=.returned (.bool true)∧Below w.heap.size w w':=by
 cases hp:parseL s with
 | error x=>exact blanks_no s w hLs hTw hs hp (parseL_ne hp)
 | ok ds =>
  obtain ⟨_,xs,k,hx,_⟩:=parseL_words hp
  by_cases h8:8000 < xs.length
  ·exact blanks_out s xs ds w hLs hTw hp hx h8
  ·exact blanks_in s xs ds w hLs hTw hp hx (by omega)
end Go.Proofs.YtabkimknlifdoaaGreatDoor
