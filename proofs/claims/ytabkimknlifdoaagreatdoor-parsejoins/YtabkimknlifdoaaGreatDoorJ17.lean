/- Pieces of the proof: PaRg, PaPg, PaTc. -/
import Derived.Test.YtabkimknlifdoaaGreatDoorJ16
import Derived.Test.YtabkimknlifdoaaGreatDoorJ15
import Derived.Deep.LoopGhost
namespace Go.Proofs.YtabkimknlifdoaaGreatDoor
open Go.RowKit Go.MapKept
def lastLn (xs:List (Wd × Nat)):Nat:=match xs.getLast? with
 | some x=>x.2
 | none=>0
def endW (xs:List (Wd × Nat)):Wd × Nat:=(⟨0,[],0,0⟩,lastLn xs)
theorem endW_cl (xs:List (Wd × Nat)):wcl (endW xs)=[.int .u8 0,.string ⟨#[]⟩,.int .i64 0,.int .u64 0,.int .u64 0,.int .i64 (lastLn xs:Int)]:=by
 have h0:wHi 0=0:=by unfold wHi;simp
 have h1:wLo 0=0:=by unfold wLo;simp
 unfold wcl endW
 simp only [h0,h1]
 rfl
def RdPost (B0:Nat) (W:World) (xs:List (Wd × Nat)) (e:Ending) (w':World):Prop:=∃ p q db sb,e=.returned (.pointer (some ⟨p,0,none⟩))∧Rp w' w' p q (xs ++ [endW xs]) 0 (.map (some db)) (.map (some sb))∧w'.heap[db]? = some (.map (mkK p 0 dKeys).toArray 10)∧w'.heap[sb]? = some (.map (mkK p 0 sKeys).toArray 14)∧db ≠ p∧sb ≠ p∧B0≤p∧B0≤q∧B0≤db∧B0≤sb∧Below B0 W w'
theorem wcs_at {L:List (Wd × Nat)} {i j:Nat} (hi:i < L.length) (hj:j < 6):(wcs L)[i * 6+j]? = (wcl L[i])[j]?:=by
 unfold wcs
 rw [flat_at (L.map wcl) 6 i j (by simpa using hi) (fun c hc=>by obtain ⟨x,_,rfl⟩:=List.mem_map.1 hc;rfl) hj]
 simp
theorem rd_done {B0:Nat} {W WA W3 W4 W5:World} {xs:List (Wd × Nat)} {q cap:Nat} {p:Nat} {db sb:Nat}
  (hrow:WA.ownsRow B0 37 6 (.slice (some ⟨q,0,none⟩) (xs.length+1) cap) (xs.length+1) (wcs (xs ++ [endW xs]))) (hA:Below B0 W WA) (hl:xs.length≤65536)
  (hp:p=WA.heap.size) (h3:W3=WA.alloc (.cells #[.slice (some ⟨q,0,none⟩) (xs.length+1) cap,.int .i64 0,.map none,.map none] 90))
  (hdb:db=W3.heap.size) (h4:Below W3.heap.size W3 W4) (h4d:W4.heap[db]? = some (.map (mkK p 0 dKeys).toArray 10))
  (hsb:sb=(W4.setCell ⟨p,2,none⟩ (.map (some db))).heap.size) (h5:Below (W4.setCell ⟨p,2,none⟩ (.map (some db))).heap.size (W4.setCell ⟨p,2,none⟩ (.map (some db))) W5) (h5s:W5.heap[sb]? = some (.map (mkK p 0 sKeys).toArray 14)) :
  RdPost B0 W xs (.returned (.pointer (some ⟨p,0,none⟩))) (W5.setCell ⟨p,3,none⟩ (.map (some sb))):=by
 have hB0:B0≤WA.heap.size:=Nat.le_trans (World.ownsRow.lt hrow q rfl).1 (Nat.le_of_lt (World.ownsRow.lt hrow q rfl).2)
 have hq:=World.ownsRow.lt hrow q rfl
 have s3:W3.heap.size=WA.heap.size+1:=by rw [h3,World.size_alloc]
 have sz:∀ (V:World) (a:Addr) (u:Value),(V.setCell a u).heap.size=V.heap.size:=fun V a u=>by simp [World.setCell]
 have s4:=h4.size
 have hset:Fr (·=p) W4 (W4.setCell ⟨p,2,none⟩ (.map (some db))):=(Fr.refl _ W4).set _ _ rfl
 have s5:=h5.size
 rw [sz] at s5 hsb
 have hset2:Fr (·=p) W5 (W5.setCell ⟨p,3,none⟩ (.map (some sb))):=(Fr.refl _ W5).set _ _ rfl
 have p3:W3.heap[p]? = some (.cells #[.slice (some ⟨q,0,none⟩) (xs.length+1) cap,.int .i64 0,.map none,.map none] 90 (0,0)):=by rw [h3,hp];exact heap_alloc_new WA _
 have p4:=(h4.block p (by omega)).trans p3
 have p4':=heap_setCell_same (k:=2) p4 (.map (some db))
 have p5:=(h5.block p (by rw [sz];omega)).trans p4'
 have p6:=heap_setCell_same (k:=3) p5 (.map (some sb))
 -- every old block but p
 have keep:∀ b,b < WA.heap.size→(W5.setCell ⟨p,3,none⟩ (.map (some sb))).heap[b]? = WA.heap[b]?:=fun b hb=>by
  rw [hset2.block b (by omega) (fun e=>by have e':b=p:=e;omega),h5.block b (by rw [sz];omega),hset.block b (by omega) (fun e=>by have e':b=p:=e;omega),h4.block b (by omega),h3,heap_alloc_old _ _ hb]
 have hd6:(W5.setCell ⟨p,3,none⟩ (.map (some sb))).heap[db]? = some (.map (mkK p 0 dKeys).toArray 10):=by
  have hlt:=(Array.getElem?_eq_some_iff.1 h4d).1
  rw [hset2.block db (by omega) (fun e=>by have e':db=p:=e;omega),h5.block db (by rw [sz];omega),hset.block db hlt (fun e=>by have e':db=p:=e;omega),h4d]
 have hs6:(W5.setCell ⟨p,3,none⟩ (.map (some sb))).heap[sb]? = some (.map (mkK p 0 sKeys).toArray 14):=by
  have hlt:=(Array.getElem?_eq_some_iff.1 h5s).1
  rw [hset2.block sb hlt (fun e=>by have e':sb=p:=e;omega),h5s]
 have hll:(xs ++ [endW xs]).length=xs.length+1:=by simp
 refine ⟨p,q,db,sb,rfl,⟨Fr.refl _ _,by omega,by rw [sz];omega,by rw [sz];omega,⟨cap,by rw [hll];exact p6,?_⟩,fun i hi j u hu=>?_,by rw [hll];omega,by rw [hll];omega⟩,hd6,hs6,by omega,by omega,by omega,hq.1,by omega,by omega,?_⟩
 ·rcases hrow.2 with ⟨e,_⟩ | ⟨g,cap',cur,e,_,_,h1,_⟩
  ·cases e
  ·injection e with _ _ e3
   rw [hll,e3];exact h1
 ·have hj:j < 6:=by
   have:=(List.getElem?_eq_some_iff.1 hu).1
   simpa [wcl] using this
  have hc:=World.ownsRow.cellAt hrow (i * 6+j) (by rw [hll] at hi;omega)
  rw [World.cell?_of_block (w:=WA) (a:=⟨q,i * 6+j,none⟩) (keep q hq.2),hc,wcs_at hi hj]
  exact hu
 ·refine ⟨?_,?_,?_,by rw [sz];have:=hA.size;omega,fun b hb=>by rw [keep b (by omega)];exact hA.block b hb⟩
  ·rw [hset2.os,h5.os,hset.os,h4.os,h3];exact hA.os
  ·rw [hset2.tape,h5.tape,hset.tape,h4.tape,h3];exact hA.tape
  ·rw [hset2.output,h5.output,hset.output,h4.output,h3];exact hA.output
theorem rd_below {B0:Nat} {W w8:World} {o1 o2:Obj} {v v8:Value} (hB:B0≤W.heap.size) (hv:∀ b,v.ownBlock=some b→B0≤b) (hd:(v8.ownBlock=v.ownBlock∧((W.alloc o1).alloc o2).grownBy w8 v.ownBlock) ∨ (((W.alloc o1).alloc o2).grownBy w8 none∧∀ b,v8.ownBlock=some b→((W.alloc o1).alloc o2).heap.size≤b)):Below B0 W w8:=by
 have h2:Below B0 W ((W.alloc o1).alloc o2):=((Below.refl _ _).alloc hB _).alloc (by rw [World.size_alloc];omega) _
 rcases hd with ⟨_,hg⟩ | ⟨hg,_⟩
 ·exact h2.grown hg (by rw [World.size_alloc,World.size_alloc];omega) hv
 ·exact h2.grown hg (by rw [World.size_alloc,World.size_alloc];omega) (fun r e=>by cases e)
theorem Tryz.infowordN:(Tryz.prog.info? 37).map (fun i=>(i.zero,i.size,i.bytes))=some (some (.agg #[.int .u8 0,.string ⟨#[]⟩,.int .i64 0,.int .u64 0,.int .u64 0,.int .i64 0]),6,56):=by kernel_rfl
set_option maxRecDepth 100000 in
set_option maxHeartbeats 4000000 in
theorem readerOf_nil {W:World} {B0:Nat} {xs:List (Wd × Nat)}  (ho:OwnW W B0 (.slice none 0 0) xs) (hB:B0≤W.heap.size) (hl:xs.length≤65536) (hx:xs=[]):Calls Tryz.prog 15 #[.slice none 0 0] W fun e w'=>RdPost B0 W xs e w':=by
 obtain ⟨i0',hi0,hz0,hz1,hz2⟩:=info_parts Tryz.infowordN
 have hownb:∀ b,(.slice none 0 0:Value).ownBlock=some b→B0≤b:=fun b hb=>(World.ownsRow.lt ho b hb).1
 have HOB:=hide hownb
 have HB:=hide hB
 have HL:=hide hl
 have HLN:Hid (lastLn xs=0):=by unfold Hid;rw [hx];rfl
 clear hx
 have HEC:Hid (wcs xs ++ [.int .u8 0,.string ⟨#[]⟩,.int .i64 0,.int .u64 0,.int .u64 0,.int .i64 0]=wcs (xs ++ [endW xs])):=by unfold Hid;rw [wcs_snoc,endW_cl,HLN.out];rfl
 have HO:=hide ho
 clear ho hB hl hownb
 go_enter Tryz.func15,Tryz.ntmps15
 go_wp2_with (first | (at_builtin;refine wpList_appC rfl _ _ 27 rfl 37 i0' (.agg #[.int .u8 0,.string ⟨#[]⟩,.int .i64 0,.int .u64 0,.int .u64 0,.int .i64 0]) 6 56 Tryz.underlying27 hi0 hz0 hz1 hz2 rfl (by decide) (by decide) B0 _ xs.length (wcs xs) rfl (ownR_below (ownR_below HO.out ((Below.refl _ _).alloc (Nat.le_refl _) _)) ((Below.refl _ _).alloc (Nat.le_refl _) _)) (W.heap.size+1) [.int .u8 0,.string ⟨#[]⟩,.int .i64 0,.int .u64 0,.int .u64 0,.int .i64 0] rfl rfl (by rw [← World.size_alloc W (.cells #[.int .u8 0,.string ⟨#[]⟩,.int .i64 0,.int .u64 0,.int .u64 0,.int .i64 0] 37)];exact cells_newC _ [.int .u8 0,.string ⟨#[]⟩,.int .i64 0,.int .u64 0,.int .u64 0,.int .i64 0] _) (by intro u hu;simp at hu;rcases hu with rfl | rfl | rfl | rfl | rfl | rfl <;> rfl) (by have:=HL.out;omega) (by have:=HB.out;simp;omega) ?_;intro v8 w8 O8 D8;rw [HEC.out] at O8;obtain ⟨q,cap,rfl⟩:∃ q cap,v8=.slice (some ⟨q,0,none⟩) (xs.length+1) cap:=(by rcases O8.2 with ⟨_,h⟩ | ⟨g,cap,cur,rfl,_⟩;exact absurd h (by omega);exact ⟨g,cap,rfl⟩);have HO8:=hide O8;have HA8:=hide (rd_below HB.out HOB.out D8);clear O8 D8))
 refine (declRows_any _ _).mono ?_
 generalize hW3:World.alloc w8 _=W3
 rintro e w4 ⟨rfl,h4d,h4⟩
 obtain ⟨p,hp⟩:∃ p,p=w8.heap.size:=⟨_,rfl⟩
 obtain ⟨db,hdb⟩:∃ db,db=W3.heap.size:=⟨_,rfl⟩
 rw [← hp] at h4d
 rw [← hdb] at h4d ⊢
 have hp3:W3.heap[p]? = some (.cells #[.slice (some ⟨q,0,none⟩) (xs.length+1) cap,.int .i64 0,.map none,.map none] 90 (0,0)):=by rw [← hW3,hp];exact heap_alloc_new w8 _
 have hp4:=(h4.block p (Array.getElem?_eq_some_iff.1 hp3).1).trans hp3
 have gc2:=cellA hp4 2
 have gs2:=softA hp4 2
 have HP:=hide hp;have HDB:=hide hdb;have H4D:=hide h4d;have H4:=hide h4;have HW3:=hide hW3;have HP4:=hide hp4
 rw [← hp]
 clear hp hdb h4d h4 hW3 hp3 hp4
 go_wp2_with fail
 refine (stmtRows_any _ _).mono ?_
 rintro e w5 ⟨rfl,h5s,h5⟩
 obtain ⟨sb,hsb⟩:∃ sb,sb=(w4.setCell ⟨p,2,none⟩ (.map (some db))).heap.size:=⟨_,rfl⟩
 rw [← hsb] at h5s ⊢
 have hp5:=(h5.block p (by have:=(Array.getElem?_eq_some_iff.1 HP4.out).1;simp [World.setCell];exact this)).trans (heap_setCell_same (k:=2) HP4.out (.map (some db)))
 have gc3:=cellA hp5 3
 have gs3:=softA hp5 3
 have HSB:=hide hsb;have H5S:=hide h5s;have H5:=hide h5
 clear hsb h5s h5 hp5 gc2 gs2
 go_wp2
 go_ret
 exact rd_done HO8.out HA8.out HL.out HP.out HW3.out.symm HDB.out H4.out H4D.out HSB.out H5.out H5S.out
set_option maxRecDepth 100000 in
set_option maxHeartbeats 4000000 in
theorem readerOf_zero {W:World} {B0:Nat} {xs:List (Wd × Nat)} {g cap0:Nat} (ho:OwnW W B0 (.slice (some ⟨g,0,none⟩) 0 cap0) xs) (hB:B0≤W.heap.size) (hl:xs.length≤65536) (hx:xs=[]):Calls Tryz.prog 15 #[.slice (some ⟨g,0,none⟩) 0 cap0] W fun e w'=>RdPost B0 W xs e w':=by
 obtain ⟨i0',hi0,hz0,hz1,hz2⟩:=info_parts Tryz.infowordN
 have hownb:∀ b,(.slice (some ⟨g,0,none⟩) 0 cap0:Value).ownBlock=some b→B0≤b:=fun b hb=>(World.ownsRow.lt ho b hb).1
 have HOB:=hide hownb
 have HB:=hide hB
 have HL:=hide hl
 have HLN:Hid (lastLn xs=0):=by unfold Hid;rw [hx];rfl
 clear hx
 have HEC:Hid (wcs xs ++ [.int .u8 0,.string ⟨#[]⟩,.int .i64 0,.int .u64 0,.int .u64 0,.int .i64 0]=wcs (xs ++ [endW xs])):=by unfold Hid;rw [wcs_snoc,endW_cl,HLN.out];rfl
 have HO:=hide ho
 clear ho hB hl hownb
 go_enter Tryz.func15,Tryz.ntmps15
 go_wp2_with (first | (at_builtin;refine wpList_appC rfl _ _ 27 rfl 37 i0' (.agg #[.int .u8 0,.string ⟨#[]⟩,.int .i64 0,.int .u64 0,.int .u64 0,.int .i64 0]) 6 56 Tryz.underlying27 hi0 hz0 hz1 hz2 rfl (by decide) (by decide) B0 _ xs.length (wcs xs) rfl (ownR_below (ownR_below HO.out ((Below.refl _ _).alloc (Nat.le_refl _) _)) ((Below.refl _ _).alloc (Nat.le_refl _) _)) (W.heap.size+1) [.int .u8 0,.string ⟨#[]⟩,.int .i64 0,.int .u64 0,.int .u64 0,.int .i64 0] rfl rfl (by rw [← World.size_alloc W (.cells #[.int .u8 0,.string ⟨#[]⟩,.int .i64 0,.int .u64 0,.int .u64 0,.int .i64 0] 37)];exact cells_newC _ [.int .u8 0,.string ⟨#[]⟩,.int .i64 0,.int .u64 0,.int .u64 0,.int .i64 0] _) (by intro u hu;simp at hu;rcases hu with rfl | rfl | rfl | rfl | rfl | rfl <;> rfl) (by have:=HL.out;omega) (by have:=HB.out;simp;omega) ?_;intro v8 w8 O8 D8;rw [HEC.out] at O8;obtain ⟨q,cap,rfl⟩:∃ q cap,v8=.slice (some ⟨q,0,none⟩) (xs.length+1) cap:=(by rcases O8.2 with ⟨_,h⟩ | ⟨g,cap,cur,rfl,_⟩;exact absurd h (by omega);exact ⟨g,cap,rfl⟩);have HO8:=hide O8;have HA8:=hide (rd_below HB.out HOB.out D8);clear O8 D8))
 refine (declRows_any _ _).mono ?_
 generalize hW3:World.alloc w8 _=W3
 rintro e w4 ⟨rfl,h4d,h4⟩
 obtain ⟨p,hp⟩:∃ p,p=w8.heap.size:=⟨_,rfl⟩
 obtain ⟨db,hdb⟩:∃ db,db=W3.heap.size:=⟨_,rfl⟩
 rw [← hp] at h4d
 rw [← hdb] at h4d ⊢
 have hp3:W3.heap[p]? = some (.cells #[.slice (some ⟨q,0,none⟩) (xs.length+1) cap,.int .i64 0,.map none,.map none] 90 (0,0)):=by rw [← hW3,hp];exact heap_alloc_new w8 _
 have hp4:=(h4.block p (Array.getElem?_eq_some_iff.1 hp3).1).trans hp3
 have gc2:=cellA hp4 2
 have gs2:=softA hp4 2
 have HP:=hide hp;have HDB:=hide hdb;have H4D:=hide h4d;have H4:=hide h4;have HW3:=hide hW3;have HP4:=hide hp4
 rw [← hp]
 clear hp hdb h4d h4 hW3 hp3 hp4
 go_wp2_with fail
 refine (stmtRows_any _ _).mono ?_
 rintro e w5 ⟨rfl,h5s,h5⟩
 obtain ⟨sb,hsb⟩:∃ sb,sb=(w4.setCell ⟨p,2,none⟩ (.map (some db))).heap.size:=⟨_,rfl⟩
 rw [← hsb] at h5s ⊢
 have hp5:=(h5.block p (by have:=(Array.getElem?_eq_some_iff.1 HP4.out).1;simp [World.setCell];exact this)).trans (heap_setCell_same (k:=2) HP4.out (.map (some db)))
 have gc3:=cellA hp5 3
 have gs3:=softA hp5 3
 have HSB:=hide hsb;have H5S:=hide h5s;have H5:=hide h5
 clear hsb h5s h5 hp5 gc2 gs2
 go_wp2
 go_ret
 exact rd_done HO8.out HA8.out HL.out HP.out HW3.out.symm HDB.out H4.out H4D.out HSB.out H5.out H5S.out
set_option maxRecDepth 100000 in
set_option maxHeartbeats 4000000 in
theorem readerOf_some {W:World} {B0:Nat} {xs:List (Wd × Nat)} {g n cap0:Nat} {ln:Nat} (ho:OwnW W B0 (.slice (some ⟨g,0,none⟩) n cap0) xs) (hB:B0≤W.heap.size) (hl:xs.length≤65536) (hn:n=xs.length) (hz:0 < n) (hlnx:lastLn xs=ln) (hcell:W.cell? ⟨g,(n - 1) * 6+5,none⟩=some (.int .i64 (ln:Int))) (hgl:g < W.heap.size):Calls Tryz.prog 15 #[.slice (some ⟨g,0,none⟩) n cap0] W fun e w'=>RdPost B0 W xs e w':=by
 obtain ⟨i0',hi0,hz0,hz1,hz2⟩:=info_parts Tryz.infowordN
 have hownb:∀ b,(.slice (some ⟨g,0,none⟩) n cap0:Value).ownBlock=some b→B0≤b:=fun b hb=>(World.ownsRow.lt ho b hb).1
 have HOB:=hide hownb
 have HB:=hide hB
 have HL:=hide hl
 have HLN:=hide hlnx
 have hnI:(0:Int) < (n:Int):=by omega
 have hsub:IntKind.i64.wrap ((n:Int) - 1)=((n - 1:Nat):Int):=by rw [IntKind.wrap_i64];omega
 have hidx:((n - 1:Nat):Int) < (n:Int):=by omega
 have hca:∀ o,(W.alloc o).cell? ⟨g,(n - 1) * 6+5,none⟩=some (.int .i64 (ln:Int)):=fun o=>(World.cell?_alloc_lt _ _ _ hgl).trans hcell
 have hne:¬ (g=W.heap.size):=by omega
 have HNX:=hide hn
 clear hlnx hcell hn
 have HEC:Hid (wcs xs ++ [.int .u8 0,.string ⟨#[]⟩,.int .i64 0,.int .u64 0,.int .u64 0,.int .i64 (ln:Int)]=wcs (xs ++ [endW xs])):=by unfold Hid;rw [wcs_snoc,endW_cl,HLN.out]
 have HO:=hide ho
 clear ho hB hl hownb
 go_enter Tryz.func15,Tryz.ntmps15
 go_wp2_with (first | (at_builtin;refine wpList_appC rfl _ _ 27 rfl 37 i0' (.agg #[.int .u8 0,.string ⟨#[]⟩,.int .i64 0,.int .u64 0,.int .u64 0,.int .i64 0]) 6 56 Tryz.underlying27 hi0 hz0 hz1 hz2 rfl (by decide) (by decide) B0 _ xs.length (wcs xs) rfl (ownR_below (ownR_below HO.out ((Below.refl _ _).alloc (Nat.le_refl _) _)) ((Below.refl _ _).alloc (Nat.le_refl _) _)) (W.heap.size+1) [.int .u8 0,.string ⟨#[]⟩,.int .i64 0,.int .u64 0,.int .u64 0,.int .i64 (ln:Int)] rfl rfl (by rw [← World.size_alloc W (.cells #[.int .u8 0,.string ⟨#[]⟩,.int .i64 0,.int .u64 0,.int .u64 0,.int .i64 (ln:Int)] 37)];exact cells_newC _ [.int .u8 0,.string ⟨#[]⟩,.int .i64 0,.int .u64 0,.int .u64 0,.int .i64 (ln:Int)] _) (by intro u hu;simp at hu;rcases hu with rfl | rfl | rfl | rfl | rfl | rfl <;> rfl) (by have:=HL.out;omega) (by have:=HB.out;simp;omega) ?_;intro v8 w8 O8 D8;rw [HEC.out] at O8;obtain ⟨q,cap,rfl⟩:∃ q cap,v8=.slice (some ⟨q,0,none⟩) (xs.length+1) cap:=(by rcases O8.2 with ⟨_,h⟩ | ⟨g,cap,cur,rfl,_⟩;exact absurd h (by omega);exact ⟨g,cap,rfl⟩);have HO8:=hide O8;have HA8:=hide (rd_below HB.out HOB.out D8);clear O8 D8))
 refine (declRows_any _ _).mono ?_
 generalize hW3:World.alloc w8 _=W3
 rintro e w4 ⟨rfl,h4d,h4⟩
 obtain ⟨p,hp⟩:∃ p,p=w8.heap.size:=⟨_,rfl⟩
 obtain ⟨db,hdb⟩:∃ db,db=W3.heap.size:=⟨_,rfl⟩
 rw [← hp] at h4d
 rw [← hdb] at h4d ⊢
 have hp3:W3.heap[p]? = some (.cells #[.slice (some ⟨q,0,none⟩) (xs.length+1) cap,.int .i64 0,.map none,.map none] 90 (0,0)):=by rw [← hW3,hp];exact heap_alloc_new w8 _
 have hp4:=(h4.block p (Array.getElem?_eq_some_iff.1 hp3).1).trans hp3
 have gc2:=cellA hp4 2
 have gs2:=softA hp4 2
 have HP:=hide hp;have HDB:=hide hdb;have H4D:=hide h4d;have H4:=hide h4;have HW3:=hide hW3;have HP4:=hide hp4
 rw [← hp]
 clear hp hdb h4d h4 hW3 hp3 hp4
 go_wp2_with fail
 refine (stmtRows_any _ _).mono ?_
 rintro e w5 ⟨rfl,h5s,h5⟩
 obtain ⟨sb,hsb⟩:∃ sb,sb=(w4.setCell ⟨p,2,none⟩ (.map (some db))).heap.size:=⟨_,rfl⟩
 rw [← hsb] at h5s ⊢
 have hp5:=(h5.block p (by have:=(Array.getElem?_eq_some_iff.1 HP4.out).1;simp [World.setCell];exact this)).trans (heap_setCell_same (k:=2) HP4.out (.map (some db)))
 have gc3:=cellA hp5 3
 have gs3:=softA hp5 3
 have HSB:=hide hsb;have H5S:=hide h5s;have H5:=hide h5
 clear hsb h5s h5 hp5 gc2 gs2
 go_wp2
 go_ret
 exact rd_done HO8.out HA8.out HL.out HP.out HW3.out.symm HDB.out H4.out H4D.out HSB.out H5.out H5S.out
theorem readerOf_any {W:World} {B0:Nat} {v:Value} {xs:List (Wd × Nat)} (ho:OwnW W B0 v xs) (hB:B0≤W.heap.size) (hl:xs.length≤65536):Calls Tryz.prog 15 #[v] W fun e w'=>RdPost B0 W xs e w':=by
 have ho':W.ownsRow B0 37 6 v xs.length (wcs xs):=ho
 rcases ho'.2 with ⟨rfl,h0⟩ | ⟨g,cap,cur,rfl,hg,hcur,h1,h2,h3,h4⟩
 ·exact readerOf_nil ho hB hl (List.length_eq_zero_iff.1 h0)
 ·by_cases hz:xs.length=0
  ·have hx:=List.length_eq_zero_iff.1 hz
   have ho2:OwnW W B0 (.slice (some ⟨g,0,none⟩) 0 cap) xs:=by rw [hz] at ho;exact ho
   rw [hz]
   exact readerOf_zero ho2 hB hl hx
  ·have hlast:∃ x,xs.getLast? = some x∧xs[xs.length - 1]? = some x:=by
    rw [List.getLast?_eq_getElem?]
    exact ⟨xs[xs.length - 1],List.getElem?_eq_getElem (by omega),List.getElem?_eq_getElem (by omega)⟩
   obtain ⟨x,hx1,hx2⟩:=hlast
   have hln:lastLn xs=x.2:=by unfold lastLn;rw [hx1]
   obtain ⟨hlt,hxe⟩:=List.getElem?_eq_some_iff.1 hx2
   have hc:=World.ownsRow.cellAt ho' ((xs.length - 1) * 6+5) (by omega)
   rw [wcs_at hlt (by omega),hxe] at hc
   exact readerOf_some ho hB hl rfl (by omega) hln hc (Array.getElem?_eq_some_iff.1 hcur).1
end Go.Proofs.YtabkimknlifdoaaGreatDoor
namespace Go.Proofs.YtabkimknlifdoaaGreatDoor
open Go.RowKit
def prF (dc:Pf Dc):Nat→Pf (List Dc)
 | 0=>fun _ k=>.error k
 | g+1=>fun L k=>match L[k]? with
  | none=>.error k
  | some x=>if x.1.k=0 then .ok ([],k) else (match dc L k with
   | .error e=>.error e
   | .ok (x,k1)=>(match prF dc g L k1 with
    | .error e=>.error e
    | .ok (xs,k2)=>.ok (x :: xs,k2)))
def programP (dc:Pf Dc):Pf (List Dc):=fun L k=>prF dc (L.length+1 - k) L k
theorem prF_end {dc:Pf Dc} {g:Nat} {L:List (Wd × Nat)} {k:Nat} {x:Wd × Nat} (hg:0 < g) (hx:L[k]? = some x) (h:x.1.k=0):prF dc g L k=.ok ([],k):=by
 obtain ⟨g,rfl⟩:∃ g',g=g'+1:=⟨g - 1,by omega⟩
 rw [prF];simp only [hx,h,if_true]
theorem prF_err {dc:Pf Dc} {g e:Nat} {L:List (Wd × Nat)} {k:Nat} {x:Wd × Nat} (hg:0 < g) (hx:L[k]? = some x) (h:¬ x.1.k=0) (hf:dc L k=.error e):prF dc g L k=.error e:=by
 obtain ⟨g,rfl⟩:∃ g',g=g'+1:=⟨g - 1,by omega⟩
 rw [prF];simp only [hx,h,if_false,hf]
theorem prF_go {dc:Pf Dc} {g:Nat} {L:List (Wd × Nat)} {k k1:Nat} {x:Wd × Nat} {d:Dc} {l:List Dc} (hg:0 < g) (hx:L[k]? = some x) (h:¬ x.1.k=0) (hf:dc L k=.ok (d,k1)):preL l (prF dc g L k)=preL (l ++ [d]) (prF dc (g - 1) L k1):=by
 obtain ⟨g,rfl⟩:∃ g',g=g'+1:=⟨g - 1,by omega⟩
 rw [prF];simp only [hx,h,if_false,hf];rw [preL_cons,Nat.add_sub_cancel]
 cases prF dc g L k1 with
 | error e=>rfl
 | ok y=>rfl
theorem Tryz.infodeclN:(Tryz.prog.info? 69).map (fun i=>(i.zero,i.size,i.bytes))=some (some (.agg #[.int .u8 0,.string ⟨#[]⟩,.slice none 0 0,.int .i64 0,.int .i64 0,.int .i64 0,.int .i64 0,.slice none 0 0,.slice none 0 0,.slice none 0 0,.string ⟨#[]⟩,.slice none 0 0,.slice none 0 0,.slice none 0 0,.int .i64 0]),15,248):=by kernel_rfl
set_option maxRecDepth 100000 in
set_option maxHeartbeats 4000000 in
theorem program_ok {p q:Nat} {L:List (Wd × Nat)} {dm sm:Value} {I:World→Prop} {f:Pf Dc} (hI:Stb I p q L dm sm) (hgo:Goes f) (HTh:PfI I 31 #[.pointer (some ⟨p,0,none⟩)] p q L dm sm 0 f DeclR) :
  PfI I 18 #[.pointer (some ⟨p,0,none⟩)] p q L dm sm 0 (programP f) (ListR DeclR mkAgg 15):=by
 intro w k hk h hi
 obtain ⟨i0',hi0,hz0,hz1,hz2⟩:=info_parts Tryz.infodeclN
 have hsm:=h.sml
 have hkl:=h.kl
 have HLS:Hid (Lp DeclR mkAgg 15 69 w w p q L dm sm k 0 (.slice none 0 0) [] []):=Lp.start h
 have HN:=hide (fun W k' (r:Rp w W p q L k' dm sm)=>HTh W k' (Nat.zero_le _) r.here (hI w W k' r hi))
 have HSM:=hide hsm
 have HGO:=hide (fun k' x k1 he=>hgo L k' x k1 he)
 have HU:Hid (programP f L k=prF f (L.length+1 - k) L k):=rfl
 obtain ⟨RR,hRR⟩:∃ RR,RR=programP f L k:=⟨_,rfl⟩
 rw [← hRR]
 rw [← hRR] at HU
 clear h hsm hRR hi hk hI hgo HTh
 go_enter Tryz.func18,Tryz.ntmps18
 go_wp2
 go_loopg [3] (L.length+1 - k) (fun g v wr=>∃ (v1:Value) (k' n:Nat) (l:List Dc) (css:List (List Value)),v1=v∧L.length+1≤g+k'∧n≤k'∧Hid (RR=preL l (prF f g L k'))∧Hid (Lp DeclR mkAgg 15 69 w wr p q L dm sm k' n v1 l css))
 case atStart=>exact ⟨_,k,0,[],[],rfl,by omega,Nat.zero_le _,by unfold Hid;rw [preL_nil];exact HU.out,HLS.out⟩
 case round =>
  obtain ⟨v,k',n,l,css,rfl,hg,hn,HQ,HL⟩:=hrel
  have HG:=hide hg
  have HNK:=hide hn
  have hkl':=HL.out.rr.kl
  have hg0:0 < gk:=by omega
  have HG0:=hide hg0
  obtain ⟨x,hx,_⟩:=HL.out.rr.word
  have HA:=hide (ahead_any HL.out.rr.here hx)
  unfold wdV at HA
  obtain ⟨fl0,_,_,_⟩:=fldW (.int .u8 (x.1.k:Int)) (.string (txt x.1.s)) (.int .i64 (x.1.w:Int)) (.int .u64 (wHi x.1.v)) (.int .u64 (wLo x.1.v)) (.int .i64 (x.2:Int))
  clear hg hn hg0 hkl HLS HU
  by_cases hk0:x.1.k=0
  ·have HE:Hid (RR=.ok (l,k')):=by unfold Hid;rw [HQ.out,prF_end HG0.out hx hk0];simp [preL]
   have h0:((x.1.k:Int) == 0)=true:=by rw [hk0];rfl
   have HX:=hide hx
   generalize (x.1.k:Int)=a0 at *
   generalize txt x.1.s=a1 at *
   clear hx hk0 HQ
   go_wp2_with fail
   refine HA.out.mono ?_
   rintro e w1 ⟨rfl,hb⟩
   have L1:=hide (HL.out.go declR_ok (HL.out.rr.here.next hb))
   clear hb
   go_wp2
   go_ret
   exact .inl ⟨l,k',_,HE.out,rfl,L1.out.done declR_ok,L1.out.rr⟩
  ·have HE1:Hid (∀ e,f L k'=.error e→RR=.error e):=fun e he=>by rw [HQ.out,prF_err HG0.out hx hk0 he];rfl
   have HE2:Hid (∀ d k1,f L k'=.ok (d,k1)→RR=preL (l ++ [d]) (prF f (gk - 1) L k1)∧k' < k1):=fun d k1 he=>⟨by rw [HQ.out,prF_go HG0.out hx hk0 he],HGO.out k' d k1 he⟩
   have h0:((x.1.k:Int) == 0)=false:=beq_eq_false_iff_ne.2 (fun e=>hk0 (by omega))
   generalize (x.1.k:Int)=a0 at *
   generalize txt x.1.s=a1 at *
   clear hx hk0 HQ
   go_wp2_with fail
   refine HA.out.mono ?_
   rintro e w1 ⟨rfl,hb⟩
   have L1:=hide (HL.out.go declR_ok (HL.out.rr.here.next hb))
   clear hb HL
   go_wp2_with fail
   refine (HN.out _ _ L1.out.rr).mono ?_
   rintro e w2 (⟨d,k2,v2,h2,rfl,hv,hr⟩ | ⟨k2,h2,rfl,hr⟩)
   ·obtain ⟨z2a,z2b,s2c,n2c,c2c,z2d,z2e,z2f,z2g,s2h,n2h,c2h,s2i,n2i,c2i,s2j,n2j,c2j,z2k,s2l,n2l,c2l,s2m,n2m,c2m,s2n,n2n,c2n,z2o,rfl⟩:=DeclR.form hv
    have H2:=hide (HE2.out _ _ h2)
    have R2:=hide hr
    have O2:=hide (L1.out.go declR_ok hr).own
    have Z2:Hid (w.heap.size≤w2.heap.size):=Nat.le_trans L1.out.rr.fr.size hr.fr.size
    have HSx:Hid (DeclR w2 (Bn w1 w2) (mkAgg [.int .u8 z2a,.string z2b,.slice s2c n2c c2c,.int .i64 z2d,.int .i64 z2e,.int .i64 z2f,.int .i64 z2g,.slice s2h n2h c2h,.slice s2i n2i c2i,.slice s2j n2j c2j,.string z2k,.slice s2l n2l c2l,.slice s2m n2m c2m,.slice s2n n2n c2n,.int .i64 z2o]) d):=hv
    clear hr h2 hv
    go_wp2_with (at_builtin;refine wpList_appC rfl _ _ 23 rfl 69 i0' (.agg #[.int .u8 0,.string ⟨#[]⟩,.slice none 0 0,.int .i64 0,.int .i64 0,.int .i64 0,.int .i64 0,.slice none 0 0,.slice none 0 0,.slice none 0 0,.string ⟨#[]⟩,.slice none 0 0,.slice none 0 0,.slice none 0 0,.int .i64 0]) 15 248 Tryz.underlying23 hi0 hz0 hz1 hz2 rfl (by decide) (by decide) w.heap.size _ n css.flatten rfl (ownR_below O2.out ((Below.refl _ _).alloc (Nat.le_refl _) _)) w2.heap.size [.int .u8 z2a,.string z2b,.slice s2c n2c c2c,.int .i64 z2d,.int .i64 z2e,.int .i64 z2f,.int .i64 z2g,.slice s2h n2h c2h,.slice s2i n2i c2i,.slice s2j n2j c2j,.string z2k,.slice s2l n2l c2l,.slice s2m n2m c2m,.slice s2n n2n c2n,.int .i64 z2o] rfl rfl (cells_newC _ [.int .u8 z2a,.string z2b,.slice s2c n2c c2c,.int .i64 z2d,.int .i64 z2e,.int .i64 z2f,.int .i64 z2g,.slice s2h n2h c2h,.slice s2i n2i c2i,.slice s2j n2j c2j,.string z2k,.slice s2l n2l c2l,.slice s2m n2m c2m,.slice s2n n2n c2n,.int .i64 z2o] _) (by intro u hu;simp at hu;rcases hu with rfl | rfl | rfl | rfl | rfl | rfl | rfl | rfl | rfl | rfl | rfl | rfl | rfl | rfl | rfl <;> rfl) (by have:=HNK.out;have:=HSM.out;omega) (by have:=Z2.out;simp;omega) ?_;intro v8 w8 O8 D8;have L8:=hide (L1.out.step declR_ok R2.out HSx.out rfl O8 D8);clear O8 D8)
    go_roundg (gk - 1)
    case measure=>have:=HG0.out;omega
    case rel=>exact ⟨_,k2,n+1,l ++ [d],_,rfl,by have:=HG.out;have:=H2.out.2;omega,by have:=HNK.out;have:=H2.out.2;omega,H2.out.1,L8.out⟩
   ·have R2:=hide (L1.out.rr.from hr)
    have H2:=hide (HE1.out _ h2)
    clear hr h2
    go_wp2
    exact ⟨rfl,.inr ⟨k2,H2.out,rfl,R2.out⟩⟩
def TOk {α:Type} (F:Nat) (pt:Nat) (rep:Rep α) (deep:Nat) (g:α→TS→TS):Prop:=∀ (W:World) (X:Nat→Prop) (v:Value) (x:α) (S:TS),rep W X v x→¬ X pt→Tl W pt S→Calls Tryz.prog F #[.pointer (some ⟨pt,0,none⟩),v,.int .i64 (deep:Int)] W fun e w'=>e=.returned (.tuple #[])∧Fr (·=pt) W w'∧Tl w' pt (g x S)
theorem Tl.lt {W:World} {pt:Nat} {S:TS} (h:Tl W pt S):pt < W.heap.size:=(Array.getElem?_eq_some_iff.1 h).1
theorem Tl.alloc {W:World} {pt:Nat} {S:TS} (h:Tl W pt S) (o:Obj):Tl (W.alloc o) pt S:=(heap_alloc_old _ _ h.lt).trans h
theorem not_deep {S:TS} {deep:Nat} (h:(addT S deep).2=false):deep≤64:=by
 unfold addT at h
 simp only [Bool.or_eq_false_iff,decide_eq_false_iff_not] at h
 omega
set_option maxRecDepth 100000 in
set_option maxHeartbeats 4000000 in
theorem texprs_ok {pt f deep:Nat} (_:deep≤66) (HX:TOk 71 pt ExR deep (exT f deep)):TOk 121 pt (ListR ExR mkAgg 10) deep (exsT f deep):=by
 intro W X v l S hl hX hT
 obtain ⟨s,c,rfl,hmax,hit⟩:=list_items hl (by decide)
 unfold maxLen at hmax
 have HLR:=hide hl
 have HIT:=hide hit
 have HXX:=hide hX
 have HXk:=hide HX
 have HT0:=hide hT
 obtain ⟨N,hN⟩:∃ N,N=l.length:=⟨_,rfl⟩
 have HNN:=hide hN
 rw [← hN]
 have hmx:N≤9223372036854775807:=by omega
 clear hl hit hX hT hN HX hmax
 go_enter Tryz.func121,Tryz.ntmps121
 go_wp2
 go_loopg [10] N (fun g i wr=>∃ j:Nat,j+g=N∧i=.int .i64 (j:Int)∧Hid (Fr (·=pt) W wr)∧Hid (Tl wr pt ((l.take j).foldl (fun S y=>exT f deep y S) S)))
 case atStart=>exact ⟨0,by omega,rfl,Fr.refl _ _,HT0.out⟩
 case round =>
  obtain ⟨j,hj,rfl,HF,HT⟩:=hrel
  have HJ:=hide hj
  clear hj HT0
  by_cases hlt:j < N
  ·have hjl:j < l.length:=by have:=HNN.out;omega
   have hjI:(j:Int) < (N:Int):=by omega
   have dj:decide (j < N)=true:=by simp;omega
   obtain ⟨b,rfl,hXb,hbl,hel⟩:∃ b,s=some ⟨b,0,none⟩∧X b∧b < W.heap.size∧∀ j (hj:j < l.length),∃ cs,cs.length=10∧ExR W X (mkAgg cs) l[j]∧∀ i (hi:i < cs.length),W.cell? ⟨b,j * 10+i,none⟩=some cs[i]:=by
    rcases HIT.out with h | h
    ·rw [h] at hjl;simp at hjl
    ·exact h
   obtain ⟨cs,hcl,hrep,hcells⟩:=hel j hjl
   have hne:b ≠ pt:=fun e=>HXX.out (by rw [← e];exact hXb)
   have hcells':∀ i (hi:i < cs.length),wr.cell? ⟨b,j * 10+i,none⟩=some cs[i]:=fun i hi=>HF.out.cell (hcells i hi) hne
   have hrep':=rep_fr exRep_ok hrep HF.out HXX.out
   obtain ⟨z4a,z4b,z4c,z4d,z4e,z4f,z4g,z4h,s4i,n4i,c4i,z4j,hv⟩:=ExR.form hrep'
   have hcs:cs=[.int .u8 z4a,.int .i64 z4b,.int .u64 z4c,.int .u64 z4d,.string z4e,.string z4f,.int .i64 z4g,.int .i64 z4h,.slice s4i n4i c4i,.int .i64 z4j]:=by unfold mkAgg at hv;injection hv with hv;have:=congrArg Array.toList hv;simpa using this
   subst hcs
   have HC:=hide hcells'
   have HR:=hide (exRep_ok.frame hrep' (W':=wr.alloc (.cells #[.int .u8 z4a,.int .i64 z4b,.int .u64 z4c,.int .u64 z4d,.string z4e,.string z4f,.int .i64 z4g,.int .i64 z4h,.slice s4i n4i c4i,.int .i64 z4j] 49)) (by rw [World.size_alloc];omega) (fun b hb hl=>heap_alloc_old _ _ hl))
   have HTa:=hide (HT.out.alloc (.cells #[.int .u8 z4a,.int .i64 z4b,.int .u64 z4c,.int .u64 z4d,.string z4e,.string z4f,.int .i64 z4g,.int .i64 z4h,.slice s4i n4i c4i,.int .i64 z4j] 49))
   have HG:Hid ((l.take (j+1)).foldl (fun S y=>exT f deep y S) S=exT f deep l[j] ((l.take j).foldl (fun S y=>exT f deep y S) S)):=by
    unfold Hid;rw [List.take_succ_eq_append_getElem hjl,List.foldl_append];rfl
   generalize hlj:l[j]=y at *
   clear hlj hcells hcells' hrep hrep' hv hcl hel hXb hbl
   go_wp2_with (first | (refine wpList_loadO rfl 49 _ rfl b (j * 10) [.int .u8 z4a,.int .i64 z4b,.int .u64 z4c,.int .u64 z4d,.string z4e,.string z4f,.int .i64 z4g,.int .i64 z4h,.slice s4i n4i c4i,.int .i64 z4j] (by simp [go_sem];try omega) ag_expr sz_expr HC.out ?_))
   refine (HXk.out _ _ _ _ _ HR.out HXX.out HTa.out).mono ?_
   rintro e w2 ⟨rfl,hf,ht⟩
   have HF2:Hid (Fr (·=pt) W w2):=(HF.out.alloc _).trans hf (fun _ _ e=>e)
   have HT2:=hide ht
   clear hf ht
   go_wp2
   go_roundg (gk - 1)
   case measure=>have:=HJ.out;omega
   case rel=>exact ⟨j+1,by have:=HJ.out;omega,by go_num,HF2.out,by unfold Hid;rw [HG.out];exact HT2.out⟩
  ·have dj:decide (j < N)=false:=by simp;omega
   have hjI:¬ ((j:Int) < (N:Int)):=by omega
   have HE:Hid (l.take j=l):=List.take_of_length_le (by have:=HNN.out;omega)
   go_wp2
   go_end0
   refine ⟨rfl,HF.out,?_⟩
   have:=HT.out
   rw [HE.out] at this
   exact this
set_option maxRecDepth 100000 in
set_option maxHeartbeats 4000000 in
theorem texpr_ok {pt f deep:Nat} (hd:deep≤66) (HXs:deep≤64→TOk 121 pt (ListR ExR mkAgg 10) (deep+1) (exsT f (deep+1))):TOk 71 pt ExR deep (exT (f+1) deep):=by
 intro W X v x S hx hX hT
 obtain ⟨z4a,z4b,z4c,z4d,z4e,z4f,z4g,z4h,s4i,n4i,c4i,z4j,rfl⟩:=ExR.form hx
 obtain ⟨va,hva,hargs⟩:=hx.open
 have hv8:va=.slice s4i n4i c4i:=by
  unfold mkAgg exC at hva
  injection hva with hva
  have:=congrArg Array.toList hva
  simp only [List.cons.injEq] at this
  exact this.2.2.2.2.2.2.2.2.1.symm
 subst hv8
 have HT1:=hide (hT.alloc (.cells #[.int .u8 z4a,.int .i64 z4b,.int .u64 z4c,.int .u64 z4d,.string z4e,.string z4f,.int .i64 z4g,.int .i64 z4h,.slice s4i n4i c4i,.int .i64 z4j] 49))
 have HB1:=hide (heap_alloc_new W (.cells #[.int .u8 z4a,.int .i64 z4b,.int .u64 z4c,.int .u64 z4d,.string z4e,.string z4f,.int .i64 z4g,.int .i64 z4h,.slice s4i n4i c4i,.int .i64 z4j] 49))
 have HA1:=hide ((ListR.ok exRep_ok mkAgg 10).frame hargs (W':=W.alloc (.cells #[.int .u8 z4a,.int .i64 z4b,.int .u64 z4c,.int .u64 z4d,.string z4e,.string z4f,.int .i64 z4g,.int .i64 z4h,.slice s4i n4i c4i,.int .i64 z4j] 49)) (by rw [World.size_alloc];omega) (fun b hb hl=>heap_alloc_old _ _ hl))
 have HF1:Hid (Fr (·=pt) W (W.alloc (.cells #[.int .u8 z4a,.int .i64 z4b,.int .u64 z4c,.int .u64 z4d,.string z4e,.string z4f,.int .i64 z4g,.int .i64 z4h,.slice s4i n4i c4i,.int .i64 z4j] 49))):=(Fr.refl _ W).alloc _
 have HXX:=hide hX
 have HLT:=hide hT.lt
 have HAdd:=hide (tadd_any HT1.out deep (by omega))
 have hw:IntKind.i64.wrap ((deep:Int)+1)=((deep+1:Nat):Int):=by rw [IntKind.wrap_i64];omega
 cases hb:(addT S deep).2 with
 | true =>
  rw [hb] at HAdd
  have HG:Hid (exT (f+1) deep x S=addT S deep):=by unfold Hid;rw [exT,hb,if_pos rfl]
  clear hx hX hT hva hargs hb hd HXs
  go_enter Tryz.func71,Tryz.ntmps71
  go_wp2_with fail
  refine HAdd.out.mono ?_
  rintro e w2 ⟨rfl,hf,ht⟩
  have HF2:Hid (Fr (·=pt) W w2):=HF1.out.trans hf (fun _ _ e=>e)
  have HT2:=hide ht
  clear hf ht
  go_wp2
  go_end0
  exact ⟨rfl,HF2.out,by rw [HG.out];exact HT2.out⟩
 | false =>
  rw [hb] at HAdd
  have HG:Hid (exT (f+1) deep x S=exsT f (deep+1) x.args (addT S deep)):=by unfold Hid;rw [exT,hb,if_neg (by decide)];rfl
  have HXk:=hide (HXs (not_deep hb))
  clear hx hX hT hva hargs hb hd HXs
  go_enter Tryz.func71,Tryz.ntmps71
  go_wp2_with fail
  refine HAdd.out.mono ?_
  rintro e w2 ⟨rfl,hf,ht⟩
  have HF2:Hid (Fr (·=pt) W w2):=HF1.out.trans hf (fun _ _ e=>e)
  have HT2:=hide ht
  have HB2:=hide ((hf.block W.heap.size (by rw [World.size_alloc];omega) (fun e=>by have e':W.heap.size=pt:=e;have:=HLT.out;omega)).trans HB1.out)
  have HA2:=hide (rep_fr (ListR.ok exRep_ok mkAgg 10) HA1.out hf HXX.out)
  have g8:=cellA HB2.out 8
  clear hf ht
  go_wp2_with fail
  refine (HXk.out _ _ _ _ _ HA2.out HXX.out HT2.out).mono ?_
  rintro e w3 ⟨rfl,hf,ht⟩
  have HF3:Hid (Fr (·=pt) W w3):=HF2.out.trans hf (fun _ _ e=>e)
  have HT3:=hide ht
  clear hf ht
  go_wp2
  go_end0
  exact ⟨rfl,HF3.out,by rw [HG.out];exact HT3.out⟩
theorem texs_any {pt:Nat}:∀ f deep,f+deep=66→TOk 121 pt (ListR ExR mkAgg 10) deep (exsT f deep) ∨ f=0
 | 0,_,_=>.inr rfl
 | f+1,deep,h=>.inl (texprs_ok (by omega) (texpr_ok (by omega) (fun hd=>(texs_any f (deep+1) (by omega)).resolve_right (by omega))))
theorem tex_any {pt f deep:Nat} (h:f+1+deep=66):TOk 71 pt ExR deep (exT (f+1) deep):=texpr_ok (by omega) (fun hd=>(texs_any f (deep+1) (by omega)).resolve_right (by omega))
end Go.Proofs.YtabkimknlifdoaaGreatDoor
