/- Pieces of the proof: PaSd, PaSe, LM. -/
import Derived.Test.YtabkimknlifdoaaGreatDoorJ14
import Derived.Shelf.Abstract
import Derived.Laws.EntriesVeiled
import Derived.Test.YtabkimknlifdoaaGreatDoorJ6
namespace Go.Proofs.YtabkimknlifdoaaGreatDoor
open Go.RowKit Go.MapKept
def entP (G:Nat):Prop:=∀ (args:Array Value) (w:World),(callFunc G args).run Tryz.prog w=.ok (.enter G args) w
structure Rw (α:Type) where
 key:List UInt8
 g:Nat
 f:Pf α
def mkE {α:Type} (p:Nat):Nat→List (Rw α)→List MapEntry
 | _,[]=>[]
 | i,r :: rs=>{ key:=.string (txt r.key),val:=.func (Fn.func r.g) #[.pointer (some ⟨p,0,none⟩)] #[],born:=i } :: mkE p (i+1) rs
theorem mkE_mem {α:Type} {p:Nat}:∀ {rs:List (Rw α)} {i:Nat} {e:MapEntry},e ∈ mkE p i rs→∃ r ∈ rs,e.key=.string (txt r.key)∧e.val=.func (Fn.func r.g) #[.pointer (some ⟨p,0,none⟩)] #[]
 | [],_,_,h=>by simp [mkE] at h
 | r :: rs,i,e,h=>by
  rcases List.mem_cons.1 h with rfl | h
  ·exact ⟨r,List.mem_cons_self ..,rfl,rfl⟩
  ·obtain ⟨r',h1,h2⟩:=mkE_mem h
   exact ⟨r',List.mem_cons_of_mem _ h1,h2⟩
theorem mkE_has {α:Type} {p:Nat}:∀ {rs:List (Rw α)} {i:Nat} {r:Rw α},r ∈ rs→∃ e ∈ mkE p i rs,e.key=.string (txt r.key)
 | r' :: rs,i,r,h=>by
  rcases List.mem_cons.1 h with rfl | h
  ·exact ⟨_,List.mem_cons_self ..,rfl⟩
  ·obtain ⟨e,h1,h2⟩:=mkE_has (i:=i+1) h
   exact ⟨e,List.mem_cons_of_mem _ h1,h2⟩
def findK {α:Type}:List (Rw α)→List UInt8→Option (Pf α)
 | [],_=>none
 | r :: rs,s=>if s=r.key then some r.f else findK rs s
structure KeysOk {α:Type} (rows:List (Rw α)):Prop where
 nd:rows.Pairwise (fun a b=>a.key ≠ b.key)
 ne:∀ r ∈ rows,r.key ≠ []
theorem findK_yes {α:Type}:∀ {rows:List (Rw α)},rows.Pairwise (fun a b=>a.key ≠ b.key)→∀ r ∈ rows,findK rows r.key=some r.f
 | r' :: rs,hp,r,h=>by
  rw [List.pairwise_cons] at hp
  rcases List.mem_cons.1 h with rfl | h
  ·rw [findK,if_pos rfl]
  ·rw [findK,if_neg (fun e=>hp.1 r h e.symm)]
   exact findK_yes hp.2 r h
theorem findK_no {α:Type}:∀ {rows:List (Rw α)} {s:List UInt8},(∀ r ∈ rows,r.key ≠ s)→findK rows s=none
 | [],_,_=>rfl
 | r :: rs,s,h=>by
  rw [findK,if_neg (fun e=>h r (List.mem_cons_self ..) e.symm)]
  exact findK_no (fun r hr=>h r (List.mem_cons_of_mem _ hr))
theorem look_rows {α:Type} {rows:List (Rw α)} {p sb:Nat} {W:World} {t kt et:TypeId} (hb:W.heap[sb]? = some (.map (mkE p 0 rows).toArray rows.length)) (ht:Tryz.prog.underlying t=some (.map kt et)) (hkt:Tryz.prog.underlying kt=some .string) (T:ByteArray) {zv:Value} (hz:∀ W,(zeroValue et).run Tryz.prog W=.ok zv W) (s:List UInt8) (hT:T=txt s) (hk:KeysOk rows) :
  (∃ r ∈ rows,r.key=s∧findK rows s=some r.f∧(Instr.lookup t (.map (some sb)) (.string T) true).run Tryz.prog W=.ok (.tuple #[.func (Fn.func r.g) #[.pointer (some ⟨p,0,none⟩)] #[],.bool true]) W) ∨ (findK rows s=none∧(Instr.lookup t (.map (some sb)) (.string T) true).run Tryz.prog W=.ok (.tuple #[zv,.bool false]) W):=by
 subst hT
 rcases raw_look (P:=Tryz.prog) hb ht hkt (.string (txt s)) trivial (fun x hx=>by obtain ⟨r,_,e,_⟩:=mkE_mem (by simpa using hx);rw [e];trivial) zv (hz W) with ⟨e,he,h1,h2,_⟩ | ⟨h1,h2,_⟩
 ·obtain ⟨r,hr,e1,e2⟩:=mkE_mem (by simpa using he)
  rw [h1] at e1
  have hs:s=r.key:=by exact txt_inj (Value.string.inj e1)
  refine .inl ⟨r,hr,hs.symm,?_,?_⟩
  ·rw [hs];exact findK_yes hk.nd r hr
  ·rw [h2,e2]
 ·refine .inr ⟨findK_no (fun r hr e=>?_),h2⟩
  obtain ⟨en,hen,e3⟩:=mkE_has (p:=p) (i:=0) hr
  exact h1 en (by simpa using hen) (by rw [e3,e])
def smLn (x:Sm) (ln:Nat):Sm:={ x with line:=ln }
def dcLn (x:Dc) (ln:Nat):Dc:={ x with line:=ln }
theorem smLn_val {W:World} {X:Nat→Prop} {a0 a1 a2 a3 a4 a5 a6 a7 a8:Value} {x:Sm} (h:SmR W X (.agg #[a0,a1,a2,a3,a4,a5,a6,a7,a8]) x) (ln:Nat):SmR W X (.agg #[a0,a1,a2,a3,a4,a5,a6,a7,.int .i64 (ln:Int)]) (smLn x ln):=by
 obtain ⟨va,vb,ve,e,h1,h2,h3⟩:=h.open
 unfold mkAgg smC at e
 injection e with e
 have e:=congrArg Array.toList e
 simp only [List.cons.injEq] at e
 obtain ⟨rfl,rfl,rfl,rfl,rfl,rfl,rfl,rfl,_,_⟩:=e
 exact SmR.mk (x:=smLn x ln) h1 h2 h3
theorem dcLn_val {W:World} {X:Nat→Prop} {a0 a1 a2 a3 a4 a5 a6 a7 a8 a9 b0 b1 b2 b3 b4:Value} {x:Dc} (h:DeclR W X (.agg #[a0,a1,a2,a3,a4,a5,a6,a7,a8,a9,b0,b1,b2,b3,b4]) x) (ln:Nat):DeclR W X (.agg #[a0,a1,a2,a3,a4,a5,a6,a7,a8,a9,b0,b1,b2,b3,.int .i64 (ln:Int)]) (dcLn x ln):=by
 obtain ⟨vf,vs,vk,va,vg,vb,ve,e,h⟩:=h
 unfold mkAgg dcC at e
 injection e with e
 have e:=congrArg Array.toList e
 simp only [List.cons.injEq] at e
 obtain ⟨rfl,rfl,rfl,rfl,rfl,rfl,rfl,rfl,rfl,rfl,rfl,rfl,rfl,rfl,_,_⟩:=e
 exact ⟨_,_,_,_,_,_,_,rfl,⟨h.f,h.s,h.k,h.a,h.g,h.b,h.e⟩⟩
def wordS (L:List (Wd × Nat)) (k:Nat):List UInt8:=match L[k]? with
 | some x=>x.1.s
 | none=>[]
def stmtP (rows:List (Rw Sm)) (sc:Pf Sm):Pf Sm:=fun L k=>match findK rows (wordS L k) with
 | some f=>(f.bind fun s=>Pf.ret (smLn s (lineP L k))) L (k+1)
 | none=>(sc.bind fun s=>Pf.ret (smLn s (lineP L k))) L k
def declP (rows:List (Rw Dc)):Pf Dc:=fun L k=>match findK rows (wordS L k) with
 | some f=>(f.bind fun s=>Pf.ret (dcLn s (lineP L k))) L (k+1)
 | none=>.error k
theorem stmt_yes {rows:List (Rw Sm)} {sc:Pf Sm} {L:List (Wd × Nat)} {k:Nat} {x:Wd × Nat} {ln:Nat} {f:Pf Sm} {RR:Except Nat (Sm × Nat)} (hx:L[k]? = some x) (hln:ln=x.2) (hf:findK rows x.1.s=some f) (h:RR=stmtP rows sc L k):(∀ e,f L (k+1)=.error e→RR=.error e)∧∀ s k1,f L (k+1)=.ok (s,k1)→RR=.ok (smLn s ln,k1):=by
 have e1:wordS L k=x.1.s:=by unfold wordS;rw [hx]
 have e2:lineP L k=ln:=by unfold lineP;rw [hx,hln]
 subst h
 unfold stmtP
 rw [e1,hf]
 simp only [e2]
 exact ⟨fun e he=>bind_err he,fun s k1 he=>bind_ok he⟩
theorem stmt_no {rows:List (Rw Sm)} {sc:Pf Sm} {L:List (Wd × Nat)} {k:Nat} {x:Wd × Nat} {ln:Nat} {RR:Except Nat (Sm × Nat)} (hx:L[k]? = some x) (hln:ln=x.2) (hf:findK rows x.1.s=none) (h:RR=stmtP rows sc L k):(∀ e,sc L k=.error e→RR=.error e)∧∀ s k1,sc L k=.ok (s,k1)→RR=.ok (smLn s ln,k1):=by
 have e1:wordS L k=x.1.s:=by unfold wordS;rw [hx]
 have e2:lineP L k=ln:=by unfold lineP;rw [hx,hln]
 subst h
 unfold stmtP
 rw [e1,hf]
 simp only [e2]
 exact ⟨fun e he=>bind_err he,fun s k1 he=>bind_ok he⟩
theorem dstmt_yes {rows:List (Rw Dc)} {L:List (Wd × Nat)} {k:Nat} {x:Wd × Nat} {ln:Nat} {f:Pf Dc} {RR:Except Nat (Dc × Nat)} (hx:L[k]? = some x) (hln:ln=x.2) (hf:findK rows x.1.s=some f) (h:RR=declP rows L k):(∀ e,f L (k+1)=.error e→RR=.error e)∧∀ s k1,f L (k+1)=.ok (s,k1)→RR=.ok (dcLn s ln,k1):=by
 have e1:wordS L k=x.1.s:=by unfold wordS;rw [hx]
 have e2:lineP L k=ln:=by unfold lineP;rw [hx,hln]
 subst h
 unfold declP
 rw [e1,hf]
 simp only [e2]
 exact ⟨fun e he=>bind_err he,fun s k1 he=>bind_ok he⟩
theorem dstmt_no {rows:List (Rw Dc)} {L:List (Wd × Nat)} {k:Nat} {x:Wd × Nat} {RR:Except Nat (Dc × Nat)} (hx:L[k]? = some x) (hf:findK rows x.1.s=none) (h:RR=declP rows L k):RR=.error k:=by
 have e1:wordS L k=x.1.s:=by unfold wordS;rw [hx]
 subst h
 unfold declP
 rw [e1,hf]
theorem pass_val {L:List (Wd × Nat)} {k:Nat} {x:Wd × Nat} (hx:L[k]? = some x):passP [x.1.s] L k=.ok ((),k+1):=by
 have:passedP x.1.s L k=true:=by unfold passedP;rw [hx];simp
 rw [passP,this,if_pos rfl];rfl
theorem pass_here {L:List (Wd × Nat)} {k k3:Nat} {x:Wd × Nat} {u:Unit} (hx:L[k]? = some x) (h:passP [x.1.s] L k=.ok (u,k3)):k3=k+1:=by
 rw [pass_val hx] at h
 injection h with h
 injection h with _ h
 exact h.symm
theorem pass_notErr {L:List (Wd × Nat)} {k k3:Nat} {x:Wd × Nat} (hx:L[k]? = some x):¬ passP [x.1.s] L k=.error k3:=by
 rw [pass_val hx];intro h;cases h
set_option maxRecDepth 100000 in
set_option maxHeartbeats 4000000 in
theorem stmt_ok {p q:Nat} {L:List (Wd × Nat)} {dm sm:Value} {I:World→Prop} {k0:Nat} {rows:List (Rw Sm)} {sc:Pf Sm} (hL:OkL L) (hI:Stb I p q L dm sm) (hM:∀ W,I W→∃ sb,sm=.map (some sb)∧W.heap[sb]? = some (.map (mkE p 0 rows).toArray rows.length)) (hkeys:KeysOk rows) (hrows:∀ r ∈ rows,entP r.g∧PfI I r.g #[.pointer (some ⟨p,0,none⟩)] p q L dm sm (k0+1) r.f SmR) (HSc:PfI I 202 #[.pointer (some ⟨p,0,none⟩)] p q L dm sm k0 sc SmR) :
  PfI I 160 #[.pointer (some ⟨p,0,none⟩)] p q L dm sm k0 (stmtP rows sc) SmR:=by
 intro w k hk h hi
 obtain ⟨x,hx,_⟩:=h.word
 have HI:Hid (∀ W k',Rp w W p q L k' dm sm→I W):=fun W k' r=>hI w W k' r hi
 have HL:=hide hL
 have HX:=hide hx
 have HKK:=hide hk
 have HM:=hide hM
 have HKY:=hide hkeys
 have HRW:=hide hrows
 have HSc:=hide HSc
 have S0:=hide (Sp.start h)
 obtain ⟨RR,hRR⟩:∃ RR,RR=stmtP rows sc L k:=⟨_,rfl⟩
 rw [← hRR]
 have Q0:=hide hRR
 have HAh:=hide (fun W (r:Rp w W p q L k dm sm)=>ahead_any r.here hx)
 unfold wdV at HAh
 have HTX:Hid (∃ a1,a1=txt x.1.s):=⟨_,rfl⟩
 obtain ⟨a1,ha1⟩:=HTX.out
 obtain ⟨a0,ha0⟩:∃ a,a=(x.1.k:Int):=⟨_,rfl⟩
 obtain ⟨a2,ha2⟩:∃ a,a=(x.1.w:Int):=⟨_,rfl⟩
 obtain ⟨a3,ha3⟩:∃ a,a=wHi x.1.v:=⟨_,rfl⟩
 obtain ⟨a4,ha4⟩:∃ a,a=wLo x.1.v:=⟨_,rfl⟩
 obtain ⟨ln,hln⟩:∃ a,a=x.2:=⟨_,rfl⟩
 rw [← ha0,← ha1,← ha2,← ha3,← ha4,← hln] at HAh
 have HA1:=hide ha1
 have HLN:=hide hln
 clear hRR h hi hk hL hI hx hM hkeys hrows ha0 ha1 ha2 ha3 ha4 hln HTX
 go_enter Tryz.func160,Tryz.ntmps160
 have C1:Hid (Sp w _ p q L k dm sm [(w.heap.size,.cells #[.int .u8 0,.string ⟨#[]⟩,.string ⟨#[]⟩,.string ⟨#[]⟩,.int .i64 0,.slice none 0 0,.slice none 0 0,.slice none 0 0,.int .i64 0] 72 (0,0))] _):=S0.out.alloc #[.int .u8 0,.string ⟨#[]⟩,.string ⟨#[]⟩,.string ⟨#[]⟩,.int .i64 0,.slice none 0 0,.slice none 0 0,.slice none 0 0,.int .i64 0] 72 w.heap.size rfl
 go_wp2_with fail
 refine (HAh.out _ C1.out.rr).mono ?_
 rintro e w1 ⟨rfl,hb⟩
 have S1:=hide (C1.out.go (C1.out.rr.here.next hb))
 clear hb C1
 have C2:Hid (Sp w _ p q L k dm sm [(w1.heap.size,.cells #[.int .u8 a0,.string a1,.int .i64 a2,.int .u64 a3,.int .u64 a4,.int .i64 (ln:Int)] 37 (0,0)),(w.heap.size,.cells #[.int .u8 0,.string ⟨#[]⟩,.string ⟨#[]⟩,.string ⟨#[]⟩,.int .i64 0,.slice none 0 0,.slice none 0 0,.slice none 0 0,.int .i64 0] 72 (0,0))] _):=S1.out.alloc #[.int .u8 a0,.string a1,.int .i64 a2,.int .u64 a3,.int .u64 a4,.int .i64 (ln:Int)] 37 w1.heap.size rfl
 have D2:=hide C2.out.drew
 obtain ⟨cap,_,pc0,pc1,pc2,pc3,fz⟩:=C2.out.rr.cells
 have gw:=cellA C2.out.b0 1
 obtain ⟨sb,hmv,hmap⟩:=HM.out _ (HI.out _ _ D2.out.rr)
 rw [hmv] at pc3
 clear pc0 pc1 pc2 fz hmv
 have hlk:=look_rows hmap Tryz.underlying88 Tryz.underlying9 a1 (zv:=.nilFunc) (fun W=>rfl) x.1.s HA1.out HKY.out
 rcases hlk with ⟨r,hr,hkey,hfk,hl⟩ | ⟨hno,hl⟩
 ·obtain ⟨hent,hpf⟩:=HRW.out r hr
  unfold entP at hent
  have HPF:=hide hpf
  have HNE:Hid (x.1.s ≠ []):=by unfold Hid;rw [← hkey];exact HKY.out.ne r hr
  have Q1:=hide (stmt_yes HX.out HLN.out hfk Q0.out)
  clear hr hkey hfk hpf hmap
  go_wp2
  go_region
  all_goals
   have gw3:=cellA D2.out.b0 1
   go_wp2_with fail
   refine (pass_lay D2.out.rr HL.out [x.1.s] (by intro l hl;simp at hl;subst hl;exact HNE.out) (by simp) #[.string a1] (by rw [HA1.out];rfl) 9 _ 1 (by first | rfl | simp | simp [World.size_alloc] | simp [World.drew] | simp [World.drew,World.size_alloc]) rfl).mono ?_
   rintro e w3 (⟨x3,k3,v,h3,rfl,hv,hr⟩ | ⟨k3,h3,rfl,hr⟩)
   ·obtain rfl:v=.tuple #[]:=hv
    have S3:=hide (D2.out.go hr)
    obtain rfl:k3=k+1:=pass_here HX.out h3
    clear hr h3
    go_wp2_with fail
    refine (HPF.out _ _ (Nat.succ_le_succ HKK.out) S3.out.rr.here (HI.out _ _ S3.out.rr)).mono ?_
    rintro e w4 (⟨x4,k4,v,h4,rfl,hv,hr⟩ | ⟨k4,h4,rfl,hr⟩)
    ·obtain ⟨z4a,z4b,z4c,z4d,z4e,s4f,n4f,c4f,s4g,n4g,c4g,s4h,n4h,c4h,z4i,rfl⟩:=SmR.form hv
     have S4:=hide (S3.out.call smRep_ok hr hv)
     have Q4:=hide (Q1.out.2 _ _ h4)
     clear hr h4 hv
     have C4:Hid (Sp w _ p q L k4 dm sm [(w4.heap.size,.cells #[.int .u8 z4a,.string z4b,.string z4c,.string z4d,.int .i64 z4e,.slice s4f n4f c4f,.slice s4g n4g c4g,.slice s4h n4h c4h,.int .i64 z4i] 72 (0,0)),(w1.heap.size,.cells #[.int .u8 a0,.string a1,.int .i64 a2,.int .u64 a3,.int .u64 a4,.int .i64 (ln:Int)] 37 (0,0)),(w.heap.size,.cells #[.int .u8 0,.string ⟨#[]⟩,.string ⟨#[]⟩,.string ⟨#[]⟩,.int .i64 0,.slice none 0 0,.slice none 0 0,.slice none 0 0,.int .i64 0] 72 (0,0))] _):=S4.out.alloc #[.int .u8 z4a,.string z4b,.string z4c,.string z4d,.int .i64 z4e,.slice s4f n4f c4f,.slice s4g n4g c4g,.slice s4h n4h c4h,.int .i64 z4i] 72 w4.heap.size rfl
     have gc1:=cellA C4.out.b1 5
     have gc2:=cellA C4.out.b0 8;have gs2:=softA C4.out.b0 8
     have C5:Hid (Sp w _ p q L k4 dm sm [(w4.heap.size,.cells #[.int .u8 z4a,.string z4b,.string z4c,.string z4d,.int .i64 z4e,.slice s4f n4f c4f,.slice s4g n4g c4g,.slice s4h n4h c4h,.int .i64 (ln:Int)] 72 (0,0)),(w1.heap.size,.cells #[.int .u8 a0,.string a1,.int .i64 a2,.int .u64 a3,.int .u64 a4,.int .i64 (ln:Int)] 37 (0,0)),(w.heap.size,.cells #[.int .u8 0,.string ⟨#[]⟩,.string ⟨#[]⟩,.string ⟨#[]⟩,.int .i64 0,.slice none 0 0,.slice none 0 0,.slice none 0 0,.int .i64 0] 72 (0,0))] _):=S4.out.alloc #[.int .u8 z4a,.string z4b,.string z4c,.string z4d,.int .i64 z4e,.slice s4f n4f c4f,.slice s4g n4g c4g,.slice s4h n4h c4h,.int .i64 (ln:Int)] 72 w4.heap.size rfl
     have XL:Hid (∀ W,SmR W (Bn w W) (.agg #[.int .u8 z4a,.string z4b,.string z4c,.string z4d,.int .i64 z4e,.slice s4f n4f c4f,.slice s4g n4g c4g,.slice s4h n4h c4h,.int .i64 z4i]) x4→SmR W (Bn w W) (.agg #[.int .u8 z4a,.string z4b,.string z4c,.string z4d,.int .i64 z4e,.slice s4f n4f c4f,.slice s4g n4g c4g,.slice s4h n4h c4h,.int .i64 (ln:Int)]) (smLn x4 ln)):=fun W h=>smLn_val h ln
     go_wp2_with (first | (refine wpList_loadA rfl 72 _ rfl _ [.int .u8 z4a,.string z4b,.string z4c,.string z4d,.int .i64 z4e,.slice s4f n4f c4f,.slice s4g n4g c4g,.slice s4h n4h c4h,.int .i64 (ln:Int)] 72 rfl ag_stmt sz_stmt C5.out.b0 ?_) | (refine wpList_storeA rfl 72 _ _ rfl _ [.int .u8 z4a,.string z4b,.string z4c,.string z4d,.int .i64 z4e,.slice s4f n4f c4f,.slice s4g n4g c4g,.slice s4h n4h c4h,.int .i64 (ln:Int)] #[.int .u8 0,.string ⟨#[]⟩,.string ⟨#[]⟩,.string ⟨#[]⟩,.int .i64 0,.slice none 0 0,.slice none 0 0,.slice none 0 0,.int .i64 0] 72 rfl rfl sz_stmt C5.out.b2 rfl (by intro u hu;simp at hu;rcases hu with rfl | rfl | rfl | rfl | rfl | rfl | rfl | rfl | rfl <;> rfl) ?_;intro w9 hw9;have HW9:=hide hw9;clear hw9))
     have SF:=C5.out.fill2 [.int .u8 z4a,.string z4b,.string z4c,.string z4d,.int .i64 z4e,.slice s4f n4f c4f,.slice s4g n4g c4g,.slice s4h n4h c4h,.int .i64 (ln:Int)] rfl
     rw [← HW9.out] at SF
     exact bodyPost_ret (res_cell (cs:=[.int .u8 z4a,.string z4b,.string z4c,.string z4d,.int .i64 z4e,.slice s4f n4f c4f,.slice s4g n4g c4g,.slice s4h n4h c4h,.int .i64 (ln:Int)]) (e:=72) Tryz.results160 rfl ag_stmt sz_stmt SF.b2) rfl (.inl ⟨_,_,_,Q4.out,rfl,XL.out _ SF.fin.1,SF.rr⟩)
    ·have R4:=hide (S3.out.rr.from hr)
     have Q4:=hide (Q1.out.1 _ h4)
     clear hr h4
     go_wp2
     exact ⟨rfl,.inr ⟨_,Q4.out,rfl,R4.out⟩⟩
   ·exact absurd h3 (pass_notErr HX.out)
 ·have Q1:=hide (stmt_no HX.out HLN.out hno Q0.out)
  clear hno hmap
  go_wp2
  go_region
  all_goals
   go_wp2_with fail
   refine (HSc.out _ _ HKK.out D2.out.rr.here (HI.out _ _ D2.out.rr)).mono ?_
   rintro e w4 (⟨x4,k4,v,h4,rfl,hv,hr⟩ | ⟨k4,h4,rfl,hr⟩)
   ·obtain ⟨z4a,z4b,z4c,z4d,z4e,s4f,n4f,c4f,s4g,n4g,c4g,s4h,n4h,c4h,z4i,rfl⟩:=SmR.form hv
    have S4:=hide (D2.out.call smRep_ok hr hv)
    have Q4:=hide (Q1.out.2 _ _ h4)
    clear hr h4 hv
    have C4:Hid (Sp w _ p q L k4 dm sm [(w4.heap.size,.cells #[.int .u8 z4a,.string z4b,.string z4c,.string z4d,.int .i64 z4e,.slice s4f n4f c4f,.slice s4g n4g c4g,.slice s4h n4h c4h,.int .i64 z4i] 72 (0,0)),(w1.heap.size,.cells #[.int .u8 a0,.string a1,.int .i64 a2,.int .u64 a3,.int .u64 a4,.int .i64 (ln:Int)] 37 (0,0)),(w.heap.size,.cells #[.int .u8 0,.string ⟨#[]⟩,.string ⟨#[]⟩,.string ⟨#[]⟩,.int .i64 0,.slice none 0 0,.slice none 0 0,.slice none 0 0,.int .i64 0] 72 (0,0))] _):=S4.out.alloc #[.int .u8 z4a,.string z4b,.string z4c,.string z4d,.int .i64 z4e,.slice s4f n4f c4f,.slice s4g n4g c4g,.slice s4h n4h c4h,.int .i64 z4i] 72 w4.heap.size rfl
    have gc1:=cellA C4.out.b1 5
    have gc2:=cellA C4.out.b0 8;have gs2:=softA C4.out.b0 8
    have C5:Hid (Sp w _ p q L k4 dm sm [(w4.heap.size,.cells #[.int .u8 z4a,.string z4b,.string z4c,.string z4d,.int .i64 z4e,.slice s4f n4f c4f,.slice s4g n4g c4g,.slice s4h n4h c4h,.int .i64 (ln:Int)] 72 (0,0)),(w1.heap.size,.cells #[.int .u8 a0,.string a1,.int .i64 a2,.int .u64 a3,.int .u64 a4,.int .i64 (ln:Int)] 37 (0,0)),(w.heap.size,.cells #[.int .u8 0,.string ⟨#[]⟩,.string ⟨#[]⟩,.string ⟨#[]⟩,.int .i64 0,.slice none 0 0,.slice none 0 0,.slice none 0 0,.int .i64 0] 72 (0,0))] _):=S4.out.alloc #[.int .u8 z4a,.string z4b,.string z4c,.string z4d,.int .i64 z4e,.slice s4f n4f c4f,.slice s4g n4g c4g,.slice s4h n4h c4h,.int .i64 (ln:Int)] 72 w4.heap.size rfl
    have XL:Hid (∀ W,SmR W (Bn w W) (.agg #[.int .u8 z4a,.string z4b,.string z4c,.string z4d,.int .i64 z4e,.slice s4f n4f c4f,.slice s4g n4g c4g,.slice s4h n4h c4h,.int .i64 z4i]) x4→SmR W (Bn w W) (.agg #[.int .u8 z4a,.string z4b,.string z4c,.string z4d,.int .i64 z4e,.slice s4f n4f c4f,.slice s4g n4g c4g,.slice s4h n4h c4h,.int .i64 (ln:Int)]) (smLn x4 ln)):=fun W h=>smLn_val h ln
    go_wp2_with (first | (refine wpList_loadA rfl 72 _ rfl _ [.int .u8 z4a,.string z4b,.string z4c,.string z4d,.int .i64 z4e,.slice s4f n4f c4f,.slice s4g n4g c4g,.slice s4h n4h c4h,.int .i64 (ln:Int)] 72 rfl ag_stmt sz_stmt C5.out.b0 ?_) | (refine wpList_storeA rfl 72 _ _ rfl _ [.int .u8 z4a,.string z4b,.string z4c,.string z4d,.int .i64 z4e,.slice s4f n4f c4f,.slice s4g n4g c4g,.slice s4h n4h c4h,.int .i64 (ln:Int)] #[.int .u8 0,.string ⟨#[]⟩,.string ⟨#[]⟩,.string ⟨#[]⟩,.int .i64 0,.slice none 0 0,.slice none 0 0,.slice none 0 0,.int .i64 0] 72 rfl rfl sz_stmt C5.out.b2 rfl (by intro u hu;simp at hu;rcases hu with rfl | rfl | rfl | rfl | rfl | rfl | rfl | rfl | rfl <;> rfl) ?_;intro w9 hw9;have HW9:=hide hw9;clear hw9))
    have SF:=C5.out.fill2 [.int .u8 z4a,.string z4b,.string z4c,.string z4d,.int .i64 z4e,.slice s4f n4f c4f,.slice s4g n4g c4g,.slice s4h n4h c4h,.int .i64 (ln:Int)] rfl
    rw [← HW9.out] at SF
    exact bodyPost_ret (res_cell (cs:=[.int .u8 z4a,.string z4b,.string z4c,.string z4d,.int .i64 z4e,.slice s4f n4f c4f,.slice s4g n4g c4g,.slice s4h n4h c4h,.int .i64 (ln:Int)]) (e:=72) Tryz.results160 rfl ag_stmt sz_stmt SF.b2) rfl (.inl ⟨_,_,_,Q4.out,rfl,XL.out _ SF.fin.1,SF.rr⟩)
   ·have R4:=hide (D2.out.rr.from hr)
    have Q4:=hide (Q1.out.1 _ h4)
    clear hr h4
    go_wp2
    exact ⟨rfl,.inr ⟨_,Q4.out,rfl,R4.out⟩⟩
set_option maxRecDepth 100000 in
set_option maxHeartbeats 4000000 in
theorem decl_ok {p q:Nat} {L:List (Wd × Nat)} {dm sm:Value} {I:World→Prop} {k0:Nat} {rows:List (Rw Dc)} (hL:OkL L) (hI:Stb I p q L dm sm) (hM:∀ W,I W→∃ sb,dm=.map (some sb)∧W.heap[sb]? = some (.map (mkE p 0 rows).toArray rows.length)) (hkeys:KeysOk rows) (hrows:∀ r ∈ rows,entP r.g∧PfI I r.g #[.pointer (some ⟨p,0,none⟩)] p q L dm sm (k0+1) r.f DeclR) :
  PfI I 31 #[.pointer (some ⟨p,0,none⟩)] p q L dm sm k0 (declP rows) DeclR:=by
 intro w k hk h hi
 obtain ⟨x,hx,_⟩:=h.word
 have HI:Hid (∀ W k',Rp w W p q L k' dm sm→I W):=fun W k' r=>hI w W k' r hi
 have HL:=hide hL
 have HX:=hide hx
 have HKK:=hide hk
 have HM:=hide hM
 have HKY:=hide hkeys
 have HRW:=hide hrows
 have S0:=hide (Sp.start h)
 obtain ⟨RR,hRR⟩:∃ RR,RR=declP rows L k:=⟨_,rfl⟩
 rw [← hRR]
 have Q0:=hide hRR
 have HAh:=hide (fun W (r:Rp w W p q L k dm sm)=>ahead_any r.here hx)
 unfold wdV at HAh
 have HTX:Hid (∃ a1,a1=txt x.1.s):=⟨_,rfl⟩
 obtain ⟨a1,ha1⟩:=HTX.out
 obtain ⟨a0,ha0⟩:∃ a,a=(x.1.k:Int):=⟨_,rfl⟩
 obtain ⟨a2,ha2⟩:∃ a,a=(x.1.w:Int):=⟨_,rfl⟩
 obtain ⟨a3,ha3⟩:∃ a,a=wHi x.1.v:=⟨_,rfl⟩
 obtain ⟨a4,ha4⟩:∃ a,a=wLo x.1.v:=⟨_,rfl⟩
 obtain ⟨ln,hln⟩:∃ a,a=x.2:=⟨_,rfl⟩
 rw [← ha0,← ha1,← ha2,← ha3,← ha4,← hln] at HAh
 have HA1:=hide ha1
 have HLN:=hide hln
 clear hRR h hi hk hL hI hx hM hkeys hrows ha0 ha1 ha2 ha3 ha4 hln HTX
 go_enter Tryz.func31,Tryz.ntmps31
 have C1:Hid (Sp w _ p q L k dm sm [(w.heap.size,.cells #[.int .u8 0,.string ⟨#[]⟩,.slice none 0 0,.int .i64 0,.int .i64 0,.int .i64 0,.int .i64 0,.slice none 0 0,.slice none 0 0,.slice none 0 0,.string ⟨#[]⟩,.slice none 0 0,.slice none 0 0,.slice none 0 0,.int .i64 0] 69 (0,0))] _):=S0.out.alloc #[.int .u8 0,.string ⟨#[]⟩,.slice none 0 0,.int .i64 0,.int .i64 0,.int .i64 0,.int .i64 0,.slice none 0 0,.slice none 0 0,.slice none 0 0,.string ⟨#[]⟩,.slice none 0 0,.slice none 0 0,.slice none 0 0,.int .i64 0] 69 w.heap.size rfl
 go_wp2_with fail
 refine (HAh.out _ C1.out.rr).mono ?_
 rintro e w1 ⟨rfl,hb⟩
 have S1:=hide (C1.out.go (C1.out.rr.here.next hb))
 clear hb C1
 have C2:Hid (Sp w _ p q L k dm sm [(w1.heap.size,.cells #[.int .u8 a0,.string a1,.int .i64 a2,.int .u64 a3,.int .u64 a4,.int .i64 (ln:Int)] 37 (0,0)),(w.heap.size,.cells #[.int .u8 0,.string ⟨#[]⟩,.slice none 0 0,.int .i64 0,.int .i64 0,.int .i64 0,.int .i64 0,.slice none 0 0,.slice none 0 0,.slice none 0 0,.string ⟨#[]⟩,.slice none 0 0,.slice none 0 0,.slice none 0 0,.int .i64 0] 69 (0,0))] _):=S1.out.alloc #[.int .u8 a0,.string a1,.int .i64 a2,.int .u64 a3,.int .u64 a4,.int .i64 (ln:Int)] 37 w1.heap.size rfl
 have D2:=hide C2.out.drew
 obtain ⟨cap,_,pc0,pc1,pc2,pc3,fz⟩:=C2.out.rr.cells
 have gw:=cellA C2.out.b0 1
 obtain ⟨sb,hmv,hmap⟩:=HM.out _ (HI.out _ _ D2.out.rr)
 rw [hmv] at pc2
 clear pc0 pc1 pc3 fz hmv
 have hlk:=look_rows hmap Tryz.underlying87 Tryz.underlying9 a1 (zv:=.nilFunc) (fun W=>rfl) x.1.s HA1.out HKY.out
 rcases hlk with ⟨r,hr,hkey,hfk,hl⟩ | ⟨hno,hl⟩
 ·obtain ⟨hent,hpf⟩:=HRW.out r hr
  unfold entP at hent
  have HPF:=hide hpf
  have HNE:Hid (x.1.s ≠ []):=by unfold Hid;rw [← hkey];exact HKY.out.ne r hr
  have Q1:=hide (dstmt_yes HX.out HLN.out hfk Q0.out)
  clear hr hkey hfk hpf hmap
  go_wp2
  go_region
  all_goals
   go_wp2_with fail
   refine (pmust_yes _).mono ?_
   rintro e w2 ⟨rfl,hw⟩
   subst hw
   have gw3:=cellA D2.out.b0 1
   go_wp2_with fail
   refine (pass_lay D2.out.rr HL.out [x.1.s] (by intro l hl;simp at hl;subst hl;exact HNE.out) (by simp) #[.string a1] (by rw [HA1.out];rfl) 9 _ 1 (by first | rfl | simp | simp [World.size_alloc] | simp [World.drew] | simp [World.drew,World.size_alloc]) rfl).mono ?_
   rintro e w3 (⟨x3,k3,v,h3,rfl,hv,hr⟩ | ⟨k3,h3,rfl,hr⟩)
   ·obtain rfl:v=.tuple #[]:=hv
    have S3:=hide (D2.out.go hr)
    obtain rfl:k3=k+1:=pass_here HX.out h3
    clear hr h3
    go_wp2_with fail
    refine (HPF.out _ _ (Nat.succ_le_succ HKK.out) S3.out.rr.here (HI.out _ _ S3.out.rr)).mono ?_
    rintro e w4 (⟨x4,k4,v,h4,rfl,hv,hr⟩ | ⟨k4,h4,rfl,hr⟩)
    ·obtain ⟨z4a,z4b,s4c,n4c,c4c,z4d,z4e,z4f,z4g,s4h,n4h,c4h,s4i,n4i,c4i,s4j,n4j,c4j,z4k,s4l,n4l,c4l,s4m,n4m,c4m,s4n,n4n,c4n,z4o,rfl⟩:=DeclR.form hv
     have S4:=hide (S3.out.call declR_ok hr hv)
     have Q4:=hide (Q1.out.2 _ _ h4)
     clear hr h4 hv
     have C4:Hid (Sp w _ p q L k4 dm sm [(w4.heap.size,.cells #[.int .u8 z4a,.string z4b,.slice s4c n4c c4c,.int .i64 z4d,.int .i64 z4e,.int .i64 z4f,.int .i64 z4g,.slice s4h n4h c4h,.slice s4i n4i c4i,.slice s4j n4j c4j,.string z4k,.slice s4l n4l c4l,.slice s4m n4m c4m,.slice s4n n4n c4n,.int .i64 z4o] 69 (0,0)),(w1.heap.size,.cells #[.int .u8 a0,.string a1,.int .i64 a2,.int .u64 a3,.int .u64 a4,.int .i64 (ln:Int)] 37 (0,0)),(w.heap.size,.cells #[.int .u8 0,.string ⟨#[]⟩,.slice none 0 0,.int .i64 0,.int .i64 0,.int .i64 0,.int .i64 0,.slice none 0 0,.slice none 0 0,.slice none 0 0,.string ⟨#[]⟩,.slice none 0 0,.slice none 0 0,.slice none 0 0,.int .i64 0] 69 (0,0))] _):=S4.out.alloc #[.int .u8 z4a,.string z4b,.slice s4c n4c c4c,.int .i64 z4d,.int .i64 z4e,.int .i64 z4f,.int .i64 z4g,.slice s4h n4h c4h,.slice s4i n4i c4i,.slice s4j n4j c4j,.string z4k,.slice s4l n4l c4l,.slice s4m n4m c4m,.slice s4n n4n c4n,.int .i64 z4o] 69 w4.heap.size rfl
     have gc1:=cellA C4.out.b1 5
     have gc2:=cellA C4.out.b0 14;have gs2:=softA C4.out.b0 14
     have C5:Hid (Sp w _ p q L k4 dm sm [(w4.heap.size,.cells #[.int .u8 z4a,.string z4b,.slice s4c n4c c4c,.int .i64 z4d,.int .i64 z4e,.int .i64 z4f,.int .i64 z4g,.slice s4h n4h c4h,.slice s4i n4i c4i,.slice s4j n4j c4j,.string z4k,.slice s4l n4l c4l,.slice s4m n4m c4m,.slice s4n n4n c4n,.int .i64 (ln:Int)] 69 (0,0)),(w1.heap.size,.cells #[.int .u8 a0,.string a1,.int .i64 a2,.int .u64 a3,.int .u64 a4,.int .i64 (ln:Int)] 37 (0,0)),(w.heap.size,.cells #[.int .u8 0,.string ⟨#[]⟩,.slice none 0 0,.int .i64 0,.int .i64 0,.int .i64 0,.int .i64 0,.slice none 0 0,.slice none 0 0,.slice none 0 0,.string ⟨#[]⟩,.slice none 0 0,.slice none 0 0,.slice none 0 0,.int .i64 0] 69 (0,0))] _):=S4.out.alloc #[.int .u8 z4a,.string z4b,.slice s4c n4c c4c,.int .i64 z4d,.int .i64 z4e,.int .i64 z4f,.int .i64 z4g,.slice s4h n4h c4h,.slice s4i n4i c4i,.slice s4j n4j c4j,.string z4k,.slice s4l n4l c4l,.slice s4m n4m c4m,.slice s4n n4n c4n,.int .i64 (ln:Int)] 69 w4.heap.size rfl
     have XL:Hid (∀ W,DeclR W (Bn w W) (.agg #[.int .u8 z4a,.string z4b,.slice s4c n4c c4c,.int .i64 z4d,.int .i64 z4e,.int .i64 z4f,.int .i64 z4g,.slice s4h n4h c4h,.slice s4i n4i c4i,.slice s4j n4j c4j,.string z4k,.slice s4l n4l c4l,.slice s4m n4m c4m,.slice s4n n4n c4n,.int .i64 z4o]) x4→DeclR W (Bn w W) (.agg #[.int .u8 z4a,.string z4b,.slice s4c n4c c4c,.int .i64 z4d,.int .i64 z4e,.int .i64 z4f,.int .i64 z4g,.slice s4h n4h c4h,.slice s4i n4i c4i,.slice s4j n4j c4j,.string z4k,.slice s4l n4l c4l,.slice s4m n4m c4m,.slice s4n n4n c4n,.int .i64 (ln:Int)]) (dcLn x4 ln)):=fun W h=>dcLn_val h ln
     go_wp2_with (first | (refine wpList_loadA rfl 69 _ rfl _ [.int .u8 z4a,.string z4b,.slice s4c n4c c4c,.int .i64 z4d,.int .i64 z4e,.int .i64 z4f,.int .i64 z4g,.slice s4h n4h c4h,.slice s4i n4i c4i,.slice s4j n4j c4j,.string z4k,.slice s4l n4l c4l,.slice s4m n4m c4m,.slice s4n n4n c4n,.int .i64 (ln:Int)] 69 rfl ag_decl sz_decl C5.out.b0 ?_) | (refine wpList_storeA rfl 69 _ _ rfl _ [.int .u8 z4a,.string z4b,.slice s4c n4c c4c,.int .i64 z4d,.int .i64 z4e,.int .i64 z4f,.int .i64 z4g,.slice s4h n4h c4h,.slice s4i n4i c4i,.slice s4j n4j c4j,.string z4k,.slice s4l n4l c4l,.slice s4m n4m c4m,.slice s4n n4n c4n,.int .i64 (ln:Int)] #[.int .u8 0,.string ⟨#[]⟩,.slice none 0 0,.int .i64 0,.int .i64 0,.int .i64 0,.int .i64 0,.slice none 0 0,.slice none 0 0,.slice none 0 0,.string ⟨#[]⟩,.slice none 0 0,.slice none 0 0,.slice none 0 0,.int .i64 0] 69 rfl rfl sz_decl C5.out.b2 rfl (by intro u hu;simp at hu;rcases hu with rfl | rfl | rfl | rfl | rfl | rfl | rfl | rfl | rfl | rfl | rfl | rfl | rfl | rfl | rfl <;> rfl) ?_;intro w9 hw9;have HW9:=hide hw9;clear hw9))
     have SF:=C5.out.fill2 [.int .u8 z4a,.string z4b,.slice s4c n4c c4c,.int .i64 z4d,.int .i64 z4e,.int .i64 z4f,.int .i64 z4g,.slice s4h n4h c4h,.slice s4i n4i c4i,.slice s4j n4j c4j,.string z4k,.slice s4l n4l c4l,.slice s4m n4m c4m,.slice s4n n4n c4n,.int .i64 (ln:Int)] rfl
     rw [← HW9.out] at SF
     exact bodyPost_ret (res_cell (cs:=[.int .u8 z4a,.string z4b,.slice s4c n4c c4c,.int .i64 z4d,.int .i64 z4e,.int .i64 z4f,.int .i64 z4g,.slice s4h n4h c4h,.slice s4i n4i c4i,.slice s4j n4j c4j,.string z4k,.slice s4l n4l c4l,.slice s4m n4m c4m,.slice s4n n4n c4n,.int .i64 (ln:Int)]) (e:=69) Tryz.results31 rfl ag_decl sz_decl SF.b2) rfl (.inl ⟨_,_,_,Q4.out,rfl,XL.out _ SF.fin.1,SF.rr⟩)
    ·have R4:=hide (S3.out.rr.from hr)
     have Q4:=hide (Q1.out.1 _ h4)
     clear hr h4
     go_wp2
     exact ⟨rfl,.inr ⟨_,Q4.out,rfl,R4.out⟩⟩
   ·exact absurd h3 (pass_notErr HX.out)
 ·have Q1:=hide (dstmt_no HX.out hno Q0.out)
  clear hno hmap
  go_wp2
  go_region
  all_goals
   go_wp2_with fail
   refine (pmust_no _).mono ?_
   rintro e w2 ⟨rfl,hw⟩
   subst hw
   go_wp2
   exact ⟨rfl,.inr ⟨_,Q1.out,rfl,D2.out.rr⟩⟩
end Go.Proofs.YtabkimknlifdoaaGreatDoor
namespace Go.Proofs.YtabkimknlifdoaaGreatDoor
open Go.RowKit
theorem wcl_one (x:Wd × Nat):∀ u ∈ wcl x,u.oneCell'=true:=by
 intro u hu
 simp [wcl] at hu
 rcases hu with rfl | rfl | rfl | rfl | rfl | rfl <;> rfl
theorem wdA_c10 (r:List UInt8):c10 (wdA r).2=c10 r:=by
 have h1:=dropW_c10 isW r
 have h2:c10 (r.takeWhile isW)=0:=isW_10
 unfold wdA
 cases hr:r.takeWhile isW with
 | nil =>
  simp only [wd1]
  have hp:=sgn_pre (r.dropWhile isW)
  have hc:=sgn_c10 (r.dropWhile isW)
  have e:=congrArg c10 (List.take_append_drop (sgn (r.dropWhile isW)).length (r.dropWhile isW))
  rw [c10_app,hp.1,hc] at e
  omega
 | cons c l =>
  unfold wd1
  simp only
  split
  ·split
   ·show c10 (r.dropWhile isW)=_;omega
   ·show c10 (r.dropWhile isW)=_;omega
  ·show c10 (r.dropWhile isW)=_;omega
def WordsPost (s:List UInt8) (w:World) (e:Ending) (w':World):Prop:=Below w.heap.size w w' ∧
 ((65536 < s.length∧e=.returned (.tuple #[.slice none 0 0,.int .i64 0,.int .i64 3])) ∨
  (s.length≤65536∧((∃ k:Nat,toks s=.error k∧e=.returned (.tuple #[.slice none 0 0,.int .i64 (k:Int),.int .i64 4])) ∨
   (∃ xs v,toks s=.ok xs∧xs.length≤65536∧OwnW w' w.heap.size v xs∧e=.returned (.tuple #[v,.int .i64 0,.int .i64 0])))))
set_option maxHeartbeats 4000000 in
set_option maxRecDepth 100000 in
theorem words_any (s:List UInt8) (w:World) (hLs:Ls w) (hmx:s.length≤9223372036854775807) :
  Calls Tryz.prog 9 #[.string (txt s)] w fun e w'=>WordsPost s w e w':=by
 unfold WordsPost
 have hsz:=txt_size s
 by_cases hbig:65536 < s.length
 ·have hbI:(65536:Int) < ((txt s).size:Int):=by omega
  generalize txt s=T at *
  have HS:=hide hbig
  clear hbig hsz hLs
  go_enter Tryz.func9,Tryz.ntmps9
  go_wp2
  refine bodyPost_ret (v:=.tuple #[.slice none 0 0,.int .i64 0,.int .i64 3]) (by simp [results,Tryz.results9,go_sem]) rfl ⟨Below.refl _ _,.inl ⟨HS.out,rfl⟩⟩
 ·have hbI:¬ ((65536:Int) < ((txt s).size:Int)):=by omega
  have hle:s.length≤65536:=by omega
  have HLE:=hide hle
  have HLs:=hide hLs
  have hc:=c10_le s
  have HT0:Hid (Tx (w.alloc (.cells #[.string (txt s),.int .i64 0] 59)) w.heap.size s 0):=heap_alloc_new w _
  have HP:Hid (∀ r n W,Tx W w.heap.size r n→r.length≤65536→n+c10 r≤65536→_):=fun r n W h h1 h2=>passIdle_any w.heap.size n r W h (by omega) (by omega)
  have HWd:Hid (∀ r n W,Below w.heap.size w W→Tx W w.heap.size r n→r.length≤65536→n≤65536→_):=fun r n W h0 h h1 h2=>word_any w w.heap.size n r W hLs h0 (Nat.le_refl _) h (by omega) (by omega)
  have HC:Hid (c10 s≤65536):=by unfold Hid;omega
  obtain ⟨i0,hi0,hz0,hz1,hz2⟩:=info_parts infoW
  generalize hTT:txt s=T at *
  clear hTT hbig hsz hLs hle hc hmx
  go_enter Tryz.func9,Tryz.ntmps9
  go_wp2_with fail
  refine (HP.out s 0 _ HT0.out HLE.out (by have:=HC.out;omega)).mono ?_
  rintro e w1 ⟨rfl,⟨n1,ht1,hn1⟩,hf1⟩
  have HI:Hid (Tx w1 w.heap.size (skip s) n1∧n1+c10 (skip s)=0+c10 s∧Below w.heap.size w w1):=⟨ht1,hn1,frB ((Below.refl _ _).alloc (Nat.le_refl _) _) hf1 (Nat.le_refl _)⟩
  clear ht1 hn1 hf1
  go_wp2
  go_loopg [5] (s.length+1) (fun g v wr=>∃ (r:List UInt8) (n:Nat) (acc:List (Wd × Nat)),r.length < g∧Hid (r.length+acc.length≤65536∧n+c10 r≤65536∧Tx wr w.heap.size r n∧OwnW wr (w.heap.size+1) v acc∧Below w.heap.size w wr∧toks s=LR.app acc (tk r n)))
  case atStart =>
   obtain ⟨h1,h2,h3⟩:=HI.out
   have hl:=skip_le s
   refine ⟨skip s,n1,[],by omega,by have:=HLE.out;simp;omega,by have:=HC.out;omega,h1,OwnW.nil _ _,h3,?_⟩
   rw [LR.app_nil]
   unfold toks
   congr 1;omega
  case round =>
   obtain ⟨r,n,acc,hg,HR⟩:=hrel
   obtain ⟨t0,t1,_,_⟩:=HR.out.2.2.1.cells
   by_cases hre:r=[]
   ·have hem:(txt r).toList.isEmpty=true:=by rw [hre,Lib.toList_data,txt_data];rfl
    have HE:Hid (toks s=.ok acc∧acc.length≤65536∧Below w.heap.size w wr):=by
     obtain ⟨a1,a2,a3,a4,a5,a6⟩:=HR.out
     refine ⟨?_,by omega,a5⟩
     rw [a6,hre,tk_nil];simp [LR.app]
    have HO:=hide (HR.out.2.2.2.1.lower (Nat.le_succ _))
    clear HR hre
    generalize txt r=TR at *
    go_wp2
    refine bodyPost_ret (v:=.tuple #[u5,.int .i64 0,.int .i64 0]) (by simp [results,Tryz.results9,go_sem]) rfl ⟨HE.out.2.2,.inr ⟨HLE.out,.inr ⟨acc,u5,HE.out.1,HE.out.2.1,HO.out,rfl⟩⟩⟩
   ·have hem:(txt r).toList.isEmpty=false:=by
     rw [Lib.toList_data,txt_data]
     cases r with
     | nil=>exact absurd rfl hre
     | cons _ _=>rfl
    obtain ⟨a1,a2,a3,a4,a5,a6⟩:=HR.out
    have HW1:=hide (HWd.out r n wr a5 a3 (by omega) (by omega))
    have HTK:=hide a6
    have HOW:=hide a4
    have HBW:=hide a5
    have HA1:=hide a1
    have HA2:=hide a2
    have HRE:=hide hre
    clear HR a1 a2 a3 a4 a5 a6 hre
    generalize txt r=TR at *
    go_wp2_with fail
    refine HW1.out.mono ?_
    rintro e w2 ⟨ok,a,b,c,d,S,hwr,rfl,ht2,hf2⟩
    have HT2:=hide ht2
    have HB2:=hide (frB HBW.out hf2 (Nat.le_refl _))
    have HO2:=hide (HOW.out.fr hf2 (Nat.lt_succ_self _))
    have hlt2:w.heap.size < w2.heap.size:=ht2.lt
    obtain ⟨z0,z1,_,_⟩:=ht2.cells
    rcases hwr with ⟨rfl,x,ho,rfl,rfl,rfl,rfl,rfl⟩ | ⟨rfl,ho⟩
    ·have hwd:wdA r=(some x,(wdA r).2):=by rw [← ho]
     have HN:Hid (toks s=LR.app (acc ++ [(x,n)]) (tk (skip (wdA r).2) (n+c10 (wdA r).2 - c10 (skip (wdA r).2)))):=by
      unfold Hid
      rw [HTK.out,tk_some HRE.out hwd,LR.app_app]
     have hless:=wdA_less hwd
     have hcw:=wdA_c10 r
     have HPI:=hide (fun W h=>HP.out (wdA r).2 n W h (by have:=HA1.out;omega) (by have:=HA2.out;omega))
     have hsk:=skip_le (wdA r).2
     have HLL:Hid ((skip (wdA r).2).length < r.length∧(skip (wdA r).2).length+(acc ++ [(x,n)]).length≤65536):=by
      refine ⟨by omega,?_⟩
      have:=HA1.out
      rw [List.length_append,List.length_singleton];omega
     have HA2':Hid (n+c10 (wdA r).2≤65536):=by unfold Hid;have:=HA2.out;omega
     have hgl:r.length < gk:=hg
     clear ho hwd hless hcw hsk ht2 hf2 HW1 HTK
     generalize (wdA r).2=R2 at *
     unfold wAgg
     go_wp2_with (first
      | (
        at_builtin;refine wpList_append_own_at _ rfl _ _ 27 rfl (w.heap.size+1) 37 i0 (.agg z6) 6 56 Tryz.underlying27 hi0 hz0 hz1 hz2 rfl (by decide) _ acc.length (wcs acc) rfl ((HO2.out.alloc _).alloc _) ⟨w2.heap.size+1,0,none⟩ 1 1 (wcl (x,n)) rfl rfl (by intro j u hj;have:=cells_new6 (w2.alloc (.cells #[.int .u8 (x.k:Int),.string (txt x.s),.int .i64 (x.w:Int),.int .u64 (wHi x.v),.int .u64 (wLo x.v),.int .i64 (n:Int)] 37)) (wcl (x,n)) 37 j u hj;rw [World.size_alloc] at this;exact this) (wcl_one _) (by unfold maxLen;have:=HA1.out;omega) (by have:=HA1.out;omega) (by simp;omega) ?_
        intro v7 w7 O7 G7 _ K7
        have O8:Hid (OwnW w7 (w.heap.size+1) v7 (acc ++ [(x,n)])):=by unfold Hid OwnW;rw [List.length_append,List.length_singleton,wcs_snoc];exact O7
        have hfr:=Fr.grown (E:=fun b=>w.heap.size+1≤b) G7 (fun r er=>(HO2.out.block er).1)
        have T8:Hid (Tx w7 w.heap.size R2 n):=(hfr.block w.heap.size (by simp;omega) (by omega)).trans ((HT2.out.alloc _).alloc _)
        have B8:Hid (Below w.heap.size w w7):=((HB2.out.alloc (by omega) _).alloc (by simp;omega) _).trans (hfr.below (fun b e=>by omega) (by simp;omega))
        clear O7 G7 K7 hfr))
     refine (HPI.out _ T8.out).mono ?_
     rintro e w8 ⟨rfl,⟨n8,ht8,hn8⟩,hf8⟩
     have H8:Hid (Tx w8 w.heap.size (skip R2) n8∧n8+c10 (skip R2)=n+c10 R2∧OwnW w8 (w.heap.size+1) v7 (acc ++ [(x,n)])∧Below w.heap.size w w8):=⟨ht8,hn8,O8.out.fr hf8 (Nat.lt_succ_self _),frB B8.out hf8 (Nat.le_refl _)⟩
     clear ht8 hn8 hf8
     go_wp2
     go_roundg (r.length)
     case measure=>omega
     case rel =>
      obtain ⟨b1,b2,b3,b4⟩:=H8.out
      refine ⟨skip R2,n8,acc ++ [(x,n)],HLL.out.1,HLL.out.2,by have:=HA2'.out;omega,b1,b3,b4,?_⟩
      rw [HN.out]
      congr 2;omega
    ·have hwd:wdA r=(none,(wdA r).2):=by rw [← ho]
     have HN:Hid (toks s=.error n):=by unfold Hid;rw [HTK.out,tk_none HRE.out hwd];rfl
     clear ho hwd ht2 hf2 HW1 HTK
     generalize (wdA r).2=R2 at *
     unfold wAgg
     go_wp2
     go_region
     go_wp2
     refine bodyPost_ret (v:=.tuple #[.slice none 0 0,.int .i64 (n:Int),.int .i64 4]) (by simp [results,Tryz.results9,go_sem]) rfl ⟨?_,.inr ⟨HLE.out,.inl ⟨n,HN.out,rfl⟩⟩⟩
     first | exact (HB2.out.alloc (by omega) _).drew | exact HB2.out.alloc (by omega) _
end Go.Proofs.YtabkimknlifdoaaGreatDoor
