/- Pieces of the proof: PaRf, PaAs, PaLx, PaTa. -/
import Derived.Test.YtabkimknlifdoaaGreatDoorJ15
import Derived.Carry
import Derived.Test.YtabkimknlifdoaaGreatDoorJ7
import Derived.Test.YtabkimknlifdoaaGreatDoorJ14
import Derived.Deep.LoopGhost
namespace Go.Proofs.YtabkimknlifdoaaGreatDoor
open Go.RowKit Go.MapKept
def mkK (p:Nat):Nat→List (List UInt8 × Nat)→List MapEntry
 | _,[]=>[]
 | i,r :: rs=>{ key:=.string (txt r.1),val:=.func (Fn.func r.2) #[.pointer (some ⟨p,0,none⟩)] #[],born:=i } :: mkK p (i+1) rs
theorem mkK_snoc (p:Nat) (k:List UInt8) (G:Nat):∀ (ks:List (List UInt8 × Nat)) (i:Nat),mkK p i (ks ++ [(k,G)])=mkK p i ks ++ [{ key:=.string (txt k),val:=.func (Fn.func G) #[.pointer (some ⟨p,0,none⟩)] #[],born:=i+ks.length }]
 | [],i=>by simp [mkK]
 | r :: rs,i=>by
  rw [List.cons_append,mkK,mkK_snoc p k G rs (i+1),mkK,List.cons_append,List.length_cons]
  congr 4
  omega
theorem mkK_mem {p:Nat}:∀ {ks:List (List UInt8 × Nat)} {i:Nat} {e:MapEntry},e ∈ mkK p i ks→∃ r ∈ ks,e.key=.string (txt r.1)
 | [],_,_,h=>by simp [mkK] at h
 | r :: rs,i,e,h=>by
  rcases List.mem_cons.1 h with rfl | h
  ·exact ⟨r,List.mem_cons_self ..,rfl⟩
  ·obtain ⟨r',h1,h2⟩:=mkK_mem h
   exact ⟨r',List.mem_cons_of_mem _ h1,h2⟩
theorem mkE_mkK {α:Type} (p:Nat):∀ (rows:List (Rw α)) (i:Nat),mkE p i rows=mkK p i (rows.map fun r=>(r.key,r.g))
 | [],_=>rfl
 | r :: rs,i=>by rw [mkE,List.map_cons,mkK,mkE_mkK p rs (i+1)]
theorem wpList_insK {P:Program} {w:World} {ops:Array Oper} {rest:List Oper} {o:Oper} {a:Act} {Q:Exit→Act→World→Prop}
  (hg:o.guard=none) (m x v:Operand) (t:TypeId) (hop:o.op=Op.insert t m x v) {kt et:TypeId} (ht:P.underlying t=some (.map kt et)) (hkt:P.underlying kt=some .string)
  (B:Nat) (ks:List (List UInt8 × Nat)) (hm:a.eval m=.map (some B)) (k:List UInt8) (T:ByteArray) (hT:T=txt k) (hx:a.eval x=.string T) {p:Nat} (G:Nat) (hv:a.eval v=.func (Fn.func G) #[.pointer (some ⟨p,0,none⟩)] #[]) (hb:w.heap[B]? = some (.map (mkK p 0 ks).toArray ks.length)) (hnew:∀ x ∈ ks,x.1 ≠ k)
  (hK:∀ w',w'.heap[B]? = some (.map (mkK p 0 (ks ++ [(k,G)])).toArray (ks ++ [(k,G)]).length)→w.grownBy w' (some B)→wpList P ops Q rest (a.put o.dst undef) w') :
  wpList P ops Q (o :: rest) a w:=by
 subst hT
 refine wpList_insert_raw w hg m x v t hop kt et .string ht hkt B ks.length (mkK p 0 ks).toArray hm (.string (txt k)) hx _ hv hb trivial (fun e he=>?_) (fun w' h1 h2=>hK w' ?_ h2)
 ·obtain ⟨r,hr,e1⟩:=mkK_mem (by simpa using he)
  rw [e1]
  exact ⟨trivial,fun h=>hnew r hr (txt_inj (Value.string.inj h))⟩
 ·rw [h1,mkK_snoc,List.length_append,Nat.zero_add]
  simp
def dKeys:List (List UInt8 × Nat):=[([104,101,97,100,101,114],43),([109,101,116,97],44),([114,101,103,105,115,116,101,114],45),([99,111,117,110,116,101,114],46),([109,101,116,101,114],47),([112,97,114,115,101,114],48),([97,99,116,105,111,110],49),([116,97,98,108,101],50),([99,111,110,116,114,111,108],51),([100,101,112,97,114,115,101,114],52)]
set_option maxRecDepth 100000 in
set_option maxHeartbeats 4000000 in
theorem declRows_any (w:World) (p:Nat):Calls Tryz.prog 29 #[.pointer (some ⟨p,0,none⟩)] w fun e w'=>e=.returned (.map (some w.heap.size))∧w'.heap[w.heap.size]? = some (.map (mkK p 0 dKeys).toArray 10)∧Below w.heap.size w w':=by
 have hmf:∀ (fn:Fn) (first cap:Array Value) (w:World),(Instr.makeFunc fn first cap).run Tryz.prog w=.ok (.func fn first cap) w:=fun _ _ _ _=>rfl
 have hmm:=@run_makeMap Tryz.prog
 have HT0:Hid ((w.alloc (.map #[] 0)).heap[w.heap.size]? = some (.map (mkK p 0 []).toArray ([]:List (List UInt8 × Nat)).length)):=heap_alloc_new w _
 have HF0:Hid (Below w.heap.size w (w.alloc (.map #[] 0))):=(Below.refl _ _).alloc (Nat.le_refl _) _
 have HS:Hid (w.heap.size≤w.heap.size):=Nat.le_refl _
 go_enter Tryz.func29,Tryz.ntmps29
 go_wp2_with (first
  | (refine wpList_insK rfl _ _ _ 87 rfl Tryz.underlying87 Tryz.underlying9 w.heap.size [] rfl [104,101,97,100,101,114] _ rfl rfl 43 rfl HT0.out (by decide) ?_;intro u1 h1 g1;have HT1:=hide h1;have HF1:=hide (HF0.out.grown g1 HF0.out.size (fun r e=>by injection e with e;omega));clear h1 g1)
  | (refine wpList_insK rfl _ _ _ 87 rfl Tryz.underlying87 Tryz.underlying9 w.heap.size [([104,101,97,100,101,114],43)] rfl [109,101,116,97] _ rfl rfl 44 rfl HT1.out (by decide) ?_;intro u2 h2 g2;have HT2:=hide h2;have HF2:=hide (HF1.out.grown g2 HF1.out.size (fun r e=>by injection e with e;omega));clear h2 g2)
  | (refine wpList_insK rfl _ _ _ 87 rfl Tryz.underlying87 Tryz.underlying9 w.heap.size [([104,101,97,100,101,114],43),([109,101,116,97],44)] rfl [114,101,103,105,115,116,101,114] _ rfl rfl 45 rfl HT2.out (by decide) ?_;intro u3 h3 g3;have HT3:=hide h3;have HF3:=hide (HF2.out.grown g3 HF2.out.size (fun r e=>by injection e with e;omega));clear h3 g3)
  | (refine wpList_insK rfl _ _ _ 87 rfl Tryz.underlying87 Tryz.underlying9 w.heap.size [([104,101,97,100,101,114],43),([109,101,116,97],44),([114,101,103,105,115,116,101,114],45)] rfl [99,111,117,110,116,101,114] _ rfl rfl 46 rfl HT3.out (by decide) ?_;intro u4 h4 g4;have HT4:=hide h4;have HF4:=hide (HF3.out.grown g4 HF3.out.size (fun r e=>by injection e with e;omega));clear h4 g4)
  | (refine wpList_insK rfl _ _ _ 87 rfl Tryz.underlying87 Tryz.underlying9 w.heap.size [([104,101,97,100,101,114],43),([109,101,116,97],44),([114,101,103,105,115,116,101,114],45),([99,111,117,110,116,101,114],46)] rfl [109,101,116,101,114] _ rfl rfl 47 rfl HT4.out (by decide) ?_;intro u5 h5 g5;have HT5:=hide h5;have HF5:=hide (HF4.out.grown g5 HF4.out.size (fun r e=>by injection e with e;omega));clear h5 g5)
  | (refine wpList_insK rfl _ _ _ 87 rfl Tryz.underlying87 Tryz.underlying9 w.heap.size [([104,101,97,100,101,114],43),([109,101,116,97],44),([114,101,103,105,115,116,101,114],45),([99,111,117,110,116,101,114],46),([109,101,116,101,114],47)] rfl [112,97,114,115,101,114] _ rfl rfl 48 rfl HT5.out (by decide) ?_;intro u6 h6 g6;have HT6:=hide h6;have HF6:=hide (HF5.out.grown g6 HF5.out.size (fun r e=>by injection e with e;omega));clear h6 g6)
  | (refine wpList_insK rfl _ _ _ 87 rfl Tryz.underlying87 Tryz.underlying9 w.heap.size [([104,101,97,100,101,114],43),([109,101,116,97],44),([114,101,103,105,115,116,101,114],45),([99,111,117,110,116,101,114],46),([109,101,116,101,114],47),([112,97,114,115,101,114],48)] rfl [97,99,116,105,111,110] _ rfl rfl 49 rfl HT6.out (by decide) ?_;intro u7 h7 g7;have HT7:=hide h7;have HF7:=hide (HF6.out.grown g7 HF6.out.size (fun r e=>by injection e with e;omega));clear h7 g7)
  | (refine wpList_insK rfl _ _ _ 87 rfl Tryz.underlying87 Tryz.underlying9 w.heap.size [([104,101,97,100,101,114],43),([109,101,116,97],44),([114,101,103,105,115,116,101,114],45),([99,111,117,110,116,101,114],46),([109,101,116,101,114],47),([112,97,114,115,101,114],48),([97,99,116,105,111,110],49)] rfl [116,97,98,108,101] _ rfl rfl 50 rfl HT7.out (by decide) ?_;intro u8 h8 g8;have HT8:=hide h8;have HF8:=hide (HF7.out.grown g8 HF7.out.size (fun r e=>by injection e with e;omega));clear h8 g8)
  | (refine wpList_insK rfl _ _ _ 87 rfl Tryz.underlying87 Tryz.underlying9 w.heap.size [([104,101,97,100,101,114],43),([109,101,116,97],44),([114,101,103,105,115,116,101,114],45),([99,111,117,110,116,101,114],46),([109,101,116,101,114],47),([112,97,114,115,101,114],48),([97,99,116,105,111,110],49),([116,97,98,108,101],50)] rfl [99,111,110,116,114,111,108] _ rfl rfl 51 rfl HT8.out (by decide) ?_;intro u9 h9 g9;have HT9:=hide h9;have HF9:=hide (HF8.out.grown g9 HF8.out.size (fun r e=>by injection e with e;omega));clear h9 g9)
  | (refine wpList_insK rfl _ _ _ 87 rfl Tryz.underlying87 Tryz.underlying9 w.heap.size [([104,101,97,100,101,114],43),([109,101,116,97],44),([114,101,103,105,115,116,101,114],45),([99,111,117,110,116,101,114],46),([109,101,116,101,114],47),([112,97,114,115,101,114],48),([97,99,116,105,111,110],49),([116,97,98,108,101],50),([99,111,110,116,114,111,108],51)] rfl [100,101,112,97,114,115,101,114] _ rfl rfl 52 rfl HT9.out (by decide) ?_;intro u10 h10 g10;have HT10:=hide h10;have HF10:=hide (HF9.out.grown g10 HF9.out.size (fun r e=>by injection e with e;omega));clear h10 g10))
 go_ret
 exact ⟨rfl,HT10.out,HF10.out⟩
def sKeys:List (List UInt8 × Nat):=[([105,102],53),([97,112,112,108,121],54),([109,97,107,101],55),([103,111,110,101],56),([99,111,117,110,116],57),([114,101,97,100],58),([119,114,105,116,101],59),([109,101,116,101,114],60),([114,97,110,100,111,109],61),([100,114,111,112],62),([97,103,97,105,110],63),([114,111,117,110,100],64),([100,105,103,101,115,116],65),([99,108,111,110,101],66)]
set_option maxRecDepth 100000 in
set_option maxHeartbeats 4000000 in
theorem stmtRows_any (w:World) (p:Nat):Calls Tryz.prog 30 #[.pointer (some ⟨p,0,none⟩)] w fun e w'=>e=.returned (.map (some w.heap.size))∧w'.heap[w.heap.size]? = some (.map (mkK p 0 sKeys).toArray 14)∧Below w.heap.size w w':=by
 have hmf:∀ (fn:Fn) (first cap:Array Value) (w:World),(Instr.makeFunc fn first cap).run Tryz.prog w=.ok (.func fn first cap) w:=fun _ _ _ _=>rfl
 have hmm:=@run_makeMap Tryz.prog
 have HT0:Hid ((w.alloc (.map #[] 0)).heap[w.heap.size]? = some (.map (mkK p 0 []).toArray ([]:List (List UInt8 × Nat)).length)):=heap_alloc_new w _
 have HF0:Hid (Below w.heap.size w (w.alloc (.map #[] 0))):=(Below.refl _ _).alloc (Nat.le_refl _) _
 have HS:Hid (w.heap.size≤w.heap.size):=Nat.le_refl _
 go_enter Tryz.func30,Tryz.ntmps30
 go_wp2_with (first
  | (refine wpList_insK rfl _ _ _ 88 rfl Tryz.underlying88 Tryz.underlying9 w.heap.size [] rfl [105,102] _ rfl rfl 53 rfl HT0.out (by decide) ?_;intro u1 h1 g1;have HT1:=hide h1;have HF1:=hide (HF0.out.grown g1 HF0.out.size (fun r e=>by injection e with e;omega));clear h1 g1)
  | (refine wpList_insK rfl _ _ _ 88 rfl Tryz.underlying88 Tryz.underlying9 w.heap.size [([105,102],53)] rfl [97,112,112,108,121] _ rfl rfl 54 rfl HT1.out (by decide) ?_;intro u2 h2 g2;have HT2:=hide h2;have HF2:=hide (HF1.out.grown g2 HF1.out.size (fun r e=>by injection e with e;omega));clear h2 g2)
  | (refine wpList_insK rfl _ _ _ 88 rfl Tryz.underlying88 Tryz.underlying9 w.heap.size [([105,102],53),([97,112,112,108,121],54)] rfl [109,97,107,101] _ rfl rfl 55 rfl HT2.out (by decide) ?_;intro u3 h3 g3;have HT3:=hide h3;have HF3:=hide (HF2.out.grown g3 HF2.out.size (fun r e=>by injection e with e;omega));clear h3 g3)
  | (refine wpList_insK rfl _ _ _ 88 rfl Tryz.underlying88 Tryz.underlying9 w.heap.size [([105,102],53),([97,112,112,108,121],54),([109,97,107,101],55)] rfl [103,111,110,101] _ rfl rfl 56 rfl HT3.out (by decide) ?_;intro u4 h4 g4;have HT4:=hide h4;have HF4:=hide (HF3.out.grown g4 HF3.out.size (fun r e=>by injection e with e;omega));clear h4 g4)
  | (refine wpList_insK rfl _ _ _ 88 rfl Tryz.underlying88 Tryz.underlying9 w.heap.size [([105,102],53),([97,112,112,108,121],54),([109,97,107,101],55),([103,111,110,101],56)] rfl [99,111,117,110,116] _ rfl rfl 57 rfl HT4.out (by decide) ?_;intro u5 h5 g5;have HT5:=hide h5;have HF5:=hide (HF4.out.grown g5 HF4.out.size (fun r e=>by injection e with e;omega));clear h5 g5)
  | (refine wpList_insK rfl _ _ _ 88 rfl Tryz.underlying88 Tryz.underlying9 w.heap.size [([105,102],53),([97,112,112,108,121],54),([109,97,107,101],55),([103,111,110,101],56),([99,111,117,110,116],57)] rfl [114,101,97,100] _ rfl rfl 58 rfl HT5.out (by decide) ?_;intro u6 h6 g6;have HT6:=hide h6;have HF6:=hide (HF5.out.grown g6 HF5.out.size (fun r e=>by injection e with e;omega));clear h6 g6)
  | (refine wpList_insK rfl _ _ _ 88 rfl Tryz.underlying88 Tryz.underlying9 w.heap.size [([105,102],53),([97,112,112,108,121],54),([109,97,107,101],55),([103,111,110,101],56),([99,111,117,110,116],57),([114,101,97,100],58)] rfl [119,114,105,116,101] _ rfl rfl 59 rfl HT6.out (by decide) ?_;intro u7 h7 g7;have HT7:=hide h7;have HF7:=hide (HF6.out.grown g7 HF6.out.size (fun r e=>by injection e with e;omega));clear h7 g7)
  | (refine wpList_insK rfl _ _ _ 88 rfl Tryz.underlying88 Tryz.underlying9 w.heap.size [([105,102],53),([97,112,112,108,121],54),([109,97,107,101],55),([103,111,110,101],56),([99,111,117,110,116],57),([114,101,97,100],58),([119,114,105,116,101],59)] rfl [109,101,116,101,114] _ rfl rfl 60 rfl HT7.out (by decide) ?_;intro u8 h8 g8;have HT8:=hide h8;have HF8:=hide (HF7.out.grown g8 HF7.out.size (fun r e=>by injection e with e;omega));clear h8 g8)
  | (refine wpList_insK rfl _ _ _ 88 rfl Tryz.underlying88 Tryz.underlying9 w.heap.size [([105,102],53),([97,112,112,108,121],54),([109,97,107,101],55),([103,111,110,101],56),([99,111,117,110,116],57),([114,101,97,100],58),([119,114,105,116,101],59),([109,101,116,101,114],60)] rfl [114,97,110,100,111,109] _ rfl rfl 61 rfl HT8.out (by decide) ?_;intro u9 h9 g9;have HT9:=hide h9;have HF9:=hide (HF8.out.grown g9 HF8.out.size (fun r e=>by injection e with e;omega));clear h9 g9)
  | (refine wpList_insK rfl _ _ _ 88 rfl Tryz.underlying88 Tryz.underlying9 w.heap.size [([105,102],53),([97,112,112,108,121],54),([109,97,107,101],55),([103,111,110,101],56),([99,111,117,110,116],57),([114,101,97,100],58),([119,114,105,116,101],59),([109,101,116,101,114],60),([114,97,110,100,111,109],61)] rfl [100,114,111,112] _ rfl rfl 62 rfl HT9.out (by decide) ?_;intro u10 h10 g10;have HT10:=hide h10;have HF10:=hide (HF9.out.grown g10 HF9.out.size (fun r e=>by injection e with e;omega));clear h10 g10)
  | (refine wpList_insK rfl _ _ _ 88 rfl Tryz.underlying88 Tryz.underlying9 w.heap.size [([105,102],53),([97,112,112,108,121],54),([109,97,107,101],55),([103,111,110,101],56),([99,111,117,110,116],57),([114,101,97,100],58),([119,114,105,116,101],59),([109,101,116,101,114],60),([114,97,110,100,111,109],61),([100,114,111,112],62)] rfl [97,103,97,105,110] _ rfl rfl 63 rfl HT10.out (by decide) ?_;intro u11 h11 g11;have HT11:=hide h11;have HF11:=hide (HF10.out.grown g11 HF10.out.size (fun r e=>by injection e with e;omega));clear h11 g11)
  | (refine wpList_insK rfl _ _ _ 88 rfl Tryz.underlying88 Tryz.underlying9 w.heap.size [([105,102],53),([97,112,112,108,121],54),([109,97,107,101],55),([103,111,110,101],56),([99,111,117,110,116],57),([114,101,97,100],58),([119,114,105,116,101],59),([109,101,116,101,114],60),([114,97,110,100,111,109],61),([100,114,111,112],62),([97,103,97,105,110],63)] rfl [114,111,117,110,100] _ rfl rfl 64 rfl HT11.out (by decide) ?_;intro u12 h12 g12;have HT12:=hide h12;have HF12:=hide (HF11.out.grown g12 HF11.out.size (fun r e=>by injection e with e;omega));clear h12 g12)
  | (refine wpList_insK rfl _ _ _ 88 rfl Tryz.underlying88 Tryz.underlying9 w.heap.size [([105,102],53),([97,112,112,108,121],54),([109,97,107,101],55),([103,111,110,101],56),([99,111,117,110,116],57),([114,101,97,100],58),([119,114,105,116,101],59),([109,101,116,101,114],60),([114,97,110,100,111,109],61),([100,114,111,112],62),([97,103,97,105,110],63),([114,111,117,110,100],64)] rfl [100,105,103,101,115,116] _ rfl rfl 65 rfl HT12.out (by decide) ?_;intro u13 h13 g13;have HT13:=hide h13;have HF13:=hide (HF12.out.grown g13 HF12.out.size (fun r e=>by injection e with e;omega));clear h13 g13)
  | (refine wpList_insK rfl _ _ _ 88 rfl Tryz.underlying88 Tryz.underlying9 w.heap.size [([105,102],53),([97,112,112,108,121],54),([109,97,107,101],55),([103,111,110,101],56),([99,111,117,110,116],57),([114,101,97,100],58),([119,114,105,116,101],59),([109,101,116,101,114],60),([114,97,110,100,111,109],61),([100,114,111,112],62),([97,103,97,105,110],63),([114,111,117,110,100],64),([100,105,103,101,115,116],65)] rfl [99,108,111,110,101] _ rfl rfl 66 rfl HT13.out (by decide) ?_;intro u14 h14 g14;have HT14:=hide h14;have HF14:=hide (HF13.out.grown g14 HF13.out.size (fun r e=>by injection e with e;omega));clear h14 g14))
 go_ret
 exact ⟨rfl,HT14.out,HF14.out⟩
end Go.Proofs.YtabkimknlifdoaaGreatDoor
namespace Go.Proofs.YtabkimknlifdoaaGreatDoor
open Go.RowKit
def lowN (n:Nat):Nat:=if n < 64 then 2 ^ n - 1 else 18446744073709551615
theorem wrap_lowN (n:Nat):IntKind.u64.wrap (IntKind.u64.wrap (2 ^ (n:Int).toNat) - 1)=(lowN n:Int):=by
 have e1:(n:Int).toNat=n:=by simp
 rw [IntKind.wrap_u64,IntKind.wrap_u64,e1]
 unfold lowN
 split
 ·rename_i h
  have h2:2 ^ n < 18446744073709551616:=by
   have:2 ^ n < 2 ^ 64:=Nat.pow_lt_pow_right (by omega) h
   omega
  have h3:0 < 2 ^ n:=Nat.two_pow_pos n
  have e2:((2:Int) ^ n)=((2 ^ n:Nat):Int):=by simp
  rw [e2]
  generalize 2 ^ n=m at *
  omega
 ·rename_i h
  obtain ⟨j,rfl⟩:∃ j,n=64+j:=⟨n - 64,by omega⟩
  have e2:((2:Int) ^ (64+j)) % 18446744073709551616=0:=by
   have:((2:Int) ^ (64+j))=18446744073709551616 * 2 ^ j:=by rw [Int.pow_add];rfl
   rw [this];exact Int.mul_emod_right _ _
  rw [e2];rfl
set_option maxRecDepth 100000 in
set_option maxHeartbeats 2000000 in
theorem allSet_any (w:World) (n:Nat) (hn:n≤128) (N:Int) (hN:N=n):Calls Tryz.prog 201 #[.int .i64 N] w fun e w'=>e=.returned (.agg #[.int .i64 N,.int .u64 (lowN (n - 64):Int),.int .u64 (lowN n:Int)])∧Below w.heap.size w w':=by
 subst hN
 have hw:IntKind.i64.wrap ((n:Int) - 64)=(n:Int) - 64:=by rw [IntKind.wrap_i64];omega
 have HA:Hid (IntKind.u64.wrap (IntKind.u64.wrap (2 ^ (max ((n:Int) - 64) 0).toNat) - 1)=(lowN (n - 64):Int)):=by
  have e:(max ((n:Int) - 64) 0).toNat=((n - 64:Nat):Int).toNat:=by omega
  unfold Hid;rw [e];exact wrap_lowN (n - 64)
 have HB:Hid (IntKind.u64.wrap (IntKind.u64.wrap (2 ^ min n 64) - 1)=(lowN n:Int)):=by
  have h1:=wrap_lowN (min n 64)
  have e2:lowN (min n 64)=lowN n:=by
   unfold lowN
   by_cases h:n < 64
   ·rw [Nat.min_eq_left (by omega)]
   ·rw [Nat.min_eq_right (by omega),if_neg (by omega),if_neg h]
  rw [e2] at h1
  unfold Hid
  rw [← h1]
  congr 4
 generalize (lowN (n - 64):Int)=A at *
 generalize (lowN n:Int)=B at *
 go_enter Tryz.func201,Tryz.ntmps201
 go_wp2
 rw [HA.out,HB.out]
 exact bodyPost_ret (v:=.agg #[.int .i64 (n:Int),.int .u64 A,.int .u64 B]) (by simp [results,Tryz.results201,go_sem]) rfl ⟨rfl,(Below.refl _ _).alloc (Nat.le_refl _) _⟩
theorem wHi_low (n:Nat) (hn:n≤128):wHi (2 ^ n - 1)=(lowN (n - 64):Int)∧wLo (2 ^ n - 1)=(lowN n:Int):=by
 unfold wHi wLo lowN
 by_cases h:n < 64
 ·have h2:2 ^ n < 18446744073709551616:=by
   have:2 ^ n < 2 ^ 64:=Nat.pow_lt_pow_right (by omega) h
   omega
  have h3:=Nat.two_pow_pos n
  have e0:n - 64=0:=by omega
  rw [e0]
  simp only [h,if_true]
  generalize 2 ^ n=m at *
  constructor <;> simp <;> omega
 ·obtain ⟨j,rfl⟩:∃ j,n=64+j:=⟨n - 64,by omega⟩
  have e1:64+j - 64=j:=by omega
  have e2:2 ^ (64+j)=18446744073709551616 * 2 ^ j:=by rw [Nat.pow_add]
  have h3:=Nat.two_pow_pos j
  rw [e1,e2]
  have hj:j≤64:=by omega
  have h4:¬ (64+j < 64):=by omega
  simp only [h4,if_false]
  by_cases h5:j < 64
  ·simp only [h5,if_true]
   generalize 2 ^ j=m at *
   constructor <;> simp <;> omega
  ·obtain rfl:j=64:=by omega
   constructor <;> decide
abbrev TS:=Int × Bool
def addT (S:TS) (deep:Nat):TS:=(IntKind.i64.wrap (S.1+1),S.2 || decide (4096 < IntKind.i64.wrap (S.1+1)) || decide (64 < deep))
def exT:Nat→Nat→Ex→TS→TS
 | 0,_,_,S=>S
 | f+1,deep,x,S=>if (addT S deep).2 then addT S deep else x.args.foldl (fun S y=>exT f (deep+1) y S) (addT S deep)
def exsT (f deep:Nat) (l:List Ex) (S:TS):TS:=l.foldl (fun S y=>exT f deep y S) S
def Tl (W:World) (pt:Nat) (S:TS):Prop:=W.heap[pt]? = some (.cells #[.int .i64 S.1,.bool S.2] 95 (0,0))
set_option maxRecDepth 100000 in
set_option maxHeartbeats 2000000 in
theorem tadd_any {W:World} {pt:Nat} {S:TS} (h:Tl W pt S) (deep:Nat) (hd:deep≤1000) :
  Calls Tryz.prog 69 #[.pointer (some ⟨pt,0,none⟩),.int .i64 (deep:Int)] W fun e w'=>e=.returned (.bool (!(addT S deep).2))∧Fr (·=pt) W w'∧Tl w' pt (addT S deep):=by
 obtain ⟨n,ab⟩:=S
 unfold Tl at h
 simp only at h
 have c0:=cellA h 0;have c1:=cellA h 1;have s0:=softA h 0;have s1:=softA h 1
 have HFT:Hid (∀ (m:Int) (c:Bool),Fr (·=pt) W ((W.setCell ⟨pt,0,none⟩ (.int .i64 m)).setCell ⟨pt,1,none⟩ (.bool c))∧Tl ((W.setCell ⟨pt,0,none⟩ (.int .i64 m)).setCell ⟨pt,1,none⟩ (.bool c)) pt (m,c)):=fun m c=>⟨((Fr.refl (·=pt) W).set ⟨pt,0,none⟩ _ rfl).set ⟨pt,1,none⟩ _ rfl,heap_setCell_same (k:=1) (heap_setCell_same (k:=0) h (.int .i64 m)) (.bool c)⟩
 unfold addT
 simp only
 generalize hm:IntKind.i64.wrap (n+1)=m at *
 have hdI:decide (64 < deep)=decide ((64:Int) < (deep:Int)):=by
  by_cases h:64 < deep
  ·rw [decide_eq_true h,decide_eq_true (by omega)]
  ·rw [decide_eq_false h,decide_eq_false (by omega)]
 rw [hdI]
 generalize (deep:Int)=D at *
 clear h hd hdI
 obtain ⟨c,hc⟩:∃ c,c=(ab || decide ((4096:Int) < m) || decide ((64:Int) < D)):=⟨_,rfl⟩
 rw [← hc]
 cases ab <;> by_cases h1:(4096:Int) < m <;> by_cases h2:(64:Int) < D
 all_goals
  simp only [h1,h2,decide_true,decide_false,Bool.or_true,Bool.or_false] at hc
  subst hc
  go_enter Tryz.func69,Tryz.ntmps69
  go_wp2
  go_ret
  exact ⟨rfl,HFT.out _ _⟩
theorem wpList_loadO {P:Program} {w:World} {ops:Array Oper} {rest:List Oper} {o:Oper} {a:Act} {Q:Exit→Act→World→Prop} (hg:o.guard=none) (t:TypeId) (x:Operand) (ho:o.op=.load t x) (b off:Nat) (cs:List Value)
  (hx:a.eval x=.pointer (some ⟨b,off,none⟩)) (ha:∀ w,(isAgg t).run P w=.ok true w) (hs:∀ w,(sizeOf t).run P w=.ok cs.length w) (hc:∀ i (h:i < cs.length),w.cell? ⟨b,off+i,none⟩=some cs[i])
  (hK:wpList P ops Q rest (a.put o.dst (.agg cs.toArray)) w):wpList P ops Q (o :: rest) a w:=by
 refine wpList_plain hg fun K hK'=>?_
 have h1:=run_loadCells_list (P:=P) w ⟨b,off,none⟩ cs (fun j v hv=>by
  obtain ⟨hj,rfl⟩:=List.getElem?_eq_some_iff.1 hv
  rw [Addr.add_mid];exact hc j hj)
 have h0:(loadVar t ⟨b,off,none⟩).run P w=.ok (.agg cs.toArray) w:=by simp [loadVar,ha,hs,h1,Result.andThen]
 have h2:(Instr.loadAt t (.pointer (some ⟨b,off,none⟩))).run P w=.ok (.agg cs.toArray) w:=by
  simp [Instr.loadAt,Instr.sureAddr,h0]
 have h3:(execOp a.eval o).run P w=.ok (.value (.agg cs.toArray)) w:=by
  simp [execOp,ho,hx,h2,Result.andThen]
 unfold Oper.wp
 rw [h3]
 exact hK' _ _ hK
theorem flat_at:∀ (css:List (List Value)) (K j i:Nat) (hj:j < css.length) (_:∀ c ∈ css,c.length=K) (_:i < K),css.flatten[j * K+i]? = css[j][i]?
 | c :: css,K,0,i,_,h,_hi=>by
  have hc:=h c (List.mem_cons_self ..)
  rw [Nat.zero_mul,Nat.zero_add,List.flatten_cons,List.getElem?_append_left (by omega)]
  rfl
 | c :: css,K,j+1,i,hj,h,hi=>by
  have hc:=h c (List.mem_cons_self ..)
  have e:(j+1) * K+i=c.length+(j * K+i):=by rw [hc,Nat.succ_mul];omega
  rw [List.flatten_cons,e,List.getElem?_append_right (by omega),Nat.add_sub_cancel_left,flat_at css K j i (by simpa using hj) (fun d hd=>h d (List.mem_cons_of_mem _ hd)) hi]
  rfl
theorem list_items {α:Type} {rep:Rep α} {mk:List Value→Value} {K:Nat} {W:World} {X:Nat→Prop} {v:Value} {l:List α} (h:ListR rep mk K W X v l) (_:0 < K):∃ s c,v=.slice s l.length c∧l.length≤maxLen∧(l=[] ∨ ∃ b,s=some ⟨b,0,none⟩∧X b∧b < W.heap.size∧∀ j (hj:j < l.length),∃ cs,cs.length=K∧rep W X (mk cs) l[j]∧∀ i (hi:i < cs.length),W.cell? ⟨b,j * K+i,none⟩=some cs[i]):=by
 obtain ⟨css,⟨a,cap,rfl,h2,hm,_,h5⟩,h6,h7⟩:=h
 refine ⟨a,cap,rfl,hm.2,?_⟩
 rcases h5 with h5 | ⟨b,e,hx,hl,hc⟩
 ·exact .inl (List.length_eq_zero_iff.1 h5)
 ·refine .inr ⟨b,e,hx,hl,fun j hj=>?_⟩
  have hj':j < css.length:=by omega
  obtain ⟨h8,h9⟩:=h7 j hj' hj
  refine ⟨css[j],h8,h9,fun i hi=>?_⟩
  have hall:∀ c ∈ css,c.length=K:=fun c hcm=>by
   obtain ⟨m,hm,rfl⟩:=List.getElem_of_mem hcm
   exact (h7 m hm (by omega)).1
  have hf:=flat_at css K j i hj' hall (by omega)
  rw [List.getElem?_eq_getElem hi] at hf
  obtain ⟨hlt,e2⟩:=List.getElem?_eq_some_iff.1 hf
  rw [hc _ hlt,e2]
theorem rep_fr {α:Type} {rep:Rep α} (hok:RepOk rep) {W W':World} {X:Nat→Prop} {pt:Nat} {v:Value} {x:α} (h:rep W X v x) (hf:Fr (·=pt) W W') (hX:¬ X pt):rep W' X v x:=hok.frame h hf.size (fun b hb hl=>hf.block b hl (fun e=>hX (by have e':b=pt:=e;rw [← e'];exact hb)))
end Go.Proofs.YtabkimknlifdoaaGreatDoor
