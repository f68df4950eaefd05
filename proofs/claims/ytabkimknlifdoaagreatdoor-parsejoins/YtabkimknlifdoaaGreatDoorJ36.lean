/- Pieces of the proof: TTb, TTd. -/
import Derived.Test.YtabkimknlifdoaaGreatDoorJ35
import Derived.Test.YtabkimknlifdoaaGreatDoorJ7
import Derived.Maps.AppendAt
namespace Go.Proofs.YtabkimknlifdoaaGreatDoor
open Go.RowKit
theorem Tryz.infoTTexts:(Tryz.prog.info? 9).map (fun i=>(i.zero,i.size,i.bytes))=some (some (.string ⟨#[]⟩),1,16):=by kernel_rfl
set_option maxRecDepth 100000 in
set_option maxHeartbeats 4000000 in
theorem twinTexts_ok {α:Type} {rep rep':Rep α} (hok:RepOk rep) (hok':RepOk rep') (l:List α) (HE:∀ x ∈ l,∀ (W:World) (X:Nat→Prop) (cs:List Value),cs.length=1→rep W X (mkOne cs) x→(∃ s0,cs=[.string s0])∧∀ W' Y,rep' W' Y (mkOne cs) x) (w:World) (X:Nat→Prop) (v:Value) (hl:l.length≤1000000) (h:ListR rep mkOne 1 w X v l) :
  Calls Tryz.prog 149 #[v] w fun e w'=>∃ v',e=.returned v'∧ListT rep' mkOne 1 9 w' (Bn w w') v' l∧Below w.heap.size w w':=by
 obtain ⟨i0',hi0,hz0,hz1,hz2⟩:=info_parts Tryz.infoTTexts
 obtain ⟨a,ca,rfl,h4⟩:=list_at h
 have H4:=hide h4
 have HEE:=hide HE
 clear h h4 HE
 go_enter Tryz.func149,Tryz.ntmps149
 go_wp2_with (first
  | (refine wpList_make_own _ rfl _ _ 44 rfl w.heap.size 9 i0' (.string ⟨#[]⟩) 1 Tryz.underlying44 hi0 hz0 hz1 .i64 .i64 _ (l.length+1) rfl rfl (by simp) (by rw [hz2];omega) (by unfold maxLen;omega) (Nat.le_refl _) ?_;intro w1 O1 G1;have T1:Hid (Tp rep' mkOne 1 9 w w1 0 (.slice (some ⟨w.heap.size,0,none⟩) 0 (l.length+1)) (l.take 0) []):=⟨(Below.refl _ w).grown G1 (Nat.le_refl _) (fun k e=>by cases e),O1,by simp,by simp,fun i hi _=>by simp at hi⟩;clear O1 G1))
 go_loopw [3,4] (fun t i wr=>∃ (k:Nat) (css:List (List Value)),k≤l.length∧i=.int .i64 k∧Hid (Tp rep' mkOne 1 9 w wr k t (l.take k) css)) (fun _ i _=>l.length - (intOf i).toNat)
 case atStart=>exact ⟨0,[],Nat.zero_le _,rfl,T1⟩
 case round =>
  rename_i tv _
  obtain ⟨k,css,hk,rfl,HT⟩:=hrel
  clear T1
  by_cases hlt:k < l.length
  ·have hkI:(k:Int) < (l.length:Int):=by omega
   rcases H4.out with h0 | ⟨b,rfl,hX,hb,h5⟩
   ·omega
   obtain ⟨cs,k1,k2,k3⟩:=h5 k hlt
   have hc:∀ j u,cs[j]? = some u→wr.cell? ⟨b,k * 1+j,none⟩=some u:=fun j u hu=>(HT.out.bl.cell (p:=⟨b,k * 1+j,none⟩) hb).trans (k2 j u hu)
   have HNx:=hide (List.take_succ_eq_append_getElem hlt)
   have HR:=hide (hok.frame k3 (W':=wr) HT.out.bl.size (fun b _ hl=>HT.out.bl.block b hl))
   have HM:Hid (l[k] ∈ l):=List.getElem_mem hlt
   generalize l[k]=x at HNx HR HM
   clear h5 k2 k3
   obtain ⟨⟨s0,rfl⟩,hr'⟩:=HEE.out x HM.out wr _ cs k1 HR.out
   have HR':=hide hr'
   clear hr' HR HM
   have c0:wr.cell? ⟨b,k,none⟩=some (.string s0):=by have h:=hc 0 _ rfl;rw [Nat.mul_one,Nat.add_zero] at h;exact h
   clear hc
   go_wp2_with (at_builtin;refine wpList_appC rfl _ _ 44 rfl 9 i0' (.string ⟨#[]⟩) 1 16 Tryz.underlying44 hi0 hz0 hz1 hz2 rfl (by decide) (by decide) w.heap.size _ k css.flatten rfl (ownR_below HT.out.own ((Below.refl _ wr).alloc (Nat.le_refl _) _)) wr.heap.size [.string s0] rfl rfl (cells_newC _ [.string s0] _) (by simp [Value.oneCell']) (by omega) (by have:=HT.out.bl.size;simp;omega) ?_;intro v7 w7 O7 D7;have HT7:=hide (HT.out.step hok' (Below.refl _ _) (HR'.out _ _) rfl O7 D7);clear O7 D7)
   rw [← HNx.out] at HT7
   go_roundw
   case rel=>exact ⟨k+1,_,by omega,by go_num,HT7⟩
   case measure=>simp [intOf];omega
  ·obtain rfl:k=l.length:=by omega
   rw [List.take_length] at HT
   go_wp2_with (at_builtin;refine wpList_appC rfl _ _ 44 rfl 9 i0' (.string ⟨#[]⟩) 1 16 Tryz.underlying44 hi0 hz0 hz1 hz2 rfl (by decide) (by decide) w.heap.size _ l.length css.flatten rfl (ownR_below HT.out.own ((Below.refl _ wr).alloc (Nat.le_refl _) _)) wr.heap.size [.string ⟨#[115,112,97,114,101]⟩] rfl rfl (cells_newC _ [.string ⟨#[115,112,97,114,101]⟩] _) (by simp [Value.oneCell']) (by omega) (by have:=HT.out.bl.size;simp;omega) ?_;intro v7 w7 O7 D7;obtain ⟨g,c,rfl,hgc,h8,h9⟩:=HT.out.done hok' O7 D7;have H8:=hide h8;have H9:=hide h9;clear O7 D7 h8 h9)
   go_ret
   exact ⟨_,rfl,H8.out,H9.out⟩
theorem Tryz.infoTNumbers:(Tryz.prog.info? 35).map (fun i=>(i.zero,i.size,i.bytes))=some (some (.agg #[.int .i64 0,.int .u64 0,.int .u64 0]),3,24):=by kernel_rfl
set_option maxRecDepth 100000 in
set_option maxHeartbeats 4000000 in
theorem twinNumbers_ok {α:Type} {rep rep':Rep α} (hok:RepOk rep) (hok':RepOk rep') (l:List α) (HE:∀ x ∈ l,∀ (W:World) (X:Nat→Prop) (cs:List Value),cs.length=3→rep W X (mkAgg cs) x→(∃ i0 i1 i2,cs=[.int .i64 i0,.int .u64 i1,.int .u64 i2])∧∀ W' Y,rep' W' Y (mkAgg cs) x) (w:World) (X:Nat→Prop) (v:Value) (hl:l.length≤1000000) (h:ListR rep mkAgg 3 w X v l) :
  Calls Tryz.prog 150 #[v] w fun e w'=>∃ v',e=.returned v'∧ListT rep' mkAgg 3 35 w' (Bn w w') v' l∧Below w.heap.size w w':=by
 obtain ⟨i0',hi0,hz0,hz1,hz2⟩:=info_parts Tryz.infoTNumbers
 obtain ⟨a,ca,rfl,h4⟩:=list_at h
 have H4:=hide h4
 have HEE:=hide HE
 clear h h4 HE
 go_enter Tryz.func150,Tryz.ntmps150
 go_wp2_with (first
  | (refine wpList_make_own _ rfl _ _ 66 rfl w.heap.size 35 i0' (.agg #[.int .i64 0,.int .u64 0,.int .u64 0]) 3 Tryz.underlying66 hi0 hz0 hz1 .i64 .i64 _ (l.length+1) rfl rfl (by simp) (by rw [hz2];omega) (by unfold maxLen;omega) (Nat.le_refl _) ?_;intro w1 O1 G1;have T1:Hid (Tp rep' mkAgg 3 35 w w1 0 (.slice (some ⟨w.heap.size,0,none⟩) 0 (l.length+1)) (l.take 0) []):=⟨(Below.refl _ w).grown G1 (Nat.le_refl _) (fun k e=>by cases e),O1,by simp,by simp,fun i hi _=>by simp at hi⟩;clear O1 G1))
 go_loopw [3,4] (fun t i wr=>∃ (k:Nat) (css:List (List Value)),k≤l.length∧i=.int .i64 k∧Hid (Tp rep' mkAgg 3 35 w wr k t (l.take k) css)) (fun _ i _=>l.length - (intOf i).toNat)
 case atStart=>exact ⟨0,[],Nat.zero_le _,rfl,T1⟩
 case round =>
  rename_i tv _
  obtain ⟨k,css,hk,rfl,HT⟩:=hrel
  clear T1
  by_cases hlt:k < l.length
  ·have hkI:(k:Int) < (l.length:Int):=by omega
   rcases H4.out with h0 | ⟨b,rfl,hX,hb,h5⟩
   ·omega
   obtain ⟨cs,k1,k2,k3⟩:=h5 k hlt
   have hc:∀ j u,cs[j]? = some u→wr.cell? ⟨b,k * 3+j,none⟩=some u:=fun j u hu=>(HT.out.bl.cell (p:=⟨b,k * 3+j,none⟩) hb).trans (k2 j u hu)
   have HNx:=hide (List.take_succ_eq_append_getElem hlt)
   have HR:=hide (hok.frame k3 (W':=wr) HT.out.bl.size (fun b _ hl=>HT.out.bl.block b hl))
   have HM:Hid (l[k] ∈ l):=List.getElem_mem hlt
   generalize l[k]=x at HNx HR HM
   clear h5 k2 k3
   obtain ⟨⟨i0,i1,i2,rfl⟩,hr'⟩:=HEE.out x HM.out wr _ cs k1 HR.out
   have HR':=hide hr'
   clear hr' HR HM
   have c0:wr.cell? ⟨b,k * 3,none⟩=some (.int .i64 i0):=hc 0 _ rfl
   have c1:wr.cell? ⟨b,k * 3+1,none⟩=some (.int .u64 i1):=hc 1 _ rfl
   have c2:wr.cell? ⟨b,k * 3+2,none⟩=some (.int .u64 i2):=hc 2 _ rfl
   clear hc
   go_wp2_with (at_builtin;refine wpList_appC rfl _ _ 66 rfl 35 i0' (.agg #[.int .i64 0,.int .u64 0,.int .u64 0]) 3 24 Tryz.underlying66 hi0 hz0 hz1 hz2 rfl (by decide) (by decide) w.heap.size _ k css.flatten rfl (ownR_below HT.out.own ((Below.refl _ wr).alloc (Nat.le_refl _) _)) wr.heap.size [.int .i64 i0,.int .u64 i1,.int .u64 i2] rfl rfl (cells_newC _ [.int .i64 i0,.int .u64 i1,.int .u64 i2] _) (by simp [Value.oneCell']) (by omega) (by have:=HT.out.bl.size;simp;omega) ?_;intro v7 w7 O7 D7;have HT7:=hide (HT.out.step hok' (Below.refl _ _) (HR'.out _ _) rfl O7 D7);clear O7 D7)
   rw [← HNx.out] at HT7
   go_roundw
   case rel=>exact ⟨k+1,_,by omega,by go_num,HT7⟩
   case measure=>simp [intOf];omega
  ·obtain rfl:k=l.length:=by omega
   rw [List.take_length] at HT
   go_wp2_with (at_builtin;refine wpList_appC rfl _ _ 66 rfl 35 i0' (.agg #[.int .i64 0,.int .u64 0,.int .u64 0]) 3 24 Tryz.underlying66 hi0 hz0 hz1 hz2 rfl (by decide) (by decide) w.heap.size _ l.length css.flatten rfl (ownR_below HT.out.own ((Below.refl _ wr).alloc (Nat.le_refl _) _)) wr.heap.size [.int .i64 77,.int .u64 0,.int .u64 0] rfl rfl (cells_newC _ [.int .i64 77,.int .u64 0,.int .u64 0] _) (by simp [Value.oneCell']) (by omega) (by have:=HT.out.bl.size;simp;omega) ?_;intro v7 w7 O7 D7;obtain ⟨g,c,rfl,hgc,h8,h9⟩:=HT.out.done hok' O7 D7;have H8:=hide h8;have H9:=hide h9;clear O7 D7 h8 h9)
   go_ret
   exact ⟨_,rfl,H8.out,H9.out⟩
theorem Tryz.infoTFields:(Tryz.prog.info? 137).map (fun i=>(i.zero,i.size,i.bytes))=some (some (.agg #[.string ⟨#[]⟩,.int .i64 0]),2,24):=by kernel_rfl
set_option maxRecDepth 100000 in
set_option maxHeartbeats 4000000 in
theorem twinFields_ok {α:Type} {rep rep':Rep α} (hok:RepOk rep) (hok':RepOk rep') (l:List α) (HE:∀ x ∈ l,∀ (W:World) (X:Nat→Prop) (cs:List Value),cs.length=2→rep W X (mkAgg cs) x→(∃ s0 i1,cs=[.string s0,.int .i64 i1])∧∀ W' Y,rep' W' Y (mkAgg cs) x) (w:World) (X:Nat→Prop) (v:Value) (hl:l.length≤1000000) (h:ListR rep mkAgg 2 w X v l) :
  Calls Tryz.prog 146 #[v] w fun e w'=>∃ v',e=.returned v'∧ListT rep' mkAgg 2 137 w' (Bn w w') v' l∧Below w.heap.size w w':=by
 obtain ⟨i0',hi0,hz0,hz1,hz2⟩:=info_parts Tryz.infoTFields
 obtain ⟨a,ca,rfl,h4⟩:=list_at h
 have H4:=hide h4
 have HEE:=hide HE
 clear h h4 HE
 go_enter Tryz.func146,Tryz.ntmps146
 go_wp2_with (first
  | (refine wpList_make_own _ rfl _ _ 63 rfl w.heap.size 137 i0' (.agg #[.string ⟨#[]⟩,.int .i64 0]) 2 Tryz.underlying63 hi0 hz0 hz1 .i64 .i64 _ (l.length+1) rfl rfl (by simp) (by rw [hz2];omega) (by unfold maxLen;omega) (Nat.le_refl _) ?_;intro w1 O1 G1;have T1:Hid (Tp rep' mkAgg 2 137 w w1 0 (.slice (some ⟨w.heap.size,0,none⟩) 0 (l.length+1)) (l.take 0) []):=⟨(Below.refl _ w).grown G1 (Nat.le_refl _) (fun k e=>by cases e),O1,by simp,by simp,fun i hi _=>by simp at hi⟩;clear O1 G1))
 go_loopw [3,4] (fun t i wr=>∃ (k:Nat) (css:List (List Value)),k≤l.length∧i=.int .i64 k∧Hid (Tp rep' mkAgg 2 137 w wr k t (l.take k) css)) (fun _ i _=>l.length - (intOf i).toNat)
 case atStart=>exact ⟨0,[],Nat.zero_le _,rfl,T1⟩
 case round =>
  rename_i tv _
  obtain ⟨k,css,hk,rfl,HT⟩:=hrel
  clear T1
  by_cases hlt:k < l.length
  ·have hkI:(k:Int) < (l.length:Int):=by omega
   rcases H4.out with h0 | ⟨b,rfl,hX,hb,h5⟩
   ·omega
   obtain ⟨cs,k1,k2,k3⟩:=h5 k hlt
   have hc:∀ j u,cs[j]? = some u→wr.cell? ⟨b,k * 2+j,none⟩=some u:=fun j u hu=>(HT.out.bl.cell (p:=⟨b,k * 2+j,none⟩) hb).trans (k2 j u hu)
   have HNx:=hide (List.take_succ_eq_append_getElem hlt)
   have HR:=hide (hok.frame k3 (W':=wr) HT.out.bl.size (fun b _ hl=>HT.out.bl.block b hl))
   have HM:Hid (l[k] ∈ l):=List.getElem_mem hlt
   generalize l[k]=x at HNx HR HM
   clear h5 k2 k3
   obtain ⟨⟨s0,i1,rfl⟩,hr'⟩:=HEE.out x HM.out wr _ cs k1 HR.out
   have HR':=hide hr'
   clear hr' HR HM
   have c0:wr.cell? ⟨b,k * 2,none⟩=some (.string s0):=hc 0 _ rfl
   have c1:wr.cell? ⟨b,k * 2+1,none⟩=some (.int .i64 i1):=hc 1 _ rfl
   clear hc
   go_wp2_with (at_builtin;refine wpList_appC rfl _ _ 63 rfl 137 i0' (.agg #[.string ⟨#[]⟩,.int .i64 0]) 2 24 Tryz.underlying63 hi0 hz0 hz1 hz2 rfl (by decide) (by decide) w.heap.size _ k css.flatten rfl (ownR_below HT.out.own ((Below.refl _ wr).alloc (Nat.le_refl _) _)) wr.heap.size [.string s0,.int .i64 i1] rfl rfl (cells_newC _ [.string s0,.int .i64 i1] _) (by simp [Value.oneCell']) (by omega) (by have:=HT.out.bl.size;simp;omega) ?_;intro v7 w7 O7 D7;have HT7:=hide (HT.out.step hok' (Below.refl _ _) (HR'.out _ _) rfl O7 D7);clear O7 D7)
   rw [← HNx.out] at HT7
   go_roundw
   case rel=>exact ⟨k+1,_,by omega,by go_num,HT7⟩
   case measure=>simp [intOf];omega
  ·obtain rfl:k=l.length:=by omega
   rw [List.take_length] at HT
   go_wp2_with (at_builtin;refine wpList_appC rfl _ _ 63 rfl 137 i0' (.agg #[.string ⟨#[]⟩,.int .i64 0]) 2 24 Tryz.underlying63 hi0 hz0 hz1 hz2 rfl (by decide) (by decide) w.heap.size _ l.length css.flatten rfl (ownR_below HT.out.own ((Below.refl _ wr).alloc (Nat.le_refl _) _)) wr.heap.size [.string ⟨#[115,112,97,114,101]⟩,.int .i64 0] rfl rfl (cells_newC _ [.string ⟨#[115,112,97,114,101]⟩,.int .i64 0] _) (by simp [Value.oneCell']) (by omega) (by have:=HT.out.bl.size;simp;omega) ?_;intro v7 w7 O7 D7;obtain ⟨g,c,rfl,hgc,h8,h9⟩:=HT.out.done hok' O7 D7;have H8:=hide h8;have H9:=hide h9;clear O7 D7 h8 h9)
   go_ret
   exact ⟨_,rfl,H8.out,H9.out⟩
theorem Tryz.infoTCases:(Tryz.prog.info? 194).map (fun i=>(i.zero,i.size,i.bytes))=some (some (.agg #[.int .i64 0,.int .u64 0,.int .u64 0,.int .i64 0,.int .u64 0,.int .u64 0,.string ⟨#[]⟩]),7,64):=by kernel_rfl
set_option maxRecDepth 100000 in
set_option maxHeartbeats 4000000 in
theorem twinCases_ok {α:Type} {rep rep':Rep α} (hok:RepOk rep) (hok':RepOk rep') (l:List α) (HE:∀ x ∈ l,∀ (W:World) (X:Nat→Prop) (cs:List Value),cs.length=7→rep W X (mkAgg cs) x→(∃ i0 i1 i2 i3 i4 i5 s6,cs=[.int .i64 i0,.int .u64 i1,.int .u64 i2,.int .i64 i3,.int .u64 i4,.int .u64 i5,.string s6])∧∀ W' Y,rep' W' Y (mkAgg cs) x) (w:World) (X:Nat→Prop) (v:Value) (hl:l.length≤1000000) (h:ListR rep mkAgg 7 w X v l) :
  Calls Tryz.prog 227 #[v] w fun e w'=>∃ v',e=.returned v'∧ListT rep' mkAgg 7 194 w' (Bn w w') v' l∧Below w.heap.size w w':=by
 obtain ⟨i0',hi0,hz0,hz1,hz2⟩:=info_parts Tryz.infoTCases
 obtain ⟨a,ca,rfl,h4⟩:=list_at h
 have H4:=hide h4
 have HEE:=hide HE
 clear h h4 HE
 go_enter Tryz.func227,Tryz.ntmps227
 go_wp2_with (first
  | (refine wpList_make_own _ rfl _ _ 77 rfl w.heap.size 194 i0' (.agg #[.int .i64 0,.int .u64 0,.int .u64 0,.int .i64 0,.int .u64 0,.int .u64 0,.string ⟨#[]⟩]) 7 Tryz.underlying77 hi0 hz0 hz1 .i64 .i64 _ (l.length+1) rfl rfl (by simp) (by rw [hz2];omega) (by unfold maxLen;omega) (Nat.le_refl _) ?_;intro w1 O1 G1;have T1:Hid (Tp rep' mkAgg 7 194 w w1 0 (.slice (some ⟨w.heap.size,0,none⟩) 0 (l.length+1)) (l.take 0) []):=⟨(Below.refl _ w).grown G1 (Nat.le_refl _) (fun k e=>by cases e),O1,by simp,by simp,fun i hi _=>by simp at hi⟩;clear O1 G1))
 go_loopw [3,4] (fun t i wr=>∃ (k:Nat) (css:List (List Value)),k≤l.length∧i=.int .i64 k∧Hid (Tp rep' mkAgg 7 194 w wr k t (l.take k) css)) (fun _ i _=>l.length - (intOf i).toNat)
 case atStart=>exact ⟨0,[],Nat.zero_le _,rfl,T1⟩
 case round =>
  rename_i tv _
  obtain ⟨k,css,hk,rfl,HT⟩:=hrel
  clear T1
  by_cases hlt:k < l.length
  ·have hkI:(k:Int) < (l.length:Int):=by omega
   rcases H4.out with h0 | ⟨b,rfl,hX,hb,h5⟩
   ·omega
   obtain ⟨cs,k1,k2,k3⟩:=h5 k hlt
   have hc:∀ j u,cs[j]? = some u→wr.cell? ⟨b,k * 7+j,none⟩=some u:=fun j u hu=>(HT.out.bl.cell (p:=⟨b,k * 7+j,none⟩) hb).trans (k2 j u hu)
   have HNx:=hide (List.take_succ_eq_append_getElem hlt)
   have HR:=hide (hok.frame k3 (W':=wr) HT.out.bl.size (fun b _ hl=>HT.out.bl.block b hl))
   have HM:Hid (l[k] ∈ l):=List.getElem_mem hlt
   generalize l[k]=x at HNx HR HM
   clear h5 k2 k3
   obtain ⟨⟨i0,i1,i2,i3,i4,i5,s6,rfl⟩,hr'⟩:=HEE.out x HM.out wr _ cs k1 HR.out
   have HR':=hide hr'
   clear hr' HR HM
   have c0:wr.cell? ⟨b,k * 7,none⟩=some (.int .i64 i0):=hc 0 _ rfl
   have c1:wr.cell? ⟨b,k * 7+1,none⟩=some (.int .u64 i1):=hc 1 _ rfl
   have c2:wr.cell? ⟨b,k * 7+2,none⟩=some (.int .u64 i2):=hc 2 _ rfl
   have c3:wr.cell? ⟨b,k * 7+3,none⟩=some (.int .i64 i3):=hc 3 _ rfl
   have c4:wr.cell? ⟨b,k * 7+4,none⟩=some (.int .u64 i4):=hc 4 _ rfl
   have c5:wr.cell? ⟨b,k * 7+5,none⟩=some (.int .u64 i5):=hc 5 _ rfl
   have c6:wr.cell? ⟨b,k * 7+6,none⟩=some (.string s6):=hc 6 _ rfl
   clear hc
   go_wp2_with (at_builtin;refine wpList_appC rfl _ _ 77 rfl 194 i0' (.agg #[.int .i64 0,.int .u64 0,.int .u64 0,.int .i64 0,.int .u64 0,.int .u64 0,.string ⟨#[]⟩]) 7 64 Tryz.underlying77 hi0 hz0 hz1 hz2 rfl (by decide) (by decide) w.heap.size _ k css.flatten rfl (ownR_below HT.out.own ((Below.refl _ wr).alloc (Nat.le_refl _) _)) wr.heap.size [.int .i64 i0,.int .u64 i1,.int .u64 i2,.int .i64 i3,.int .u64 i4,.int .u64 i5,.string s6] rfl rfl (cells_newC _ [.int .i64 i0,.int .u64 i1,.int .u64 i2,.int .i64 i3,.int .u64 i4,.int .u64 i5,.string s6] _) (by simp [Value.oneCell']) (by omega) (by have:=HT.out.bl.size;simp;omega) ?_;intro v7 w7 O7 D7;have HT7:=hide (HT.out.step hok' (Below.refl _ _) (HR'.out _ _) rfl O7 D7);clear O7 D7)
   rw [← HNx.out] at HT7
   go_roundw
   case rel=>exact ⟨k+1,_,by omega,by go_num,HT7⟩
   case measure=>simp [intOf];omega
  ·obtain rfl:k=l.length:=by omega
   rw [List.take_length] at HT
   go_wp2_with (at_builtin;refine wpList_appC rfl _ _ 77 rfl 194 i0' (.agg #[.int .i64 0,.int .u64 0,.int .u64 0,.int .i64 0,.int .u64 0,.int .u64 0,.string ⟨#[]⟩]) 7 64 Tryz.underlying77 hi0 hz0 hz1 hz2 rfl (by decide) (by decide) w.heap.size _ l.length css.flatten rfl (ownR_below HT.out.own ((Below.refl _ wr).alloc (Nat.le_refl _) _)) wr.heap.size [.int .i64 0,.int .u64 0,.int .u64 0,.int .i64 0,.int .u64 0,.int .u64 0,.string ⟨#[115,112,97,114,101]⟩] rfl rfl (cells_newC _ [.int .i64 0,.int .u64 0,.int .u64 0,.int .i64 0,.int .u64 0,.int .u64 0,.string ⟨#[115,112,97,114,101]⟩] _) (by simp [Value.oneCell']) (by omega) (by have:=HT.out.bl.size;simp;omega) ?_;intro v7 w7 O7 D7;obtain ⟨g,c,rfl,hgc,h8,h9⟩:=HT.out.done hok' O7 D7;have H8:=hide h8;have H9:=hide h9;clear O7 D7 h8 h9)
   go_ret
   exact ⟨_,rfl,H8.out,H9.out⟩
theorem Tryz.infoTStmts:(Tryz.prog.info? 72).map (fun i=>(i.zero,i.size,i.bytes))=some (some (.agg #[.int .u8 0,.string ⟨#[]⟩,.string ⟨#[]⟩,.string ⟨#[]⟩,.int .i64 0,.slice none 0 0,.slice none 0 0,.slice none 0 0,.int .i64 0]),9,144):=by kernel_rfl
set_option maxRecDepth 100000 in
set_option maxHeartbeats 4000000 in
theorem twinStmts_ok {α:Type} {rep rep':Rep α} (hok:RepOk rep) (hok':RepOk rep') (l:List α) (HE:∀ x ∈ l,∀ (W:World) (X:Nat→Prop) (cs:List Value),cs.length=9→rep W X (mkAgg cs) x→Calls Tryz.prog 194 #[mkAgg cs] W fun e w'=>∃ cs',e=.returned (mkAgg cs')∧cs'.length=9∧(∀ u ∈ cs',u.oneCell'=true)∧rep' w' (Bn W w') (mkAgg cs') x∧Below W.heap.size W w') (w:World) (X:Nat→Prop) (v:Value) (hl:l.length≤1000000) (h:ListR rep mkAgg 9 w X v l) :
  Calls Tryz.prog 151 #[v] w fun e w'=>∃ v',e=.returned v'∧ListT rep' mkAgg 9 72 w' (Bn w w') v' l∧Below w.heap.size w w':=by
 obtain ⟨i0',hi0,hz0,hz1,hz2⟩:=info_parts Tryz.infoTStmts
 obtain ⟨a,ca,rfl,h4⟩:=list_at h
 have H4:=hide h4
 have HEE:=hide HE
 clear h h4 HE
 go_enter Tryz.func151,Tryz.ntmps151
 go_wp2_with (first
  | (refine wpList_make_own _ rfl _ _ 67 rfl w.heap.size 72 i0' (.agg #[.int .u8 0,.string ⟨#[]⟩,.string ⟨#[]⟩,.string ⟨#[]⟩,.int .i64 0,.slice none 0 0,.slice none 0 0,.slice none 0 0,.int .i64 0]) 9 Tryz.underlying67 hi0 hz0 hz1 .i64 .i64 _ (l.length+1) rfl rfl (by simp) (by rw [hz2];omega) (by unfold maxLen;omega) (Nat.le_refl _) ?_;intro w1 O1 G1;have T1:Hid (Tp rep' mkAgg 9 72 w w1 0 (.slice (some ⟨w.heap.size,0,none⟩) 0 (l.length+1)) (l.take 0) []):=⟨(Below.refl _ w).grown G1 (Nat.le_refl _) (fun k e=>by cases e),O1,by simp,by simp,fun i hi _=>by simp at hi⟩;clear O1 G1))
 go_loopw [3,4] (fun t i wr=>∃ (k:Nat) (css:List (List Value)),k≤l.length∧i=.int .i64 k∧Hid (Tp rep' mkAgg 9 72 w wr k t (l.take k) css)) (fun _ i _=>l.length - (intOf i).toNat)
 case atStart=>exact ⟨0,[],Nat.zero_le _,rfl,T1⟩
 case round =>
  rename_i tv _
  obtain ⟨k,css,hk,rfl,HT⟩:=hrel
  clear T1
  by_cases hlt:k < l.length
  ·have hkI:(k:Int) < (l.length:Int):=by omega
   rcases H4.out with h0 | ⟨b,rfl,hX,hb,h5⟩
   ·omega
   obtain ⟨cs,k1,k2,k3⟩:=h5 k hlt
   have hc:∀ j u,cs[j]? = some u→wr.cell? ⟨b,k * 9+j,none⟩=some u:=fun j u hu=>(HT.out.bl.cell (p:=⟨b,k * 9+j,none⟩) hb).trans (k2 j u hu)
   have HNx:=hide (List.take_succ_eq_append_getElem hlt)
   have HR:=hide (hok.frame k3 (W':=wr) HT.out.bl.size (fun b _ hl=>HT.out.bl.block b hl))
   have HM:Hid (l[k] ∈ l):=List.getElem_mem hlt
   generalize l[k]=x at HNx HR HM
   clear h5 k2 k3
   match cs,k1 with
   | [x0,x1,x2,x3,x4,x5,x6,x7,x8],_ =>
    have c0:wr.cell? ⟨b,k * 9,none⟩=some x0:=hc 0 _ rfl
    have c1:wr.cell? ⟨b,k * 9+1,none⟩=some x1:=hc 1 _ rfl
    have c2:wr.cell? ⟨b,k * 9+2,none⟩=some x2:=hc 2 _ rfl
    have c3:wr.cell? ⟨b,k * 9+3,none⟩=some x3:=hc 3 _ rfl
    have c4:wr.cell? ⟨b,k * 9+4,none⟩=some x4:=hc 4 _ rfl
    have c5:wr.cell? ⟨b,k * 9+5,none⟩=some x5:=hc 5 _ rfl
    have c6:wr.cell? ⟨b,k * 9+6,none⟩=some x6:=hc 6 _ rfl
    have c7:wr.cell? ⟨b,k * 9+7,none⟩=some x7:=hc 7 _ rfl
    have c8:wr.cell? ⟨b,k * 9+8,none⟩=some x8:=hc 8 _ rfl
    have HC:=hide (HEE.out x HM.out wr _ _ rfl HR.out)
    clear hc HR HM
    go_wp2_with fail
    refine HC.out.mono ?_
    rintro e w2 ⟨cs',rfl,q1,q2,q3,q4⟩
    have HT2:=hide (HT.out.go hok' q4)
    have Q3:=hide q3
    have Q4:=hide q4
    have Q2:=hide q2
    clear HC q2 q3 q4
    match cs',q1 with
    | [y0,y1,y2,y3,y4,y5,y6,y7,y8],_ =>
     simp only [mkAgg]
     go_wp2_with (at_builtin;refine wpList_appC rfl _ _ 67 rfl 72 i0' (.agg #[.int .u8 0,.string ⟨#[]⟩,.string ⟨#[]⟩,.string ⟨#[]⟩,.int .i64 0,.slice none 0 0,.slice none 0 0,.slice none 0 0,.int .i64 0]) 9 144 Tryz.underlying67 hi0 hz0 hz1 hz2 rfl (by decide) (by decide) w.heap.size _ k css.flatten rfl (ownR_below HT2.out.own ((Below.refl _ w2).alloc (Nat.le_refl _) _)) w2.heap.size [y0,y1,y2,y3,y4,y5,y6,y7,y8] rfl rfl (cells_newC _ [y0,y1,y2,y3,y4,y5,y6,y7,y8] _) Q2.out (by omega) (by have:=HT2.out.bl.size;simp;omega) ?_;intro v7 w7 O7 D7;have HT7:=hide (HT.out.step hok' Q4.out Q3.out rfl O7 D7);clear O7 D7)
     rw [← HNx.out] at HT7
     go_roundw
     case rel=>exact ⟨k+1,_,by omega,by go_num,HT7⟩
     case measure=>simp [intOf];omega
  ·obtain rfl:k=l.length:=by omega
   rw [List.take_length] at HT
   go_wp2_with (at_builtin;refine wpList_appC rfl _ _ 67 rfl 72 i0' (.agg #[.int .u8 0,.string ⟨#[]⟩,.string ⟨#[]⟩,.string ⟨#[]⟩,.int .i64 0,.slice none 0 0,.slice none 0 0,.slice none 0 0,.int .i64 0]) 9 144 Tryz.underlying67 hi0 hz0 hz1 hz2 rfl (by decide) (by decide) w.heap.size _ l.length css.flatten rfl (ownR_below HT.out.own ((Below.refl _ wr).alloc (Nat.le_refl _) _)) wr.heap.size [.int .u8 0,.string ⟨#[115,112,97,114,101]⟩,.string ⟨#[]⟩,.string ⟨#[]⟩,.int .i64 0,.slice none 0 0,.slice none 0 0,.slice none 0 0,.int .i64 0] rfl rfl (cells_newC _ [.int .u8 0,.string ⟨#[115,112,97,114,101]⟩,.string ⟨#[]⟩,.string ⟨#[]⟩,.int .i64 0,.slice none 0 0,.slice none 0 0,.slice none 0 0,.int .i64 0] _) (by simp [Value.oneCell']) (by omega) (by have:=HT.out.bl.size;simp;omega) ?_;intro v7 w7 O7 D7;obtain ⟨g,c,rfl,hgc,h8,h9⟩:=HT.out.done hok' O7 D7;have H8:=hide h8;have H9:=hide h9;clear O7 D7 h8 h9)
   go_ret
   exact ⟨_,rfl,H8.out,H9.out⟩
theorem Tryz.infoTStates:(Tryz.prog.info? 79).map (fun i=>(i.zero,i.size,i.bytes))=some (some (.agg #[.string ⟨#[]⟩,.slice none 0 0,.slice none 0 0,.slice none 0 0,.string ⟨#[]⟩,.int .i64 0]),6,112):=by kernel_rfl
set_option maxRecDepth 100000 in
set_option maxHeartbeats 4000000 in
theorem twinStates_ok {α:Type} {rep rep':Rep α} (hok:RepOk rep) (hok':RepOk rep') (l:List α) (HE:∀ x ∈ l,∀ (W:World) (X:Nat→Prop) (cs:List Value),cs.length=6→rep W X (mkAgg cs) x→Calls Tryz.prog 192 #[mkAgg cs] W fun e w'=>∃ cs',e=.returned (mkAgg cs')∧cs'.length=6∧(∀ u ∈ cs',u.oneCell'=true)∧rep' w' (Bn W w') (mkAgg cs') x∧Below W.heap.size W w') (w:World) (X:Nat→Prop) (v:Value) (hl:l.length≤1000000) (h:ListR rep mkAgg 6 w X v l) :
  Calls Tryz.prog 147 #[v] w fun e w'=>∃ v',e=.returned v'∧ListT rep' mkAgg 6 79 w' (Bn w w') v' l∧Below w.heap.size w w':=by
 obtain ⟨i0',hi0,hz0,hz1,hz2⟩:=info_parts Tryz.infoTStates
 obtain ⟨a,ca,rfl,h4⟩:=list_at h
 have H4:=hide h4
 have HEE:=hide HE
 clear h h4 HE
 go_enter Tryz.func147,Tryz.ntmps147
 go_wp2_with (first
  | (refine wpList_make_own _ rfl _ _ 64 rfl w.heap.size 79 i0' (.agg #[.string ⟨#[]⟩,.slice none 0 0,.slice none 0 0,.slice none 0 0,.string ⟨#[]⟩,.int .i64 0]) 6 Tryz.underlying64 hi0 hz0 hz1 .i64 .i64 _ (l.length+1) rfl rfl (by simp) (by rw [hz2];omega) (by unfold maxLen;omega) (Nat.le_refl _) ?_;intro w1 O1 G1;have T1:Hid (Tp rep' mkAgg 6 79 w w1 0 (.slice (some ⟨w.heap.size,0,none⟩) 0 (l.length+1)) (l.take 0) []):=⟨(Below.refl _ w).grown G1 (Nat.le_refl _) (fun k e=>by cases e),O1,by simp,by simp,fun i hi _=>by simp at hi⟩;clear O1 G1))
 go_loopw [3,4] (fun t i wr=>∃ (k:Nat) (css:List (List Value)),k≤l.length∧i=.int .i64 k∧Hid (Tp rep' mkAgg 6 79 w wr k t (l.take k) css)) (fun _ i _=>l.length - (intOf i).toNat)
 case atStart=>exact ⟨0,[],Nat.zero_le _,rfl,T1⟩
 case round =>
  rename_i tv _
  obtain ⟨k,css,hk,rfl,HT⟩:=hrel
  clear T1
  by_cases hlt:k < l.length
  ·have hkI:(k:Int) < (l.length:Int):=by omega
   rcases H4.out with h0 | ⟨b,rfl,hX,hb,h5⟩
   ·omega
   obtain ⟨cs,k1,k2,k3⟩:=h5 k hlt
   have hc:∀ j u,cs[j]? = some u→wr.cell? ⟨b,k * 6+j,none⟩=some u:=fun j u hu=>(HT.out.bl.cell (p:=⟨b,k * 6+j,none⟩) hb).trans (k2 j u hu)
   have HNx:=hide (List.take_succ_eq_append_getElem hlt)
   have HR:=hide (hok.frame k3 (W':=wr) HT.out.bl.size (fun b _ hl=>HT.out.bl.block b hl))
   have HM:Hid (l[k] ∈ l):=List.getElem_mem hlt
   generalize l[k]=x at HNx HR HM
   clear h5 k2 k3
   match cs,k1 with
   | [x0,x1,x2,x3,x4,x5],_ =>
    have c0:wr.cell? ⟨b,k * 6,none⟩=some x0:=hc 0 _ rfl
    have c1:wr.cell? ⟨b,k * 6+1,none⟩=some x1:=hc 1 _ rfl
    have c2:wr.cell? ⟨b,k * 6+2,none⟩=some x2:=hc 2 _ rfl
    have c3:wr.cell? ⟨b,k * 6+3,none⟩=some x3:=hc 3 _ rfl
    have c4:wr.cell? ⟨b,k * 6+4,none⟩=some x4:=hc 4 _ rfl
    have c5:wr.cell? ⟨b,k * 6+5,none⟩=some x5:=hc 5 _ rfl
    have HC:=hide (HEE.out x HM.out wr _ _ rfl HR.out)
    clear hc HR HM
    go_wp2_with fail
    refine HC.out.mono ?_
    rintro e w2 ⟨cs',rfl,q1,q2,q3,q4⟩
    have HT2:=hide (HT.out.go hok' q4)
    have Q3:=hide q3
    have Q4:=hide q4
    have Q2:=hide q2
    clear HC q2 q3 q4
    match cs',q1 with
    | [y0,y1,y2,y3,y4,y5],_ =>
     simp only [mkAgg]
     go_wp2_with (at_builtin;refine wpList_appC rfl _ _ 64 rfl 79 i0' (.agg #[.string ⟨#[]⟩,.slice none 0 0,.slice none 0 0,.slice none 0 0,.string ⟨#[]⟩,.int .i64 0]) 6 112 Tryz.underlying64 hi0 hz0 hz1 hz2 rfl (by decide) (by decide) w.heap.size _ k css.flatten rfl (ownR_below HT2.out.own ((Below.refl _ w2).alloc (Nat.le_refl _) _)) w2.heap.size [y0,y1,y2,y3,y4,y5] rfl rfl (cells_newC _ [y0,y1,y2,y3,y4,y5] _) Q2.out (by omega) (by have:=HT2.out.bl.size;simp;omega) ?_;intro v7 w7 O7 D7;have HT7:=hide (HT.out.step hok' Q4.out Q3.out rfl O7 D7);clear O7 D7)
     rw [← HNx.out] at HT7
     go_roundw
     case rel=>exact ⟨k+1,_,by omega,by go_num,HT7⟩
     case measure=>simp [intOf];omega
  ·obtain rfl:k=l.length:=by omega
   rw [List.take_length] at HT
   go_wp2_with (at_builtin;refine wpList_appC rfl _ _ 64 rfl 79 i0' (.agg #[.string ⟨#[]⟩,.slice none 0 0,.slice none 0 0,.slice none 0 0,.string ⟨#[]⟩,.int .i64 0]) 6 112 Tryz.underlying64 hi0 hz0 hz1 hz2 rfl (by decide) (by decide) w.heap.size _ l.length css.flatten rfl (ownR_below HT.out.own ((Below.refl _ wr).alloc (Nat.le_refl _) _)) wr.heap.size [.string ⟨#[115,112,97,114,101]⟩,.slice none 0 0,.slice none 0 0,.slice none 0 0,.string ⟨#[]⟩,.int .i64 0] rfl rfl (cells_newC _ [.string ⟨#[115,112,97,114,101]⟩,.slice none 0 0,.slice none 0 0,.slice none 0 0,.string ⟨#[]⟩,.int .i64 0] _) (by simp [Value.oneCell']) (by omega) (by have:=HT.out.bl.size;simp;omega) ?_;intro v7 w7 O7 D7;obtain ⟨g,c,rfl,hgc,h8,h9⟩:=HT.out.done hok' O7 D7;have H8:=hide h8;have H9:=hide h9;clear O7 D7 h8 h9)
   go_ret
   exact ⟨_,rfl,H8.out,H9.out⟩
theorem Tryz.infoTKeys:(Tryz.prog.info? 85).map (fun i=>(i.zero,i.size,i.bytes))=some (some (.agg #[.int .u8 0,.int .i64 0,.int .u64 0,.int .u64 0,.string ⟨#[]⟩,.string ⟨#[]⟩,.int .i64 0,.int .i64 0,.slice none 0 0,.int .i64 0,.int .u8 0]),11,120):=by kernel_rfl
set_option maxRecDepth 100000 in
set_option maxHeartbeats 4000000 in
theorem twinKeys_ok {α:Type} {rep rep':Rep α} (hok:RepOk rep) (hok':RepOk rep') (l:List α) (HE:∀ x ∈ l,∀ (W:World) (X:Nat→Prop) (cs:List Value),cs.length=11→rep W X (mkAgg cs) x→Calls Tryz.prog 193 #[mkAgg cs] W fun e w'=>∃ cs',e=.returned (mkAgg cs')∧cs'.length=11∧(∀ u ∈ cs',u.oneCell'=true)∧rep' w' (Bn W w') (mkAgg cs') x∧Below W.heap.size W w') (w:World) (X:Nat→Prop) (v:Value) (hl:l.length≤1000000) (h:ListR rep mkAgg 11 w X v l) :
  Calls Tryz.prog 148 #[v] w fun e w'=>∃ v',e=.returned v'∧ListT rep' mkAgg 11 85 w' (Bn w w') v' l∧Below w.heap.size w w':=by
 obtain ⟨i0',hi0,hz0,hz1,hz2⟩:=info_parts Tryz.infoTKeys
 obtain ⟨a,ca,rfl,h4⟩:=list_at h
 have H4:=hide h4
 have HEE:=hide HE
 clear h h4 HE
 go_enter Tryz.func148,Tryz.ntmps148
 go_wp2_with (first
  | (refine wpList_make_own _ rfl _ _ 65 rfl w.heap.size 85 i0' (.agg #[.int .u8 0,.int .i64 0,.int .u64 0,.int .u64 0,.string ⟨#[]⟩,.string ⟨#[]⟩,.int .i64 0,.int .i64 0,.slice none 0 0,.int .i64 0,.int .u8 0]) 11 Tryz.underlying65 hi0 hz0 hz1 .i64 .i64 _ (l.length+1) rfl rfl (by simp) (by rw [hz2];omega) (by unfold maxLen;omega) (Nat.le_refl _) ?_;intro w1 O1 G1;have T1:Hid (Tp rep' mkAgg 11 85 w w1 0 (.slice (some ⟨w.heap.size,0,none⟩) 0 (l.length+1)) (l.take 0) []):=⟨(Below.refl _ w).grown G1 (Nat.le_refl _) (fun k e=>by cases e),O1,by simp,by simp,fun i hi _=>by simp at hi⟩;clear O1 G1))
 go_loopw [3,4] (fun t i wr=>∃ (k:Nat) (css:List (List Value)),k≤l.length∧i=.int .i64 k∧Hid (Tp rep' mkAgg 11 85 w wr k t (l.take k) css)) (fun _ i _=>l.length - (intOf i).toNat)
 case atStart=>exact ⟨0,[],Nat.zero_le _,rfl,T1⟩
 case round =>
  rename_i tv _
  obtain ⟨k,css,hk,rfl,HT⟩:=hrel
  clear T1
  by_cases hlt:k < l.length
  ·have hkI:(k:Int) < (l.length:Int):=by omega
   rcases H4.out with h0 | ⟨b,rfl,hX,hb,h5⟩
   ·omega
   obtain ⟨cs,k1,k2,k3⟩:=h5 k hlt
   have hc:∀ j u,cs[j]? = some u→wr.cell? ⟨b,k * 11+j,none⟩=some u:=fun j u hu=>(HT.out.bl.cell (p:=⟨b,k * 11+j,none⟩) hb).trans (k2 j u hu)
   have HNx:=hide (List.take_succ_eq_append_getElem hlt)
   have HR:=hide (hok.frame k3 (W':=wr) HT.out.bl.size (fun b _ hl=>HT.out.bl.block b hl))
   have HM:Hid (l[k] ∈ l):=List.getElem_mem hlt
   generalize l[k]=x at HNx HR HM
   clear h5 k2 k3
   match cs,k1 with
   | [x0,x1,x2,x3,x4,x5,x6,x7,x8,x9,x10],_ =>
    have c0:wr.cell? ⟨b,k * 11,none⟩=some x0:=hc 0 _ rfl
    have c1:wr.cell? ⟨b,k * 11+1,none⟩=some x1:=hc 1 _ rfl
    have c2:wr.cell? ⟨b,k * 11+2,none⟩=some x2:=hc 2 _ rfl
    have c3:wr.cell? ⟨b,k * 11+3,none⟩=some x3:=hc 3 _ rfl
    have c4:wr.cell? ⟨b,k * 11+4,none⟩=some x4:=hc 4 _ rfl
    have c5:wr.cell? ⟨b,k * 11+5,none⟩=some x5:=hc 5 _ rfl
    have c6:wr.cell? ⟨b,k * 11+6,none⟩=some x6:=hc 6 _ rfl
    have c7:wr.cell? ⟨b,k * 11+7,none⟩=some x7:=hc 7 _ rfl
    have c8:wr.cell? ⟨b,k * 11+8,none⟩=some x8:=hc 8 _ rfl
    have c9:wr.cell? ⟨b,k * 11+9,none⟩=some x9:=hc 9 _ rfl
    have c10:wr.cell? ⟨b,k * 11+10,none⟩=some x10:=hc 10 _ rfl
    have HC:=hide (HEE.out x HM.out wr _ _ rfl HR.out)
    clear hc HR HM
    go_wp2_with fail
    refine HC.out.mono ?_
    rintro e w2 ⟨cs',rfl,q1,q2,q3,q4⟩
    have HT2:=hide (HT.out.go hok' q4)
    have Q3:=hide q3
    have Q4:=hide q4
    have Q2:=hide q2
    clear HC q2 q3 q4
    match cs',q1 with
    | [y0,y1,y2,y3,y4,y5,y6,y7,y8,y9,y10],_ =>
     simp only [mkAgg]
     go_wp2_with (at_builtin;refine wpList_appC rfl _ _ 65 rfl 85 i0' (.agg #[.int .u8 0,.int .i64 0,.int .u64 0,.int .u64 0,.string ⟨#[]⟩,.string ⟨#[]⟩,.int .i64 0,.int .i64 0,.slice none 0 0,.int .i64 0,.int .u8 0]) 11 120 Tryz.underlying65 hi0 hz0 hz1 hz2 rfl (by decide) (by decide) w.heap.size _ k css.flatten rfl (ownR_below HT2.out.own ((Below.refl _ w2).alloc (Nat.le_refl _) _)) w2.heap.size [y0,y1,y2,y3,y4,y5,y6,y7,y8,y9,y10] rfl rfl (cells_newC _ [y0,y1,y2,y3,y4,y5,y6,y7,y8,y9,y10] _) Q2.out (by omega) (by have:=HT2.out.bl.size;simp;omega) ?_;intro v7 w7 O7 D7;have HT7:=hide (HT.out.step hok' Q4.out Q3.out rfl O7 D7);clear O7 D7)
     rw [← HNx.out] at HT7
     go_roundw
     case rel=>exact ⟨k+1,_,by omega,by go_num,HT7⟩
     case measure=>simp [intOf];omega
  ·obtain rfl:k=l.length:=by omega
   rw [List.take_length] at HT
   go_wp2_with (at_builtin;refine wpList_appC rfl _ _ 65 rfl 85 i0' (.agg #[.int .u8 0,.int .i64 0,.int .u64 0,.int .u64 0,.string ⟨#[]⟩,.string ⟨#[]⟩,.int .i64 0,.int .i64 0,.slice none 0 0,.int .i64 0,.int .u8 0]) 11 120 Tryz.underlying65 hi0 hz0 hz1 hz2 rfl (by decide) (by decide) w.heap.size _ l.length css.flatten rfl (ownR_below HT.out.own ((Below.refl _ wr).alloc (Nat.le_refl _) _)) wr.heap.size [.int .u8 0,.int .i64 0,.int .u64 0,.int .u64 0,.string ⟨#[]⟩,.string ⟨#[]⟩,.int .i64 0,.int .i64 0,.slice none 0 0,.int .i64 0,.int .u8 77] rfl rfl (cells_newC _ [.int .u8 0,.int .i64 0,.int .u64 0,.int .u64 0,.string ⟨#[]⟩,.string ⟨#[]⟩,.int .i64 0,.int .i64 0,.slice none 0 0,.int .i64 0,.int .u8 77] _) (by simp [Value.oneCell']) (by omega) (by have:=HT.out.bl.size;simp;omega) ?_;intro v7 w7 O7 D7;obtain ⟨g,c,rfl,hgc,h8,h9⟩:=HT.out.done hok' O7 D7;have H8:=hide h8;have H9:=hide h9;clear O7 D7 h8 h9)
   go_ret
   exact ⟨_,rfl,H8.out,H9.out⟩
theorem Tryz.infoTDecls:(Tryz.prog.info? 69).map (fun i=>(i.zero,i.size,i.bytes))=some (some (.agg #[.int .u8 0,.string ⟨#[]⟩,.slice none 0 0,.int .i64 0,.int .i64 0,.int .i64 0,.int .i64 0,.slice none 0 0,.slice none 0 0,.slice none 0 0,.string ⟨#[]⟩,.slice none 0 0,.slice none 0 0,.slice none 0 0,.int .i64 0]),15,248):=by kernel_rfl
set_option maxRecDepth 100000 in
set_option maxHeartbeats 4000000 in
theorem twinDecls_ok {α:Type} {rep rep':Rep α} (hok:RepOk rep) (hok':RepOk rep') (l:List α) (HE:∀ x ∈ l,∀ (W:World) (X:Nat→Prop) (cs:List Value),cs.length=15→rep W X (mkAgg cs) x→Calls Tryz.prog 96 #[mkAgg cs] W fun e w'=>∃ cs',e=.returned (mkAgg cs')∧cs'.length=15∧(∀ u ∈ cs',u.oneCell'=true)∧rep' w' (Bn W w') (mkAgg cs') x∧Below W.heap.size W w') (w:World) (X:Nat→Prop) (v:Value) (hl:l.length≤1000000) (h:ListR rep mkAgg 15 w X v l) :
  Calls Tryz.prog 42 #[v] w fun e w'=>∃ v',e=.returned v'∧ListT rep' mkAgg 15 69 w' (Bn w w') v' l∧Below w.heap.size w w':=by
 obtain ⟨i0',hi0,hz0,hz1,hz2⟩:=info_parts Tryz.infoTDecls
 obtain ⟨a,ca,rfl,h4⟩:=list_at h
 have H4:=hide h4
 have HEE:=hide HE
 clear h h4 HE
 go_enter Tryz.func42,Tryz.ntmps42
 go_wp2_with (first
  | (refine wpList_make_own _ rfl _ _ 22 rfl w.heap.size 69 i0' (.agg #[.int .u8 0,.string ⟨#[]⟩,.slice none 0 0,.int .i64 0,.int .i64 0,.int .i64 0,.int .i64 0,.slice none 0 0,.slice none 0 0,.slice none 0 0,.string ⟨#[]⟩,.slice none 0 0,.slice none 0 0,.slice none 0 0,.int .i64 0]) 15 Tryz.underlying22 hi0 hz0 hz1 .i64 .i64 _ (l.length+1) rfl rfl (by simp) (by rw [hz2];omega) (by unfold maxLen;omega) (Nat.le_refl _) ?_;intro w1 O1 G1;have T1:Hid (Tp rep' mkAgg 15 69 w w1 0 (.slice (some ⟨w.heap.size,0,none⟩) 0 (l.length+1)) (l.take 0) []):=⟨(Below.refl _ w).grown G1 (Nat.le_refl _) (fun k e=>by cases e),O1,by simp,by simp,fun i hi _=>by simp at hi⟩;clear O1 G1))
 go_loopw [3,4] (fun t i wr=>∃ (k:Nat) (css:List (List Value)),k≤l.length∧i=.int .i64 k∧Hid (Tp rep' mkAgg 15 69 w wr k t (l.take k) css)) (fun _ i _=>l.length - (intOf i).toNat)
 case atStart=>exact ⟨0,[],Nat.zero_le _,rfl,T1⟩
 case round =>
  rename_i tv _
  obtain ⟨k,css,hk,rfl,HT⟩:=hrel
  clear T1
  by_cases hlt:k < l.length
  ·have hkI:(k:Int) < (l.length:Int):=by omega
   rcases H4.out with h0 | ⟨b,rfl,hX,hb,h5⟩
   ·omega
   obtain ⟨cs,k1,k2,k3⟩:=h5 k hlt
   have hc:∀ j u,cs[j]? = some u→wr.cell? ⟨b,k * 15+j,none⟩=some u:=fun j u hu=>(HT.out.bl.cell (p:=⟨b,k * 15+j,none⟩) hb).trans (k2 j u hu)
   have HNx:=hide (List.take_succ_eq_append_getElem hlt)
   have HR:=hide (hok.frame k3 (W':=wr) HT.out.bl.size (fun b _ hl=>HT.out.bl.block b hl))
   have HM:Hid (l[k] ∈ l):=List.getElem_mem hlt
   generalize l[k]=x at HNx HR HM
   clear h5 k2 k3
   match cs,k1 with
   | [x0,x1,x2,x3,x4,x5,x6,x7,x8,x9,x10,x11,x12,x13,x14],_ =>
    have c0:wr.cell? ⟨b,k * 15,none⟩=some x0:=hc 0 _ rfl
    have c1:wr.cell? ⟨b,k * 15+1,none⟩=some x1:=hc 1 _ rfl
    have c2:wr.cell? ⟨b,k * 15+2,none⟩=some x2:=hc 2 _ rfl
    have c3:wr.cell? ⟨b,k * 15+3,none⟩=some x3:=hc 3 _ rfl
    have c4:wr.cell? ⟨b,k * 15+4,none⟩=some x4:=hc 4 _ rfl
    have c5:wr.cell? ⟨b,k * 15+5,none⟩=some x5:=hc 5 _ rfl
    have c6:wr.cell? ⟨b,k * 15+6,none⟩=some x6:=hc 6 _ rfl
    have c7:wr.cell? ⟨b,k * 15+7,none⟩=some x7:=hc 7 _ rfl
    have c8:wr.cell? ⟨b,k * 15+8,none⟩=some x8:=hc 8 _ rfl
    have c9:wr.cell? ⟨b,k * 15+9,none⟩=some x9:=hc 9 _ rfl
    have c10:wr.cell? ⟨b,k * 15+10,none⟩=some x10:=hc 10 _ rfl
    have c11:wr.cell? ⟨b,k * 15+11,none⟩=some x11:=hc 11 _ rfl
    have c12:wr.cell? ⟨b,k * 15+12,none⟩=some x12:=hc 12 _ rfl
    have c13:wr.cell? ⟨b,k * 15+13,none⟩=some x13:=hc 13 _ rfl
    have c14:wr.cell? ⟨b,k * 15+14,none⟩=some x14:=hc 14 _ rfl
    have HC:=hide (HEE.out x HM.out wr _ _ rfl HR.out)
    clear hc HR HM
    go_wp2_with fail
    refine HC.out.mono ?_
    rintro e w2 ⟨cs',rfl,q1,q2,q3,q4⟩
    have HT2:=hide (HT.out.go hok' q4)
    have Q3:=hide q3
    have Q4:=hide q4
    have Q2:=hide q2
    clear HC q2 q3 q4
    match cs',q1 with
    | [y0,y1,y2,y3,y4,y5,y6,y7,y8,y9,y10,y11,y12,y13,y14],_ =>
     simp only [mkAgg]
     go_wp2_with (at_builtin;refine wpList_appC rfl _ _ 22 rfl 69 i0' (.agg #[.int .u8 0,.string ⟨#[]⟩,.slice none 0 0,.int .i64 0,.int .i64 0,.int .i64 0,.int .i64 0,.slice none 0 0,.slice none 0 0,.slice none 0 0,.string ⟨#[]⟩,.slice none 0 0,.slice none 0 0,.slice none 0 0,.int .i64 0]) 15 248 Tryz.underlying22 hi0 hz0 hz1 hz2 rfl (by decide) (by decide) w.heap.size _ k css.flatten rfl (ownR_below HT2.out.own ((Below.refl _ w2).alloc (Nat.le_refl _) _)) w2.heap.size [y0,y1,y2,y3,y4,y5,y6,y7,y8,y9,y10,y11,y12,y13,y14] rfl rfl (cells_newC _ [y0,y1,y2,y3,y4,y5,y6,y7,y8,y9,y10,y11,y12,y13,y14] _) Q2.out (by omega) (by have:=HT2.out.bl.size;simp;omega) ?_;intro v7 w7 O7 D7;have HT7:=hide (HT.out.step hok' Q4.out Q3.out rfl O7 D7);clear O7 D7)
     rw [← HNx.out] at HT7
     go_roundw
     case rel=>exact ⟨k+1,_,by omega,by go_num,HT7⟩
     case measure=>simp [intOf];omega
  ·obtain rfl:k=l.length:=by omega
   rw [List.take_length] at HT
   go_wp2_with (at_builtin;refine wpList_appC rfl _ _ 22 rfl 69 i0' (.agg #[.int .u8 0,.string ⟨#[]⟩,.slice none 0 0,.int .i64 0,.int .i64 0,.int .i64 0,.int .i64 0,.slice none 0 0,.slice none 0 0,.slice none 0 0,.string ⟨#[]⟩,.slice none 0 0,.slice none 0 0,.slice none 0 0,.int .i64 0]) 15 248 Tryz.underlying22 hi0 hz0 hz1 hz2 rfl (by decide) (by decide) w.heap.size _ l.length css.flatten rfl (ownR_below HT.out.own ((Below.refl _ wr).alloc (Nat.le_refl _) _)) wr.heap.size [.int .u8 0,.string ⟨#[115,112,97,114,101]⟩,.slice none 0 0,.int .i64 0,.int .i64 0,.int .i64 0,.int .i64 0,.slice none 0 0,.slice none 0 0,.slice none 0 0,.string ⟨#[]⟩,.slice none 0 0,.slice none 0 0,.slice none 0 0,.int .i64 0] rfl rfl (cells_newC _ [.int .u8 0,.string ⟨#[115,112,97,114,101]⟩,.slice none 0 0,.int .i64 0,.int .i64 0,.int .i64 0,.int .i64 0,.slice none 0 0,.slice none 0 0,.slice none 0 0,.string ⟨#[]⟩,.slice none 0 0,.slice none 0 0,.slice none 0 0,.int .i64 0] _) (by simp [Value.oneCell']) (by omega) (by have:=HT.out.bl.size;simp;omega) ?_;intro v7 w7 O7 D7;obtain ⟨g,c,rfl,hgc,h8,h9⟩:=HT.out.done hok' O7 D7;have H8:=hide h8;have H9:=hide h9;clear O7 D7 h8 h9)
   go_ret
   exact ⟨_,rfl,H8.out,H9.out⟩
end Go.Proofs.YtabkimknlifdoaaGreatDoor
