/- Pieces of the proof: TEc, TEd. -/
import Derived.Test.YtabkimknlifdoaaGreatDoorJ34
import Derived.Test.YtabkimknlifdoaaGreatDoorJ40
namespace Go.Proofs.YtabkimknlifdoaaGreatDoor
open Go.RowKit
set_option maxRecDepth 100000 in
set_option maxHeartbeats 4000000 in
theorem sameExprs_ok {eq:World→List Value→List Value→Prop} (hnx:∀ W W' cs cs',Below W.heap.size W W'→eq W cs cs'→eq W' cs cs') (HX:∀ W cs cs',eq W cs cs'→Calls Tryz.prog 191 #[.agg cs.toArray,.agg cs'.toArray] W fun e w'=>e=.returned (.bool true)∧Below W.heap.size W w'):SaL 189 10 eq:=by
 rintro W _ _ ⟨nn,a,b,ca,cb,rfl,rfl,hn,h4⟩
 have H4:=hide h4
 have HE:=hide HX
 clear h4 HX
 go_enter Tryz.func189,Tryz.ntmps189
 go_wp2
 go_loopw [5] (fun vi wr=>∃ (k:Nat),vi=.int .i64 (k:Int)∧k≤nn∧Hid (Below W.heap.size W wr)) (fun vi _=>nn - (intOf vi).toNat)
 case atStart=>exact ⟨0,rfl,Nat.zero_le _,Below.refl _ _⟩
 case round =>
  obtain ⟨k,rfl,hk,HB⟩:=hrel
  by_cases hlt:k < nn
  ·have hI:(k:Int) < (nn:Int):=by omega
   rcases H4.out with h0 | ⟨pa,pb,rfl,rfl,l1,l2,h5⟩
   ·omega
   ·obtain ⟨cs,cs',k1,k2,k3,k4,k5⟩:=h5 k hlt
    have HQ:=hide (hnx _ _ _ _ HB.out k5)
    have hA:∀ j u,cs[j]? = some u→wr.cell? ⟨pa,k * 10+j,none⟩=some u:=fun j u hu=>(HB.out.cell (p:=⟨pa,k * 10+j,none⟩) l1).trans (k3 j u hu)
    have hB:∀ j u,cs'[j]? = some u→wr.cell? ⟨pb,k * 10+j,none⟩=some u:=fun j u hu=>(HB.out.cell (p:=⟨pb,k * 10+j,none⟩) l2).trans (k4 j u hu)
    have l1':pa < wr.heap.size:=Nat.lt_of_lt_of_le l1 HB.out.size
    have l2':pb < wr.heap.size:=Nat.lt_of_lt_of_le l2 HB.out.size
    match cs,cs',k1,k2 with
    | [x0,x1,x2,x3,x4,x5,x6,x7,x8,x9],[y0,y1,y2,y3,y4,y5,y6,y7,y8,y9],_,_ =>
    have HS:Hid (∀ w',Below wr.heap.size wr w'→Below wr.heap.size wr w'∧w'.cell? ⟨pa,k * 10,none⟩=some x0∧w'.cell? ⟨pa,k * 10+1,none⟩=some x1∧w'.cell? ⟨pa,k * 10+2,none⟩=some x2∧w'.cell? ⟨pa,k * 10+3,none⟩=some x3∧w'.cell? ⟨pa,k * 10+4,none⟩=some x4∧w'.cell? ⟨pa,k * 10+5,none⟩=some x5∧w'.cell? ⟨pa,k * 10+6,none⟩=some x6∧w'.cell? ⟨pa,k * 10+7,none⟩=some x7∧w'.cell? ⟨pa,k * 10+8,none⟩=some x8∧w'.cell? ⟨pa,k * 10+9,none⟩=some x9∧w'.cell? ⟨pb,k * 10,none⟩=some y0∧w'.cell? ⟨pb,k * 10+1,none⟩=some y1∧w'.cell? ⟨pb,k * 10+2,none⟩=some y2∧w'.cell? ⟨pb,k * 10+3,none⟩=some y3∧w'.cell? ⟨pb,k * 10+4,none⟩=some y4∧w'.cell? ⟨pb,k * 10+5,none⟩=some y5∧w'.cell? ⟨pb,k * 10+6,none⟩=some y6∧w'.cell? ⟨pb,k * 10+7,none⟩=some y7∧w'.cell? ⟨pb,k * 10+8,none⟩=some y8∧w'.cell? ⟨pb,k * 10+9,none⟩=some y9):=fun w' h=>by
     have ca':∀ j u,[x0,x1,x2,x3,x4,x5,x6,x7,x8,x9][j]? = some u→w'.cell? ⟨pa,k * 10+j,none⟩=some u:=fun j u hu=>(h.cell (p:=⟨pa,k * 10+j,none⟩) l1').trans (hA j u hu)
     have cb':∀ j u,[y0,y1,y2,y3,y4,y5,y6,y7,y8,y9][j]? = some u→w'.cell? ⟨pb,k * 10+j,none⟩=some u:=fun j u hu=>(h.cell (p:=⟨pb,k * 10+j,none⟩) l2').trans (hB j u hu)
     exact ⟨h,ca' 0 _ rfl,ca' 1 _ rfl,ca' 2 _ rfl,ca' 3 _ rfl,ca' 4 _ rfl,ca' 5 _ rfl,ca' 6 _ rfl,ca' 7 _ rfl,ca' 8 _ rfl,ca' 9 _ rfl,cb' 0 _ rfl,cb' 1 _ rfl,cb' 2 _ rfl,cb' 3 _ rfl,cb' 4 _ rfl,cb' 5 _ rfl,cb' 6 _ rfl,cb' 7 _ rfl,cb' 8 _ rfl,cb' 9 _ rfl⟩
    clear h5 k3 k4 k5 hA hB
    have HCl:=hide (fun w' (h:Below wr.heap.size wr w')=>HE.out w' _ _ (hnx _ _ _ _ h HQ.out))
    go_wp2
    go_region_held3 (fun w'=>Below wr.heap.size wr w'∧w'.cell? ⟨pa,k * 10,none⟩=some x0∧w'.cell? ⟨pa,k * 10+1,none⟩=some x1∧w'.cell? ⟨pa,k * 10+2,none⟩=some x2∧w'.cell? ⟨pa,k * 10+3,none⟩=some x3∧w'.cell? ⟨pa,k * 10+4,none⟩=some x4∧w'.cell? ⟨pa,k * 10+5,none⟩=some x5∧w'.cell? ⟨pa,k * 10+6,none⟩=some x6∧w'.cell? ⟨pa,k * 10+7,none⟩=some x7∧w'.cell? ⟨pa,k * 10+8,none⟩=some x8∧w'.cell? ⟨pa,k * 10+9,none⟩=some x9∧w'.cell? ⟨pb,k * 10,none⟩=some y0∧w'.cell? ⟨pb,k * 10+1,none⟩=some y1∧w'.cell? ⟨pb,k * 10+2,none⟩=some y2∧w'.cell? ⟨pb,k * 10+3,none⟩=some y3∧w'.cell? ⟨pb,k * 10+4,none⟩=some y4∧w'.cell? ⟨pb,k * 10+5,none⟩=some y5∧w'.cell? ⟨pb,k * 10+6,none⟩=some y6∧w'.cell? ⟨pb,k * 10+7,none⟩=some y7∧w'.cell? ⟨pb,k * 10+8,none⟩=some y8∧w'.cell? ⟨pb,k * 10+9,none⟩=some y9) (first | exact keepBT HS.out (And.left (by assumption)) (by assumption) | exact HS.out _ (Below.refl _ _).drew)
     (first | (go_at_call 191;refine (HCl.out _ (And.left (by assumption):Below wr.heap.size wr _)).mono ?_;rintro e w5 ⟨rfl,hb5⟩))
    all_goals
     have BW:Hid (Below W.heap.size W w5):=HB.out.trans ((And.left (by assumption):Below wr.heap.size wr w5).mono HB.out.size)
     go_wp2
     exact ⟨⟨k+1,by congr 1,by omega,BW⟩,by simp [intOf];omega⟩
  ·have hI:¬ (k:Int) < (nn:Int):=by omega
   go_wp2
   go_ret
   exact ⟨rfl,HB.out⟩
set_option maxRecDepth 100000 in
set_option maxHeartbeats 4000000 in
theorem sameStmts_ok {eq:World→List Value→List Value→Prop} (hnx:∀ W W' cs cs',Below W.heap.size W W'→eq W cs cs'→eq W' cs cs') (HX:∀ W cs cs',eq W cs cs'→Calls Tryz.prog 145 #[.agg cs.toArray,.agg cs'.toArray] W fun e w'=>e=.returned (.bool true)∧Below W.heap.size W w'):SaL 95 9 eq:=by
 rintro W _ _ ⟨nn,a,b,ca,cb,rfl,rfl,hn,h4⟩
 have H4:=hide h4
 have HE:=hide HX
 clear h4 HX
 go_enter Tryz.func95,Tryz.ntmps95
 go_wp2
 go_loopw [5] (fun vi wr=>∃ (k:Nat),vi=.int .i64 (k:Int)∧k≤nn∧Hid (Below W.heap.size W wr)) (fun vi _=>nn - (intOf vi).toNat)
 case atStart=>exact ⟨0,rfl,Nat.zero_le _,Below.refl _ _⟩
 case round =>
  obtain ⟨k,rfl,hk,HB⟩:=hrel
  by_cases hlt:k < nn
  ·have hI:(k:Int) < (nn:Int):=by omega
   rcases H4.out with h0 | ⟨pa,pb,rfl,rfl,l1,l2,h5⟩
   ·omega
   ·obtain ⟨cs,cs',k1,k2,k3,k4,k5⟩:=h5 k hlt
    have HQ:=hide (hnx _ _ _ _ HB.out k5)
    have hA:∀ j u,cs[j]? = some u→wr.cell? ⟨pa,k * 9+j,none⟩=some u:=fun j u hu=>(HB.out.cell (p:=⟨pa,k * 9+j,none⟩) l1).trans (k3 j u hu)
    have hB:∀ j u,cs'[j]? = some u→wr.cell? ⟨pb,k * 9+j,none⟩=some u:=fun j u hu=>(HB.out.cell (p:=⟨pb,k * 9+j,none⟩) l2).trans (k4 j u hu)
    have l1':pa < wr.heap.size:=Nat.lt_of_lt_of_le l1 HB.out.size
    have l2':pb < wr.heap.size:=Nat.lt_of_lt_of_le l2 HB.out.size
    match cs,cs',k1,k2 with
    | [x0,x1,x2,x3,x4,x5,x6,x7,x8],[y0,y1,y2,y3,y4,y5,y6,y7,y8],_,_ =>
    have HS:Hid (∀ w',Below wr.heap.size wr w'→Below wr.heap.size wr w'∧w'.cell? ⟨pa,k * 9,none⟩=some x0∧w'.cell? ⟨pa,k * 9+1,none⟩=some x1∧w'.cell? ⟨pa,k * 9+2,none⟩=some x2∧w'.cell? ⟨pa,k * 9+3,none⟩=some x3∧w'.cell? ⟨pa,k * 9+4,none⟩=some x4∧w'.cell? ⟨pa,k * 9+5,none⟩=some x5∧w'.cell? ⟨pa,k * 9+6,none⟩=some x6∧w'.cell? ⟨pa,k * 9+7,none⟩=some x7∧w'.cell? ⟨pa,k * 9+8,none⟩=some x8∧w'.cell? ⟨pb,k * 9,none⟩=some y0∧w'.cell? ⟨pb,k * 9+1,none⟩=some y1∧w'.cell? ⟨pb,k * 9+2,none⟩=some y2∧w'.cell? ⟨pb,k * 9+3,none⟩=some y3∧w'.cell? ⟨pb,k * 9+4,none⟩=some y4∧w'.cell? ⟨pb,k * 9+5,none⟩=some y5∧w'.cell? ⟨pb,k * 9+6,none⟩=some y6∧w'.cell? ⟨pb,k * 9+7,none⟩=some y7∧w'.cell? ⟨pb,k * 9+8,none⟩=some y8):=fun w' h=>by
     have ca':∀ j u,[x0,x1,x2,x3,x4,x5,x6,x7,x8][j]? = some u→w'.cell? ⟨pa,k * 9+j,none⟩=some u:=fun j u hu=>(h.cell (p:=⟨pa,k * 9+j,none⟩) l1').trans (hA j u hu)
     have cb':∀ j u,[y0,y1,y2,y3,y4,y5,y6,y7,y8][j]? = some u→w'.cell? ⟨pb,k * 9+j,none⟩=some u:=fun j u hu=>(h.cell (p:=⟨pb,k * 9+j,none⟩) l2').trans (hB j u hu)
     exact ⟨h,ca' 0 _ rfl,ca' 1 _ rfl,ca' 2 _ rfl,ca' 3 _ rfl,ca' 4 _ rfl,ca' 5 _ rfl,ca' 6 _ rfl,ca' 7 _ rfl,ca' 8 _ rfl,cb' 0 _ rfl,cb' 1 _ rfl,cb' 2 _ rfl,cb' 3 _ rfl,cb' 4 _ rfl,cb' 5 _ rfl,cb' 6 _ rfl,cb' 7 _ rfl,cb' 8 _ rfl⟩
    clear h5 k3 k4 k5 hA hB
    have HCl:=hide (fun w' (h:Below wr.heap.size wr w')=>HE.out w' _ _ (hnx _ _ _ _ h HQ.out))
    go_wp2
    go_region_held3 (fun w'=>Below wr.heap.size wr w'∧w'.cell? ⟨pa,k * 9,none⟩=some x0∧w'.cell? ⟨pa,k * 9+1,none⟩=some x1∧w'.cell? ⟨pa,k * 9+2,none⟩=some x2∧w'.cell? ⟨pa,k * 9+3,none⟩=some x3∧w'.cell? ⟨pa,k * 9+4,none⟩=some x4∧w'.cell? ⟨pa,k * 9+5,none⟩=some x5∧w'.cell? ⟨pa,k * 9+6,none⟩=some x6∧w'.cell? ⟨pa,k * 9+7,none⟩=some x7∧w'.cell? ⟨pa,k * 9+8,none⟩=some x8∧w'.cell? ⟨pb,k * 9,none⟩=some y0∧w'.cell? ⟨pb,k * 9+1,none⟩=some y1∧w'.cell? ⟨pb,k * 9+2,none⟩=some y2∧w'.cell? ⟨pb,k * 9+3,none⟩=some y3∧w'.cell? ⟨pb,k * 9+4,none⟩=some y4∧w'.cell? ⟨pb,k * 9+5,none⟩=some y5∧w'.cell? ⟨pb,k * 9+6,none⟩=some y6∧w'.cell? ⟨pb,k * 9+7,none⟩=some y7∧w'.cell? ⟨pb,k * 9+8,none⟩=some y8) (first | exact keepBT HS.out (And.left (by assumption)) (by assumption) | exact HS.out _ (Below.refl _ _).drew)
     (first | (go_at_call 145;refine (HCl.out _ (And.left (by assumption):Below wr.heap.size wr _)).mono ?_;rintro e w5 ⟨rfl,hb5⟩))
    all_goals
     have BW:Hid (Below W.heap.size W w5):=HB.out.trans ((And.left (by assumption):Below wr.heap.size wr w5).mono HB.out.size)
     go_wp2
     exact ⟨⟨k+1,by congr 1,by omega,BW⟩,by simp [intOf];omega⟩
  ·have hI:¬ (k:Int) < (nn:Int):=by omega
   go_wp2
   go_ret
   exact ⟨rfl,HB.out⟩
set_option maxRecDepth 100000 in
set_option maxHeartbeats 4000000 in
theorem sameStates_ok {eq:World→List Value→List Value→Prop} (hnx:∀ W W' cs cs',Below W.heap.size W W'→eq W cs cs'→eq W' cs cs') (HX:∀ W cs cs',eq W cs cs'→Calls Tryz.prog 143 #[.agg cs.toArray,.agg cs'.toArray] W fun e w'=>e=.returned (.bool true)∧Below W.heap.size W w'):SaL 91 6 eq:=by
 rintro W _ _ ⟨nn,a,b,ca,cb,rfl,rfl,hn,h4⟩
 have H4:=hide h4
 have HE:=hide HX
 clear h4 HX
 go_enter Tryz.func91,Tryz.ntmps91
 go_wp2
 go_loopw [5] (fun vi wr=>∃ (k:Nat),vi=.int .i64 (k:Int)∧k≤nn∧Hid (Below W.heap.size W wr)) (fun vi _=>nn - (intOf vi).toNat)
 case atStart=>exact ⟨0,rfl,Nat.zero_le _,Below.refl _ _⟩
 case round =>
  obtain ⟨k,rfl,hk,HB⟩:=hrel
  by_cases hlt:k < nn
  ·have hI:(k:Int) < (nn:Int):=by omega
   rcases H4.out with h0 | ⟨pa,pb,rfl,rfl,l1,l2,h5⟩
   ·omega
   ·obtain ⟨cs,cs',k1,k2,k3,k4,k5⟩:=h5 k hlt
    have HQ:=hide (hnx _ _ _ _ HB.out k5)
    have hA:∀ j u,cs[j]? = some u→wr.cell? ⟨pa,k * 6+j,none⟩=some u:=fun j u hu=>(HB.out.cell (p:=⟨pa,k * 6+j,none⟩) l1).trans (k3 j u hu)
    have hB:∀ j u,cs'[j]? = some u→wr.cell? ⟨pb,k * 6+j,none⟩=some u:=fun j u hu=>(HB.out.cell (p:=⟨pb,k * 6+j,none⟩) l2).trans (k4 j u hu)
    have l1':pa < wr.heap.size:=Nat.lt_of_lt_of_le l1 HB.out.size
    have l2':pb < wr.heap.size:=Nat.lt_of_lt_of_le l2 HB.out.size
    match cs,cs',k1,k2 with
    | [x0,x1,x2,x3,x4,x5],[y0,y1,y2,y3,y4,y5],_,_ =>
    have HS:Hid (∀ w',Below wr.heap.size wr w'→Below wr.heap.size wr w'∧w'.cell? ⟨pa,k * 6,none⟩=some x0∧w'.cell? ⟨pa,k * 6+1,none⟩=some x1∧w'.cell? ⟨pa,k * 6+2,none⟩=some x2∧w'.cell? ⟨pa,k * 6+3,none⟩=some x3∧w'.cell? ⟨pa,k * 6+4,none⟩=some x4∧w'.cell? ⟨pa,k * 6+5,none⟩=some x5∧w'.cell? ⟨pb,k * 6,none⟩=some y0∧w'.cell? ⟨pb,k * 6+1,none⟩=some y1∧w'.cell? ⟨pb,k * 6+2,none⟩=some y2∧w'.cell? ⟨pb,k * 6+3,none⟩=some y3∧w'.cell? ⟨pb,k * 6+4,none⟩=some y4∧w'.cell? ⟨pb,k * 6+5,none⟩=some y5):=fun w' h=>by
     have ca':∀ j u,[x0,x1,x2,x3,x4,x5][j]? = some u→w'.cell? ⟨pa,k * 6+j,none⟩=some u:=fun j u hu=>(h.cell (p:=⟨pa,k * 6+j,none⟩) l1').trans (hA j u hu)
     have cb':∀ j u,[y0,y1,y2,y3,y4,y5][j]? = some u→w'.cell? ⟨pb,k * 6+j,none⟩=some u:=fun j u hu=>(h.cell (p:=⟨pb,k * 6+j,none⟩) l2').trans (hB j u hu)
     exact ⟨h,ca' 0 _ rfl,ca' 1 _ rfl,ca' 2 _ rfl,ca' 3 _ rfl,ca' 4 _ rfl,ca' 5 _ rfl,cb' 0 _ rfl,cb' 1 _ rfl,cb' 2 _ rfl,cb' 3 _ rfl,cb' 4 _ rfl,cb' 5 _ rfl⟩
    clear h5 k3 k4 k5 hA hB
    have HCl:=hide (fun w' (h:Below wr.heap.size wr w')=>HE.out w' _ _ (hnx _ _ _ _ h HQ.out))
    go_wp2
    go_region_held3 (fun w'=>Below wr.heap.size wr w'∧w'.cell? ⟨pa,k * 6,none⟩=some x0∧w'.cell? ⟨pa,k * 6+1,none⟩=some x1∧w'.cell? ⟨pa,k * 6+2,none⟩=some x2∧w'.cell? ⟨pa,k * 6+3,none⟩=some x3∧w'.cell? ⟨pa,k * 6+4,none⟩=some x4∧w'.cell? ⟨pa,k * 6+5,none⟩=some x5∧w'.cell? ⟨pb,k * 6,none⟩=some y0∧w'.cell? ⟨pb,k * 6+1,none⟩=some y1∧w'.cell? ⟨pb,k * 6+2,none⟩=some y2∧w'.cell? ⟨pb,k * 6+3,none⟩=some y3∧w'.cell? ⟨pb,k * 6+4,none⟩=some y4∧w'.cell? ⟨pb,k * 6+5,none⟩=some y5) (first | exact keepBT HS.out (And.left (by assumption)) (by assumption) | exact HS.out _ (Below.refl _ _).drew)
     (first | (go_at_call 143;refine (HCl.out _ (And.left (by assumption):Below wr.heap.size wr _)).mono ?_;rintro e w5 ⟨rfl,hb5⟩))
    all_goals
     have BW:Hid (Below W.heap.size W w5):=HB.out.trans ((And.left (by assumption):Below wr.heap.size wr w5).mono HB.out.size)
     go_wp2
     exact ⟨⟨k+1,by congr 1,by omega,BW⟩,by simp [intOf];omega⟩
  ·have hI:¬ (k:Int) < (nn:Int):=by omega
   go_wp2
   go_ret
   exact ⟨rfl,HB.out⟩
set_option maxRecDepth 100000 in
set_option maxHeartbeats 4000000 in
theorem sameKeys_ok {eq:World→List Value→List Value→Prop} (hnx:∀ W W' cs cs',Below W.heap.size W W'→eq W cs cs'→eq W' cs cs') (HX:∀ W cs cs',eq W cs cs'→Calls Tryz.prog 144 #[.agg cs.toArray,.agg cs'.toArray] W fun e w'=>e=.returned (.bool true)∧Below W.heap.size W w'):SaL 92 11 eq:=by
 rintro W _ _ ⟨nn,a,b,ca,cb,rfl,rfl,hn,h4⟩
 have H4:=hide h4
 have HE:=hide HX
 clear h4 HX
 go_enter Tryz.func92,Tryz.ntmps92
 go_wp2
 go_loopw [5] (fun vi wr=>∃ (k:Nat),vi=.int .i64 (k:Int)∧k≤nn∧Hid (Below W.heap.size W wr)) (fun vi _=>nn - (intOf vi).toNat)
 case atStart=>exact ⟨0,rfl,Nat.zero_le _,Below.refl _ _⟩
 case round =>
  obtain ⟨k,rfl,hk,HB⟩:=hrel
  by_cases hlt:k < nn
  ·have hI:(k:Int) < (nn:Int):=by omega
   rcases H4.out with h0 | ⟨pa,pb,rfl,rfl,l1,l2,h5⟩
   ·omega
   ·obtain ⟨cs,cs',k1,k2,k3,k4,k5⟩:=h5 k hlt
    have HQ:=hide (hnx _ _ _ _ HB.out k5)
    have hA:∀ j u,cs[j]? = some u→wr.cell? ⟨pa,k * 11+j,none⟩=some u:=fun j u hu=>(HB.out.cell (p:=⟨pa,k * 11+j,none⟩) l1).trans (k3 j u hu)
    have hB:∀ j u,cs'[j]? = some u→wr.cell? ⟨pb,k * 11+j,none⟩=some u:=fun j u hu=>(HB.out.cell (p:=⟨pb,k * 11+j,none⟩) l2).trans (k4 j u hu)
    have l1':pa < wr.heap.size:=Nat.lt_of_lt_of_le l1 HB.out.size
    have l2':pb < wr.heap.size:=Nat.lt_of_lt_of_le l2 HB.out.size
    match cs,cs',k1,k2 with
    | [x0,x1,x2,x3,x4,x5,x6,x7,x8,x9,x10],[y0,y1,y2,y3,y4,y5,y6,y7,y8,y9,y10],_,_ =>
    have HS:Hid (∀ w',Below wr.heap.size wr w'→Below wr.heap.size wr w'∧w'.cell? ⟨pa,k * 11,none⟩=some x0∧w'.cell? ⟨pa,k * 11+1,none⟩=some x1∧w'.cell? ⟨pa,k * 11+2,none⟩=some x2∧w'.cell? ⟨pa,k * 11+3,none⟩=some x3∧w'.cell? ⟨pa,k * 11+4,none⟩=some x4∧w'.cell? ⟨pa,k * 11+5,none⟩=some x5∧w'.cell? ⟨pa,k * 11+6,none⟩=some x6∧w'.cell? ⟨pa,k * 11+7,none⟩=some x7∧w'.cell? ⟨pa,k * 11+8,none⟩=some x8∧w'.cell? ⟨pa,k * 11+9,none⟩=some x9∧w'.cell? ⟨pa,k * 11+10,none⟩=some x10∧w'.cell? ⟨pb,k * 11,none⟩=some y0∧w'.cell? ⟨pb,k * 11+1,none⟩=some y1∧w'.cell? ⟨pb,k * 11+2,none⟩=some y2∧w'.cell? ⟨pb,k * 11+3,none⟩=some y3∧w'.cell? ⟨pb,k * 11+4,none⟩=some y4∧w'.cell? ⟨pb,k * 11+5,none⟩=some y5∧w'.cell? ⟨pb,k * 11+6,none⟩=some y6∧w'.cell? ⟨pb,k * 11+7,none⟩=some y7∧w'.cell? ⟨pb,k * 11+8,none⟩=some y8∧w'.cell? ⟨pb,k * 11+9,none⟩=some y9∧w'.cell? ⟨pb,k * 11+10,none⟩=some y10):=fun w' h=>by
     have ca':∀ j u,[x0,x1,x2,x3,x4,x5,x6,x7,x8,x9,x10][j]? = some u→w'.cell? ⟨pa,k * 11+j,none⟩=some u:=fun j u hu=>(h.cell (p:=⟨pa,k * 11+j,none⟩) l1').trans (hA j u hu)
     have cb':∀ j u,[y0,y1,y2,y3,y4,y5,y6,y7,y8,y9,y10][j]? = some u→w'.cell? ⟨pb,k * 11+j,none⟩=some u:=fun j u hu=>(h.cell (p:=⟨pb,k * 11+j,none⟩) l2').trans (hB j u hu)
     exact ⟨h,ca' 0 _ rfl,ca' 1 _ rfl,ca' 2 _ rfl,ca' 3 _ rfl,ca' 4 _ rfl,ca' 5 _ rfl,ca' 6 _ rfl,ca' 7 _ rfl,ca' 8 _ rfl,ca' 9 _ rfl,ca' 10 _ rfl,cb' 0 _ rfl,cb' 1 _ rfl,cb' 2 _ rfl,cb' 3 _ rfl,cb' 4 _ rfl,cb' 5 _ rfl,cb' 6 _ rfl,cb' 7 _ rfl,cb' 8 _ rfl,cb' 9 _ rfl,cb' 10 _ rfl⟩
    clear h5 k3 k4 k5 hA hB
    have HCl:=hide (fun w' (h:Below wr.heap.size wr w')=>HE.out w' _ _ (hnx _ _ _ _ h HQ.out))
    go_wp2
    go_region_held3 (fun w'=>Below wr.heap.size wr w'∧w'.cell? ⟨pa,k * 11,none⟩=some x0∧w'.cell? ⟨pa,k * 11+1,none⟩=some x1∧w'.cell? ⟨pa,k * 11+2,none⟩=some x2∧w'.cell? ⟨pa,k * 11+3,none⟩=some x3∧w'.cell? ⟨pa,k * 11+4,none⟩=some x4∧w'.cell? ⟨pa,k * 11+5,none⟩=some x5∧w'.cell? ⟨pa,k * 11+6,none⟩=some x6∧w'.cell? ⟨pa,k * 11+7,none⟩=some x7∧w'.cell? ⟨pa,k * 11+8,none⟩=some x8∧w'.cell? ⟨pa,k * 11+9,none⟩=some x9∧w'.cell? ⟨pa,k * 11+10,none⟩=some x10∧w'.cell? ⟨pb,k * 11,none⟩=some y0∧w'.cell? ⟨pb,k * 11+1,none⟩=some y1∧w'.cell? ⟨pb,k * 11+2,none⟩=some y2∧w'.cell? ⟨pb,k * 11+3,none⟩=some y3∧w'.cell? ⟨pb,k * 11+4,none⟩=some y4∧w'.cell? ⟨pb,k * 11+5,none⟩=some y5∧w'.cell? ⟨pb,k * 11+6,none⟩=some y6∧w'.cell? ⟨pb,k * 11+7,none⟩=some y7∧w'.cell? ⟨pb,k * 11+8,none⟩=some y8∧w'.cell? ⟨pb,k * 11+9,none⟩=some y9∧w'.cell? ⟨pb,k * 11+10,none⟩=some y10) (first | exact keepBT HS.out (And.left (by assumption)) (by assumption) | exact HS.out _ (Below.refl _ _).drew)
     (first | (go_at_call 144;refine (HCl.out _ (And.left (by assumption):Below wr.heap.size wr _)).mono ?_;rintro e w5 ⟨rfl,hb5⟩))
    all_goals
     have BW:Hid (Below W.heap.size W w5):=HB.out.trans ((And.left (by assumption):Below wr.heap.size wr w5).mono HB.out.size)
     go_wp2
     exact ⟨⟨k+1,by congr 1,by omega,BW⟩,by simp [intOf];omega⟩
  ·have hI:¬ (k:Int) < (nn:Int):=by omega
   go_wp2
   go_ret
   exact ⟨rfl,HB.out⟩
set_option maxRecDepth 100000 in
set_option maxHeartbeats 4000000 in
theorem sameDecls_ok {eq:World→List Value→List Value→Prop} (hnx:∀ W W' cs cs',Below W.heap.size W W'→eq W cs cs'→eq W' cs cs') (HX:∀ W cs cs',eq W cs cs'→Calls Tryz.prog 41 #[.agg cs.toArray,.agg cs'.toArray] W fun e w'=>e=.returned (.bool true)∧Below W.heap.size W w'):SaL 24 15 eq:=by
 rintro W _ _ ⟨nn,a,b,ca,cb,rfl,rfl,hn,h4⟩
 have H4:=hide h4
 have HE:=hide HX
 clear h4 HX
 go_enter Tryz.func24,Tryz.ntmps24
 go_wp2
 go_loopw [5] (fun vi wr=>∃ (k:Nat),vi=.int .i64 (k:Int)∧k≤nn∧Hid (Below W.heap.size W wr)) (fun vi _=>nn - (intOf vi).toNat)
 case atStart=>exact ⟨0,rfl,Nat.zero_le _,Below.refl _ _⟩
 case round =>
  obtain ⟨k,rfl,hk,HB⟩:=hrel
  by_cases hlt:k < nn
  ·have hI:(k:Int) < (nn:Int):=by omega
   rcases H4.out with h0 | ⟨pa,pb,rfl,rfl,l1,l2,h5⟩
   ·omega
   ·obtain ⟨cs,cs',k1,k2,k3,k4,k5⟩:=h5 k hlt
    have HQ:=hide (hnx _ _ _ _ HB.out k5)
    have hA:∀ j u,cs[j]? = some u→wr.cell? ⟨pa,k * 15+j,none⟩=some u:=fun j u hu=>(HB.out.cell (p:=⟨pa,k * 15+j,none⟩) l1).trans (k3 j u hu)
    have hB:∀ j u,cs'[j]? = some u→wr.cell? ⟨pb,k * 15+j,none⟩=some u:=fun j u hu=>(HB.out.cell (p:=⟨pb,k * 15+j,none⟩) l2).trans (k4 j u hu)
    have l1':pa < wr.heap.size:=Nat.lt_of_lt_of_le l1 HB.out.size
    have l2':pb < wr.heap.size:=Nat.lt_of_lt_of_le l2 HB.out.size
    match cs,cs',k1,k2 with
    | [x0,x1,x2,x3,x4,x5,x6,x7,x8,x9,x10,x11,x12,x13,x14],[y0,y1,y2,y3,y4,y5,y6,y7,y8,y9,y10,y11,y12,y13,y14],_,_ =>
    have HS:Hid (∀ w',Below wr.heap.size wr w'→Below wr.heap.size wr w'∧w'.cell? ⟨pa,k * 15,none⟩=some x0∧w'.cell? ⟨pa,k * 15+1,none⟩=some x1∧w'.cell? ⟨pa,k * 15+2,none⟩=some x2∧w'.cell? ⟨pa,k * 15+3,none⟩=some x3∧w'.cell? ⟨pa,k * 15+4,none⟩=some x4∧w'.cell? ⟨pa,k * 15+5,none⟩=some x5∧w'.cell? ⟨pa,k * 15+6,none⟩=some x6∧w'.cell? ⟨pa,k * 15+7,none⟩=some x7∧w'.cell? ⟨pa,k * 15+8,none⟩=some x8∧w'.cell? ⟨pa,k * 15+9,none⟩=some x9∧w'.cell? ⟨pa,k * 15+10,none⟩=some x10∧w'.cell? ⟨pa,k * 15+11,none⟩=some x11∧w'.cell? ⟨pa,k * 15+12,none⟩=some x12∧w'.cell? ⟨pa,k * 15+13,none⟩=some x13∧w'.cell? ⟨pa,k * 15+14,none⟩=some x14∧w'.cell? ⟨pb,k * 15,none⟩=some y0∧w'.cell? ⟨pb,k * 15+1,none⟩=some y1∧w'.cell? ⟨pb,k * 15+2,none⟩=some y2∧w'.cell? ⟨pb,k * 15+3,none⟩=some y3∧w'.cell? ⟨pb,k * 15+4,none⟩=some y4∧w'.cell? ⟨pb,k * 15+5,none⟩=some y5∧w'.cell? ⟨pb,k * 15+6,none⟩=some y6∧w'.cell? ⟨pb,k * 15+7,none⟩=some y7∧w'.cell? ⟨pb,k * 15+8,none⟩=some y8∧w'.cell? ⟨pb,k * 15+9,none⟩=some y9∧w'.cell? ⟨pb,k * 15+10,none⟩=some y10∧w'.cell? ⟨pb,k * 15+11,none⟩=some y11∧w'.cell? ⟨pb,k * 15+12,none⟩=some y12∧w'.cell? ⟨pb,k * 15+13,none⟩=some y13∧w'.cell? ⟨pb,k * 15+14,none⟩=some y14):=fun w' h=>by
     have ca':∀ j u,[x0,x1,x2,x3,x4,x5,x6,x7,x8,x9,x10,x11,x12,x13,x14][j]? = some u→w'.cell? ⟨pa,k * 15+j,none⟩=some u:=fun j u hu=>(h.cell (p:=⟨pa,k * 15+j,none⟩) l1').trans (hA j u hu)
     have cb':∀ j u,[y0,y1,y2,y3,y4,y5,y6,y7,y8,y9,y10,y11,y12,y13,y14][j]? = some u→w'.cell? ⟨pb,k * 15+j,none⟩=some u:=fun j u hu=>(h.cell (p:=⟨pb,k * 15+j,none⟩) l2').trans (hB j u hu)
     exact ⟨h,ca' 0 _ rfl,ca' 1 _ rfl,ca' 2 _ rfl,ca' 3 _ rfl,ca' 4 _ rfl,ca' 5 _ rfl,ca' 6 _ rfl,ca' 7 _ rfl,ca' 8 _ rfl,ca' 9 _ rfl,ca' 10 _ rfl,ca' 11 _ rfl,ca' 12 _ rfl,ca' 13 _ rfl,ca' 14 _ rfl,cb' 0 _ rfl,cb' 1 _ rfl,cb' 2 _ rfl,cb' 3 _ rfl,cb' 4 _ rfl,cb' 5 _ rfl,cb' 6 _ rfl,cb' 7 _ rfl,cb' 8 _ rfl,cb' 9 _ rfl,cb' 10 _ rfl,cb' 11 _ rfl,cb' 12 _ rfl,cb' 13 _ rfl,cb' 14 _ rfl⟩
    clear h5 k3 k4 k5 hA hB
    have HCl:=hide (fun w' (h:Below wr.heap.size wr w')=>HE.out w' _ _ (hnx _ _ _ _ h HQ.out))
    go_wp2
    go_region_held3 (fun w'=>Below wr.heap.size wr w'∧w'.cell? ⟨pa,k * 15,none⟩=some x0∧w'.cell? ⟨pa,k * 15+1,none⟩=some x1∧w'.cell? ⟨pa,k * 15+2,none⟩=some x2∧w'.cell? ⟨pa,k * 15+3,none⟩=some x3∧w'.cell? ⟨pa,k * 15+4,none⟩=some x4∧w'.cell? ⟨pa,k * 15+5,none⟩=some x5∧w'.cell? ⟨pa,k * 15+6,none⟩=some x6∧w'.cell? ⟨pa,k * 15+7,none⟩=some x7∧w'.cell? ⟨pa,k * 15+8,none⟩=some x8∧w'.cell? ⟨pa,k * 15+9,none⟩=some x9∧w'.cell? ⟨pa,k * 15+10,none⟩=some x10∧w'.cell? ⟨pa,k * 15+11,none⟩=some x11∧w'.cell? ⟨pa,k * 15+12,none⟩=some x12∧w'.cell? ⟨pa,k * 15+13,none⟩=some x13∧w'.cell? ⟨pa,k * 15+14,none⟩=some x14∧w'.cell? ⟨pb,k * 15,none⟩=some y0∧w'.cell? ⟨pb,k * 15+1,none⟩=some y1∧w'.cell? ⟨pb,k * 15+2,none⟩=some y2∧w'.cell? ⟨pb,k * 15+3,none⟩=some y3∧w'.cell? ⟨pb,k * 15+4,none⟩=some y4∧w'.cell? ⟨pb,k * 15+5,none⟩=some y5∧w'.cell? ⟨pb,k * 15+6,none⟩=some y6∧w'.cell? ⟨pb,k * 15+7,none⟩=some y7∧w'.cell? ⟨pb,k * 15+8,none⟩=some y8∧w'.cell? ⟨pb,k * 15+9,none⟩=some y9∧w'.cell? ⟨pb,k * 15+10,none⟩=some y10∧w'.cell? ⟨pb,k * 15+11,none⟩=some y11∧w'.cell? ⟨pb,k * 15+12,none⟩=some y12∧w'.cell? ⟨pb,k * 15+13,none⟩=some y13∧w'.cell? ⟨pb,k * 15+14,none⟩=some y14) (first | exact keepBT HS.out (And.left (by assumption)) (by assumption) | exact HS.out _ (Below.refl _ _).drew)
     (first | (go_at_call 41;refine (HCl.out _ (And.left (by assumption):Below wr.heap.size wr _)).mono ?_;rintro e w5 ⟨rfl,hb5⟩))
    all_goals
     have BW:Hid (Below W.heap.size W w5):=HB.out.trans ((And.left (by assumption):Below wr.heap.size wr w5).mono HB.out.size)
     go_wp2
     exact ⟨⟨k+1,by congr 1,by omega,BW⟩,by simp [intOf];omega⟩
  ·have hI:¬ (k:Int) < (nn:Int):=by omega
   go_wp2
   go_ret
   exact ⟨rfl,HB.out⟩
def EqX (W:World) (cs cs':List Value):Prop:=∃ d,eqX d W cs cs'
theorem EqX.next {W W':World} {cs cs':List Value} (hb:Below W.heap.size W W') (h:EqX W cs cs'):EqX W' cs cs':=by
 obtain ⟨d,h⟩:=h
 exact ⟨d,eqX.next hb h⟩
theorem sameX_all:∀ d,SaX d
 | 0=>fun _ _ _ h=>h.elim
 | d+1=>sameExpr_ok (sameExprs_ok (eq:=eqX d) (fun _ _ _ _ hb h=>eqX.next hb h) (sameX_all d))
theorem sameX_any (W:World) (cs cs':List Value) (h:EqX W cs cs'):Calls Tryz.prog 191 #[.agg cs.toArray,.agg cs'.toArray] W fun e w'=>e=.returned (.bool true)∧Below W.heap.size W w':=by
 obtain ⟨d,h⟩:=h
 exact sameX_all d W cs cs' h
theorem HLx:SaL 189 10 EqX:=sameExprs_ok (fun _ _ _ _ hb h=>EqX.next hb h) sameX_any
def eqStr (_:World) (cs cs':List Value):Prop:=cs=cs'∧∃ s,cs=[Value.string s]
def eqNum (_:World) (cs cs':List Value):Prop:=cs=cs'∧∃ w hi lo,cs=[Value.int .i64 w,.int .u64 hi,.int .u64 lo]
def eqFld (_:World) (cs cs':List Value):Prop:=cs=cs'∧∃ s w,cs=[Value.string s,.int .i64 w]
def eqCas (_:World) (cs cs':List Value):Prop:=cs=cs'∧∃ w hi lo mw mh ml s,cs=[Value.int .i64 w,.int .u64 hi,.int .u64 lo,.int .i64 mw,.int .u64 mh,.int .u64 ml,.string s]
theorem HLt:SaL 93 1 eqStr:=sameTexts_ok (fun _ _ _ _ _ h=>h) (fun _ _ _ h=>h)
theorem HLn:SaL 94 3 eqNum:=sameNumbers_ok (fun _ _ _ _ _ h=>h) (fun _ _ _ h=>h)
theorem HLf:SaL 90 2 eqFld:=sameFields_ok (fun _ _ _ _ _ h=>h) (fun _ _ _ h=>h)
theorem HLc:SaL 190 7 eqCas:=sameCases_ok (fun _ _ _ _ _ h=>h) (fun _ _ _ h=>h)
theorem eqStr.next {W W':World} {cs cs':List Value} (_:Below W.heap.size W W') (h:eqStr W cs cs'):eqStr W' cs cs':=h
theorem eqNum.next {W W':World} {cs cs':List Value} (_:Below W.heap.size W W') (h:eqNum W cs cs'):eqNum W' cs cs':=h
theorem eqFld.next {W W':World} {cs cs':List Value} (_:Below W.heap.size W W') (h:eqFld W cs cs'):eqFld W' cs cs':=h
theorem eqCas.next {W W':World} {cs cs':List Value} (_:Below W.heap.size W W') (h:eqCas W cs cs'):eqCas W' cs cs':=h
def eqT:Nat→World→List Value→List Value→Prop
 | 0=>fun _ _ _=>False
 | d+1=>fun W cs cs'=>∃ (kd:Int) (nm:ByteArray) (fl:ByteArray) (ar:ByteArray) (n:Int) (ln:Int) (vaA vbA vaB vbB vaE vbE:Value),cs=[.int .u8 kd,.string nm,.string fl,.string ar,.int .i64 n,vaA,vaB,vaE,.int .i64 ln]∧cs'=[.int .u8 kd,.string nm,.string fl,.string ar,.int .i64 n,vbA,vbB,vbE,.int .i64 ln]∧EqS 10 EqX W vaA vbA∧EqS 9 (eqT d) W vaB vbB∧EqS 9 (eqT d) W vaE vbE
theorem eqT.next {W W':World} (hb:Below W.heap.size W W'):∀ {d:Nat} {cs cs':List Value},eqT d W cs cs'→eqT d W' cs cs'
 | 0,_,_,h=>h.elim
 | _+1,_,_,⟨kd,nm,fl,ar,n,ln,vaA,vbA,vaB,vbB,vaE,vbE,h1,h2,hA,hB,hE⟩=>⟨kd,nm,fl,ar,n,ln,vaA,vbA,vaB,vbB,vaE,vbE,h1,h2,hA.next (fun _ _ h=>EqX.next hb h) hb,hB.next (fun _ _ h=>eqT.next hb h) hb,hE.next (fun _ _ h=>eqT.next hb h) hb⟩
set_option maxRecDepth 100000 in
set_option maxHeartbeats 8000000 in
theorem sameStmt_ok {d:Nat} (HBd:SaL 95 9 (eqT d)):∀ (W:World) (cs cs':List Value),eqT (d+1) W cs cs'→Calls Tryz.prog 145 #[.agg cs.toArray,.agg cs'.toArray] W fun e w'=>e=.returned (.bool true)∧Below W.heap.size W w':=by
 rintro W _ _ ⟨kd,nm,fl,ar,n,ln,vaA,vbA,vaB,vbB,vaE,vbE,rfl,rfl,hA,hB,hE⟩
 obtain ⟨nA,aA,bA,cA,dA,rfl,rfl⟩:=hA.form
 obtain ⟨nB,aB,bB,cB,dB,rfl,rfl⟩:=hB.form
 obtain ⟨nE,aE,bE,cE,dE,rfl,rfl⟩:=hE.form
 have HqA:=hide (fun W' (hb:Below W.heap.size W W')=>HLx W' _ _ (hA.next (fun _ _ h=>EqX.next hb h) hb))
 have HqB:=hide (fun W' (hb:Below W.heap.size W W')=>HBd W' _ _ (hB.next (fun _ _ h=>eqT.next hb h) hb))
 have HqE:=hide (fun W' (hb:Below W.heap.size W W')=>HBd W' _ _ (hE.next (fun _ _ h=>eqT.next hb h) hb))
 clear hA hB hE
 go_enter Tryz.func145,Tryz.ntmps145
 go_wp2_with fail
 refine (HqA.out _ (al2 W _ _)).mono ?_
 rintro e w1 ⟨rfl,hb⟩
 have hc1:=bcellT hb
 have hz:W.heap.size < w1.heap.size∧W.heap.size+1 < w1.heap.size:=by have h:=hb.size;simp at h;omega
 obtain ⟨hz11,hz12⟩:=hz
 have B1:Hid (Below W.heap.size W w1):=(al2 W _ _).trans (hb.mono (by simp;omega))
 simp only [World.size_alloc] at hc1
 clear hb
 go_wp2_with fail
 refine (HqB.out _ B1.out).mono ?_
 rintro e w2 ⟨rfl,hb⟩
 have hc2:=bcellT hb
 have hz21:W.heap.size < w2.heap.size:=Nat.lt_of_lt_of_le hz11 hb.size
 have hz22:W.heap.size+1 < w2.heap.size:=Nat.lt_of_lt_of_le hz12 hb.size
 have B2:Hid (Below W.heap.size W w2):=B1.out.trans (hb.mono B1.out.size)
 clear hb
 go_wp2_with fail
 refine (HqE.out _ B2.out).mono ?_
 rintro e w3 ⟨rfl,hb⟩
 have hc3:=bcellT hb
 have hz31:W.heap.size < w3.heap.size:=Nat.lt_of_lt_of_le hz21 hb.size
 have hz32:W.heap.size+1 < w3.heap.size:=Nat.lt_of_lt_of_le hz22 hb.size
 have B3:Hid (Below W.heap.size W w3):=B2.out.trans (hb.mono B2.out.size)
 clear hb
 go_wp2
 go_ret
 exact ⟨rfl,B3.out⟩
theorem sameT_all:∀ (d:Nat) (W:World) (cs cs':List Value),eqT d W cs cs'→Calls Tryz.prog 145 #[.agg cs.toArray,.agg cs'.toArray] W fun e w'=>e=.returned (.bool true)∧Below W.heap.size W w'
 | 0,_,_,_,h=>h.elim
 | d+1,W,cs,cs',h=>sameStmt_ok (sameStmts_ok (eq:=eqT d) (fun _ _ _ _ hb h=>eqT.next hb h) (sameT_all d)) W cs cs' h
def EqT (W:World) (cs cs':List Value):Prop:=∃ d,eqT d W cs cs'
theorem EqT.next {W W':World} {cs cs':List Value} (hb:Below W.heap.size W W') (h:EqT W cs cs'):EqT W' cs cs':=by
 obtain ⟨d,h⟩:=h
 exact ⟨d,eqT.next hb h⟩
theorem HLs:SaL 95 9 EqT:=sameStmts_ok (fun _ _ _ _ hb h=>EqT.next hb h) (fun W cs cs' ⟨d,h⟩=>sameT_all d W cs cs' h)
def EqA (W:World) (cs cs':List Value):Prop:=∃ (nm:ByteArray) (dst:ByteArray) (ln:Int) (vaH vbH vaX vbX vaC vbC:Value),cs=[.string nm,vaH,vaX,vaC,.string dst,.int .i64 ln]∧cs'=[.string nm,vbH,vbX,vbC,.string dst,.int .i64 ln]∧EqS 1 eqStr W vaH vbH∧EqS 10 EqX W vaX vbX∧EqS 7 eqCas W vaC vbC
theorem EqA.next {W W':World} {cs cs':List Value} (hb:Below W.heap.size W W') (h:EqA W cs cs'):EqA W' cs cs':=by
 obtain ⟨nm,dst,ln,vaH,vbH,vaX,vbX,vaC,vbC,h1,h2,hH,hX,hC⟩:=h
 exact ⟨nm,dst,ln,vaH,vbH,vaX,vbX,vaC,vbC,h1,h2,hH.next (fun _ _ h=>eqStr.next hb h) hb,hX.next (fun _ _ h=>EqX.next hb h) hb,hC.next (fun _ _ h=>eqCas.next hb h) hb⟩
set_option maxRecDepth 100000 in
set_option maxHeartbeats 8000000 in
theorem sameState_ok:∀ (W:World) (cs cs':List Value),EqA W cs cs'→Calls Tryz.prog 143 #[.agg cs.toArray,.agg cs'.toArray] W fun e w'=>e=.returned (.bool true)∧Below W.heap.size W w':=by
 rintro W _ _ ⟨nm,dst,ln,vaH,vbH,vaX,vbX,vaC,vbC,rfl,rfl,hH,hX,hC⟩
 obtain ⟨nH,aH,bH,cH,dH,rfl,rfl⟩:=hH.form
 obtain ⟨nX,aX,bX,cX,dX,rfl,rfl⟩:=hX.form
 obtain ⟨nC,aC,bC,cC,dC,rfl,rfl⟩:=hC.form
 have HqH:=hide (fun W' (hb:Below W.heap.size W W')=>HLt W' _ _ (hH.next (fun _ _ h=>eqStr.next hb h) hb))
 have HqX:=hide (fun W' (hb:Below W.heap.size W W')=>HLx W' _ _ (hX.next (fun _ _ h=>EqX.next hb h) hb))
 have HqC:=hide (fun W' (hb:Below W.heap.size W W')=>HLc W' _ _ (hC.next (fun _ _ h=>eqCas.next hb h) hb))
 clear hH hX hC
 go_enter Tryz.func143,Tryz.ntmps143
 go_wp2_with fail
 refine (HqH.out _ (al2 W _ _)).mono ?_
 rintro e w1 ⟨rfl,hb⟩
 have hc1:=bcellT hb
 have hz:W.heap.size < w1.heap.size∧W.heap.size+1 < w1.heap.size:=by have h:=hb.size;simp at h;omega
 obtain ⟨hz11,hz12⟩:=hz
 have B1:Hid (Below W.heap.size W w1):=(al2 W _ _).trans (hb.mono (by simp;omega))
 simp only [World.size_alloc] at hc1
 clear hb
 go_wp2_with fail
 refine (HqX.out _ B1.out).mono ?_
 rintro e w2 ⟨rfl,hb⟩
 have hc2:=bcellT hb
 have hz21:W.heap.size < w2.heap.size:=Nat.lt_of_lt_of_le hz11 hb.size
 have hz22:W.heap.size+1 < w2.heap.size:=Nat.lt_of_lt_of_le hz12 hb.size
 have B2:Hid (Below W.heap.size W w2):=B1.out.trans (hb.mono B1.out.size)
 clear hb
 go_wp2_with fail
 refine (HqC.out _ B2.out).mono ?_
 rintro e w3 ⟨rfl,hb⟩
 have hc3:=bcellT hb
 have hz31:W.heap.size < w3.heap.size:=Nat.lt_of_lt_of_le hz21 hb.size
 have hz32:W.heap.size+1 < w3.heap.size:=Nat.lt_of_lt_of_le hz22 hb.size
 have B3:Hid (Below W.heap.size W w3):=B2.out.trans (hb.mono B2.out.size)
 clear hb
 go_wp2
 go_ret
 exact ⟨rfl,B3.out⟩
theorem HLa:SaL 91 6 EqA:=sameStates_ok (fun _ _ _ _ hb h=>EqA.next hb h) sameState_ok
def EqK (W:World) (cs cs':List Value):Prop:=∃ (xs ys:List Value) (kd:Int),cs=xs ++ [.int .u8 kd]∧cs'=ys ++ [.int .u8 kd]∧EqX W xs ys
theorem EqK.next {W W':World} {cs cs':List Value} (hb:Below W.heap.size W W') (h:EqK W cs cs'):EqK W' cs cs':=by
 obtain ⟨xs,ys,kd,h1,h2,h3⟩:=h
 exact ⟨xs,ys,kd,h1,h2,h3.next hb⟩
set_option maxRecDepth 100000 in
set_option maxHeartbeats 8000000 in
theorem sameKey_ok:∀ (W:World) (cs cs':List Value),EqK W cs cs'→Calls Tryz.prog 144 #[.agg cs.toArray,.agg cs'.toArray] W fun e w'=>e=.returned (.bool true)∧Below W.heap.size W w':=by
 rintro W _ _ ⟨xs,ys,kd,rfl,rfl,d,h3⟩
 match d,h3 with
 | 0,h3=>exact h3.elim
 | d+1,h3 =>
 have HC:=hide (fun W' (hb:Below W.heap.size W W')=>sameX_any W' xs ys ⟨d+1,eqX.next hb h3⟩)
 obtain ⟨op,w,hi,lo,n,m,ln,nm,fl,va,vb,rfl,rfl,h4⟩:=h3
 obtain ⟨nn,a,b,ca,cb,rfl,rfl⟩:=h4.form
 clear h4
 simp only [List.cons_append,List.nil_append]
 go_enter Tryz.func144,Tryz.ntmps144
 go_wp2_with fail
 refine (HC.out _ (al2 W _ _)).mono ?_
 rintro e w1 ⟨rfl,hb⟩
 have hc1:=bcellT hb
 have hz:W.heap.size < w1.heap.size∧W.heap.size+1 < w1.heap.size:=by have h:=hb.size;simp at h;omega
 obtain ⟨hz11,hz12⟩:=hz
 have B1:Hid (Below W.heap.size W w1):=(al2 W _ _).trans (hb.mono (by simp;omega))
 simp only [World.size_alloc] at hc1
 clear hb
 go_wp2
 go_ret
 exact ⟨rfl,B1.out⟩
theorem HLk:SaL 92 11 EqK:=sameKeys_ok (fun _ _ _ _ hb h=>EqK.next hb h) sameKey_ok
def EqD (W:World) (cs cs':List Value):Prop:=∃ (kd:Int) (nm:ByteArray) (w:Int) (n:Int) (ra:Int) (bu:Int) (df:ByteArray) (ln:Int) (vaF vbF vaS vbS vaK vbK vaC vbC vaG vbG vaB vbB vaE vbE:Value),cs=[.int .u8 kd,.string nm,vaF,.int .i64 w,.int .i64 n,.int .i64 ra,.int .i64 bu,vaS,vaK,vaC,.string df,vaG,vaB,vaE,.int .i64 ln]∧cs'=[.int .u8 kd,.string nm,vbF,.int .i64 w,.int .i64 n,.int .i64 ra,.int .i64 bu,vbS,vbK,vbC,.string df,vbG,vbB,vbE,.int .i64 ln]∧EqS 2 eqFld W vaF vbF∧EqS 6 EqA W vaS vbS∧EqS 11 EqK W vaK vbK∧EqS 1 eqStr W vaC vbC∧EqS 3 eqNum W vaG vbG∧EqS 9 EqT W vaB vbB∧EqS 1 eqStr W vaE vbE
theorem EqD.next {W W':World} {cs cs':List Value} (hb:Below W.heap.size W W') (h:EqD W cs cs'):EqD W' cs cs':=by
 obtain ⟨kd,nm,w,n,ra,bu,df,ln,vaF,vbF,vaS,vbS,vaK,vbK,vaC,vbC,vaG,vbG,vaB,vbB,vaE,vbE,h1,h2,hF,hS,hK,hC,hG,hB,hE⟩:=h
 exact ⟨kd,nm,w,n,ra,bu,df,ln,vaF,vbF,vaS,vbS,vaK,vbK,vaC,vbC,vaG,vbG,vaB,vbB,vaE,vbE,h1,h2,hF.next (fun _ _ h=>eqFld.next hb h) hb,hS.next (fun _ _ h=>EqA.next hb h) hb,hK.next (fun _ _ h=>EqK.next hb h) hb,hC.next (fun _ _ h=>eqStr.next hb h) hb,hG.next (fun _ _ h=>eqNum.next hb h) hb,hB.next (fun _ _ h=>EqT.next hb h) hb,hE.next (fun _ _ h=>eqStr.next hb h) hb⟩
set_option maxRecDepth 100000 in
set_option maxHeartbeats 8000000 in
theorem sameDecl_ok:∀ (W:World) (cs cs':List Value),EqD W cs cs'→Calls Tryz.prog 41 #[.agg cs.toArray,.agg cs'.toArray] W fun e w'=>e=.returned (.bool true)∧Below W.heap.size W w':=by
 rintro W _ _ ⟨kd,nm,w,n,ra,bu,df,ln,vaF,vbF,vaS,vbS,vaK,vbK,vaC,vbC,vaG,vbG,vaB,vbB,vaE,vbE,rfl,rfl,hF,hS,hK,hC,hG,hB,hE⟩
 obtain ⟨nF,aF,bF,cF,dF,rfl,rfl⟩:=hF.form
 obtain ⟨nS,aS,bS,cS,dS,rfl,rfl⟩:=hS.form
 obtain ⟨nK,aK,bK,cK,dK,rfl,rfl⟩:=hK.form
 obtain ⟨nC,aC,bC,cC,dC,rfl,rfl⟩:=hC.form
 obtain ⟨nG,aG,bG,cG,dG,rfl,rfl⟩:=hG.form
 obtain ⟨nB,aB,bB,cB,dB,rfl,rfl⟩:=hB.form
 obtain ⟨nE,aE,bE,cE,dE,rfl,rfl⟩:=hE.form
 have HqF:=hide (fun W' (hb:Below W.heap.size W W')=>HLf W' _ _ (hF.next (fun _ _ h=>eqFld.next hb h) hb))
 have HqS:=hide (fun W' (hb:Below W.heap.size W W')=>HLa W' _ _ (hS.next (fun _ _ h=>EqA.next hb h) hb))
 have HqK:=hide (fun W' (hb:Below W.heap.size W W')=>HLk W' _ _ (hK.next (fun _ _ h=>EqK.next hb h) hb))
 have HqC:=hide (fun W' (hb:Below W.heap.size W W')=>HLt W' _ _ (hC.next (fun _ _ h=>eqStr.next hb h) hb))
 have HqG:=hide (fun W' (hb:Below W.heap.size W W')=>HLn W' _ _ (hG.next (fun _ _ h=>eqNum.next hb h) hb))
 have HqB:=hide (fun W' (hb:Below W.heap.size W W')=>HLs W' _ _ (hB.next (fun _ _ h=>EqT.next hb h) hb))
 have HqE:=hide (fun W' (hb:Below W.heap.size W W')=>HLt W' _ _ (hE.next (fun _ _ h=>eqStr.next hb h) hb))
 clear hF hS hK hC hG hB hE
 go_enter Tryz.func41,Tryz.ntmps41
 go_wp2_with fail
 refine (HqF.out _ (al2 W _ _)).mono ?_
 rintro e w1 ⟨rfl,hb⟩
 have hc1:=bcellT hb
 have hz:W.heap.size < w1.heap.size∧W.heap.size+1 < w1.heap.size:=by have h:=hb.size;simp at h;omega
 obtain ⟨hz11,hz12⟩:=hz
 have B1:Hid (Below W.heap.size W w1):=(al2 W _ _).trans (hb.mono (by simp;omega))
 simp only [World.size_alloc] at hc1
 clear hb
 go_wp2_with fail
 refine (HqS.out _ B1.out).mono ?_
 rintro e w2 ⟨rfl,hb⟩
 have hc2:=bcellT hb
 have hz21:W.heap.size < w2.heap.size:=Nat.lt_of_lt_of_le hz11 hb.size
 have hz22:W.heap.size+1 < w2.heap.size:=Nat.lt_of_lt_of_le hz12 hb.size
 have B2:Hid (Below W.heap.size W w2):=B1.out.trans (hb.mono B1.out.size)
 clear hb
 go_wp2_with fail
 refine (HqK.out _ B2.out).mono ?_
 rintro e w3 ⟨rfl,hb⟩
 have hc3:=bcellT hb
 have hz31:W.heap.size < w3.heap.size:=Nat.lt_of_lt_of_le hz21 hb.size
 have hz32:W.heap.size+1 < w3.heap.size:=Nat.lt_of_lt_of_le hz22 hb.size
 have B3:Hid (Below W.heap.size W w3):=B2.out.trans (hb.mono B2.out.size)
 clear hb
 go_wp2_with fail
 refine (HqC.out _ B3.out).mono ?_
 rintro e w4 ⟨rfl,hb⟩
 have hc4:=bcellT hb
 have hz41:W.heap.size < w4.heap.size:=Nat.lt_of_lt_of_le hz31 hb.size
 have hz42:W.heap.size+1 < w4.heap.size:=Nat.lt_of_lt_of_le hz32 hb.size
 have B4:Hid (Below W.heap.size W w4):=B3.out.trans (hb.mono B3.out.size)
 clear hb
 go_wp2_with fail
 refine (HqG.out _ B4.out).mono ?_
 rintro e w5 ⟨rfl,hb⟩
 have hc5:=bcellT hb
 have hz51:W.heap.size < w5.heap.size:=Nat.lt_of_lt_of_le hz41 hb.size
 have hz52:W.heap.size+1 < w5.heap.size:=Nat.lt_of_lt_of_le hz42 hb.size
 have B5:Hid (Below W.heap.size W w5):=B4.out.trans (hb.mono B4.out.size)
 clear hb
 go_wp2_with fail
 refine (HqB.out _ B5.out).mono ?_
 rintro e w6 ⟨rfl,hb⟩
 have hc6:=bcellT hb
 have hz61:W.heap.size < w6.heap.size:=Nat.lt_of_lt_of_le hz51 hb.size
 have hz62:W.heap.size+1 < w6.heap.size:=Nat.lt_of_lt_of_le hz52 hb.size
 have B6:Hid (Below W.heap.size W w6):=B5.out.trans (hb.mono B5.out.size)
 clear hb
 go_wp2_with fail
 refine (HqE.out _ B6.out).mono ?_
 rintro e w7 ⟨rfl,hb⟩
 have hc7:=bcellT hb
 have hz71:W.heap.size < w7.heap.size:=Nat.lt_of_lt_of_le hz61 hb.size
 have hz72:W.heap.size+1 < w7.heap.size:=Nat.lt_of_lt_of_le hz62 hb.size
 have B7:Hid (Below W.heap.size W w7):=B6.out.trans (hb.mono B6.out.size)
 clear hb
 go_wp2
 go_ret
 exact ⟨rfl,B7.out⟩
theorem HLd:SaL 24 15 EqD:=sameDecls_ok (fun _ _ _ _ hb h=>EqD.next hb h) sameDecl_ok
theorem sameProg_ok (W:World) (va vb:Value) (h:EqS 15 EqD W va vb):Calls Tryz.prog 12 #[va,vb] W fun e w'=>e=.returned (.bool true)∧Below W.heap.size W w':=by
 have HC:=hide (HLd W va vb h)
 clear h
 go_enter Tryz.func12,Tryz.ntmps12
 go_wp2_with fail
 refine HC.out.mono ?_
 rintro e w1 ⟨rfl,hb⟩
 have BB:=hide hb
 clear hb
 go_wp2
 go_ret
 exact ⟨rfl,BB.out⟩
end Go.Proofs.YtabkimknlifdoaaGreatDoor
