/- Pieces of the proof: TUb, TUc, TUd. -/
import Derived.Test.YtabkimknlifdoaaGreatDoorJ35
namespace Go.Proofs.YtabkimknlifdoaaGreatDoor
open Go.RowKit
set_option maxRecDepth 100000 in
set_option maxHeartbeats 8000000 in
theorem twinStmt_raw {β5:Type} {R5:Rep β5} (hR5:RepOk R5) (l5:β5) (s5:Option Addr) (n5 c5:Nat) {β6:Type} {R6:Rep β6} (hR6:RepOk R6) (l6:β6) (s6:Option Addr) (n6 c6:Nat) {β7:Type} {R7:Rep β7} (hR7:RepOk R7) (l7:β7) (s7:Option Addr) (n7 c7:Nat) (i0 i4 i8:Int) (t1 t2 t3:ByteArray) (W:World)
  (HL5:∀ W',Below W.heap.size W W'→Calls Tryz.prog 226 #[.slice s5 n5 c5] W' fun e w'=>∃ v',e=.returned v'∧(∃ a n c,v'=.slice a n c)∧R5 w' (Bn W' w') v' l5∧Below W'.heap.size W' w')
  (HL6:∀ W',Below W.heap.size W W'→Calls Tryz.prog 151 #[.slice s6 n6 c6] W' fun e w'=>∃ v',e=.returned v'∧(∃ a n c,v'=.slice a n c)∧R6 w' (Bn W' w') v' l6∧Below W'.heap.size W' w')
  (HL7:∀ W',Below W.heap.size W W'→Calls Tryz.prog 151 #[.slice s7 n7 c7] W' fun e w'=>∃ v',e=.returned v'∧(∃ a n c,v'=.slice a n c)∧R7 w' (Bn W' w') v' l7∧Below W'.heap.size W' w')
  : Calls Tryz.prog 194 #[.agg #[.int .u8 i0,.string t1,.string t2,.string t3,.int .i64 i4,.slice s5 n5 c5,.slice s6 n6 c6,.slice s7 n7 c7,.int .i64 i8]] W fun e w'=>∃ v5 v6 v7,e=.returned (.agg #[.int .u8 i0,.string t1,.string t2,.string t3,.int .i64 i4,v5,v6,v7,.int .i64 i8])∧(∃ a n c,v5=.slice a n c)∧R5 w' (Bn W w') v5 l5∧(∃ a n c,v6=.slice a n c)∧R6 w' (Bn W w') v6 l6∧(∃ a n c,v7=.slice a n c)∧R7 w' (Bn W w') v7 l7∧Below W.heap.size W w':=by
 have HC5:=hide HL5
 have HC6:=hide HL6
 have HC7:=hide HL7
 clear HL5 HL6 HL7
 go_enter Tryz.func194,Tryz.ntmps194
 go_wp2
 have hS0:TwX W 72 9 #[.int .u8 i0,.string t1,.string t2,.string t3,.int .i64 i4,.slice s5 n5 c5,.slice s6 n6 c6,.slice s7 n7 c7,.int .i64 i8] ((W.alloc (.cells #[.int .u8 i0,.string t1,.string t2,.string t3,.int .i64 i4,.slice s5 n5 c5,.slice s6 n6 c6,.slice s7 n7 c7,.int .i64 i8] 72)).alloc (.cells #[.int .u8 0,.string ⟨#[]⟩,.string ⟨#[]⟩,.string ⟨#[]⟩,.int .i64 0,.slice none 0 0,.slice none 0 0,.slice none 0 0,.int .i64 0] 72)).drew:=TwX.start rfl
 generalize (W.alloc (.cells #[.int .u8 i0,.string t1,.string t2,.string t3,.int .i64 i4,.slice s5 n5 c5,.slice s6 n6 c6,.slice s7 n7 c7,.int .i64 i8] 72)).alloc (.cells #[.int .u8 0,.string ⟨#[]⟩,.string ⟨#[]⟩,.string ⟨#[]⟩,.int .i64 0,.slice none 0 0,.slice none 0 0,.slice none 0 0,.int .i64 0] 72)=w1 at *
 refine wp_region_noPanic ?_
 refine wp_region_held_drew (S:=TwX W 72 9 #[.int .u8 i0,.string t1,.string t2,.string t3,.int .i64 i4,.slice s5 n5 c5,.slice s6 n6 c6,.slice s7 n7 c7,.int .i64 i8]) (by kernel_rfl) hS0 (fun hHeld=>?_)
 clear hS0
 generalize w1.drew=w2 at *
 refine wpAnyH_take (i:=0) (v:=?_) rfl (by kernel_rfl) (by kernel_rfl) (by kernel_rfl) (fun _ _ _ h=>h) (Or.inl ⟨by rfl,?_⟩) hHeld ?_
 rotate_left
 ·(intro w hSw;clear hSw;go_simp;try (with_reducible rfl))
 refine wpAnyH_take (i:=1) (v:=?_) rfl (by kernel_rfl) (by kernel_rfl) (by kernel_rfl) (fun _ _ _ h=>h) (Or.inl ⟨by rfl,?_⟩) hHeld ?_
 rotate_left
 ·(intro w hSw;have hc0:=cel_of hSw.2.1 0 rfl;clear hSw;go_simp;try (with_reducible rfl))
 refine wpAnyH_take (i:=2) (v:=?_) rfl (by kernel_rfl) (by kernel_rfl) (by kernel_rfl) (fun _ _ _ h=>h) (Or.inl ⟨by rfl,?_⟩) hHeld ?_
 rotate_left
 ·(intro w hSw;clear hSw;go_simp;try (with_reducible rfl))
 refine wpAnyH_take (i:=3) (v:=?_) rfl (by kernel_rfl) (by kernel_rfl) (by kernel_rfl) (fun _ _ _ h=>h) (Or.inl ⟨by rfl,?_⟩) hHeld ?_
 rotate_left
 ·(intro w hSw;have hc1:=cel_of hSw.2.1 1 rfl;clear hSw;go_simp;try (with_reducible rfl))
 refine wpAnyH_take (i:=4) (v:=?_) rfl (by kernel_rfl) (by kernel_rfl) (by kernel_rfl) (fun _ _ _ h=>h) (Or.inl ⟨by rfl,?_⟩) hHeld ?_
 rotate_left
 ·(intro w hSw;clear hSw;go_simp;try (with_reducible rfl))
 refine wpAnyH_take (i:=5) (v:=?_) rfl (by kernel_rfl) (by kernel_rfl) (by kernel_rfl) (fun _ _ _ h=>h) (Or.inl ⟨by rfl,?_⟩) hHeld ?_
 rotate_left
 ·(intro w hSw;have hc2:=cel_of hSw.2.1 2 rfl;clear hSw;go_simp;try (with_reducible rfl))
 refine wpAnyH_take (i:=6) (v:=?_) rfl (by kernel_rfl) (by kernel_rfl) (by kernel_rfl) (fun _ _ _ h=>h) (Or.inl ⟨by rfl,?_⟩) hHeld ?_
 rotate_left
 ·(intro w hSw;clear hSw;go_simp;try (with_reducible rfl))
 refine wpAnyH_take (i:=7) (v:=?_) rfl (by kernel_rfl) (by kernel_rfl) (by kernel_rfl) (fun _ _ _ h=>h) (Or.inl ⟨by rfl,?_⟩) hHeld ?_
 rotate_left
 ·(intro w hSw;have hc3:=cel_of hSw.2.1 3 rfl;clear hSw;go_simp;try (with_reducible rfl))
 refine wpAnyH_take (i:=8) (v:=?_) rfl (by kernel_rfl) (by kernel_rfl) (by kernel_rfl) (fun _ _ _ h=>h) (Or.inl ⟨by rfl,?_⟩) hHeld ?_
 rotate_left
 ·(intro w hSw;clear hSw;go_simp;try (with_reducible rfl))
 refine wpAnyH_take (i:=9) (v:=?_) rfl (by kernel_rfl) (by kernel_rfl) (by kernel_rfl) (fun _ _ _ h=>h) (Or.inl ⟨by rfl,?_⟩) hHeld ?_
 rotate_left
 ·(intro w hSw;have hc4:=cel_of hSw.2.1 4 rfl;clear hSw;go_simp;try (with_reducible rfl))
 refine wpAnyH_take (i:=10) (v:=?_) rfl (by kernel_rfl) (by kernel_rfl) (by kernel_rfl) (fun _ _ _ h=>h) (Or.inl ⟨by rfl,?_⟩) hHeld ?_
 rotate_left
 ·(intro w hSw;clear hSw;go_simp;try (with_reducible rfl))
 refine wpAnyH_take (i:=11) (v:=?_) rfl (by kernel_rfl) (by kernel_rfl) (by kernel_rfl) (fun _ _ _ h=>h) (Or.inl ⟨by rfl,?_⟩) hHeld ?_
 rotate_left
 ·(intro w hSw;have hc5:=cel_of hSw.2.1 5 rfl;clear hSw;go_simp;try (with_reducible rfl))
 refine wpAnyH_take (i:=13) (v:=?_) rfl (by kernel_rfl) (by kernel_rfl) (by kernel_rfl) (fun _ _ _ h=>h) (Or.inl ⟨by rfl,?_⟩) hHeld ?_
 rotate_left
 ·(intro w hSw;clear hSw;go_simp;try (with_reducible rfl))
 refine wpAnyH_take (i:=14) (v:=?_) rfl (by kernel_rfl) (by kernel_rfl) (by kernel_rfl) (fun _ _ _ h=>h) (Or.inl ⟨by rfl,?_⟩) hHeld ?_
 rotate_left
 ·(intro w hSw;have hc6:=cel_of hSw.2.1 6 rfl;clear hSw;go_simp;try (with_reducible rfl))
 refine wpAnyH_take (i:=16) (v:=?_) rfl (by kernel_rfl) (by kernel_rfl) (by kernel_rfl) (fun _ _ _ h=>h) (Or.inl ⟨by rfl,?_⟩) hHeld ?_
 rotate_left
 ·(intro w hSw;clear hSw;go_simp;try (with_reducible rfl))
 refine wpAnyH_take (i:=17) (v:=?_) rfl (by kernel_rfl) (by kernel_rfl) (by kernel_rfl) (fun _ _ _ h=>h) (Or.inl ⟨by rfl,?_⟩) hHeld ?_
 rotate_left
 ·(intro w hSw;have hc7:=cel_of hSw.2.1 7 rfl;clear hSw;go_simp;try (with_reducible rfl))
 refine wpAnyH_take (i:=19) (v:=?_) rfl (by kernel_rfl) (by kernel_rfl) (by kernel_rfl) (fun _ _ _ h=>h) (Or.inl ⟨by rfl,?_⟩) hHeld ?_
 rotate_left
 ·(intro w hSw;clear hSw;go_simp;try (with_reducible rfl))
 refine wpAnyH_take (i:=20) (v:=?_) rfl (by kernel_rfl) (by kernel_rfl) (by kernel_rfl) (fun _ _ _ h=>h) (Or.inl ⟨by rfl,?_⟩) hHeld ?_
 rotate_left
 ·(intro w hSw;have hc8:=cel_of hSw.2.1 8 rfl;clear hSw;go_simp;try (with_reducible rfl))
 refine wpAnyH_ready (rs:=[12]) (by kernel_rfl) (by simp) ?_
 refine AllReadyH.cons rfl (fun K hK=>?_) AllReadyH.nil
 go_simp
 refine (HC5.out _ hHeld.1).mono ?_
 rintro e y5 ⟨v5,rfl,⟨a5,m5,d5,rfl⟩,r5,b5⟩
 have r5':=hide r5;have b5':=hide b5;have z5:=hide hHeld.2.2.2
 replace hHeld:=hHeld.next b5
 clear r5 b5
 go_wp2_with fail
 refine hK.out _ _ hHeld (fun _=>?_)
 clear hK K
 refine wpAnyH_ready (rs:=[15]) (by kernel_rfl) (by simp) ?_
 refine AllReadyH.cons rfl (fun K hK=>?_) AllReadyH.nil
 go_simp
 refine (HC6.out _ hHeld.1).mono ?_
 rintro e y6 ⟨v6,rfl,⟨a6,m6,d6,rfl⟩,r6,b6⟩
 have r6':=hide r6;have b6':=hide b6;have z6:=hide hHeld.2.2.2
 replace hHeld:=hHeld.next b6
 clear r6 b6
 go_wp2_with fail
 refine hK.out _ _ hHeld (fun _=>?_)
 clear hK K
 refine wpAnyH_ready (rs:=[18]) (by kernel_rfl) (by simp) ?_
 refine AllReadyH.cons rfl (fun K hK=>?_) AllReadyH.nil
 go_simp
 refine (HC7.out _ hHeld.1).mono ?_
 rintro e y7 ⟨v7,rfl,⟨a7,m7,d7,rfl⟩,r7,b7⟩
 have r7':=hide r7;have b7':=hide b7;have z7:=hide hHeld.2.2.2
 replace hHeld:=hHeld.next b7
 clear r7 b7
 go_wp2_with fail
 refine hK.out _ _ hHeld (fun _=>?_)
 clear hK K
 refine wpAnyH_take (i:=21) (v:=?_) rfl (by kernel_rfl) (by kernel_rfl) (by kernel_rfl) (fun _ _ _ h=>h) (Or.inl ⟨by rfl,?_⟩) hHeld ?_
 rotate_left
 ·(intro w hSw;clear hSw;go_simp;try (with_reducible rfl))
 obtain ⟨cur,hcur,hcs⟩:=hHeld.2.2.1
 refine wpAnyH_ready (rs:=[22]) (by kernel_rfl) (by simp) ?_
 refine AllReadyH.cons rfl (fun K hK=>?_) AllReadyH.nil
 refine step_storeA rfl 72 _ _ rfl (W.heap.size+1) [.int .u8 i0,.string t1,.string t2,.string t3,.int .i64 i4,.slice a5 m5 d5,.slice a6 m6 d6,.slice a7 m7 d7,.int .i64 i8] cur 72 rfl rfl (fun w=>by rfl) hcur hcs (by simp [Value.oneCell']) ?_
 intro w9 hw9
 have h9:=hHeld.store (cs:=[.int .u8 i0,.string t1,.string t2,.string t3,.int .i64 i4,.slice a5 m5 d5,.slice a6 m6 d6,.slice a7 m7 d7,.int .i64 i8]) rfl hw9
 refine hK.out _ _ h9.1 (fun _=>?_)
 clear hK K
 refine wpAnyH_done (by kernel_rfl) ?_ _
 refine NoPanic.normal ?_
 have H1:=hide h9.1.1;have H2:=hide h9.2.1;have H3:=hide h9.2.2.1;have H4:=hide h9.2.2.2
 clear hw9 h9 hHeld hcur hcs
 go_wp2
 exact bodyPost_ret (res_cell (cs:=[.int .u8 i0,.string t1,.string t2,.string t3,.int .i64 i4,.slice a5 m5 d5,.slice a6 m6 d6,.slice a7 m7 d7,.int .i64 i8]) (e:=72) Tryz.results194 rfl ag_stmt sz_stmt H2.out) rfl ⟨_,_,_,rfl,⟨_,_,_,rfl⟩,twR hR5 r5'.out z5.out (stepB b6'.out b7'.out) H3.out H4.out,⟨_,_,_,rfl⟩,twR hR6 r6'.out z6.out b7'.out H3.out H4.out,⟨_,_,_,rfl⟩,twR hR7 r7'.out z7.out (Below.refl _ _) H3.out H4.out,H1.out⟩
set_option maxRecDepth 100000 in
set_option maxHeartbeats 8000000 in
theorem twinState_raw {β1:Type} {R1:Rep β1} (hR1:RepOk R1) (l1:β1) (s1:Option Addr) (n1 c1:Nat) {β2:Type} {R2:Rep β2} (hR2:RepOk R2) (l2:β2) (s2:Option Addr) (n2 c2:Nat) {β3:Type} {R3:Rep β3} (hR3:RepOk R3) (l3:β3) (s3:Option Addr) (n3 c3:Nat) (i5:Int) (t0 t4:ByteArray) (W:World)
  (HL1:∀ W',Below W.heap.size W W'→Calls Tryz.prog 149 #[.slice s1 n1 c1] W' fun e w'=>∃ v',e=.returned v'∧(∃ a n c,v'=.slice a n c)∧R1 w' (Bn W' w') v' l1∧Below W'.heap.size W' w')
  (HL2:∀ W',Below W.heap.size W W'→Calls Tryz.prog 226 #[.slice s2 n2 c2] W' fun e w'=>∃ v',e=.returned v'∧(∃ a n c,v'=.slice a n c)∧R2 w' (Bn W' w') v' l2∧Below W'.heap.size W' w')
  (HL3:∀ W',Below W.heap.size W W'→Calls Tryz.prog 227 #[.slice s3 n3 c3] W' fun e w'=>∃ v',e=.returned v'∧(∃ a n c,v'=.slice a n c)∧R3 w' (Bn W' w') v' l3∧Below W'.heap.size W' w')
  : Calls Tryz.prog 192 #[.agg #[.string t0,.slice s1 n1 c1,.slice s2 n2 c2,.slice s3 n3 c3,.string t4,.int .i64 i5]] W fun e w'=>∃ v1 v2 v3,e=.returned (.agg #[.string t0,v1,v2,v3,.string t4,.int .i64 i5])∧(∃ a n c,v1=.slice a n c)∧R1 w' (Bn W w') v1 l1∧(∃ a n c,v2=.slice a n c)∧R2 w' (Bn W w') v2 l2∧(∃ a n c,v3=.slice a n c)∧R3 w' (Bn W w') v3 l3∧Below W.heap.size W w':=by
 have HC1:=hide HL1
 have HC2:=hide HL2
 have HC3:=hide HL3
 clear HL1 HL2 HL3
 go_enter Tryz.func192,Tryz.ntmps192
 go_wp2
 have hS0:TwX W 79 6 #[.string t0,.slice s1 n1 c1,.slice s2 n2 c2,.slice s3 n3 c3,.string t4,.int .i64 i5] ((W.alloc (.cells #[.string t0,.slice s1 n1 c1,.slice s2 n2 c2,.slice s3 n3 c3,.string t4,.int .i64 i5] 79)).alloc (.cells #[.string ⟨#[]⟩,.slice none 0 0,.slice none 0 0,.slice none 0 0,.string ⟨#[]⟩,.int .i64 0] 79)).drew:=TwX.start rfl
 generalize (W.alloc (.cells #[.string t0,.slice s1 n1 c1,.slice s2 n2 c2,.slice s3 n3 c3,.string t4,.int .i64 i5] 79)).alloc (.cells #[.string ⟨#[]⟩,.slice none 0 0,.slice none 0 0,.slice none 0 0,.string ⟨#[]⟩,.int .i64 0] 79)=w1 at *
 refine wp_region_noPanic ?_
 refine wp_region_held_drew (S:=TwX W 79 6 #[.string t0,.slice s1 n1 c1,.slice s2 n2 c2,.slice s3 n3 c3,.string t4,.int .i64 i5]) (by kernel_rfl) hS0 (fun hHeld=>?_)
 clear hS0
 generalize w1.drew=w2 at *
 refine wpAnyH_take (i:=0) (v:=?_) rfl (by kernel_rfl) (by kernel_rfl) (by kernel_rfl) (fun _ _ _ h=>h) (Or.inl ⟨by rfl,?_⟩) hHeld ?_
 rotate_left
 ·(intro w hSw;clear hSw;go_simp;try (with_reducible rfl))
 refine wpAnyH_take (i:=1) (v:=?_) rfl (by kernel_rfl) (by kernel_rfl) (by kernel_rfl) (fun _ _ _ h=>h) (Or.inl ⟨by rfl,?_⟩) hHeld ?_
 rotate_left
 ·(intro w hSw;have hc0:=cel_of hSw.2.1 0 rfl;clear hSw;go_simp;try (with_reducible rfl))
 refine wpAnyH_take (i:=2) (v:=?_) rfl (by kernel_rfl) (by kernel_rfl) (by kernel_rfl) (fun _ _ _ h=>h) (Or.inl ⟨by rfl,?_⟩) hHeld ?_
 rotate_left
 ·(intro w hSw;clear hSw;go_simp;try (with_reducible rfl))
 refine wpAnyH_take (i:=3) (v:=?_) rfl (by kernel_rfl) (by kernel_rfl) (by kernel_rfl) (fun _ _ _ h=>h) (Or.inl ⟨by rfl,?_⟩) hHeld ?_
 rotate_left
 ·(intro w hSw;have hc1:=cel_of hSw.2.1 1 rfl;clear hSw;go_simp;try (with_reducible rfl))
 refine wpAnyH_take (i:=5) (v:=?_) rfl (by kernel_rfl) (by kernel_rfl) (by kernel_rfl) (fun _ _ _ h=>h) (Or.inl ⟨by rfl,?_⟩) hHeld ?_
 rotate_left
 ·(intro w hSw;clear hSw;go_simp;try (with_reducible rfl))
 refine wpAnyH_take (i:=6) (v:=?_) rfl (by kernel_rfl) (by kernel_rfl) (by kernel_rfl) (fun _ _ _ h=>h) (Or.inl ⟨by rfl,?_⟩) hHeld ?_
 rotate_left
 ·(intro w hSw;have hc2:=cel_of hSw.2.1 2 rfl;clear hSw;go_simp;try (with_reducible rfl))
 refine wpAnyH_take (i:=8) (v:=?_) rfl (by kernel_rfl) (by kernel_rfl) (by kernel_rfl) (fun _ _ _ h=>h) (Or.inl ⟨by rfl,?_⟩) hHeld ?_
 rotate_left
 ·(intro w hSw;clear hSw;go_simp;try (with_reducible rfl))
 refine wpAnyH_take (i:=9) (v:=?_) rfl (by kernel_rfl) (by kernel_rfl) (by kernel_rfl) (fun _ _ _ h=>h) (Or.inl ⟨by rfl,?_⟩) hHeld ?_
 rotate_left
 ·(intro w hSw;have hc3:=cel_of hSw.2.1 3 rfl;clear hSw;go_simp;try (with_reducible rfl))
 refine wpAnyH_take (i:=11) (v:=?_) rfl (by kernel_rfl) (by kernel_rfl) (by kernel_rfl) (fun _ _ _ h=>h) (Or.inl ⟨by rfl,?_⟩) hHeld ?_
 rotate_left
 ·(intro w hSw;clear hSw;go_simp;try (with_reducible rfl))
 refine wpAnyH_take (i:=12) (v:=?_) rfl (by kernel_rfl) (by kernel_rfl) (by kernel_rfl) (fun _ _ _ h=>h) (Or.inl ⟨by rfl,?_⟩) hHeld ?_
 rotate_left
 ·(intro w hSw;have hc4:=cel_of hSw.2.1 4 rfl;clear hSw;go_simp;try (with_reducible rfl))
 refine wpAnyH_take (i:=13) (v:=?_) rfl (by kernel_rfl) (by kernel_rfl) (by kernel_rfl) (fun _ _ _ h=>h) (Or.inl ⟨by rfl,?_⟩) hHeld ?_
 rotate_left
 ·(intro w hSw;clear hSw;go_simp;try (with_reducible rfl))
 refine wpAnyH_take (i:=14) (v:=?_) rfl (by kernel_rfl) (by kernel_rfl) (by kernel_rfl) (fun _ _ _ h=>h) (Or.inl ⟨by rfl,?_⟩) hHeld ?_
 rotate_left
 ·(intro w hSw;have hc5:=cel_of hSw.2.1 5 rfl;clear hSw;go_simp;try (with_reducible rfl))
 refine wpAnyH_ready (rs:=[4]) (by kernel_rfl) (by simp) ?_
 refine AllReadyH.cons rfl (fun K hK=>?_) AllReadyH.nil
 go_simp
 refine (HC1.out _ hHeld.1).mono ?_
 rintro e y1 ⟨v1,rfl,⟨a1,m1,d1,rfl⟩,r1,b1⟩
 have r1':=hide r1;have b1':=hide b1;have z1:=hide hHeld.2.2.2
 replace hHeld:=hHeld.next b1
 clear r1 b1
 go_wp2_with fail
 refine hK.out _ _ hHeld (fun _=>?_)
 clear hK K
 refine wpAnyH_ready (rs:=[7]) (by kernel_rfl) (by simp) ?_
 refine AllReadyH.cons rfl (fun K hK=>?_) AllReadyH.nil
 go_simp
 refine (HC2.out _ hHeld.1).mono ?_
 rintro e y2 ⟨v2,rfl,⟨a2,m2,d2,rfl⟩,r2,b2⟩
 have r2':=hide r2;have b2':=hide b2;have z2:=hide hHeld.2.2.2
 replace hHeld:=hHeld.next b2
 clear r2 b2
 go_wp2_with fail
 refine hK.out _ _ hHeld (fun _=>?_)
 clear hK K
 refine wpAnyH_ready (rs:=[10]) (by kernel_rfl) (by simp) ?_
 refine AllReadyH.cons rfl (fun K hK=>?_) AllReadyH.nil
 go_simp
 refine (HC3.out _ hHeld.1).mono ?_
 rintro e y3 ⟨v3,rfl,⟨a3,m3,d3,rfl⟩,r3,b3⟩
 have r3':=hide r3;have b3':=hide b3;have z3:=hide hHeld.2.2.2
 replace hHeld:=hHeld.next b3
 clear r3 b3
 go_wp2_with fail
 refine hK.out _ _ hHeld (fun _=>?_)
 clear hK K
 refine wpAnyH_take (i:=15) (v:=?_) rfl (by kernel_rfl) (by kernel_rfl) (by kernel_rfl) (fun _ _ _ h=>h) (Or.inl ⟨by rfl,?_⟩) hHeld ?_
 rotate_left
 ·(intro w hSw;clear hSw;go_simp;try (with_reducible rfl))
 obtain ⟨cur,hcur,hcs⟩:=hHeld.2.2.1
 refine wpAnyH_ready (rs:=[16]) (by kernel_rfl) (by simp) ?_
 refine AllReadyH.cons rfl (fun K hK=>?_) AllReadyH.nil
 refine step_storeA rfl 79 _ _ rfl (W.heap.size+1) [.string t0,.slice a1 m1 d1,.slice a2 m2 d2,.slice a3 m3 d3,.string t4,.int .i64 i5] cur 79 rfl rfl (fun w=>by rfl) hcur hcs (by simp [Value.oneCell']) ?_
 intro w9 hw9
 have h9:=hHeld.store (cs:=[.string t0,.slice a1 m1 d1,.slice a2 m2 d2,.slice a3 m3 d3,.string t4,.int .i64 i5]) rfl hw9
 refine hK.out _ _ h9.1 (fun _=>?_)
 clear hK K
 refine wpAnyH_done (by kernel_rfl) ?_ _
 refine NoPanic.normal ?_
 have H1:=hide h9.1.1;have H2:=hide h9.2.1;have H3:=hide h9.2.2.1;have H4:=hide h9.2.2.2
 clear hw9 h9 hHeld hcur hcs
 go_wp2
 exact bodyPost_ret (res_cell (cs:=[.string t0,.slice a1 m1 d1,.slice a2 m2 d2,.slice a3 m3 d3,.string t4,.int .i64 i5]) (e:=79) Tryz.results192 rfl ag_state sz_state H2.out) rfl ⟨_,_,_,rfl,⟨_,_,_,rfl⟩,twR hR1 r1'.out z1.out (stepB b2'.out b3'.out) H3.out H4.out,⟨_,_,_,rfl⟩,twR hR2 r2'.out z2.out b3'.out H3.out H4.out,⟨_,_,_,rfl⟩,twR hR3 r3'.out z3.out (Below.refl _ _) H3.out H4.out,H1.out⟩
set_option maxRecDepth 100000 in
set_option maxHeartbeats 8000000 in
theorem twinDecl_raw {β2:Type} {R2:Rep β2} (hR2:RepOk R2) (l2:β2) (s2:Option Addr) (n2 c2:Nat) {β7:Type} {R7:Rep β7} (hR7:RepOk R7) (l7:β7) (s7:Option Addr) (n7 c7:Nat) {β8:Type} {R8:Rep β8} (hR8:RepOk R8) (l8:β8) (s8:Option Addr) (n8 c8:Nat) {β9:Type} {R9:Rep β9} (hR9:RepOk R9) (l9:β9) (s9:Option Addr) (n9 c9:Nat) {β11:Type} {R11:Rep β11} (hR11:RepOk R11) (l11:β11) (s11:Option Addr) (n11 c11:Nat) {β12:Type} {R12:Rep β12} (hR12:RepOk R12) (l12:β12) (s12:Option Addr) (n12 c12:Nat) {β13:Type} {R13:Rep β13} (hR13:RepOk R13) (l13:β13) (s13:Option Addr) (n13 c13:Nat) (i0 i3 i4 i5 i6 i14:Int) (t1 t10:ByteArray) (W:World)
  (HL2:∀ W',Below W.heap.size W W'→Calls Tryz.prog 146 #[.slice s2 n2 c2] W' fun e w'=>∃ v',e=.returned v'∧(∃ a n c,v'=.slice a n c)∧R2 w' (Bn W' w') v' l2∧Below W'.heap.size W' w')
  (HL7:∀ W',Below W.heap.size W W'→Calls Tryz.prog 147 #[.slice s7 n7 c7] W' fun e w'=>∃ v',e=.returned v'∧(∃ a n c,v'=.slice a n c)∧R7 w' (Bn W' w') v' l7∧Below W'.heap.size W' w')
  (HL8:∀ W',Below W.heap.size W W'→Calls Tryz.prog 148 #[.slice s8 n8 c8] W' fun e w'=>∃ v',e=.returned v'∧(∃ a n c,v'=.slice a n c)∧R8 w' (Bn W' w') v' l8∧Below W'.heap.size W' w')
  (HL9:∀ W',Below W.heap.size W W'→Calls Tryz.prog 149 #[.slice s9 n9 c9] W' fun e w'=>∃ v',e=.returned v'∧(∃ a n c,v'=.slice a n c)∧R9 w' (Bn W' w') v' l9∧Below W'.heap.size W' w')
  (HL11:∀ W',Below W.heap.size W W'→Calls Tryz.prog 150 #[.slice s11 n11 c11] W' fun e w'=>∃ v',e=.returned v'∧(∃ a n c,v'=.slice a n c)∧R11 w' (Bn W' w') v' l11∧Below W'.heap.size W' w')
  (HL12:∀ W',Below W.heap.size W W'→Calls Tryz.prog 151 #[.slice s12 n12 c12] W' fun e w'=>∃ v',e=.returned v'∧(∃ a n c,v'=.slice a n c)∧R12 w' (Bn W' w') v' l12∧Below W'.heap.size W' w')
  (HL13:∀ W',Below W.heap.size W W'→Calls Tryz.prog 149 #[.slice s13 n13 c13] W' fun e w'=>∃ v',e=.returned v'∧(∃ a n c,v'=.slice a n c)∧R13 w' (Bn W' w') v' l13∧Below W'.heap.size W' w')
  : Calls Tryz.prog 96 #[.agg #[.int .u8 i0,.string t1,.slice s2 n2 c2,.int .i64 i3,.int .i64 i4,.int .i64 i5,.int .i64 i6,.slice s7 n7 c7,.slice s8 n8 c8,.slice s9 n9 c9,.string t10,.slice s11 n11 c11,.slice s12 n12 c12,.slice s13 n13 c13,.int .i64 i14]] W fun e w'=>∃ v2 v7 v8 v9 v11 v12 v13,e=.returned (.agg #[.int .u8 i0,.string t1,v2,.int .i64 i3,.int .i64 i4,.int .i64 i5,.int .i64 i6,v7,v8,v9,.string t10,v11,v12,v13,.int .i64 i14])∧(∃ a n c,v2=.slice a n c)∧R2 w' (Bn W w') v2 l2∧(∃ a n c,v7=.slice a n c)∧R7 w' (Bn W w') v7 l7∧(∃ a n c,v8=.slice a n c)∧R8 w' (Bn W w') v8 l8∧(∃ a n c,v9=.slice a n c)∧R9 w' (Bn W w') v9 l9∧(∃ a n c,v11=.slice a n c)∧R11 w' (Bn W w') v11 l11∧(∃ a n c,v12=.slice a n c)∧R12 w' (Bn W w') v12 l12∧(∃ a n c,v13=.slice a n c)∧R13 w' (Bn W w') v13 l13∧Below W.heap.size W w':=by
 have HC2:=hide HL2
 have HC7:=hide HL7
 have HC8:=hide HL8
 have HC9:=hide HL9
 have HC11:=hide HL11
 have HC12:=hide HL12
 have HC13:=hide HL13
 clear HL2 HL7 HL8 HL9 HL11 HL12 HL13
 go_enter Tryz.func96,Tryz.ntmps96
 go_wp2
 have hS0:TwX W 69 15 #[.int .u8 i0,.string t1,.slice s2 n2 c2,.int .i64 i3,.int .i64 i4,.int .i64 i5,.int .i64 i6,.slice s7 n7 c7,.slice s8 n8 c8,.slice s9 n9 c9,.string t10,.slice s11 n11 c11,.slice s12 n12 c12,.slice s13 n13 c13,.int .i64 i14] ((W.alloc (.cells #[.int .u8 i0,.string t1,.slice s2 n2 c2,.int .i64 i3,.int .i64 i4,.int .i64 i5,.int .i64 i6,.slice s7 n7 c7,.slice s8 n8 c8,.slice s9 n9 c9,.string t10,.slice s11 n11 c11,.slice s12 n12 c12,.slice s13 n13 c13,.int .i64 i14] 69)).alloc (.cells #[.int .u8 0,.string ⟨#[]⟩,.slice none 0 0,.int .i64 0,.int .i64 0,.int .i64 0,.int .i64 0,.slice none 0 0,.slice none 0 0,.slice none 0 0,.string ⟨#[]⟩,.slice none 0 0,.slice none 0 0,.slice none 0 0,.int .i64 0] 69)).drew:=TwX.start rfl
 generalize (W.alloc (.cells #[.int .u8 i0,.string t1,.slice s2 n2 c2,.int .i64 i3,.int .i64 i4,.int .i64 i5,.int .i64 i6,.slice s7 n7 c7,.slice s8 n8 c8,.slice s9 n9 c9,.string t10,.slice s11 n11 c11,.slice s12 n12 c12,.slice s13 n13 c13,.int .i64 i14] 69)).alloc (.cells #[.int .u8 0,.string ⟨#[]⟩,.slice none 0 0,.int .i64 0,.int .i64 0,.int .i64 0,.int .i64 0,.slice none 0 0,.slice none 0 0,.slice none 0 0,.string ⟨#[]⟩,.slice none 0 0,.slice none 0 0,.slice none 0 0,.int .i64 0] 69)=w1 at *
 refine wp_region_noPanic ?_
 refine wp_region_held_drew (S:=TwX W 69 15 #[.int .u8 i0,.string t1,.slice s2 n2 c2,.int .i64 i3,.int .i64 i4,.int .i64 i5,.int .i64 i6,.slice s7 n7 c7,.slice s8 n8 c8,.slice s9 n9 c9,.string t10,.slice s11 n11 c11,.slice s12 n12 c12,.slice s13 n13 c13,.int .i64 i14]) (by kernel_rfl) hS0 (fun hHeld=>?_)
 clear hS0
 generalize w1.drew=w2 at *
 refine wpAnyH_take (i:=0) (v:=?_) rfl (by kernel_rfl) (by kernel_rfl) (by kernel_rfl) (fun _ _ _ h=>h) (Or.inl ⟨by rfl,?_⟩) hHeld ?_
 rotate_left
 ·(intro w hSw;clear hSw;go_simp;try (with_reducible rfl))
 refine wpAnyH_take (i:=1) (v:=?_) rfl (by kernel_rfl) (by kernel_rfl) (by kernel_rfl) (fun _ _ _ h=>h) (Or.inl ⟨by rfl,?_⟩) hHeld ?_
 rotate_left
 ·(intro w hSw;have hc0:=cel_of hSw.2.1 0 rfl;clear hSw;go_simp;try (with_reducible rfl))
 refine wpAnyH_take (i:=2) (v:=?_) rfl (by kernel_rfl) (by kernel_rfl) (by kernel_rfl) (fun _ _ _ h=>h) (Or.inl ⟨by rfl,?_⟩) hHeld ?_
 rotate_left
 ·(intro w hSw;clear hSw;go_simp;try (with_reducible rfl))
 refine wpAnyH_take (i:=3) (v:=?_) rfl (by kernel_rfl) (by kernel_rfl) (by kernel_rfl) (fun _ _ _ h=>h) (Or.inl ⟨by rfl,?_⟩) hHeld ?_
 rotate_left
 ·(intro w hSw;have hc1:=cel_of hSw.2.1 1 rfl;clear hSw;go_simp;try (with_reducible rfl))
 refine wpAnyH_take (i:=4) (v:=?_) rfl (by kernel_rfl) (by kernel_rfl) (by kernel_rfl) (fun _ _ _ h=>h) (Or.inl ⟨by rfl,?_⟩) hHeld ?_
 rotate_left
 ·(intro w hSw;clear hSw;go_simp;try (with_reducible rfl))
 refine wpAnyH_take (i:=5) (v:=?_) rfl (by kernel_rfl) (by kernel_rfl) (by kernel_rfl) (fun _ _ _ h=>h) (Or.inl ⟨by rfl,?_⟩) hHeld ?_
 rotate_left
 ·(intro w hSw;have hc2:=cel_of hSw.2.1 2 rfl;clear hSw;go_simp;try (with_reducible rfl))
 refine wpAnyH_take (i:=7) (v:=?_) rfl (by kernel_rfl) (by kernel_rfl) (by kernel_rfl) (fun _ _ _ h=>h) (Or.inl ⟨by rfl,?_⟩) hHeld ?_
 rotate_left
 ·(intro w hSw;clear hSw;go_simp;try (with_reducible rfl))
 refine wpAnyH_take (i:=8) (v:=?_) rfl (by kernel_rfl) (by kernel_rfl) (by kernel_rfl) (fun _ _ _ h=>h) (Or.inl ⟨by rfl,?_⟩) hHeld ?_
 rotate_left
 ·(intro w hSw;have hc3:=cel_of hSw.2.1 3 rfl;clear hSw;go_simp;try (with_reducible rfl))
 refine wpAnyH_take (i:=9) (v:=?_) rfl (by kernel_rfl) (by kernel_rfl) (by kernel_rfl) (fun _ _ _ h=>h) (Or.inl ⟨by rfl,?_⟩) hHeld ?_
 rotate_left
 ·(intro w hSw;clear hSw;go_simp;try (with_reducible rfl))
 refine wpAnyH_take (i:=10) (v:=?_) rfl (by kernel_rfl) (by kernel_rfl) (by kernel_rfl) (fun _ _ _ h=>h) (Or.inl ⟨by rfl,?_⟩) hHeld ?_
 rotate_left
 ·(intro w hSw;have hc4:=cel_of hSw.2.1 4 rfl;clear hSw;go_simp;try (with_reducible rfl))
 refine wpAnyH_take (i:=11) (v:=?_) rfl (by kernel_rfl) (by kernel_rfl) (by kernel_rfl) (fun _ _ _ h=>h) (Or.inl ⟨by rfl,?_⟩) hHeld ?_
 rotate_left
 ·(intro w hSw;clear hSw;go_simp;try (with_reducible rfl))
 refine wpAnyH_take (i:=12) (v:=?_) rfl (by kernel_rfl) (by kernel_rfl) (by kernel_rfl) (fun _ _ _ h=>h) (Or.inl ⟨by rfl,?_⟩) hHeld ?_
 rotate_left
 ·(intro w hSw;have hc5:=cel_of hSw.2.1 5 rfl;clear hSw;go_simp;try (with_reducible rfl))
 refine wpAnyH_take (i:=13) (v:=?_) rfl (by kernel_rfl) (by kernel_rfl) (by kernel_rfl) (fun _ _ _ h=>h) (Or.inl ⟨by rfl,?_⟩) hHeld ?_
 rotate_left
 ·(intro w hSw;clear hSw;go_simp;try (with_reducible rfl))
 refine wpAnyH_take (i:=14) (v:=?_) rfl (by kernel_rfl) (by kernel_rfl) (by kernel_rfl) (fun _ _ _ h=>h) (Or.inl ⟨by rfl,?_⟩) hHeld ?_
 rotate_left
 ·(intro w hSw;have hc6:=cel_of hSw.2.1 6 rfl;clear hSw;go_simp;try (with_reducible rfl))
 refine wpAnyH_take (i:=15) (v:=?_) rfl (by kernel_rfl) (by kernel_rfl) (by kernel_rfl) (fun _ _ _ h=>h) (Or.inl ⟨by rfl,?_⟩) hHeld ?_
 rotate_left
 ·(intro w hSw;clear hSw;go_simp;try (with_reducible rfl))
 refine wpAnyH_take (i:=16) (v:=?_) rfl (by kernel_rfl) (by kernel_rfl) (by kernel_rfl) (fun _ _ _ h=>h) (Or.inl ⟨by rfl,?_⟩) hHeld ?_
 rotate_left
 ·(intro w hSw;have hc7:=cel_of hSw.2.1 7 rfl;clear hSw;go_simp;try (with_reducible rfl))
 refine wpAnyH_take (i:=18) (v:=?_) rfl (by kernel_rfl) (by kernel_rfl) (by kernel_rfl) (fun _ _ _ h=>h) (Or.inl ⟨by rfl,?_⟩) hHeld ?_
 rotate_left
 ·(intro w hSw;clear hSw;go_simp;try (with_reducible rfl))
 refine wpAnyH_take (i:=19) (v:=?_) rfl (by kernel_rfl) (by kernel_rfl) (by kernel_rfl) (fun _ _ _ h=>h) (Or.inl ⟨by rfl,?_⟩) hHeld ?_
 rotate_left
 ·(intro w hSw;have hc8:=cel_of hSw.2.1 8 rfl;clear hSw;go_simp;try (with_reducible rfl))
 refine wpAnyH_take (i:=21) (v:=?_) rfl (by kernel_rfl) (by kernel_rfl) (by kernel_rfl) (fun _ _ _ h=>h) (Or.inl ⟨by rfl,?_⟩) hHeld ?_
 rotate_left
 ·(intro w hSw;clear hSw;go_simp;try (with_reducible rfl))
 refine wpAnyH_take (i:=22) (v:=?_) rfl (by kernel_rfl) (by kernel_rfl) (by kernel_rfl) (fun _ _ _ h=>h) (Or.inl ⟨by rfl,?_⟩) hHeld ?_
 rotate_left
 ·(intro w hSw;have hc9:=cel_of hSw.2.1 9 rfl;clear hSw;go_simp;try (with_reducible rfl))
 refine wpAnyH_take (i:=24) (v:=?_) rfl (by kernel_rfl) (by kernel_rfl) (by kernel_rfl) (fun _ _ _ h=>h) (Or.inl ⟨by rfl,?_⟩) hHeld ?_
 rotate_left
 ·(intro w hSw;clear hSw;go_simp;try (with_reducible rfl))
 refine wpAnyH_take (i:=25) (v:=?_) rfl (by kernel_rfl) (by kernel_rfl) (by kernel_rfl) (fun _ _ _ h=>h) (Or.inl ⟨by rfl,?_⟩) hHeld ?_
 rotate_left
 ·(intro w hSw;have hc10:=cel_of hSw.2.1 10 rfl;clear hSw;go_simp;try (with_reducible rfl))
 refine wpAnyH_take (i:=26) (v:=?_) rfl (by kernel_rfl) (by kernel_rfl) (by kernel_rfl) (fun _ _ _ h=>h) (Or.inl ⟨by rfl,?_⟩) hHeld ?_
 rotate_left
 ·(intro w hSw;clear hSw;go_simp;try (with_reducible rfl))
 refine wpAnyH_take (i:=27) (v:=?_) rfl (by kernel_rfl) (by kernel_rfl) (by kernel_rfl) (fun _ _ _ h=>h) (Or.inl ⟨by rfl,?_⟩) hHeld ?_
 rotate_left
 ·(intro w hSw;have hc11:=cel_of hSw.2.1 11 rfl;clear hSw;go_simp;try (with_reducible rfl))
 refine wpAnyH_take (i:=29) (v:=?_) rfl (by kernel_rfl) (by kernel_rfl) (by kernel_rfl) (fun _ _ _ h=>h) (Or.inl ⟨by rfl,?_⟩) hHeld ?_
 rotate_left
 ·(intro w hSw;clear hSw;go_simp;try (with_reducible rfl))
 refine wpAnyH_take (i:=30) (v:=?_) rfl (by kernel_rfl) (by kernel_rfl) (by kernel_rfl) (fun _ _ _ h=>h) (Or.inl ⟨by rfl,?_⟩) hHeld ?_
 rotate_left
 ·(intro w hSw;have hc12:=cel_of hSw.2.1 12 rfl;clear hSw;go_simp;try (with_reducible rfl))
 refine wpAnyH_take (i:=32) (v:=?_) rfl (by kernel_rfl) (by kernel_rfl) (by kernel_rfl) (fun _ _ _ h=>h) (Or.inl ⟨by rfl,?_⟩) hHeld ?_
 rotate_left
 ·(intro w hSw;clear hSw;go_simp;try (with_reducible rfl))
 refine wpAnyH_take (i:=33) (v:=?_) rfl (by kernel_rfl) (by kernel_rfl) (by kernel_rfl) (fun _ _ _ h=>h) (Or.inl ⟨by rfl,?_⟩) hHeld ?_
 rotate_left
 ·(intro w hSw;have hc13:=cel_of hSw.2.1 13 rfl;clear hSw;go_simp;try (with_reducible rfl))
 refine wpAnyH_take (i:=35) (v:=?_) rfl (by kernel_rfl) (by kernel_rfl) (by kernel_rfl) (fun _ _ _ h=>h) (Or.inl ⟨by rfl,?_⟩) hHeld ?_
 rotate_left
 ·(intro w hSw;clear hSw;go_simp;try (with_reducible rfl))
 refine wpAnyH_take (i:=36) (v:=?_) rfl (by kernel_rfl) (by kernel_rfl) (by kernel_rfl) (fun _ _ _ h=>h) (Or.inl ⟨by rfl,?_⟩) hHeld ?_
 rotate_left
 ·(intro w hSw;have hc14:=cel_of hSw.2.1 14 rfl;clear hSw;go_simp;try (with_reducible rfl))
 refine wpAnyH_ready (rs:=[6]) (by kernel_rfl) (by simp) ?_
 refine AllReadyH.cons rfl (fun K hK=>?_) AllReadyH.nil
 go_simp
 refine (HC2.out _ hHeld.1).mono ?_
 rintro e y2 ⟨v2,rfl,⟨a2,m2,d2,rfl⟩,r2,b2⟩
 have r2':=hide r2;have b2':=hide b2;have z2:=hide hHeld.2.2.2
 replace hHeld:=hHeld.next b2
 clear r2 b2
 go_wp2_with fail
 refine hK.out _ _ hHeld (fun _=>?_)
 clear hK K
 refine wpAnyH_ready (rs:=[17]) (by kernel_rfl) (by simp) ?_
 refine AllReadyH.cons rfl (fun K hK=>?_) AllReadyH.nil
 go_simp
 refine (HC7.out _ hHeld.1).mono ?_
 rintro e y7 ⟨v7,rfl,⟨a7,m7,d7,rfl⟩,r7,b7⟩
 have r7':=hide r7;have b7':=hide b7;have z7:=hide hHeld.2.2.2
 replace hHeld:=hHeld.next b7
 clear r7 b7
 go_wp2_with fail
 refine hK.out _ _ hHeld (fun _=>?_)
 clear hK K
 refine wpAnyH_ready (rs:=[20]) (by kernel_rfl) (by simp) ?_
 refine AllReadyH.cons rfl (fun K hK=>?_) AllReadyH.nil
 go_simp
 refine (HC8.out _ hHeld.1).mono ?_
 rintro e y8 ⟨v8,rfl,⟨a8,m8,d8,rfl⟩,r8,b8⟩
 have r8':=hide r8;have b8':=hide b8;have z8:=hide hHeld.2.2.2
 replace hHeld:=hHeld.next b8
 clear r8 b8
 go_wp2_with fail
 refine hK.out _ _ hHeld (fun _=>?_)
 clear hK K
 refine wpAnyH_ready (rs:=[23]) (by kernel_rfl) (by simp) ?_
 refine AllReadyH.cons rfl (fun K hK=>?_) AllReadyH.nil
 go_simp
 refine (HC9.out _ hHeld.1).mono ?_
 rintro e y9 ⟨v9,rfl,⟨a9,m9,d9,rfl⟩,r9,b9⟩
 have r9':=hide r9;have b9':=hide b9;have z9:=hide hHeld.2.2.2
 replace hHeld:=hHeld.next b9
 clear r9 b9
 go_wp2_with fail
 refine hK.out _ _ hHeld (fun _=>?_)
 clear hK K
 refine wpAnyH_ready (rs:=[28]) (by kernel_rfl) (by simp) ?_
 refine AllReadyH.cons rfl (fun K hK=>?_) AllReadyH.nil
 go_simp
 refine (HC11.out _ hHeld.1).mono ?_
 rintro e y11 ⟨v11,rfl,⟨a11,m11,d11,rfl⟩,r11,b11⟩
 have r11':=hide r11;have b11':=hide b11;have z11:=hide hHeld.2.2.2
 replace hHeld:=hHeld.next b11
 clear r11 b11
 go_wp2_with fail
 refine hK.out _ _ hHeld (fun _=>?_)
 clear hK K
 refine wpAnyH_ready (rs:=[31]) (by kernel_rfl) (by simp) ?_
 refine AllReadyH.cons rfl (fun K hK=>?_) AllReadyH.nil
 go_simp
 refine (HC12.out _ hHeld.1).mono ?_
 rintro e y12 ⟨v12,rfl,⟨a12,m12,d12,rfl⟩,r12,b12⟩
 have r12':=hide r12;have b12':=hide b12;have z12:=hide hHeld.2.2.2
 replace hHeld:=hHeld.next b12
 clear r12 b12
 go_wp2_with fail
 refine hK.out _ _ hHeld (fun _=>?_)
 clear hK K
 refine wpAnyH_ready (rs:=[34]) (by kernel_rfl) (by simp) ?_
 refine AllReadyH.cons rfl (fun K hK=>?_) AllReadyH.nil
 go_simp
 refine (HC13.out _ hHeld.1).mono ?_
 rintro e y13 ⟨v13,rfl,⟨a13,m13,d13,rfl⟩,r13,b13⟩
 have r13':=hide r13;have b13':=hide b13;have z13:=hide hHeld.2.2.2
 replace hHeld:=hHeld.next b13
 clear r13 b13
 go_wp2_with fail
 refine hK.out _ _ hHeld (fun _=>?_)
 clear hK K
 refine wpAnyH_take (i:=37) (v:=?_) rfl (by kernel_rfl) (by kernel_rfl) (by kernel_rfl) (fun _ _ _ h=>h) (Or.inl ⟨by rfl,?_⟩) hHeld ?_
 rotate_left
 ·(intro w hSw;clear hSw;go_simp;try (with_reducible rfl))
 obtain ⟨cur,hcur,hcs⟩:=hHeld.2.2.1
 refine wpAnyH_ready (rs:=[38]) (by kernel_rfl) (by simp) ?_
 refine AllReadyH.cons rfl (fun K hK=>?_) AllReadyH.nil
 refine step_storeA rfl 69 _ _ rfl (W.heap.size+1) [.int .u8 i0,.string t1,.slice a2 m2 d2,.int .i64 i3,.int .i64 i4,.int .i64 i5,.int .i64 i6,.slice a7 m7 d7,.slice a8 m8 d8,.slice a9 m9 d9,.string t10,.slice a11 m11 d11,.slice a12 m12 d12,.slice a13 m13 d13,.int .i64 i14] cur 69 rfl rfl (fun w=>by rfl) hcur hcs (by simp [Value.oneCell']) ?_
 intro w9 hw9
 have h9:=hHeld.store (cs:=[.int .u8 i0,.string t1,.slice a2 m2 d2,.int .i64 i3,.int .i64 i4,.int .i64 i5,.int .i64 i6,.slice a7 m7 d7,.slice a8 m8 d8,.slice a9 m9 d9,.string t10,.slice a11 m11 d11,.slice a12 m12 d12,.slice a13 m13 d13,.int .i64 i14]) rfl hw9
 refine hK.out _ _ h9.1 (fun _=>?_)
 clear hK K
 refine wpAnyH_done (by kernel_rfl) ?_ _
 refine NoPanic.normal ?_
 have H1:=hide h9.1.1;have H2:=hide h9.2.1;have H3:=hide h9.2.2.1;have H4:=hide h9.2.2.2
 clear hw9 h9 hHeld hcur hcs
 go_wp2
 exact bodyPost_ret (res_cell (cs:=[.int .u8 i0,.string t1,.slice a2 m2 d2,.int .i64 i3,.int .i64 i4,.int .i64 i5,.int .i64 i6,.slice a7 m7 d7,.slice a8 m8 d8,.slice a9 m9 d9,.string t10,.slice a11 m11 d11,.slice a12 m12 d12,.slice a13 m13 d13,.int .i64 i14]) (e:=69) Tryz.results96 rfl ag_decl sz_decl H2.out) rfl ⟨_,_,_,_,_,_,_,rfl,⟨_,_,_,rfl⟩,twR hR2 r2'.out z2.out (stepB (stepB (stepB (stepB (stepB b7'.out b8'.out) b9'.out) b11'.out) b12'.out) b13'.out) H3.out H4.out,⟨_,_,_,rfl⟩,twR hR7 r7'.out z7.out (stepB (stepB (stepB (stepB b8'.out b9'.out) b11'.out) b12'.out) b13'.out) H3.out H4.out,⟨_,_,_,rfl⟩,twR hR8 r8'.out z8.out (stepB (stepB (stepB b9'.out b11'.out) b12'.out) b13'.out) H3.out H4.out,⟨_,_,_,rfl⟩,twR hR9 r9'.out z9.out (stepB (stepB b11'.out b12'.out) b13'.out) H3.out H4.out,⟨_,_,_,rfl⟩,twR hR11 r11'.out z11.out (stepB b12'.out b13'.out) H3.out H4.out,⟨_,_,_,rfl⟩,twR hR12 r12'.out z12.out b13'.out H3.out H4.out,⟨_,_,_,rfl⟩,twR hR13 r13'.out z13.out (Below.refl _ _) H3.out H4.out,H1.out⟩
set_option maxRecDepth 100000 in
set_option maxHeartbeats 8000000 in
theorem twinKey_raw {β8:Type} {R8:Rep β8} (hR8:RepOk R8) (l8:β8) (s8:Option Addr) (n8 c8:Nat) (i0 i1 i2 i3 i6 i7 i9 i10:Int) (t4 t5:ByteArray) (W:World)
  (HL8:∀ W',Below W.heap.size W W'→Calls Tryz.prog 228 #[.agg #[.int .u8 i0,.int .i64 i1,.int .u64 i2,.int .u64 i3,.string t4,.string t5,.int .i64 i6,.int .i64 i7,.slice s8 n8 c8,.int .i64 i9]] W' fun e w'=>∃ v8,e=.returned (.agg #[.int .u8 i0,.int .i64 i1,.int .u64 i2,.int .u64 i3,.string t4,.string t5,.int .i64 i6,.int .i64 i7,v8,.int .i64 i9])∧(∃ a n c,v8=.slice a n c)∧R8 w' (Bn W' w') v8 l8∧Below W'.heap.size W' w')
  : Calls Tryz.prog 193 #[.agg #[.int .u8 i0,.int .i64 i1,.int .u64 i2,.int .u64 i3,.string t4,.string t5,.int .i64 i6,.int .i64 i7,.slice s8 n8 c8,.int .i64 i9,.int .u8 i10]] W fun e w'=>∃ v8,e=.returned (.agg #[.int .u8 i0,.int .i64 i1,.int .u64 i2,.int .u64 i3,.string t4,.string t5,.int .i64 i6,.int .i64 i7,v8,.int .i64 i9,.int .u8 i10])∧(∃ a n c,v8=.slice a n c)∧R8 w' (Bn W w') v8 l8∧Below W.heap.size W w':=by
 have HC8:=hide HL8
 clear HL8
 go_enter Tryz.func193,Tryz.ntmps193
 go_wp2
 have hS0:TwX W 85 11 #[.int .u8 i0,.int .i64 i1,.int .u64 i2,.int .u64 i3,.string t4,.string t5,.int .i64 i6,.int .i64 i7,.slice s8 n8 c8,.int .i64 i9,.int .u8 i10] ((W.alloc (.cells #[.int .u8 i0,.int .i64 i1,.int .u64 i2,.int .u64 i3,.string t4,.string t5,.int .i64 i6,.int .i64 i7,.slice s8 n8 c8,.int .i64 i9,.int .u8 i10] 85)).alloc (.cells #[.int .u8 0,.int .i64 0,.int .u64 0,.int .u64 0,.string ⟨#[]⟩,.string ⟨#[]⟩,.int .i64 0,.int .i64 0,.slice none 0 0,.int .i64 0,.int .u8 0] 85)).drew:=TwX.start rfl
 generalize (W.alloc (.cells #[.int .u8 i0,.int .i64 i1,.int .u64 i2,.int .u64 i3,.string t4,.string t5,.int .i64 i6,.int .i64 i7,.slice s8 n8 c8,.int .i64 i9,.int .u8 i10] 85)).alloc (.cells #[.int .u8 0,.int .i64 0,.int .u64 0,.int .u64 0,.string ⟨#[]⟩,.string ⟨#[]⟩,.int .i64 0,.int .i64 0,.slice none 0 0,.int .i64 0,.int .u8 0] 85)=w1 at *
 refine wp_region_noPanic ?_
 refine wp_region_held_drew (S:=TwX W 85 11 #[.int .u8 i0,.int .i64 i1,.int .u64 i2,.int .u64 i3,.string t4,.string t5,.int .i64 i6,.int .i64 i7,.slice s8 n8 c8,.int .i64 i9,.int .u8 i10]) (by kernel_rfl) hS0 (fun hHeld=>?_)
 clear hS0
 generalize w1.drew=w2 at *
 refine wpAnyH_take (i:=0) (v:=?_) rfl (by kernel_rfl) (by kernel_rfl) (by kernel_rfl) (fun _ _ _ h=>h) (Or.inl ⟨by rfl,?_⟩) hHeld ?_
 rotate_left
 ·(intro w hSw;clear hSw;go_simp;try (with_reducible rfl))
 refine wpAnyH_take (i:=1) (v:=?_) rfl (by kernel_rfl) (by kernel_rfl) (by kernel_rfl) (fun _ _ _ h=>h) (Or.inl ⟨by rfl,?_⟩) hHeld ?_
 rotate_left
 ·(intro w hSw;have hc0:=cel_of hSw.2.1 0 rfl;have hc1:=cel_of hSw.2.1 1 rfl;have hc2:=cel_of hSw.2.1 2 rfl;have hc3:=cel_of hSw.2.1 3 rfl;have hc4:=cel_of hSw.2.1 4 rfl;have hc5:=cel_of hSw.2.1 5 rfl;have hc6:=cel_of hSw.2.1 6 rfl;have hc7:=cel_of hSw.2.1 7 rfl;have hc8:=cel_of hSw.2.1 8 rfl;have hc9:=cel_of hSw.2.1 9 rfl;clear hSw;go_simp;try (with_reducible rfl))
 refine wpAnyH_take (i:=3) (v:=?_) rfl (by kernel_rfl) (by kernel_rfl) (by kernel_rfl) (fun _ _ _ h=>h) (Or.inl ⟨by rfl,?_⟩) hHeld ?_
 rotate_left
 ·(intro w hSw;clear hSw;go_simp;try (with_reducible rfl))
 refine wpAnyH_take (i:=4) (v:=?_) rfl (by kernel_rfl) (by kernel_rfl) (by kernel_rfl) (fun _ _ _ h=>h) (Or.inl ⟨by rfl,?_⟩) hHeld ?_
 rotate_left
 ·(intro w hSw;have hc10:=cel_of hSw.2.1 10 rfl;clear hSw;go_simp;try (with_reducible rfl))
 refine wpAnyH_ready (rs:=[2]) (by kernel_rfl) (by simp) ?_
 refine AllReadyH.cons rfl (fun K hK=>?_) AllReadyH.nil
 go_simp
 refine (HC8.out _ hHeld.1).mono ?_
 rintro e y8 ⟨v8,rfl,⟨a8,m8,d8,rfl⟩,r8,b8⟩
 have r8':=hide r8;have z8:=hide hHeld.2.2.2
 replace hHeld:=hHeld.next b8
 clear r8 b8
 go_wp2_with fail
 refine hK.out _ _ hHeld (fun _=>?_)
 clear hK K
 refine wpAnyH_take (i:=5) (v:=?_) rfl (by kernel_rfl) (by kernel_rfl) (by kernel_rfl) (fun _ _ _ h=>h) (Or.inl ⟨by rfl,?_⟩) hHeld ?_
 rotate_left
 ·(intro w hSw;clear hSw;go_simp;try (with_reducible rfl))
 obtain ⟨cur,hcur,hcs⟩:=hHeld.2.2.1
 refine wpAnyH_ready (rs:=[6]) (by kernel_rfl) (by simp) ?_
 refine AllReadyH.cons rfl (fun K hK=>?_) AllReadyH.nil
 refine step_storeA rfl 85 _ _ rfl (W.heap.size+1) [.int .u8 i0,.int .i64 i1,.int .u64 i2,.int .u64 i3,.string t4,.string t5,.int .i64 i6,.int .i64 i7,.slice a8 m8 d8,.int .i64 i9,.int .u8 i10] cur 85 rfl rfl (fun w=>by rfl) hcur hcs (by simp [Value.oneCell']) ?_
 intro w9 hw9
 have h9:=hHeld.store (cs:=[.int .u8 i0,.int .i64 i1,.int .u64 i2,.int .u64 i3,.string t4,.string t5,.int .i64 i6,.int .i64 i7,.slice a8 m8 d8,.int .i64 i9,.int .u8 i10]) rfl hw9
 refine hK.out _ _ h9.1 (fun _=>?_)
 clear hK K
 refine wpAnyH_done (by kernel_rfl) ?_ _
 refine NoPanic.normal ?_
 have H1:=hide h9.1.1;have H2:=hide h9.2.1;have H3:=hide h9.2.2.1;have H4:=hide h9.2.2.2
 clear hw9 h9 hHeld hcur hcs
 go_wp2
 exact bodyPost_ret (res_cell (cs:=[.int .u8 i0,.int .i64 i1,.int .u64 i2,.int .u64 i3,.string t4,.string t5,.int .i64 i6,.int .i64 i7,.slice a8 m8 d8,.int .i64 i9,.int .u8 i10]) (e:=85) Tryz.results193 rfl ag_key sz_key H2.out) rfl ⟨_,rfl,⟨_,_,_,rfl⟩,twR hR8 r8'.out z8.out (Below.refl _ _) H3.out H4.out,H1.out⟩
end Go.Proofs.YtabkimknlifdoaaGreatDoor
