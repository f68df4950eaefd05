/- Pieces of the proof: UA10, UA16, UB, Math, Vals, VR, UFx, UC, Words, Rd. -/
import Derived.Test.YtabkimknlifdoaaGreatDoorJ1
import Derived.WalkSmall
import Derived.Lib.IfaceEq
import Derived.Laws.BitsAllLaws
import Derived.Laws.ShiftsVarLaws
import Derived.Lib.Mul64
import Derived.Test.YtabkimknlifdoaaGreatDoorRows
import Derived.ProofKit
import Derived.LaidMore
import Derived.LaidLaws
import Derived.SizedLaws
import Derived.OpenShut
import Derived.ChangeOld
import Derived.ChangeSlices
import Derived.ChangeMaps5
import Derived.Stop.Joined
import Derived.Deep.RegionHeld3
import Derived.Test.YtabkimknlifdoaaGreatDoorProg
import Derived.WalkKit
import Derived.WalkSpells
import Derived.WalkLawsBesides
import Derived.Laws.Pointers
import Derived.Laws.ResultCell
import Derived.Deep.QuietTactic
import Derived.BigQuiet
namespace Go.Proofs.YtabkimknlifdoaaGreatDoor
open Go.RowKit
set_option maxHeartbeats 32000000 in
set_option maxRecDepth 100000 in
theorem pu10_in (t:ByteArray) (hne:t.size ≠ 0) (hmax:t.size≤9223372036854775806) (w:World) :
  Calls Tryz.prog 178 #[.string t,.int .i64 10,.int .i64 64] w fun e w'=>e=.returned (puV 18446744073709551615 (pu 10 18446744073709551615 0 t.data.toList))∧Below w.heap.size w w':=by
 have hemp:t.toList.isEmpty=false:=by
  rw [← decide_eq_emptyBytes]
  exact decide_eq_false (fun h=>hne (by rw [h];rfl))
 have hcv:=Lib.run_convert_string_bytes (P:=Tryz.prog) w 9 174 5 t (u:=.string) Tryz.underlying9 Tryz.underlying174 Tryz.underlying5
 have hB:∀ j,j < t.size→(Lib.bytesWorld w 5 t).cell? ⟨w.heap.size,j,none⟩=some (.int .u8 (t.data.toList.getD j 0).toNat):=fun j hj=>Lib.bytesWorld_cell w 5 t j hj
 have HBel:Hid (Below w.heap.size w (Lib.bytesWorld w 5 t)):=⟨rfl,rfl,rfl,by rw [Lib.bytesWorld_size];omega,fun k hk=>Lib.bytesWorld_at_old w 5 t k hk⟩
 generalize Lib.bytesWorld w 5 t=W1 at hcv hB HBel
 have hLn:t.data.toList.length=t.size:=by rw [Lib.size_eq]
 generalize t.data.toList=bs at hB hLn ⊢
 have hmv:IntKind.u64.wrap (IntKind.u64.wrap 18446744073709551616 - 1)=18446744073709551615:=by rw [IntKind.wrap_u64,IntKind.wrap_u64];decide
 go_enter Tryz.func178,Tryz.ntmps178
 go_wp2
 go_loop [12,13,101] (fun vu vn vi=>∃ (k acc:Nat) (a:Int),vu=.bool false∧vn=.int .u64 a∧vi=.int .i64 k∧k≤t.size∧Hid (a=(acc:Int)∧acc≤18446744073709551615∧pu 10 18446744073709551615 0 bs=pu 10 18446744073709551615 acc (bs.drop k)))
  (fun _ _ vi=>t.size - (intOf vi).toNat)
 case atStart=>exact ⟨0,0,0,rfl,rfl,rfl,by omega,rfl,by omega,rfl⟩
 case round =>
  obtain ⟨k,acc,a,rfl,rfl,rfl,hk,hh⟩:=hrel
  obtain ⟨ha,hacc,hdec⟩:=hh.out
  clear hh
  have a0:0≤a:=by omega
  have a1:a≤18446744073709551615:=by omega
  by_cases hkn:k < t.size
  ·have hc:=hB k hkn
   have hdrop:bs.drop k=bs[k]'(by omega) :: bs.drop (k+1):=List.drop_eq_getElem_cons (by omega)
   have hget:bs.getD k 0=bs[k]'(by omega):=by simp [List.getD,List.getElem?_eq_getElem (show k < bs.length by omega)]
   rw [hdrop] at hdec
   rw [hget] at hc
   have hdec':pu 10 18446744073709551615 0 bs=if 10≤dval (bs[k]'(by omega)).toNat then .error true else if 18446744073709551615 < acc * 10+dval (bs[k]'(by omega)).toNat then .error false else pu 10 18446744073709551615 (acc * 10+dval (bs[k]'(by omega)).toNat) (bs.drop (k+1)):=hdec
   clear hdec hdrop hget hB
   have hc256:(bs[k]'(by omega)).toNat < 256:=(bs[k]'(by omega)).toNat_lt
   generalize (bs[k]'(by omega)).toNat=c at hc hdec' hc256
   obtain ⟨x,hx,x0,x1,HX⟩:=lower_x c hc256
   have HX':=hide HX
   clear HX
   by_cases hdig:48≤c∧c≤57
   ·obtain ⟨hd0,hd1⟩:=hdig
    have hdv:dval c=c - 48:=by unfold dval;rw [if_pos ⟨hd0,hd1⟩]
    rw [hdv,if_neg (show ¬ (10≤c - 48) by omega)] at hdec'
    clear hx x0 x1 HX' hdv
    obtain ⟨d,hd⟩:∃ d:Int,d=(c:Int) - 48:=⟨_,rfl⟩
    by_cases hov:18446744073709551615 < acc * 10+(c - 48)
    ·rw [if_pos hov] at hdec'
     have HD:=hide hdec'
     clear hdec' hd d
     by_cases hcut:(1844674407370955162:Int)≤a
     ·clear hov hacc ha
      go_wp2
      go_ret2
      exact ⟨by rw [HD.out];rfl,HBel.out⟩
     ·have icut:a < 1844674407370955162:=by omega
      have iov:18446744073709551615 < a * 10+((c:Int) - 48):=by omega
      have hwr:IntKind.u64.wrap (a * 10+((c:Int) - 48))=a * 10+((c:Int) - 48) - 18446744073709551616:=by rw [IntKind.wrap_u64];omega
      clear hov hacc ha hcut
      go_wp2
      go_ret2
      exact ⟨by rw [HD.out];rfl,HBel.out⟩
    ·rw [if_neg hov] at hdec'
     have HN:Hid (a * 10+((c:Int) - 48)=((acc * 10+(c - 48):Nat):Int)∧acc * 10+(c - 48)≤18446744073709551615∧pu 10 18446744073709551615 0 bs=pu 10 18446744073709551615 (acc * 10+(c - 48)) (bs.drop (k+1))):=⟨by omega,by omega,hdec'⟩
     have icut:a < 1844674407370955162:=by omega
     have iov:a * 10+((c:Int) - 48)≤18446744073709551615:=by omega
     clear hdec' hov hacc ha hd d
     go_wp2
     exact ⟨⟨k+1,acc * 10+(c - 48),a * 10+((c:Int) - 48),rfl,(by first | rfl | (congr 1;omega)),(by first | rfl | (congr 1;omega)),by omega,HN⟩,by simp [intOf];omega⟩
   ·by_cases hus:c=95
    ·subst hus
     have HX2:Hid (∀ W,Calls Tryz.prog 211 #[.int .u8 95] W fun e w'=>e=.returned (.int .u8 127)∧w'=W):=by
      intro W
      have:=HX'.out W
      rw [hx] at this
      exact this
     rw [show dval 95=255 from rfl,if_pos (by omega)] at hdec'
     have HD:=hide hdec'
     clear hdec' hx hacc ha HX'
     go_wp2_with (refine (HX2.out _).mono ?_;rintro e w' ⟨rfl,rfl⟩)
     all_goals go_ret2
     all_goals exact ⟨by rw [HD.out];rfl,HBel.out⟩
    have hne5:¬ ((c:Int)=95):=by omega
    by_cases hlet:97≤x∧x≤122
    ·obtain ⟨l0,l1⟩:=hlet
     have hdv:dval c=(c ||| 32) - 87:=by unfold dval;rw [if_neg hdig,if_pos ⟨by omega,by omega⟩]
     rw [hdv] at hdec'
     rw [if_pos (show 10≤(c ||| 32) - 87 by omega)] at hdec'
     have HD:=hide hdec'
     clear hdec' hx hacc ha hdv
     go_wp2_with (refine (HX'.out _).mono ?_;rintro e w' ⟨rfl,rfl⟩)
     all_goals go_ret2
     all_goals exact ⟨by rw [HD.out];rfl,HBel.out⟩
    ·have hdv:dval c=255:=by unfold dval;rw [if_neg hdig,if_neg (by omega)]
     rw [hdv,if_pos (by omega)] at hdec'
     have HD:=hide hdec'
     clear hdec' hx hacc ha hdv
     go_wp2_with (refine (HX'.out _).mono ?_;rintro e w' ⟨rfl,rfl⟩)
     all_goals go_ret2
     all_goals exact ⟨by rw [HD.out];rfl,HBel.out⟩
  ·have hkk:k=t.size:=by omega
   subst hkk
   have hF:pu 10 18446744073709551615 acc (bs.drop t.size)=.ok acc:=by rw [List.drop_eq_nil_of_le (by omega)];rfl
   rw [hF] at hdec
   have HD:Hid (pu 10 18446744073709551615 0 bs=.ok acc∧a=(acc:Int)):=⟨hdec,ha⟩
   clear hdec hacc hF a0 a1 ha
   go_wp2
   go_ret2
   exact ⟨by rw [HD.out.1,HD.out.2];rfl,HBel.out⟩
set_option maxHeartbeats 32000000 in
set_option maxRecDepth 100000 in
theorem pu16_in (t:ByteArray) (hne:t.size ≠ 0) (hmax:t.size≤9223372036854775806) (w:World) :
  Calls Tryz.prog 178 #[.string t,.int .i64 16,.int .i64 64] w fun e w'=>e=.returned (puV 18446744073709551615 (pu 16 18446744073709551615 0 t.data.toList))∧Below w.heap.size w w':=by
 have hemp:t.toList.isEmpty=false:=by
  rw [← decide_eq_emptyBytes]
  exact decide_eq_false (fun h=>hne (by rw [h];rfl))
 have hcv:=Lib.run_convert_string_bytes (P:=Tryz.prog) w 9 174 5 t (u:=.string) Tryz.underlying9 Tryz.underlying174 Tryz.underlying5
 have hB:∀ j,j < t.size→(Lib.bytesWorld w 5 t).cell? ⟨w.heap.size,j,none⟩=some (.int .u8 (t.data.toList.getD j 0).toNat):=fun j hj=>Lib.bytesWorld_cell w 5 t j hj
 have HBel:Hid (Below w.heap.size w (Lib.bytesWorld w 5 t)):=⟨rfl,rfl,rfl,by rw [Lib.bytesWorld_size];omega,fun k hk=>Lib.bytesWorld_at_old w 5 t k hk⟩
 generalize Lib.bytesWorld w 5 t=W1 at hcv hB HBel
 have hLn:t.data.toList.length=t.size:=by rw [Lib.size_eq]
 generalize t.data.toList=bs at hB hLn ⊢
 have hmv:IntKind.u64.wrap (IntKind.u64.wrap 18446744073709551616 - 1)=18446744073709551615:=by rw [IntKind.wrap_u64,IntKind.wrap_u64];decide
 go_enter Tryz.func178,Tryz.ntmps178
 go_wp2
 go_loop [12,13,101] (fun vu vn vi=>∃ (k acc:Nat) (a:Int),vu=.bool false∧vn=.int .u64 a∧vi=.int .i64 k∧k≤t.size∧Hid (a=(acc:Int)∧acc≤18446744073709551615∧pu 16 18446744073709551615 0 bs=pu 16 18446744073709551615 acc (bs.drop k)))
  (fun _ _ vi=>t.size - (intOf vi).toNat)
 case atStart=>exact ⟨0,0,0,rfl,rfl,rfl,by omega,rfl,by omega,rfl⟩
 case round =>
  obtain ⟨k,acc,a,rfl,rfl,rfl,hk,hh⟩:=hrel
  obtain ⟨ha,hacc,hdec⟩:=hh.out
  clear hh
  have a0:0≤a:=by omega
  have a1:a≤18446744073709551615:=by omega
  by_cases hkn:k < t.size
  ·have hc:=hB k hkn
   have hdrop:bs.drop k=bs[k]'(by omega) :: bs.drop (k+1):=List.drop_eq_getElem_cons (by omega)
   have hget:bs.getD k 0=bs[k]'(by omega):=by simp [List.getD,List.getElem?_eq_getElem (show k < bs.length by omega)]
   rw [hdrop] at hdec
   rw [hget] at hc
   have hdec':pu 16 18446744073709551615 0 bs=if 16≤dval (bs[k]'(by omega)).toNat then .error true else if 18446744073709551615 < acc * 16+dval (bs[k]'(by omega)).toNat then .error false else pu 16 18446744073709551615 (acc * 16+dval (bs[k]'(by omega)).toNat) (bs.drop (k+1)):=hdec
   clear hdec hdrop hget hB
   have hc256:(bs[k]'(by omega)).toNat < 256:=(bs[k]'(by omega)).toNat_lt
   generalize (bs[k]'(by omega)).toNat=c at hc hdec' hc256
   obtain ⟨x,hx,x0,x1,HX⟩:=lower_x c hc256
   have HX':=hide HX
   clear HX
   by_cases hdig:48≤c∧c≤57
   ·obtain ⟨hd0,hd1⟩:=hdig
    have hdv:dval c=c - 48:=by unfold dval;rw [if_pos ⟨hd0,hd1⟩]
    rw [hdv,if_neg (show ¬ (16≤c - 48) by omega)] at hdec'
    clear hx x0 x1 HX' hdv
    obtain ⟨d,hd⟩:∃ d:Int,d=(c:Int) - 48:=⟨_,rfl⟩
    by_cases hov:18446744073709551615 < acc * 16+(c - 48)
    ·rw [if_pos hov] at hdec'
     have HD:=hide hdec'
     clear hdec' hd d
     by_cases hcut:(1152921504606846976:Int)≤a
     ·clear hov hacc ha
      go_wp2
      go_ret2
      exact ⟨by rw [HD.out];rfl,HBel.out⟩
     ·have icut:a < 1152921504606846976:=by omega
      have iov:18446744073709551615 < a * 16+((c:Int) - 48):=by omega
      exfalso;omega
    ·rw [if_neg hov] at hdec'
     have HN:Hid (a * 16+((c:Int) - 48)=((acc * 16+(c - 48):Nat):Int)∧acc * 16+(c - 48)≤18446744073709551615∧pu 16 18446744073709551615 0 bs=pu 16 18446744073709551615 (acc * 16+(c - 48)) (bs.drop (k+1))):=⟨by omega,by omega,hdec'⟩
     have icut:a < 1152921504606846976:=by omega
     have iov:a * 16+((c:Int) - 48)≤18446744073709551615:=by omega
     clear hdec' hov hacc ha hd d
     go_wp2
     exact ⟨⟨k+1,acc * 16+(c - 48),a * 16+((c:Int) - 48),rfl,(by first | rfl | (congr 1;omega)),(by first | rfl | (congr 1;omega)),by omega,HN⟩,by simp [intOf];omega⟩
   ·by_cases hus:c=95
    ·subst hus
     have HX2:Hid (∀ W,Calls Tryz.prog 211 #[.int .u8 95] W fun e w'=>e=.returned (.int .u8 127)∧w'=W):=by
      intro W
      have:=HX'.out W
      rw [hx] at this
      exact this
     rw [show dval 95=255 from rfl,if_pos (by omega)] at hdec'
     have HD:=hide hdec'
     clear hdec' hx hacc ha HX'
     go_wp2_with (refine (HX2.out _).mono ?_;rintro e w' ⟨rfl,rfl⟩)
     all_goals go_ret2
     all_goals exact ⟨by rw [HD.out];rfl,HBel.out⟩
    have hne5:¬ ((c:Int)=95):=by omega
    by_cases hlet:97≤x∧x≤122
    ·obtain ⟨l0,l1⟩:=hlet
     have hdv:dval c=(c ||| 32) - 87:=by unfold dval;rw [if_neg hdig,if_pos ⟨by omega,by omega⟩]
     rw [hdv] at hdec'
     by_cases h16:103≤x
     ·rw [if_pos (show 16≤(c ||| 32) - 87 by omega)] at hdec'
      have HD:=hide hdec'
      clear hdec' hx hacc ha hdv
      go_wp2_with (refine (HX'.out _).mono ?_;rintro e w' ⟨rfl,rfl⟩)
      all_goals go_ret2
      all_goals exact ⟨by rw [HD.out];rfl,HBel.out⟩
     ·rw [if_neg (show ¬ (16≤(c ||| 32) - 87) by omega)] at hdec'
      have x2:x < 103:=by omega
      by_cases hov:18446744073709551615 < acc * 16+((c ||| 32) - 87)
      ·rw [if_pos hov] at hdec'
       have HD:=hide hdec'
       clear hdec'
       by_cases hcut:(1152921504606846976:Int)≤a
       ·clear hov hacc ha hx
        go_wp2_with (refine (HX'.out _).mono ?_;rintro e w' ⟨rfl,rfl⟩)
        all_goals go_ret2
        all_goals exact ⟨by rw [HD.out];rfl,HBel.out⟩
       ·have icut:a < 1152921504606846976:=by omega
        have iov:18446744073709551615 < a * 16+(x - 87):=by omega
        exfalso;omega
      ·rw [if_neg hov] at hdec'
       have HN:Hid (a * 16+(x - 87)=((acc * 16+((c ||| 32) - 87):Nat):Int)∧acc * 16+((c ||| 32) - 87)≤18446744073709551615∧pu 16 18446744073709551615 0 bs=pu 16 18446744073709551615 (acc * 16+((c ||| 32) - 87)) (bs.drop (k+1))):=⟨by omega,by omega,hdec'⟩
       have icut:a < 1152921504606846976:=by omega
       have iov:a * 16+(x - 87)≤18446744073709551615:=by omega
       generalize acc * 16+((c ||| 32) - 87)=acc' at HN
       clear hdec' hov hacc ha hx hdv
       go_wp2_with (refine (HX'.out _).mono ?_;rintro e w' ⟨rfl,rfl⟩)
       all_goals exact ⟨⟨k+1,acc',a * 16+(x - 87),rfl,(by first | rfl | (congr 1;omega)),(by first | rfl | (congr 1;omega)),by omega,HN⟩,by simp [intOf];omega⟩
    ·have hdv:dval c=255:=by unfold dval;rw [if_neg hdig,if_neg (by omega)]
     rw [hdv,if_pos (by omega)] at hdec'
     have HD:=hide hdec'
     clear hdec' hx hacc ha hdv
     go_wp2_with (refine (HX'.out _).mono ?_;rintro e w' ⟨rfl,rfl⟩)
     all_goals go_ret2
     all_goals exact ⟨by rw [HD.out];rfl,HBel.out⟩
  ·have hkk:k=t.size:=by omega
   subst hkk
   have hF:pu 16 18446744073709551615 acc (bs.drop t.size)=.ok acc:=by rw [List.drop_eq_nil_of_le (by omega)];rfl
   rw [hF] at hdec
   have HD:Hid (pu 16 18446744073709551615 0 bs=.ok acc∧a=(acc:Int)):=⟨hdec,ha⟩
   clear hdec hacc hF a0 a1 ha
   go_wp2
   go_ret2
   exact ⟨by rw [HD.out.1,HD.out.2];rfl,HBel.out⟩
structure Ld (w:World):Prop where
 db:w.cell? ⟨9,15,none⟩=some (.int .u8 4)
 pw : Lib.TabIs Tryz.prog w "internal/strconv.uint64pow10" .u64 Lib.pow10Tab
 es:∃ te pe,w.cell? ⟨6,0,none⟩=some (.iface te pe)
 er:∃ te pe,w.cell? ⟨7,0,none⟩=some (.iface te pe)
theorem gPow : Tryz.prog.globalNamed "internal/strconv.uint64pow10" = some 2 := by kernel_rfl
theorem Ld.below {w w':World} (h:Ld w) (hb:Below w.heap.size w w'):Ld w':=by
 have hc:∀ g o v,w.cell? ⟨g,o,none⟩=some v→w'.cell? ⟨g,o,none⟩=some v:=fun g o v hv=>(hb.cell (World.block_lt_of_cell? w _ hv)).trans hv
 refine ⟨hc _ _ _ h.db,?_,?_,?_⟩
 ·have hp:=h.pw
  unfold Lib.TabIs at hp ⊢
  have hlt:2 < w.heap.size:=by
   rcases Nat.lt_or_ge 2 w.heap.size with h' | h'
   ·exact h'
   ·have : w.var? Tryz.prog "internal/strconv.uint64pow10" = none := by unfold World.var?; rw [gPow]; simp [Array.getElem?_eq_none h']
    rw [this] at hp;cases hp
  exact var?_below hb gPow hlt hp
 ·obtain ⟨a,b,e⟩:=h.es;exact ⟨a,b,hc _ _ _ e⟩
 ·obtain ⟨a,b,e⟩:=h.er;exact ⟨a,b,hc _ _ _ e⟩
def txt (l:List UInt8):ByteArray:=⟨l.toArray⟩
theorem txt_size (l:List UInt8):(txt l).size=l.length:=by simp [txt,ByteArray.size]
theorem txt_data (l:List UInt8):(txt l).data.toList=l:=by simp [txt]
theorem txt_of (s:ByteArray):s=txt s.data.toList:=by cases s;rfl
theorem txt_nil:txt []=⟨#[]⟩:=rfl
def Bad (v:Value):Prop:=∃ t p,v=.iface t p
set_option maxRecDepth 100000 in
theorem parseUint_nil (b k:Nat) (w:World) (_:b=10 ∨ b=16) :
  Calls Tryz.prog 178 #[.string (txt []),.int .i64 b,.int .i64 k] w fun e w'=>e=.returned (puV 0 (.error true))∧w'=w:=by
 rw [txt_nil]
 go_enter Tryz.func178,Tryz.ntmps178
 go_wp2
 go_ret2
 exact ⟨rfl,rfl⟩
def puE (mx:Nat):List UInt8→Nat→PR
 | [],_=>.error true
 | l,b=>pu b mx 0 l
theorem pIn (b k mx:Nat) (hin:∀ (t:ByteArray) (_:t.size ≠ 0) (_:t.size≤9223372036854775806) (w:World),Calls Tryz.prog 178 #[.string t,.int .i64 b,.int .i64 k] w fun e w'=>e=.returned (puV mx (pu b mx 0 t.data.toList))∧Below w.heap.size w w')
  (hb:b=10 ∨ b=16) (l:List UInt8) (hl:l.length≤281474976710656) (w:World) :
  Calls Tryz.prog 178 #[.string (txt l),.int .i64 b,.int .i64 k] w fun e w'=>e=.returned (puV mx (puE mx l b))∧Below w.heap.size w w':=by
 match l,hl with
 | [],_=>exact (parseUint_nil b k w hb).mono fun e w' ⟨h1,h2⟩=>⟨h1,h2 ▸ Below.refl _ _⟩
 | c :: l,hl =>
  have:=hin (txt (c :: l)) (by rw [txt_size];simp) (by rw [txt_size];omega) w
  rw [txt_data] at this
  exact this
def PuPost (r:PR) (e:Ending):Prop:=(∃ n:Nat,r=.ok n∧e=.returned (.tuple #[.int .u64 (n:Int),.nilIface])) ∨ ((∀ n,r ≠ .ok n)∧∃ x v,Bad v∧e=.returned (.tuple #[.int .u64 x,v]))
set_option maxRecDepth 100000 in
theorem toErr_syn (fn s:ByteArray) (base bits:Int) (ev:Value) (w:World) (hlim:s.size≤281474976710656) (hv:w.cell? ⟨6,0,none⟩=some ev) (hev:ev=.nilIface ∨ ∃ te pe,ev=.iface te pe) :
  Calls Tryz.prog 179 #[.string fn,.string s,.int .i64 base,.int .i64 bits,.iface 233 (.int .i64 2)] w fun e w'=>(∃ v,Bad v∧e=.returned v)∧Below w.heap.size w w':=by
 have HC:=hide (Tryz.strconv_syntaxError fn s ev w hlim hv hev)
 have heq:∀ W,(binOp .eql 163 (.iface 233 (.int .i64 2)) (.iface 233 (.int .i64 2))).run Tryz.prog W=.ok (.bool true) W:=fun W=>Lib.run_eql_iface_int W 2 2 Tryz.underlying163 (by kernel_rfl) Tryz.underlying233
 clear hv hev
 go_enter Tryz.func179,Tryz.ntmps179
 go_wp2_with (go_at_call 213;refine HC.out.mono ?_)
 rintro e w2 ⟨N,rfl,h1,h2,h3⟩
 have H3:=hide h3
 clear h1 h2 h3
 go_wp2
 go_ret
 exact ⟨⟨_,⟨_,_,rfl⟩,rfl⟩,H3.out⟩
set_option maxRecDepth 100000 in
theorem parseUint_of (b k mx:Nat) (hin:∀ (t:ByteArray) (_:t.size ≠ 0) (_:t.size≤9223372036854775806) (w:World),Calls Tryz.prog 178 #[.string t,.int .i64 b,.int .i64 k] w fun e w'=>e=.returned (puV mx (pu b mx 0 t.data.toList))∧Below w.heap.size w w')
  (hb:b=10 ∨ b=16) (l:List UInt8) (hl:l.length≤281474976710656) (w:World) (hL:Ld w) :
  Calls Tryz.prog 133 #[.string (txt l),.int .i64 b,.int .i64 k] w fun e w'=>Below w.heap.size w w'∧PuPost (puE mx l b) e:=by
 have HI:=hide (pIn b k mx hin hb l hl w)
 have hsz:(txt l).size≤281474976710656:=by rw [txt_size];exact hl
 have HS:Hid (∀ W,Ld W→Calls Tryz.prog 179 #[.string ⟨#[80,97,114,115,101,85,105,110,116]⟩,.string (txt l),.int .i64 b,.int .i64 k,.iface 233 (.int .i64 2)] W fun e w'=>(∃ v,Bad v∧e=.returned v)∧Below W.heap.size W w'):=fun W h=>by
  obtain ⟨te,pe,he⟩:=h.es
  exact toErr_syn _ (txt l) b k _ W hsz he (.inr ⟨_,_,rfl⟩)
 have HR:Hid (∀ W,Ld W→Calls Tryz.prog 179 #[.string ⟨#[80,97,114,115,101,85,105,110,116]⟩,.string (txt l),.int .i64 b,.int .i64 k,.iface 233 (.int .i64 1)] W fun e w'=>(∃ v,Bad v∧e=.returned v)∧Below W.heap.size W w'):=fun W h=>by
  obtain ⟨te,pe,he⟩:=h.er
  exact (Tryz.strconv_toError_range _ (txt l) b k _ W hsz he (.inr ⟨_,_,rfl⟩)).mono fun e w' ⟨N,h1,_,_,h4⟩=>⟨⟨_,⟨_,_,rfl⟩,h1⟩,h4⟩
 have HL:=hide hL
 clear hL hsz hin hb
 generalize (b:Int)=bi at *
 generalize (k:Int)=ki at *
 generalize hr:puE mx l b=r at *
 have HLn:=hide hl
 clear hl hr
 generalize txt l=T at *
 match r with
 | .ok n =>
  go_enter Tryz.func133,Tryz.ntmps133
  go_wp2_with fail
  refine HI.out.mono ?_
  rintro e w1 ⟨rfl,hb1⟩
  have HB:=hide hb1
  clear hb1
  simp only [puV]
  go_wp2
  go_ret2
  exact ⟨HB.out,.inl ⟨n,rfl,rfl⟩⟩
 | .error true =>
  go_enter Tryz.func133,Tryz.ntmps133
  go_wp2_with fail
  refine HI.out.mono ?_
  rintro e w1 ⟨rfl,hb1⟩
  have HB:=hide hb1
  have HL1:=hide (HL.out.below hb1)
  clear hb1
  simp only [puV]
  go_wp2_with fail
  refine (HS.out _ HL1.out).mono ?_
  rintro e w2 ⟨⟨v,⟨te,pe,rfl⟩,rfl⟩,hb2⟩
  have HB2:=hide hb2
  clear hb2
  go_wp2
  go_ret2
  exact ⟨HB.out.trans (HB2.out.mono HB.out.size),.inr ⟨(fun n h=>by cases h),_,_,⟨_,_,rfl⟩,rfl⟩⟩
 | .error false =>
  go_enter Tryz.func133,Tryz.ntmps133
  go_wp2_with fail
  refine HI.out.mono ?_
  rintro e w1 ⟨rfl,hb1⟩
  have HB:=hide hb1
  have HL1:=hide (HL.out.below hb1)
  clear hb1
  simp only [puV]
  generalize (mx:Int)=mi
  go_wp2_with fail
  refine (HR.out _ HL1.out).mono ?_
  rintro e w2 ⟨⟨v,⟨te,pe,rfl⟩,rfl⟩,hb2⟩
  have HB2:=hide hb2
  clear hb2
  go_wp2
  go_ret2
  exact ⟨HB.out.trans (HB2.out.mono HB.out.size),.inr ⟨(fun n h=>by cases h),_,_,⟨_,_,rfl⟩,rfl⟩⟩
theorem whole_of (b:Nat) (hin:∀ (t:ByteArray) (_:t.size ≠ 0) (_:t.size≤9223372036854775806) (w:World),Calls Tryz.prog 178 #[.string t,.int .i64 b,.int .i64 (64:Nat)] w fun e w'=>e=.returned (puV 18446744073709551615 (pu b 18446744073709551615 0 t.data.toList))∧Below w.heap.size w w')
  (hb:b=10 ∨ b=16) (l:List UInt8) (hl:l.length≤281474976710656) (w:World) (hL:Ld w) :
  Calls Tryz.prog 218 #[.string (txt l),.int .i64 b] w fun e w'=>e=.returned (.int .u64 ((wh b l:Nat):Int))∧Below w.heap.size w w':=by
 have HP:=hide (parseUint_of b 64 18446744073709551615 hin hb l hl w hL)
 have HY:Hid (∀ n,puE 18446744073709551615 l b=.ok n→((wh b l:Nat):Int)=(n:Int)):=fun n h=>by
  cases l with
  | nil=>cases h
  | cons c l=>rw [wh_ok (by simp) h]
 have HN:Hid ((∀ n,puE 18446744073709551615 l b ≠ .ok n)→((wh b l:Nat):Int)=0):=fun h=>by
  cases l with
  | nil=>rfl
  | cons c l =>
   simp only [wh]
   cases hp:pu b 18446744073709551615 0 (c :: l) with
   | ok n=>exact absurd hp (h n)
   | error b=>cases b <;> rfl
 clear hin hb hL hl
 generalize ((wh b l:Nat):Int)=x at *
 generalize (b:Int)=bi at *
 generalize puE 18446744073709551615 l b=r at *
 generalize txt l=T at *
 go_enter Tryz.func218,Tryz.ntmps218
 go_wp2_with fail
 refine HP.out.mono ?_
 rintro e w1 ⟨hb1,h⟩
 have HB:=hide hb1
 clear hb1
 rcases h with ⟨n,h1,rfl⟩ | ⟨h1,y,v,⟨te,pe,rfl⟩,rfl⟩
 ·have e:=HY.out n h1
  subst e
  clear h1
  go_wp2
  go_ret
  exact ⟨rfl,HB.out⟩
 ·have e:=HN.out h1
  subst e
  clear h1
  go_wp2
  go_ret
  exact ⟨rfl,HB.out⟩
theorem whole10 (l:List UInt8) (hl:l.length≤281474976710656) (w:World) (hL:Ld w) :
  Calls Tryz.prog 218 #[.string (txt l),.int .i64 10] w fun e w'=>e=.returned (.int .u64 ((wh 10 l:Nat):Int))∧Below w.heap.size w w':=whole_of 10 pu10_in (.inl rfl) l hl w hL
theorem whole16 (l:List UInt8) (hl:l.length≤281474976710656) (w:World) (hL:Ld w) :
  Calls Tryz.prog 218 #[.string (txt l),.int .i64 16] w fun e w'=>e=.returned (.int .u64 ((wh 16 l:Nat):Int))∧Below w.heap.size w w':=whole_of 16 pu16_in (.inr rfl) l hl w hL
end Go.Proofs.YtabkimknlifdoaaGreatDoor
namespace Go.Proofs.YtabkimknlifdoaaGreatDoor
def low (n:Int):Int:=2 ^ n.toNat - 1
def cLo (n lo:Int):Int:=if n≤64 then lo % 2 ^ n.toNat else lo
def cHi (n hi:Int):Int:=if n≤64 then 0 else hi % 2 ^ (n - 64).toNat
theorem cLo_le {n lo:Int} (h:n≤64):cLo n lo=lo % 2 ^ n.toNat:=by unfold cLo;rw [if_pos h]
theorem cLo_gt {n lo:Int} (h:64 < n):cLo n lo=lo:=by unfold cLo;rw [if_neg (by omega)]
theorem cHi_le {n hi:Int} (h:n≤64):cHi n hi=0:=by unfold cHi;rw [if_pos h]
theorem cHi_gt {n hi:Int} (h:64 < n):cHi n hi=hi % 2 ^ (n - 64).toNat:=by unfold cHi;rw [if_neg (by omega)]
theorem low_bd (n:Int) (h0:0≤n) (h1:n≤64):0≤low n∧low n < 18446744073709551616:=by
 unfold low
 have h:(2:Nat) ^ n.toNat≤2 ^ 64:=Nat.pow_le_pow_right (by decide) (by omega)
 have h2:(0:Nat) < 2 ^ n.toNat:=Nat.pow_pos (by decide)
 have h3:(2:Int) ^ n.toNat=((2 ^ n.toNat:Nat):Int):=by simp
 rw [h3]
 omega
theorem and_low (n lo:Int) (h0:0≤n) (h1:n≤64) (l0:0≤lo) (l1:lo < 18446744073709551616):bits .and .u64 lo (low n)=lo % 2 ^ n.toNat:=by
 have hb:=low_bd n h0 h1
 rw [u64_and lo (low n) l0 l1 hb.1 hb.2]
 obtain ⟨n,rfl⟩:=Int.eq_ofNat_of_zero_le h0
 obtain ⟨lo,rfl⟩:=Int.eq_ofNat_of_zero_le l0
 have e:(low (n:Int)).toNat=2 ^ n - 1:=by
  unfold low
  have:((2:Int) ^ ((n:Int)).toNat - 1)=((2 ^ n - 1:Nat):Int):=by
   rw [Int.ofNat_sub (Nat.one_le_two_pow)];simp
  rw [this];rfl
 rw [e,Int.toNat_natCast,Nat.and_two_pow_sub_one_eq_mod]
 simp
theorem wrap_low (n:Int) (h0:0≤n) (h1:n≤64):IntKind.u64.wrap (IntKind.u64.wrap (2 ^ n.toNat) - 1)=low n:=by
 have hb:=low_bd n h0 h1
 rw [IntKind.wrap_u64,IntKind.wrap_u64]
 unfold low at hb ⊢
 omega
def wHi (v:Nat):Int:=((v / 18446744073709551616:Nat):Int)
def wLo (v:Nat):Int:=((v % 18446744073709551616:Nat):Int)
def top:Nat:=340282366920938463463374607431768211456
theorem wHi_bd {v:Nat} (h:v < top):0≤wHi v∧wHi v < 18446744073709551616:=by
 unfold wHi top at *;omega
theorem wLo_bd (v:Nat):0≤wLo v∧wLo v < 18446744073709551616:=by
 unfold wLo;omega
theorem w_join (v:Nat):wHi v * 18446744073709551616+wLo v=v:=by
 unfold wHi wLo;omega
theorem w_inj {u v:Nat} (h:wHi u=wHi v) (k:wLo u=wLo v):u=v:=by
 have h1:=w_join u;have h2:=w_join v;rw [h,k] at h1;omega
theorem w_eq (u v:Nat):(wHi u == wHi v && wLo u == wLo v)=decide (u=v):=by
 by_cases h:u=v
 ·subst h;simp
 ·simp only [h,decide_false]
  cases e1:(wHi u == wHi v)
  ·rfl
  ·cases e2:(wLo u == wLo v)
   ·rfl
   ·exact absurd (w_inj (by simpa using e1) (by simpa using e2)) h
theorem pow_split {n:Nat} (h:64≤n):(2:Nat) ^ n=18446744073709551616 * 2 ^ (n - 64):=by
 have:(2:Nat) ^ n=2 ^ 64 * 2 ^ (n - 64):=by rw [← Nat.pow_add];congr 1;omega
 rw [this]
theorem cut_lo (n:Int) (v:Nat) (h0:1≤n):cLo n (wLo v)=wLo (v % 2 ^ n.toNat):=by
 obtain ⟨n,rfl⟩:=Int.eq_ofNat_of_zero_le (by omega:0≤n)
 rw [Int.toNat_natCast]
 unfold cLo wLo
 by_cases h:(n:Int)≤64
 ·rw [if_pos h,Int.toNat_natCast]
  have hd:(2:Nat) ^ n ∣ 18446744073709551616:=by
   have:(18446744073709551616:Nat)=2 ^ 64:=by decide
   rw [this];exact Nat.pow_dvd_pow 2 (by omega)
  have hlt:v % 2 ^ n < 18446744073709551616:=by
   have h1:=Nat.mod_lt v (Nat.pow_pos (n:=n) (by decide:0 < 2))
   have h2:=Nat.le_of_dvd (by decide) hd
   omega
  rw [Nat.mod_eq_of_lt hlt]
  have e:((2:Int) ^ n)=((2 ^ n:Nat):Int):=by simp
  rw [e,← Int.natCast_emod,Nat.mod_mod_of_dvd _ hd]
 ·rw [if_neg h]
  have hd:(18446744073709551616:Nat) ∣ 2 ^ n:=⟨_,pow_split (by omega)⟩
  rw [Nat.mod_mod_of_dvd _ hd]
theorem cut_hi (n:Int) (v:Nat) (h0:1≤n):cHi n (wHi v)=wHi (v % 2 ^ n.toNat):=by
 obtain ⟨n,rfl⟩:=Int.eq_ofNat_of_zero_le (by omega:0≤n)
 rw [Int.toNat_natCast]
 unfold cHi wHi
 by_cases h:(n:Int)≤64
 ·rw [if_pos h]
  have h1:=Nat.mod_lt v (Nat.pow_pos (n:=n) (by decide:0 < 2))
  have h2:(2:Nat) ^ n≤2 ^ 64:=Nat.pow_le_pow_right (by decide) (by omega)
  rw [Nat.div_eq_of_lt (by omega)];rfl
 ·rw [if_neg h,show ((n:Int) - 64).toNat=n - 64 by omega]
  have e:((2:Int) ^ (n - 64))=((2 ^ (n - 64):Nat):Int):=by simp
  rw [e,← Int.natCast_emod,pow_split (n:=n) (by omega),Nat.mod_mul_right_div_self]
theorem ok_iff (n:Int) (v:Nat) (h0:1≤n):(cHi n (wHi v) == wHi v && cLo n (wLo v) == wLo v)=decide (v < 2 ^ n.toNat):=by
 rw [cut_hi n v h0,cut_lo n v h0,w_eq]
 by_cases h:v < 2 ^ n.toNat
 ·simp [h,Nat.mod_eq_of_lt h]
 ·have:=Nat.mod_lt v (Nat.pow_pos (n:=n.toNat) (by decide:0 < 2))
  simp only [h,decide_false,decide_eq_false_iff_not]
  omega
end Go.Proofs.YtabkimknlifdoaaGreatDoor
namespace Go.Proofs.YtabkimknlifdoaaGreatDoor
open Go.ChangeShapes Go.WideShapes Go.ChangeAt Go.RowKit
theorem ownV:ownKnob Tryz.prog.godebug=none:=by kernel_rfl
theorem cellsYV:Tryz.prog.cellsOf 5=1:=by kernel_rfl
theorem iface_cell {P:Program} {W:World} {g fuel:Nat} {nm name:String} {cs:Array Value} {d:DataW Unit} {p:List MemPlace} {ti:TypeId} {ms:Array (String × TypeId)} (hi:P.underlying ti=some (.interface ms))
  (hg:P.globalNamed nm=some g) (hv:W.var? P nm=some cs) (hd:DataW.trod (fun _=>()) P W 0 (fun _=>true) false fuel ti cs.toList=some (.iface name d,p)):∃ te pe,W.cell? ⟨g,0,none⟩=some (.iface te pe):=by
 obtain ⟨_,u,v,hcs,_,_⟩:=iface_of_trod hi hd
 refine ⟨u,v,?_⟩
 rw [World.var?_cell hg hv 0,← Array.getElem?_toList,hcs]
 rfl
theorem gTabV : Tryz.prog.globalNamed "math/bits.deBruijn64tab" = some 9 := by kernel_rfl
theorem tTabV:(Tryz.prog.globals[9]?).map (·.type)=some 267:=by kernel_rfl
theorem tPowV:(Tryz.prog.globals[2]?).map (·.type)=some 242:=by kernel_rfl
theorem cPowV:Tryz.prog.cellsOf 242=20:=by kernel_rfl
theorem cU64V:Tryz.prog.cellsOf 33=1:=by kernel_rfl
theorem gErV : Tryz.prog.globalNamed "strconv.ErrRange" = some 7 := by kernel_rfl
theorem gEsV : Tryz.prog.globalNamed "strconv.ErrSyntax" = some 6 := by kernel_rfl
theorem tErV:(Tryz.prog.globals[7]?).map (·.type)=some 163:=by kernel_rfl
theorem tEsV:(Tryz.prog.globals[6]?).map (·.type)=some 163:=by kernel_rfl
theorem some_atN {α:Type} {l:List α} {i:Nat} (h:i < l.length):∃ x,l[i]? = some x:=⟨_,List.getElem?_eq_getElem h⟩
theorem table_atN {P:Program} {t e:TypeId} {n i:Nat} {v:Int} (ht:P.underlying t=some (.array n e)) (he:P.underlying e=some (.int .u8)) (hc:P.cellsOf e=1) {W:World} {g fuel:Nat} {nm:String} {cs:Array Value} {l:List (DataW Unit)} {p:List MemPlace}
  (hg:P.globalNamed nm=some g) (hv:W.var? P nm=some cs) (hd:DataW.trod (fun _=>()) P W 0 (fun _=>true) false fuel t cs.toList=some (.agg l,p)) (hi:i < n) (hl:l[i]? = some (.lit (.int .u8 v))):W.cell? ⟨g,i,none⟩=some (.int .u8 v):=by
 obtain ⟨xs,m,rfl,hx,hlen,hn,hel⟩:=DataW.trod_array ht hd
 have h15:=hel i hi
 rw [hc] at h15
 obtain ⟨y,ey⟩:=some_atN (l:=xs) (i:=i) (by omega)
 rw [ey] at h15
 obtain ⟨k,e1,e2,_⟩:=DataW.trod_int he h15
 have hx':=congrArg Prod.fst hx
 simp only [DataW.agg.injEq] at hx'
 have h2:(xs.map (·.1))[i]? = some y.1:=by rw [List.getElem?_map,ey];rfl
 rw [← hx',hl,e2] at h2
 simp at h2
 subst h2
 rw [World.var?_cell hg hv i,← Array.getElem?_toList]
 have:=congrArg (fun l=>l[0]?) e1
 simpa [List.getElem?_take,List.getElem?_drop] using this
end Go.Proofs.YtabkimknlifdoaaGreatDoor
namespace Go.Proofs.YtabkimknlifdoaaGreatDoor
open Go.RowKit
def hexAt (v k:Nat):Prop:=(k=0 ∨ 16 ^ k≤v)∧v < 16 ^ (k+1)∧k≤15
theorem formatUint_16i (v:Nat) (hv:v < 18446744073709551616) (w:World) (ht:w.cell? ⟨9,15,none⟩=some (.int .u8 4)) :
  Calls Tryz.prog 137 #[.int .u64 v,.int .i64 16] w fun e w'=>∃ k,hexAt v k∧e=.returned (.string ⟨(lowB v (k+1)).toArray⟩)∧Below w.heap.size w w':=by
 have HF:=hide (formatBits_16 v hv w ht)
 clear ht
 go_enter Tryz.func137,Tryz.ntmps137
 go_wp2_with fail
 refine HF.out.mono ?_
 rintro e w1 ⟨k,h1,h2,h3,rfl,hb⟩
 have H1:Hid (hexAt v k):=⟨h1,h2,h3⟩
 clear h1 h2 h3
 generalize hL:lowB v (k+1)=L
 have HL:=hide hL
 clear hL
 go_wp2
 go_ret
 exact ⟨k,H1.out,by rw [HL.out];rfl,hb⟩
theorem formatUint_16 (v:Nat) (hv:v < 18446744073709551616) (w:World) (ht:w.cell? ⟨9,15,none⟩=some (.int .u8 4)) :
  Calls Tryz.prog 88 #[.int .u64 v,.int .i64 16] w fun e w'=>∃ k,hexAt v k∧e=.returned (.string ⟨(lowB v (k+1)).toArray⟩)∧Below w.heap.size w w':=by
 have HF:=hide (formatUint_16i v hv w ht)
 clear ht
 go_enter Tryz.func88,Tryz.ntmps88
 go_wp2_with fail
 refine HF.out.mono ?_
 rintro e w1 ⟨k,h1,rfl,hb⟩
 have H1:=hide h1
 clear h1
 generalize hL:lowB v (k+1)=L
 have HL:=hide hL
 clear hL
 go_wp2
 go_ret
 exact ⟨k,H1.out,by rw [HL.out];rfl,hb⟩
theorem cells3T {w w1:World} {a b c:Value} {t:TypeId} (hb:Below (w.alloc (.cells #[a,b,c] t)).heap.size (w.alloc (.cells #[a,b,c] t)) w1):w1.cell? ⟨w.heap.size,0,none⟩=some a∧w1.cell? ⟨w.heap.size,1,none⟩=some b∧w1.cell? ⟨w.heap.size,2,none⟩=some c:=by
 have h:w1.heap[w.heap.size]? = some (.cells #[a,b,c] t (0,0)):=(hb.block _ (by simp)).trans (heap_alloc_new w _)
 simp [World.cell?,h]
theorem keepS {B:Nat} {w0 W w1:World} {S:World→Prop} (hS:∀ w',Below B w0 w'→S w') (hb:Below W.heap.size W w1) (h:Below B w0 W) (hB:B≤w0.heap.size):S w1 :=
 hS _ (h.trans (hb.mono (Nat.le_trans hB h.size)))
theorem fmt16 (v:Nat) (hv:v < 18446744073709551616) (w:World) (hL:Ld w) :
  Calls Tryz.prog 88 #[.int .u64 v,.int .i64 16] w fun e w'=>∃ k,hexAt v k∧e=.returned (.string (txt (lowB v (k+1))))∧Below w.heap.size w w':=formatUint_16 v hv w hL.db
theorem cat_txt (a b:List UInt8):txt a ++ txt b=txt (a ++ b):=by
 apply ByteArray.ext
 simp [txt]
theorem rep48:∀ c:Nat,Lib.repeatL (⟨#[48]⟩:ByteArray).data.toList c=List.replicate c 48
 | 0=>rfl
 | c+1=>by
  have:=rep48 c
  simp only [Lib.repeatL,this,List.replicate_succ]
  rfl
theorem repeat_zero (c:Nat) (hc:c≤16) (w:World):Calls Tryz.prog 89 #[.string ⟨#[48]⟩,.int .i64 c] w fun e w'=>e=.returned (.string (txt (List.replicate c 48)))∧Below w.heap.size w w':=by
 refine (Tryz.strings_Repeat ⟨#[48]⟩ c w (by omega) (by simp [ByteArray.size];omega)).mono fun e w' ⟨h1,h2⟩=>⟨?_,h2⟩
 rw [h1,rep48]
 rfl
theorem digits_any (hi lo:Nat) (hhi:hi < 18446744073709551616) (hlo:lo < 18446744073709551616) (w:World) (hL:Ld w) :
  Calls Tryz.prog 40 #[.int .u64 hi,.int .u64 lo] w fun e w'=>e=.returned (.string (txt (hx (hi * 18446744073709551616+lo))))∧Below w.heap.size w w':=by
 have HF:=hide (fmt16 lo hlo)
 have HG:=hide (fmt16 hi hhi)
 have HL:=hide hL
 clear hL
 by_cases h0:hi=0
 ·subst h0
  have HE:Hid (∀ k,hexAt lo k→lowB lo (k+1)=hx (0 * 18446744073709551616+lo)):=fun k h=>by rw [Nat.zero_mul,Nat.zero_add];exact hx_low k lo h.1 h.2.1
  generalize hx (0 * 18446744073709551616+lo)=R at *
  go_enter Tryz.func40,Tryz.ntmps40
  go_wp2_with fail
  refine (HF.out _ HL.out).mono ?_
  rintro e w1 ⟨k,h1,rfl,hb⟩
  have HB:=hide hb
  rw [HE.out k h1]
  clear hb h1
  generalize hT:txt R=T
  have HT:=hide hT
  clear hT
  go_wp2
  go_ret
  exact ⟨by rw [HT.out];rfl,HB.out⟩
 ·have HE:Hid (∀ k m,hexAt hi k→hexAt lo m→lowB hi (k+1) ++ List.replicate (16 - (m+1)) 48 ++ lowB lo (m+1)=hx (hi * 18446744073709551616+lo)):=fun k m h1 h2=>hx_two (by omega) ⟨h1.1,h1.2.1⟩ h2.2.1 h2.2.2 hlo
  generalize hx (hi * 18446744073709551616+lo)=R at *
  have hi0:¬ ((hi:Int)=0):=by omega
  generalize (hi:Int)=hiI at *
  generalize (lo:Int)=loI at *
  clear h0 hhi hlo
  go_enter Tryz.func40,Tryz.ntmps40
  go_wp2_with fail
  refine (HF.out _ HL.out).mono ?_
  rintro e w1 ⟨m,h2,rfl,hb⟩
  have HB:=hide hb
  have HL1:=hide (HL.out.below hb)
  have hm15:m≤15:=h2.2.2
  have H2:=hide h2
  clear hb h2
  have hTs:(txt (lowB lo (m+1))).size=m+1:=by rw [txt_size,lowB_length]
  generalize hT:txt (lowB lo (m+1))=T at *
  have HT:=hide hT
  clear hT
  go_wp2_with fail
  refine (HG.out _ HL1.out).mono ?_
  rintro e w2 ⟨k,h1,rfl,hb⟩
  have HB2:=hide hb
  have H1:=hide h1
  clear hb h1
  generalize hU:txt (lowB hi (k+1))=U
  have HU:=hide hU
  clear hU
  have hc:IntKind.i64.wrap (16 - ((m:Int)+1))=((16 - (m+1):Nat):Int):=by rw [IntKind.wrap_i64];omega
  have HR:=hide (repeat_zero (16 - (m+1)) (by omega))
  generalize hV:txt (List.replicate (16 - (m+1)) 48)=V at HR
  have HV:=hide hV
  clear hV
  generalize ((16 - (m+1):Nat):Int)=C at *
  go_wp2_with fail
  refine (HR.out _).mono ?_
  rintro e w3 ⟨rfl,hb⟩
  have HB3:=hide hb
  clear hb
  have hs1:¬ 9223372036854775807 < U.size+V.size:=by rw [← HU.out,← HV.out,txt_size,txt_size,lowB_length,List.length_replicate];have:=H1.out.2.2;omega
  have hs2:¬ 9223372036854775807 < U.size+V.size+(m+1):=by rw [← HU.out,← HV.out,txt_size,txt_size,lowB_length,List.length_replicate];have:=H1.out.2.2;omega
  go_wp2
  go_ret
  refine ⟨?_,HB.out.trans ((HB2.out.mono HB.out.size).trans (HB3.out.mono (Nat.le_trans HB.out.size HB2.out.size)))⟩
  show Ending.returned (.string (U ++ V ++ T))=_
  rw [← HT.out,← HU.out,← HV.out,cat_txt,cat_txt,HE.out k m H1.out H2.out]
theorem itoa_any (n:Nat) (hn:n≤9223372036854775807) (w:World) (hL:Ld w) :
  Calls Tryz.prog 39 #[.int .i64 n] w fun e w'=>e=.returned (.string (txt (Lib.decDigits n)))∧Below w.heap.size w w':=by
 refine (Tryz.strconv_Itoa n (by omega) (by omega) w hL.pw).mono fun e w' ⟨h1,k,os,h2⟩=>⟨?_,?_⟩
 ·rw [h1,Lib.itoa,if_neg (by omega),Int.toNat_natCast];rfl
 ·subst h2
  exact ⟨rfl,rfl,rfl,by show w.heap.size≤(w.heap ++ os).size;rw [Array.size_append];omega,fun j hj=>by show (w.heap ++ os)[j]? = w.heap[j]?;exact Array.getElem?_append_left hj⟩
theorem ret_int {k:IntKind} {a b:Int} (h:a=b):Ending.returned (.int k a)=.returned (.int k b):=by rw [h]
def mayBe (n:Int):Bool:=decide (1≤n) && decide (n≤128)
theorem mayBe_yes {n:Int} (h1:1≤n) (h2:n≤128):mayBe n=true:=by simp [mayBe,h1,h2]
theorem mayBe_no {n:Int} (h:¬ (1≤n∧n≤128)):mayBe n=false:=by simp [mayBe];omega
theorem widthMayBe_any (n:Int) (w:World) :
  Calls Tryz.prog 85 #[.int .i64 n] w fun e w'=>e=.returned (.bool (mayBe n))∧w'=w:=by
 by_cases h1:1≤n
 ·by_cases h2:n≤128
  ·go_enter Tryz.func85,Tryz.ntmps85
   go_wp2
   go_ret
   exact ⟨by rw [mayBe_yes h1 h2];simp,rfl⟩
  ·go_enter Tryz.func85,Tryz.ntmps85
   go_wp2
   go_ret
   exact ⟨by rw [mayBe_no (by omega)];simp,rfl⟩
 ·go_enter Tryz.func85,Tryz.ntmps85
  go_wp2
  go_ret
  exact ⟨by rw [mayBe_no (by omega)];simp,rfl⟩
theorem lowest_any (n:Int) (w:World) (h0:0≤n) (h1:n≤64) :
  Calls Tryz.prog 135 #[.int .i64 n] w fun e w'=>e=.returned (.int .u64 (low n))∧w'=w:=by
 have H:Hid (IntKind.u64.wrap (IntKind.u64.wrap (2 ^ n.toNat) - 1)=low n):=wrap_low n h0 h1
 go_enter Tryz.func135,Tryz.ntmps135
 go_wp2
 go_ret
 exact ⟨ret_int H.out,rfl⟩
theorem ret_bits {n a b c d:Int} (h:a=c) (h2:b=d):Ending.returned (.agg #[.int .i64 n,.int .u64 a,.int .u64 b])=.returned (.agg #[.int .i64 n,.int .u64 c,.int .u64 d]):=by rw [h,h2]
theorem cut_any (n hi lo:Int) (w:World) (h0:1≤n) (h1:n≤128) (a0:0≤hi) (a1:hi < 18446744073709551616) (b0:0≤lo) (b1:lo < 18446744073709551616) :
  Calls Tryz.prog 86 #[.int .i64 n,.int .u64 hi,.int .u64 lo] w fun e w' =>
   e=.returned (.agg #[.int .i64 n,.int .u64 (cHi n hi),.int .u64 (cLo n lo)])∧Below w.heap.size w w':=by
 by_cases h:n≤64
 ·go_enter Tryz.func86,Tryz.ntmps86
  go_wp2_with (go_at_call 135;refine (lowest_any _ _ (by omega) (by omega)).mono ?_;rintro e w' ⟨rfl,rfl⟩)
  refine bodyPost_ret (v:=.agg #[.int .i64 n,.int .u64 0,.int .u64 (bits .and .u64 lo (low n))]) (by simp [results,Tryz.results86,go_sem]) rfl ⟨ret_bits (cHi_le h).symm (by rw [and_low n lo (by omega) h b0 b1,cLo_le h]),?_⟩
  exact (Below.refl _ _).alloc (Nat.le_refl _) _
 ·go_enter Tryz.func86,Tryz.ntmps86
  go_wp2_with (go_at_call 135;refine (lowest_any _ _ (by omega) (by omega)).mono ?_;rintro e w' ⟨rfl,rfl⟩)
  refine bodyPost_ret (v:=.agg #[.int .i64 n,.int .u64 (bits .and .u64 hi (low (n - 64))),.int .u64 lo]) (by simp [results,Tryz.results86,go_sem]) rfl ⟨ret_bits (by rw [and_low (n - 64) hi (by omega) (by omega) a0 a1,cHi_gt (by omega)]) (cLo_gt (by omega)).symm,?_⟩
  exact (Below.refl _ _).alloc (Nat.le_refl _) _
theorem below_drewN {B:Nat} {w w':World} (h:Below B w w') (n:Nat):Below B w (w'.drewN n):=⟨h.os,h.tape,h.output,h.size,h.block⟩
end Go.Proofs.YtabkimknlifdoaaGreatDoor
