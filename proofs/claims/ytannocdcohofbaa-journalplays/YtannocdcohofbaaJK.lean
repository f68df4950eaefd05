/- pointsmanlaw05: alive. -/
import Derived.Test.YtannocdcohofbaaJI
import Derived.Lib.SlBytesConst
namespace Go.Proofs.Ytannocdcohofbaa
open Go.RowKit

structure Al (w W : World) (g room : Nat) (v : Value) (xs : List Nat) (off : Bool) (f : Value) (st : Option Nat) : Prop where
  bl : Below w.heap.size w W
  dk : Dk W w.heap.size g v room xs off f st
theorem Al.next {w W W' : World} {g room : Nat} {v f : Value} {xs : List Nat} {off : Bool} {st : Option Nat} (h : Al w W g room v xs off f st) (hb : Below W.heap.size W W') : Al w W' g room v xs off f st := ⟨h.bl.trans (hb.mono h.bl.size), h.dk.next hb⟩
theorem Al.alloc {w W : World} {g room : Nat} {v f : Value} {xs : List Nat} {off : Bool} {st : Option Nat} (h : Al w W g room v xs off f st) (o : Obj) : Al w (W.alloc o) g room v xs off f st := h.next ((Below.refl _ _).alloc (Nat.le_refl _) o)
theorem Al.move {w W W' : World} {g room : Nat} {v f v' f' : Value} {xs xs' : List Nat} {off off' : Bool} {st st' : Option Nat} (h : Al w W g room v xs off f st) (hm : Mv g v v' W W') (hd : Dk W' w.heap.size g v' room xs' off' f' st') : Al w W' g room v' xs' off' f' st' := ⟨h.bl.trans (hm.fr.below h.dk.E h.dk.BW), hd⟩
def F97 : List Nat := [1, 0, 0, 0, 67, 190, 183, 232, 97]
def F98 : List Nat := [1, 0, 0, 0, 249, 239, 190, 113, 98]
theorem frm97 : frm [97] = F97 := by decide
theorem frm98 : frm [98] = F98 := by decide
theorem ok1 (x : Nat) : okR [x] := by unfold okR; simp
theorem rd97 (t : List Nat) (h : t.length < 8) : rd (F97 ++ t) = [[97]] := by
  rw [← frm97, rd_frm _ _ (ok1 97), rd_stop _ (fstR_no (fun k => by have := k.1; omega))]
theorem rd97p : rd (F97.take 8) = [] := by
  rw [← frm97]; exact rd_stop _ (fstR_part _ _ (by simp) (by rw [frm_length]; simp))
theorem used97 : used [[97]] = 9 := rfl
theorem one_rdF (W : World) (x : Nat) (t : TypeId) (f : Nat × Nat) : RdA (W.alloc (.cells #[.int .u8 (x : Nat)] t f)) (some ⟨W.heap.size, 0, none⟩) [x] := by
  have h : (W.alloc (.cells #[.int .u8 (x : Nat)] t f)).heap[W.heap.size]? = some (.cells #[.int .u8 (x : Nat)] t f) := heap_alloc_new W _
  refine .inr ⟨W.heap.size, 0, rfl, by simp, fun i hi => ?_⟩
  unfold World.cell?; simp only [h]
  rcases (by simp at hi; omega : i = 0) with rfl
  rfl
theorem conv1 (w : World) (x : Int) : (convert 31 31 (.slice (some ⟨w.heap.size, 0, none⟩) 1 1)).run Try.prog (w.alloc (.cells #[.int .u8 x] 5)) = .ok (.slice (some ⟨w.heap.size, 0, none⟩) 1 1) (w.alloc (.cells #[.int .u8 x] 5 (1, 2))) :=
  Go.Lib.run_convert_bytes_const (P := Try.prog) w 31 5 #[.int .u8 x] 1 1 Try.underlying31 Try.underlying5
set_option maxRecDepth 100000 in
set_option maxHeartbeats 4000000 in
theorem alive_yes (w : World) : Calls Try.prog 26 #[] w fun e w' => e = .returned (.bool true) ∧ Below w.heap.size w w' := by
  have hcv := conv1
  go_enter Try.func26, Try.ntmps26
  go_wp2_with fail
  refine (frame_yes (some ⟨w.heap.size, 0, none⟩) 1 [97] _ (by simp) (ok1 97) (one_rdF w 97 _ _)).mono ?_
  rintro e w1 ⟨p, rfl, ho, hb⟩
  rw [frm97] at ho ⊢
  have R1 := hide ho.rd.2
  have B1 := hide (((Below.refl _ w).alloc (Nat.le_refl _) (.cells #[.int .u8 97] 5 (1, 2))).trans (hb.mono (by simp)))
  clear ho hb
  rw [show F97.length = 9 from rfl]
  go_wp2_with fail
  refine (frame_no none 0 0 _ (by omega) (by omega)).mono ?_
  rintro e w2 ⟨rfl, hw⟩
  subst hw
  have HO : Hid (Own8 ((w2.alloc (.cells #[.int .u8 1, .int .u8 0, .int .u8 0, .int .u8 0, .int .u8 67, .int .u8 190, .int .u8 183, .int .u8 232, .int .u8 97] 5)).alloc (.cells #[.int .u8 255, .int .u8 255] 5)) w2.heap.size (.slice (some ⟨w2.heap.size, 0, none⟩) 9 9) F97) :=
    Own8.below (W := w2.alloc (.cells #[.int .u8 1, .int .u8 0, .int .u8 0, .int .u8 0, .int .u8 67, .int .u8 190, .int .u8 183, .int .u8 232, .int .u8 97] 5)) (row_own (xs := F97) (heap_alloc_new w2 _) (Nat.le_refl _) (by decide)) ((Below.refl _ _).alloc (Nat.le_refl _) _)
  have HX := two_rd (w2.alloc (.cells #[.int .u8 1, .int .u8 0, .int .u8 0, .int .u8 0, .int .u8 67, .int .u8 190, .int .u8 183, .int .u8 232, .int .u8 97] 5)) 255 255 5
  rw [World.size_alloc] at HX
  have HX := hide HX
  go_wp2_with (first
    | (at_builtin; refine wpList_app8 rfl _ _ rfl w2.heap.size _ F97 rfl HO.out _ 2 2 [255, 255] rfl rfl HX.out (fun e => by cases e) (by decide) (by simp only [World.size_alloc]; omega) ?_; intro v7 w7 O7 G7 K7; obtain ⟨a7, c7, hv7, hl7, hn7, _⟩ := O7.shape; have R7 : Hid (RdA w7 a7 (F97 ++ [255, 255])) := (by rw [hv7] at O7; exact O7.rd.2); have B7 := hide (below_own (((Below.refl _ w2).alloc (Nat.le_refl _) _).alloc (by simp) _) HO.out G7 (by simp only [World.size_alloc]; omega)); subst hv7; clear O7 G7 K7))
  have e11 : (F97 ++ [255, 255]).length = 11 := rfl
  have HRD := hide (read_yes a7 c7 (F97 ++ [255, 255]) w7 (by decide) (by decide) hl7 R7.out)
  rw [rd97 _ (by decide), used97, e11] at HRD
  clear hn7 hl7 R7 HX HO
  have RA2 := hide (R1.out.below B7.out)
  have BB2 := hide (B1.out.trans (B7.out.mono B1.out.size))
  clear R1 B1 B7
  go_wp2_with fail
  first
    | refine HRD.out.mono ?_
    | (rw [e11]; refine HRD.out.mono ?_)
  rintro e w3 ⟨v3, vs3, rfl, hrc, hb⟩
  obtain ⟨a3, c3, rfl⟩ := hrc.own.sl
  have hl3 : vs3.length = 1 := hrc.len
  rw [hl3]
  have RA3 := hide (RA2.out.below hb)
  have BB3 := hide (BB2.out.trans (hb.mono BB2.out.size))
  clear hrc hb HRD RA2 BB2 hl3
  have HR8 := hide (read_yes (some ⟨w3.heap.size, 0, none⟩) 8 (F97.take 8) _ (by decide) (by decide) (by decide) (lit_rd w3 (F97.take 8) #[.int .u8 1, .int .u8 0, .int .u8 0, .int .u8 0, .int .u8 67, .int .u8 190, .int .u8 183, .int .u8 232] 5 rfl))
  rw [rd97p, used_nil] at HR8
  go_wp2_with fail
  refine HR8.out.mono ?_
  rintro e w4 ⟨v4, vs4, rfl, hrc, hb0⟩
  obtain ⟨a4, c4, rfl⟩ := hrc.own.sl
  have hb := ((Below.refl _ w3).alloc (Nat.le_refl _) (.cells #[.int .u8 1, .int .u8 0, .int .u8 0, .int .u8 0, .int .u8 67, .int .u8 190, .int .u8 183, .int .u8 232] 5)).trans (hb0.mono (by simp))
  have RA4 := hide (RA3.out.below hb)
  have BB4 := hide (BB3.out.trans (hb.mono BB3.out.size))
  clear hrc hb hb0 HR8 RA3 BB3
  go_wp2_with fail
  refine (new_yes 20 w4 (by decide) (by decide)).mono ?_
  rintro e w5 ⟨rfl, hd, hb⟩
  have A5 : Hid (Al w4 w5 w4.heap.size 20 _ _ _ _ _) := ⟨hb, hd⟩
  clear hd hb
  go_wp2_with fail
  have A6 := hide (A5.out.alloc (.cells #[.int .u8 97] 5 (1, 2)))
  refine (add_yes (some ⟨w5.heap.size, 0, none⟩) 1 [97] (by simp) (ok1 97) (one_rdF w5 97 _ _) (by rw [frm97]; decide) A6.out.dk).mono ?_
  rintro e w6 ⟨rfl, v6, hd, hm⟩
  rw [frm97] at hd
  have A7 := hide (A6.out.move hm hd)
  clear hd hm A5 A6
  go_wp2_with fail
  refine (fail_yes 3 (by decide) A7.out.dk).mono ?_
  rintro e w7 ⟨rfl, ⟨f7, hd⟩, hm⟩
  have A8 := hide (A7.out.move hm hd)
  clear hd hm A7
  go_wp2_with fail
  have A9 := hide (A8.out.alloc (.cells #[.int .u8 98] 5 (1, 2)))
  refine (add_cut (some ⟨w7.heap.size, 0, none⟩) 1 [98] (by simp) (ok1 98) (one_rdF w7 98 _ _) (by rw [frm98]; decide) A9.out.dk).mono ?_
  rintro e w8 ⟨rfl, v8, hd, hm⟩
  rw [frm98] at hd
  have A10 := hide (A9.out.move hm hd)
  clear hd hm A8 A9
  go_wp2_with fail
  refine (open_off (by decide) A10.out.dk).mono ?_
  rintro e w9 ⟨rfl, hb⟩
  have A11 := hide (A10.out.next hb)
  clear hb A10
  go_wp2_with fail
  refine (up_yes A11.out.dk).mono ?_
  rintro e w10 ⟨rfl, hd, hm⟩
  have A12 := hide (A11.out.move hm hd)
  clear hd hm A11
  go_wp2_with fail
  refine (open_yes (by decide) A12.out.dk).mono ?_
  rintro e w11 ⟨u11, us11, v11, rfl, hrc, hd, hm⟩
  have er : rd ([] ++ F97 ++ F98.take 3) = [[97]] := rd97 _ (by decide)
  rw [er] at hrc hd
  obtain ⟨a11, c11, rfl⟩ := hrc.own.sl
  have hl11 : us11.length = 1 := hrc.len
  rw [hl11]
  have e9 : ([] ++ F97 ++ F98.take 3).take (used [[97]]) = F97 := rfl
  rw [e9] at hd
  have A13 := hide (A12.out.move hm hd)
  clear hrc hd hm A12 er e9 hl11
  have HS1 := hide (fun W (hb : Below w4.heap.size w4 W) (b : Option Addr) (d : Nat) (hr : RdA W b F97) => same_rd F97 (by decide) (some ⟨p, 0, none⟩) b 9 d W (RA4.out.below hb) hr)
  go_wp2_with fail
  have A14 := hide (A13.out.alloc (.cells #[.int .u8 1, .int .u8 0, .int .u8 0, .int .u8 0, .int .u8 67, .int .u8 190, .int .u8 183, .int .u8 232, .int .u8 97] 5))
  refine (HS1.out _ A14.out.bl (some ⟨w11.heap.size, 0, none⟩) 9 (lit_rd w11 F97 _ _ rfl)).mono ?_
  rintro e w12 ⟨rfl, hb⟩
  have A15 := hide (A14.out.next hb)
  clear hb A13 A14
  go_wp2_with fail
  refine (bytes_yes A15.out.dk).mono ?_
  rintro e w13 ⟨u13, rfl, ho, hb⟩
  obtain ⟨a13, c13, rfl, hl13, hn13, _⟩ := ho.shape
  have A16 := hide (A15.out.next hb)
  have HS2 := hide (same_rd F97 (by decide) a13 (some ⟨p, 0, none⟩) c13 9 w13 ho.rd.2 (RA4.out.below A16.out.bl))
  clear hb A15 ho
  go_wp2_with fail
  refine HS2.out.mono ?_
  rintro e w14 ⟨rfl, hb⟩
  have A17 := hide (A16.out.next hb)
  clear hb A16
  go_wp2
  go_ret
  exact ⟨rfl, BB4.out.trans (A17.out.bl.mono BB4.out.size)⟩
end Go.Proofs.Ytannocdcohofbaa
