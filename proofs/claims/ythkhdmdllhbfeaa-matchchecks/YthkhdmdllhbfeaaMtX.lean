/- The law's examples: the chapter's prefixes. -/
import Derived.Test.YthkhdmdllhbfeaaMtW
namespace Go.Proofs.Ythkhdmdllhbfeaa
open Go.RowKit

def t0 : Tb := ⟨[2], [8], 2⟩
def en1 (n k : Int) : En := ⟨[pfx n k], 0, ⟨#[]⟩, []⟩
theorem lv1 : insI t0 [] (en1 128 1) = 0 := by kernel_rfl
theorem lv2 : insI t0 [en1 128 1] (en1 192 2) = 0 := by kernel_rfl
theorem lv3 : insI t0 [en1 128 1, en1 192 2] (en1 0 0) = 10 := by kernel_rfl
theorem lv4 : insI t0 [en1 128 1] (en1 128 1) = 12 := by kernel_rfl
theorem lv5 : findE t0 [en1 128 1, en1 192 2] [⟨8, 0, 193⟩] = 1 := by kernel_rfl
theorem lv6 : findE t0 [en1 128 1, en1 192 2] [⟨8, 0, 144⟩] = 0 := by kernel_rfl
theorem lv7 : findE t0 [en1 128 1, en1 192 2] [⟨8, 0, 1⟩] = -1 := by kernel_rfl
theorem rdE_nil (W : World) : RdE W none [] := ⟨.inl rfl, fun x h => absurd h (by simp)⟩
theorem rdN_one {W : World} {b : Nat} {x : Nb} (h : W.heap[b]? = some (.cells #[.int .i64 x.w, .int .u64 x.hi, .int .u64 x.lo] 52 (0, 0))) : RdN W (some ⟨b, 0, none⟩) [x] := by
  refine .inr ⟨b, 0, rfl, lt_heap h, fun i hi => ?_⟩
  obtain rfl : i = 0 := by simp at hi; omega
  obtain ⟨h0, h1, h2, -⟩ := at3 h
  exact ⟨h0, h1, h2⟩
theorem u64c {n : Int} (h : 0 ≤ n) (h' : n < 18446744073709551616) : u64R n := ⟨h, h'⟩
theorem nbR8 {n : Int} (h : u64R n) : ∀ b ∈ [(⟨8, 0, n⟩ : Nb)], NbR b := fun b hb => by
  have : b = ⟨8, 0, n⟩ := by simpa using hb
  rw [this]; exact ⟨i64R8, u64R0, h⟩
/- What the walk holds of a list that was inserted into. -/
structure Ac (W : World) (a : Option Addr) (acc : List EnL) (L : List En) : Prop where
  e : ens acc = L
  n : acc.length = L.length
  r : RdE W a acc
theorem Ac.below {W W' : World} {a : Option Addr} {acc : List EnL} {L : List En} (h : Ac W a acc L) (hb : Below W.heap.size W W') : Ac W' a acc L := ⟨h.e, h.n, h.r.below hb⟩
theorem ins_ac {kb wb fb : Nat} {a : Option Addr} {cap : Nat} {acc : List EnL} {L L' : List En} {W : World} {x : Mx} {act : ByteArray} {t : Tb} {kc wc : Nat} (c : Int) (h : Ac W a acc L) (ht : TbR W ⟨t, some ⟨kb, 0, none⟩, kc, some ⟨wb, 0, none⟩, wc⟩) (hf : EnR W ⟨⟨[x], 0, act, []⟩, some ⟨fb, 0, none⟩, 1, none, 0⟩) (hn : L.length ≤ 900000) (hc : insI t L ⟨[x], 0, act, []⟩ = c) (hL : (if c = 0 then L ++ [⟨[x], 0, act, []⟩] else []) = L') :
    Calls Try.prog 12 #[.agg #[.slice (some ⟨kb, 0, none⟩) t.ks.length kc, .slice (some ⟨wb, 0, none⟩) t.ws.length wc, .int .i64 t.size], .slice a L.length cap, .agg #[.slice (some ⟨fb, 0, none⟩) 1 1, .int .i64 0, .string act, .slice none 0 0]] W fun e w' => ∃ a' cap' acc', e = .returned (.tuple #[.slice a' L'.length cap', .int .i64 c]) ∧ Ac w' a' acc' L' ∧ (a' = none → cap' = 0) ∧ Below W.heap.size W w' := by
  refine (insert_is ⟨t, some ⟨kb, 0, none⟩, kc, some ⟨wb, 0, none⟩, wc⟩ a cap L.length acc ⟨⟨[x], 0, act, []⟩, some ⟨fb, 0, none⟩, 1, none, 0⟩ W ht h.r hf (by rw [h.n]; exact hn) h.n.symm c (by rw [h.e]; exact hc) L' (by rw [h.e]; exact hL)).mono ?_
  rintro e w' ⟨a', cap', acc', rfl, h1, h2, h3, h4, h5, h6⟩
  exact ⟨a', cap', acc', rfl, ⟨h1, h2, h3⟩, h4, h6⟩
theorem find_ac {kb wb fb : Nat} {a : Option Addr} {cap : Nat} {acc : List EnL} {L : List En} {W : World} {x : Nb} {t : Tb} {kc wc : Nat} (c : Int) (h : Ac W a acc L) (ht : TbR W ⟨t, some ⟨kb, 0, none⟩, kc, some ⟨wb, 0, none⟩, wc⟩) (hk : RdN W (some ⟨fb, 0, none⟩) [x]) (hx : ∀ b ∈ [x], NbR b) (hn : L.length ≤ 900000) (hc : findE t L [x] = c) :
    Calls Try.prog 20 #[.agg #[.slice (some ⟨kb, 0, none⟩) t.ks.length kc, .slice (some ⟨wb, 0, none⟩) t.ws.length wc, .int .i64 t.size], .slice a L.length cap, .slice (some ⟨fb, 0, none⟩) 1 1] W fun e w' => e = .returned (.int .i64 c) ∧ Below W.heap.size W w' :=
  find_is ⟨t, some ⟨kb, 0, none⟩, kc, some ⟨wb, 0, none⟩, wc⟩ a cap L.length 1 acc (some ⟨fb, 0, none⟩) 1 [x] W ht h.r (by rw [h.n]; omega) h.n.symm hk hx (by simp) rfl c (by rw [h.e]; exact hc)
set_option maxRecDepth 100000 in
set_option maxHeartbeats 8000000 in
theorem lives_any : Pure 6 #[] (.bool true) := fun w => by
  have BB : Hid (Below w.heap.size w w) := Below.refl _ _
  have A0 : Hid (Ac w none [] []) := ⟨rfl, rfl, rdE_nil _⟩
  go_enter Try.func6, Try.ntmps6
  go_wp2_with fail
  refine (prefix_any _).mono ?_
  rintro e w1 ⟨kb1, wb1, rfl, ht, hb⟩
  replace BB := hide (bstep BB.out hb)
  replace A0 := hide (A0.out.below hb)
  clear hb
  have HT := hide ht
  clear ht
  go_wp2_with fail
  refine (lawFirst_any 128 1 (u64c (by decide) (by decide)) ⟨by decide, by decide⟩ _).mono ?_
  rintro e w2 ⟨fb2, rfl, hf, hb⟩
  replace BB := hide (bstep BB.out hb)
  replace A0 := hide (A0.out.below hb)
  replace HT := hide (HT.out.below hb)
  clear hb
  have HF := hide hf
  clear hf
  go_wp2_with fail
  refine (ins_ac (t := t0) (0) A0.out HT.out HF.out (by simp) lv1 (L' := [en1 128 1]) rfl).mono ?_
  rintro e w3 ⟨a3, cap3, acc3, rfl, ha, hz, hb⟩
  clear HT HF
  replace BB := hide (bstep BB.out hb)
  replace A0 := hide (A0.out.below hb)
  clear hb
  have A1 := hide ha
  clear ha hz
  go_wp2_with fail
  refine (prefix_any _).mono ?_
  rintro e w4 ⟨kb4, wb4, rfl, ht, hb⟩
  replace BB := hide (bstep BB.out hb)
  replace A0 := hide (A0.out.below hb)
  replace A1 := hide (A1.out.below hb)
  clear hb
  have HT := hide ht
  clear ht
  go_wp2_with fail
  refine (lawFirst_any 192 2 (u64c (by decide) (by decide)) ⟨by decide, by decide⟩ _).mono ?_
  rintro e w5 ⟨fb5, rfl, hf, hb⟩
  replace BB := hide (bstep BB.out hb)
  replace A0 := hide (A0.out.below hb)
  replace A1 := hide (A1.out.below hb)
  replace HT := hide (HT.out.below hb)
  clear hb
  have HF := hide hf
  clear hf
  go_wp2_with fail
  refine (ins_ac (t := t0) (0) A1.out HT.out HF.out (by simp) lv2 (L' := [en1 128 1, en1 192 2]) rfl).mono ?_
  rintro e w6 ⟨a6, cap6, acc6, rfl, ha, hz, hb⟩
  clear HT HF
  replace BB := hide (bstep BB.out hb)
  replace A0 := hide (A0.out.below hb)
  replace A1 := hide (A1.out.below hb)
  clear hb
  have A2 := hide ha
  clear ha hz
  go_wp2_with fail
  refine (prefix_any _).mono ?_
  rintro e w7 ⟨kb7, wb7, rfl, ht, hb⟩
  replace BB := hide (bstep BB.out hb)
  replace A0 := hide (A0.out.below hb)
  replace A1 := hide (A1.out.below hb)
  replace A2 := hide (A2.out.below hb)
  clear hb
  have HT := hide ht
  clear ht
  go_wp2_with fail
  refine (lawFirst_any 0 0 (u64c (by decide) (by decide)) ⟨by decide, by decide⟩ _).mono ?_
  rintro e w8 ⟨fb8, rfl, hf, hb⟩
  replace BB := hide (bstep BB.out hb)
  replace A0 := hide (A0.out.below hb)
  replace A1 := hide (A1.out.below hb)
  replace A2 := hide (A2.out.below hb)
  replace HT := hide (HT.out.below hb)
  clear hb
  have HF := hide hf
  clear hf
  go_wp2_with fail
  refine (ins_ac (t := t0) (10) A2.out HT.out HF.out (by simp) lv3 (L' := []) rfl).mono ?_
  rintro e w9 ⟨a9, cap9, acc9, rfl, ha, hz, hb⟩
  clear HT HF
  replace BB := hide (bstep BB.out hb)
  replace A0 := hide (A0.out.below hb)
  replace A1 := hide (A1.out.below hb)
  replace A2 := hide (A2.out.below hb)
  clear hb
  clear ha hz
  go_wp2_with fail
  refine (prefix_any _).mono ?_
  rintro e w10 ⟨kb10, wb10, rfl, ht, hb⟩
  replace BB := hide (bstep BB.out hb)
  replace A0 := hide (A0.out.below hb)
  replace A1 := hide (A1.out.below hb)
  replace A2 := hide (A2.out.below hb)
  clear hb
  have HT := hide ht
  clear ht
  go_wp2_with fail
  refine (lawFirst_any 128 1 (u64c (by decide) (by decide)) ⟨by decide, by decide⟩ _).mono ?_
  rintro e w11 ⟨fb11, rfl, hf, hb⟩
  replace BB := hide (bstep BB.out hb)
  replace A0 := hide (A0.out.below hb)
  replace A1 := hide (A1.out.below hb)
  replace A2 := hide (A2.out.below hb)
  replace HT := hide (HT.out.below hb)
  clear hb
  have HF := hide hf
  clear hf
  go_wp2_with fail
  refine (ins_ac (t := t0) (12) A1.out HT.out HF.out (by simp) lv4 (L' := []) rfl).mono ?_
  rintro e w12 ⟨a12, cap12, acc12, rfl, ha, hz, hb⟩
  clear HT HF
  replace BB := hide (bstep BB.out hb)
  replace A0 := hide (A0.out.below hb)
  replace A1 := hide (A1.out.below hb)
  replace A2 := hide (A2.out.below hb)
  clear hb
  clear ha hz
  go_wp2_with fail
  refine (prefix_any _).mono ?_
  rintro e w13 ⟨kb13, wb13, rfl, ht, hb⟩
  replace BB := hide (bstep BB.out hb)
  replace A0 := hide (A0.out.below hb)
  replace A1 := hide (A1.out.below hb)
  replace A2 := hide (A2.out.below hb)
  clear hb
  have HT := hide ht
  clear ht
  go_wp2_with fail
  refine (eight_any 193 _).mono ?_
  rintro e w14 ⟨rfl, hb⟩
  replace BB := hide (bstep BB.out hb)
  replace A0 := hide (A0.out.below hb)
  replace A1 := hide (A1.out.below hb)
  replace A2 := hide (A2.out.below hb)
  replace HT := hide (HT.out.below hb)
  clear hb
  replace A0 := hide (A0.out.below (below1 w14 (.cells #[.int .i64 8, .int .u64 0, .int .u64 193] 52)))
  replace A1 := hide (A1.out.below (below1 w14 (.cells #[.int .i64 8, .int .u64 0, .int .u64 193] 52)))
  replace A2 := hide (A2.out.below (below1 w14 (.cells #[.int .i64 8, .int .u64 0, .int .u64 193] 52)))
  replace HT := hide (HT.out.below (below1 w14 (.cells #[.int .i64 8, .int .u64 0, .int .u64 193] 52)))
  replace BB := hide (bstep BB.out (below1 w14 (.cells #[.int .i64 8, .int .u64 0, .int .u64 193] 52)))
  have HN := hide (rdN_one (x := ⟨8, 0, 193⟩) (heap_alloc_new w14 (.cells #[.int .i64 8, .int .u64 0, .int .u64 193] 52)))
  go_wp2_with fail
  refine (find_ac (t := t0) (1) A2.out HT.out HN.out (nbR8 (u64c (by decide) (by decide))) (by simp) lv5).mono ?_
  rintro e w15 ⟨rfl, hb⟩
  clear HT HN
  replace BB := hide (bstep BB.out hb)
  replace A0 := hide (A0.out.below hb)
  replace A1 := hide (A1.out.below hb)
  replace A2 := hide (A2.out.below hb)
  clear hb
  go_wp2_with fail
  refine (prefix_any _).mono ?_
  rintro e w16 ⟨kb16, wb16, rfl, ht, hb⟩
  replace BB := hide (bstep BB.out hb)
  replace A0 := hide (A0.out.below hb)
  replace A1 := hide (A1.out.below hb)
  replace A2 := hide (A2.out.below hb)
  clear hb
  have HT := hide ht
  clear ht
  go_wp2_with fail
  refine (eight_any 144 _).mono ?_
  rintro e w17 ⟨rfl, hb⟩
  replace BB := hide (bstep BB.out hb)
  replace A0 := hide (A0.out.below hb)
  replace A1 := hide (A1.out.below hb)
  replace A2 := hide (A2.out.below hb)
  replace HT := hide (HT.out.below hb)
  clear hb
  replace A0 := hide (A0.out.below (below1 w17 (.cells #[.int .i64 8, .int .u64 0, .int .u64 144] 52)))
  replace A1 := hide (A1.out.below (below1 w17 (.cells #[.int .i64 8, .int .u64 0, .int .u64 144] 52)))
  replace A2 := hide (A2.out.below (below1 w17 (.cells #[.int .i64 8, .int .u64 0, .int .u64 144] 52)))
  replace HT := hide (HT.out.below (below1 w17 (.cells #[.int .i64 8, .int .u64 0, .int .u64 144] 52)))
  replace BB := hide (bstep BB.out (below1 w17 (.cells #[.int .i64 8, .int .u64 0, .int .u64 144] 52)))
  have HN := hide (rdN_one (x := ⟨8, 0, 144⟩) (heap_alloc_new w17 (.cells #[.int .i64 8, .int .u64 0, .int .u64 144] 52)))
  go_wp2_with fail
  refine (find_ac (t := t0) (0) A2.out HT.out HN.out (nbR8 (u64c (by decide) (by decide))) (by simp) lv6).mono ?_
  rintro e w18 ⟨rfl, hb⟩
  clear HT HN
  replace BB := hide (bstep BB.out hb)
  replace A0 := hide (A0.out.below hb)
  replace A1 := hide (A1.out.below hb)
  replace A2 := hide (A2.out.below hb)
  clear hb
  go_wp2_with fail
  refine (prefix_any _).mono ?_
  rintro e w19 ⟨kb19, wb19, rfl, ht, hb⟩
  replace BB := hide (bstep BB.out hb)
  replace A0 := hide (A0.out.below hb)
  replace A1 := hide (A1.out.below hb)
  replace A2 := hide (A2.out.below hb)
  clear hb
  have HT := hide ht
  clear ht
  go_wp2_with fail
  refine (eight_any 1 _).mono ?_
  rintro e w20 ⟨rfl, hb⟩
  replace BB := hide (bstep BB.out hb)
  replace A0 := hide (A0.out.below hb)
  replace A1 := hide (A1.out.below hb)
  replace A2 := hide (A2.out.below hb)
  replace HT := hide (HT.out.below hb)
  clear hb
  replace A0 := hide (A0.out.below (below1 w20 (.cells #[.int .i64 8, .int .u64 0, .int .u64 1] 52)))
  replace A1 := hide (A1.out.below (below1 w20 (.cells #[.int .i64 8, .int .u64 0, .int .u64 1] 52)))
  replace A2 := hide (A2.out.below (below1 w20 (.cells #[.int .i64 8, .int .u64 0, .int .u64 1] 52)))
  replace HT := hide (HT.out.below (below1 w20 (.cells #[.int .i64 8, .int .u64 0, .int .u64 1] 52)))
  replace BB := hide (bstep BB.out (below1 w20 (.cells #[.int .i64 8, .int .u64 0, .int .u64 1] 52)))
  have HN := hide (rdN_one (x := ⟨8, 0, 1⟩) (heap_alloc_new w20 (.cells #[.int .i64 8, .int .u64 0, .int .u64 1] 52)))
  go_wp2_with fail
  refine (find_ac (t := t0) (-1) A2.out HT.out HN.out (nbR8 (u64c (by decide) (by decide))) (by simp) lv7).mono ?_
  rintro e w21 ⟨rfl, hb⟩
  clear HT HN
  replace BB := hide (bstep BB.out hb)
  replace A0 := hide (A0.out.below hb)
  replace A1 := hide (A1.out.below hb)
  replace A2 := hide (A2.out.below hb)
  clear hb
  go_wp2
  go_ret
  exact ⟨rfl, BB.out⟩
end Go.Proofs.Ythkhdmdllhbfeaa
