/- pointsmanlaw05.JournalFrames, walked. -/
import Derived.Test.YtannocdcohofbaaGreatDoorJR
import Derived.Test.YtannocdcohofbaaGreatDoorSvBey
import Derived.Test.YtannocdcohofbaaGreatDoorDkT
import Derived.Test.YtannocdcohofbaaGreatDoorDkS
import Derived.Test.YtannocdcohofbaaGreatDoorStoreZ
namespace Go.Proofs.YtannocdcohofbaaGreatDoor
open Go.RowKit

def bk0 : Array Value := #[.int .i64 0, .slice none 0 0, .slice none 0 0, .slice none 0 0, .slice none 0 0, .slice none 0 0, .slice none 0 0, .slice none 0 0, .slice none 0 0, .slice none 0 0, .slice none 0 0, .slice none 0 0, .slice none 0 0, .slice none 0 0, .slice none 0 0, .slice none 0 0, .slice none 0 0, .slice none 0 0, .slice none 0 0, .slice none 0 0, .slice none 0 0, .slice none 0 0, .slice none 0 0, .slice none 0 0, .slice none 0 0, .slice none 0 0, .slice none 0 0, .slice none 0 0, .slice none 0 0, .slice none 0 0, .slice none 0 0]
theorem bk0_one : ∀ v ∈ bk0.toList, v.oneCell' = true := by
  intro v hv
  simp [bk0] at hv
  rcases hv with rfl | rfl <;> rfl
set_option maxRecDepth 100000 in
theorem bk_size : ∀ w : World, (sizeOf 60).run Tryz.prog w = .ok bk0.size w := fun w => by rfl
/- A Book, and lists that it has not been told yet. -/
structure Bo3 (w W : World) (B g : Nat) (vb : Value) (n : Nat) (hs : List Hb) (us : List (Value × List Nat)) : Prop where
  bl : Below w.heap.size w W
  wB : w.heap.size ≤ B
  bo : Bok W B g vb n hs
  ow : ∀ u ∈ us, Own8 W B u.1 u.2 ∧ u.2.length ≤ 100000000
  s1 : ∀ u ∈ us, u.1.ownBlock ≠ some g
  s2 : ∀ u ∈ us, ∀ b, u.1.ownBlock = some b → vb.ownBlock ≠ some b
  s3 : ∀ u ∈ us, ∀ x ∈ hs, ∀ b, x.v.ownBlock = some b → u.1.ownBlock ≠ some b
  s4 : us.Pairwise (fun u v => ∀ b, u.1.ownBlock = some b → v.1.ownBlock ≠ some b)
theorem Bo3.step {w W : World} {B g n : Nat} {vb : Value} {hs : List Hb} {u : Value × List Nat} {us : List (Value × List Nat)} (h : Bo3 w W B g vb n hs (u :: us)) (hl : hs.length < 1000) (hn : n < 1000) :
    Calls Tryz.prog 11 #[.pointer (some ⟨g, 0, none⟩), u.1] W fun e W' => e = .returned (.tuple #[]) ∧ ∃ vb' hs', Bo3 w W' B g vb' (n + 1) hs' us ∧ hs'.length = hs.length + 1 := by
  have hu := h.ow u (List.mem_cons_self ..)
  have hm : ∀ x ∈ us, x ∈ u :: us := fun x hx => List.mem_cons_of_mem _ hx
  refine (bytes_bok h.bo hl hn hu.1 hu.2 (h.s1 u (List.mem_cons_self ..)) (h.s2 u (List.mem_cons_self ..)) (h.s3 u (List.mem_cons_self ..))).mono ?_
  rintro e W' ⟨rfl, vb', hb, hf, hv⟩
  have hE : ∀ b, BE g vb b → B ≤ b := fun b k => by
    rcases k with k | k
    · rw [k]; exact h.bo.bk.gB
    · exact (h.bo.bk.vlt b k).1
  have hBW : B ≤ W.heap.size := by have := h.bo.bk.gB; have := h.bo.bk.lt; omega
  refine ⟨rfl, vb', _, ⟨h.bl.trans ((hf.below hE hBW).mono h.wB), h.wB, hb, fun x hx => ⟨?_, (h.ow x (hm x hx)).2⟩, fun x hx => h.s1 x (hm x hx), fun x hx b hxb e => ?_, fun x hx y hy b hyb => ?_, (List.pairwise_cons.1 h.s4).2⟩, by simp⟩
  · have hx1 := (h.ow x (hm x hx)).1
    refine ⟨hx1.1, ?_⟩
    rcases hx1.2 with h0 | ⟨gr, cap, cur, e, hg, hcur, rest⟩
    · exact .inl h0
    · refine .inr ⟨gr, cap, cur, e, hg, (hf.block gr (Array.getElem?_eq_some_iff.1 hcur).1 (fun k => ?_)).trans hcur, rest⟩
      have hob : x.1.ownBlock = some gr := by rw [e]; rfl
      rcases k with k | k
      · exact h.s1 x (hm x hx) (by rw [hob, k])
      · exact h.s2 x (hm x hx) gr hob k
  · rcases hv b e with e | e
    · exact h.s2 x (hm x hx) b hxb e
    · have := (World.ownsRow.lt (h.ow x (hm x hx)).1 b hxb).2; omega
  · rcases List.mem_append.1 hy with hy | hy
    · exact h.s3 x (hm x hx) y hy b hyb
    · rw [List.mem_singleton.1 hy] at hyb
      exact (List.pairwise_cons.1 h.s4).1 x hx b hyb
theorem Bo3.apart {w W : World} {B g n : Nat} {vb : Value} {hs : List Hb} (h : Bo3 w W B g vb n hs []) : Calls Tryz.prog 12 #[.pointer (some ⟨g, 0, none⟩)] W fun e W' => e = .returned (.bool true) ∧ Below w.heap.size w W' := by
  refine (apart_yes h.bo).mono ?_
  rintro e W' ⟨rfl, hf⟩
  have hBW : B ≤ W.heap.size := by have := h.bo.bk.gB; have := h.bo.bk.lt; omega
  refine ⟨rfl, h.bl.trans ((hf.below (B := B) (fun b k => ?_) hBW).mono h.wB)⟩
  rcases k with ⟨x, hx, k⟩ | k
  · exact (World.ownsRow.lt (h.bo.ow x hx) b k).1
  · exact (h.bo.bk.vlt b k).1
theorem Bo3.start {w W : World} {B : Nat} {us : List (Value × List Nat)} (bl : Below w.heap.size w W) (wB : w.heap.size ≤ B) (BW : B ≤ W.heap.size) (ow : ∀ u ∈ us, Own8 W B u.1 u.2 ∧ u.2.length ≤ 100000000) (s4 : us.Pairwise (fun u v => ∀ b, u.1.ownBlock = some b → v.1.ownBlock ≠ some b)) (t : TypeId) : Bo3 w (W.alloc (.cells bk0 t)) B W.heap.size (.slice none 0 0) 0 [] us := by
  have ba : Below W.heap.size W (W.alloc (.cells bk0 t)) := (Below.refl _ W).alloc (Nat.le_refl _) _
  refine ⟨bl.trans (ba.mono bl.size), wB, Bok.new BW ⟨t, heap_alloc_new W _⟩, fun u hu => ⟨(ow u hu).1.below ba, (ow u hu).2⟩, fun u hu e => ?_, (fun u hu b _ e => by cases e), (fun u hu x hx => by simp at hx), s4⟩
  have := (World.ownsRow.lt (ow u hu).1 _ e).2
  omega
theorem own8_lower {W : World} {B B' : Nat} {v : Value} {xs : List Nat} (h : Own8 W B v xs) (hb : B' ≤ B) : Own8 W B' v xs := by
  refine ⟨h.1, ?_⟩
  rcases h.2 with h0 | ⟨gr, cap, cur, e, hg, rest⟩
  · exact .inl h0
  · exact .inr ⟨gr, cap, cur, e, Nat.le_trans hb hg, rest⟩
theorem frames_long (a : Option Addr) (n cap : Nat) (w : World) (hn : n ≤ 9223372036854775807) (h : 1048576 < n) : Calls Tryz.prog 3 #[.slice a n cap] w fun e w' => e = .returned (.bool true) ∧ Below w.heap.size w w' := by
  have HB := hide (beyond_any n hn w)
  rw [show decide (1048576 < n) = true from decide_eq_true h] at HB
  clear h
  go_enter Tryz.func3, Tryz.ntmps3
  go_wp2_with fail
  refine HB.out.mono ?_
  rintro e w1 ⟨rfl, rfl⟩
  go_wp2
  go_ret
  exact ⟨rfl, (Below.refl _ _).alloc (Nat.le_refl _) _⟩
theorem one_alloc (W : World) (cs : Array Value) (t : TypeId) : (W.alloc (.cells cs t)).heap[W.heap.size]? = some (.cells cs t (0, 0)) := heap_alloc_new W _
set_option maxRecDepth 100000 in
set_option maxHeartbeats 4000000 in
theorem frames_yes (a : Option Addr) (cap : Nat) (xs : List Nat) (w : World) (hx : ∀ y ∈ xs, y < 256) (hl : xs.length ≤ 1048576) (hr : RdA w a xs) : Calls Tryz.prog 3 #[.slice a xs.length cap] w fun e w' => e = .returned (.bool true) ∧ Below w.heap.size w w' := by
  have HB := hide (beyond_any xs.length (by omega) w)
  rw [show decide (1048576 < xs.length) = false from decide_eq_false (by omega)] at HB
  obtain ⟨w0, hw0⟩ : ∃ w0, w0 = w.alloc (.cells #[.int .i64 xs.length] 3) := ⟨_, rfl⟩
  have b0 : Below w.heap.size w w0 := by rw [hw0]; exact (Below.refl _ w).alloc (Nat.le_refl _) _
  have HR := hide (hr.below b0)
  have B0 := hide b0
  have HT := hide (twin_any a cap xs w0 (by omega) HR.out)
  have HX := hide hx
  rw [← hw0] at HB
  have HW0 := hide hw0
  clear hr b0 hx hw0
  go_enter Tryz.func3, Tryz.ntmps3
  go_wp2_with fail
  rw [← HW0.out]
  refine HB.out.mono ?_
  rintro e w1 ⟨rfl, hw1⟩
  subst hw1
  go_wp2_with fail
  refine HT.out.mono ?_
  rintro e w2 ⟨g, c, rfl, ht, htc, htg, hb2⟩
  have hcm : c ≤ 9223372036854775807 := by
    rcases ht.2 with ⟨e, _⟩ | ⟨g', c', cur, e, _, _, _, h2, _⟩
    · cases e
    · injection e with _ _ e3; rw [e3]; unfold maxLen at h2; omega
  have T2 := hide ht
  have hcut : Own8 w2 w1.heap.size (.slice (some ⟨g, 0, none⟩) xs.length c) xs := by
    have := ht.cut xs.length (by simp)
    rwa [List.take_left] at this
  have C2 := hide hcut
  have B2 := hide hb2
  have HR2 := hide (HR.out.below hb2)
  clear ht hb2 hcut HT HB
  by_cases hok : okR xs
  · have hk2 := hok.2
    have hfl : (frm xs).length ≤ 100000000 := by rw [frm_length]; omega
    have HF := hide (fun W (hb : Below w2.heap.size w2 W) => frame_yes (some ⟨g, 0, none⟩) c xs W HX.out hok (C2.out.rd.2.below hb))
    have HRF := hide (fun W (hb : Below w2.heap.size w2 W) => rframe_yes a cap xs W HX.out hok (HR2.out.below hb))
    clear hok hk2
    go_wp2_with fail
    refine (HF.out w2 (Below.refl _ _)).mono ?_
    rintro e w3 ⟨gx, rfl, hox, hb3⟩
    have O3 := hide hox
    have B3 := hide hb3
    clear hox hb3
    go_wp2_with fail
    refine (HF.out w3 B3.out).mono ?_
    rintro e w4 ⟨gy, rfl, hoy, hb4⟩
    have O3b := hide (O3.out.below hb4)
    have O4 := hide hoy
    have B34 := hide hb4
    have B4 := hide (B3.out.trans (hb4.mono B3.out.size))
    clear hoy hb4
    go_wp2_with fail
    refine (HRF.out w4 B4.out).mono ?_
    rintro e w5 ⟨u, rfl, hou, hb5⟩
    obtain ⟨au, cu, rfl, _, _, _⟩ := hou.shape
    have O5u := hide hou.rd.2
    have O5x := hide (O3b.out.below hb5)
    have O5y := hide (O4.out.below hb5)
    have B5 := hide (B4.out.trans (hb5.mono B4.out.size))
    clear hou hb5 HF HRF
    have HS1 := hide (same_rd (frm xs) (by omega) (some ⟨gx, 0, none⟩) au (frm xs).length cu w5 O5x.out.rd.2 O5u.out)
    go_wp2_with fail
    refine HS1.out.mono ?_
    rintro e w6 ⟨rfl, hb6⟩
    have HS2 := hide (same_rd (frm xs) (by omega) (some ⟨gy, 0, none⟩) au (frm xs).length cu w6 (O5y.out.rd.2.below hb6) (O5u.out.below hb6))
    have B56 := hide hb6
    clear hb6 HS1
    go_wp2_with fail
    refine HS2.out.mono ?_
    rintro e w7 ⟨rfl, hb7⟩
    have B57 := hide (B56.out.trans (hb7.mono B56.out.size))
    have B7 := hide (B5.out.trans (B57.out.mono B5.out.size))
    clear hb7 HS2 B56
    have HL7 := hide (left_yes g c a cap xs w7 w1.heap.size (by omega) (HR2.out.below B7.out) htc hcm (T2.out.below B7.out))
    go_wp2_with fail
    refine HL7.out.mono ?_
    rintro e w8 ⟨rfl, hb8⟩
    have B8 := hide (B7.out.trans (hb8.mono B7.out.size))
    have B58 := hide (B57.out.trans (hb8.mono B57.out.size))
    clear hb8 B7 HL7
    have hBl := B0.out.trans ((B2.out.trans (B8.out.mono B2.out.size)).mono B0.out.size)
    have z1 := B2.out.size
    have z2 := B3.out.size
    have S9 := hide (Bo3.start (us := [(.slice (some ⟨g, 0, none⟩) xs.length c, xs), (.slice (some ⟨gx, 0, none⟩) (frm xs).length (frm xs).length, frm xs), (.slice (some ⟨gy, 0, none⟩) (frm xs).length (frm xs).length, frm xs)]) hBl B0.out.size (Nat.le_trans B2.out.size B8.out.size) (fun u hu => by
      simp only [List.mem_cons, List.not_mem_nil, or_false] at hu
      rcases hu with rfl | rfl | rfl
      · exact ⟨C2.out.below B8.out, by show xs.length ≤ _; omega⟩
      · exact ⟨own8_lower (O5x.out.below B58.out) z1, hfl⟩
      · exact ⟨own8_lower (O5y.out.below B58.out) (by omega), hfl⟩) (by
      have g1 := (World.ownsRow.lt C2.out g rfl).2
      have g2 := World.ownsRow.lt O3.out gx rfl
      have g3 := (World.ownsRow.lt O4.out gy rfl).1
      refine List.pairwise_cons.2 ⟨fun v hv b e1 e2 => ?_, List.pairwise_cons.2 ⟨fun v hv b e1 e2 => ?_, List.pairwise_singleton _ _⟩⟩
      · have k1 : g = b := by injection e1
        simp only [List.mem_cons, List.not_mem_nil, or_false] at hv
        rcases hv with rfl | rfl
        · have k2 : gx = b := by injection e2
          omega
        · have k2 : gy = b := by injection e2
          omega
      · have k1 : gx = b := by injection e1
        simp only [List.mem_cons, List.not_mem_nil, or_false] at hv
        subst hv
        have k2 : gy = b := by injection e2
        omega) 60)
    clear hBl z1 z2
    go_wp2_with (refine wpList_storeZ rfl 60 _ _ rfl _ bk0 60 rfl rfl bk_size (one_alloc _ _ _) bk0_one ?_)
    refine (S9.out.step (by simp) (by omega)).mono ?_
    rintro e w10 ⟨rfl, vb1, hs1, h1, hl1⟩
    have S10 := hide h1
    have L10 := hide hl1
    clear h1 hl1
    go_wp2_with fail
    refine (S10.out.step (by rw [L10.out]; simp) (by omega)).mono ?_
    rintro e w11 ⟨rfl, vb2, hs2, h1, hl1⟩
    have S11 := hide h1
    have L11 := hide hl1
    clear h1 hl1
    go_wp2_with fail
    refine (S11.out.step (by rw [L11.out, L10.out]; simp) (by omega)).mono ?_
    rintro e w12 ⟨rfl, vb3, hs3, h1, hl1⟩
    have S12 := hide h1
    clear h1 hl1
    go_wp2_with fail
    refine S12.out.apart.mono ?_
    rintro e w13 ⟨rfl, hb⟩
    go_wp2
    go_ret
    exact ⟨rfl, hb⟩
  · have HF := hide (fun W => frame_no (some ⟨g, 0, none⟩) xs.length c W hok (by omega))
    have HRF := hide (fun W => rframe_no a xs.length cap W hok)
    have HS := hide (fun W => same_rd [] (by simp) none none 0 0 W (.inl rfl) (.inl rfl))
    have HL := hide (left_yes g c a cap xs w2 w1.heap.size (by omega) HR2.out htc hcm T2.out)
    rw [List.length_nil] at HS
    go_wp2_with fail
    refine (HF.out _).mono ?_
    rintro e w3 ⟨rfl, hw⟩
    subst hw
    go_wp2_with fail
    refine (HF.out _).mono ?_
    rintro e w4 ⟨rfl, hw⟩
    subst hw
    go_wp2_with fail
    refine (HRF.out _).mono ?_
    rintro e w5 ⟨rfl, hw⟩
    subst hw
    go_wp2_with fail
    refine (HS.out _).mono ?_
    rintro e w6 ⟨rfl, hb6⟩
    have B6 := hide hb6
    clear hb6
    go_wp2_with fail
    refine (HS.out _).mono ?_
    rintro e w7 ⟨rfl, hb7⟩
    have B7 := hide (B6.out.trans (hb7.mono B6.out.size))
    clear hb7 B6
    have HL7 := hide (left_yes g c a cap xs w7 w1.heap.size (by omega) (HR2.out.below B7.out) htc hcm (T2.out.below B7.out))
    go_wp2_with fail
    refine HL7.out.mono ?_
    rintro e w8 ⟨rfl, hb8⟩
    have B8 := hide (B7.out.trans (hb8.mono B7.out.size))
    clear hb8 B7
    have hBl := B0.out.trans ((B2.out.trans (B8.out.mono B2.out.size)).mono B0.out.size)
    have S9 := hide (Bo3.start (us := [(.slice (some ⟨g, 0, none⟩) xs.length c, xs), (.slice none 0 0, []), (.slice none 0 0, [])]) hBl B0.out.size (Nat.le_trans B2.out.size B8.out.size) (fun u hu => by
      simp only [List.mem_cons, List.not_mem_nil, or_false] at hu
      rcases hu with rfl | rfl | rfl
      · exact ⟨C2.out.below B8.out, by show xs.length ≤ _; omega⟩
      · exact ⟨Own8.nil _ _, by simp⟩
      · exact ⟨Own8.nil _ _, by simp⟩) (by
      refine List.pairwise_cons.2 ⟨fun v hv b _ e => ?_, List.pairwise_cons.2 ⟨(fun v hv b e => by cases e), List.pairwise_singleton _ _⟩⟩
      simp only [List.mem_cons, List.not_mem_nil, or_false] at hv
      rcases hv with rfl | rfl <;> cases e) 60)
    clear hBl
    go_wp2_with (refine wpList_storeZ rfl 60 _ _ rfl _ bk0 60 rfl rfl bk_size (one_alloc _ _ _) bk0_one ?_)
    refine (S9.out.step (by simp) (by omega)).mono ?_
    rintro e w10 ⟨rfl, vb1, hs1, h1, hl1⟩
    have S10 := hide h1
    have L10 := hide hl1
    clear h1 hl1
    go_wp2_with fail
    refine (S10.out.step (by rw [L10.out]; simp) (by omega)).mono ?_
    rintro e w11 ⟨rfl, vb2, hs2, h1, hl1⟩
    have S11 := hide h1
    have L11 := hide hl1
    clear h1 hl1
    go_wp2_with fail
    refine (S11.out.step (by rw [L11.out, L10.out]; simp) (by omega)).mono ?_
    rintro e w12 ⟨rfl, vb3, hs3, h1, hl1⟩
    have S12 := hide h1
    clear h1 hl1
    go_wp2_with fail
    refine S12.out.apart.mono ?_
    rintro e w13 ⟨rfl, hb⟩
    go_wp2
    go_ret
    exact ⟨rfl, hb⟩
end Go.Proofs.YtannocdcohofbaaGreatDoor
