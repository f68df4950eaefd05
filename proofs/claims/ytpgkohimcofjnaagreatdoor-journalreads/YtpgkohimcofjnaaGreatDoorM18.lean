/- Pieces of the proof: JRw. -/
import Derived.Test.YtpgkohimcofjnaaGreatDoorM9
import Derived.Test.YtpgkohimcofjnaaGreatDoorM17
/- JournalReads, walked. -/
namespace Go.Proofs.YtpgkohimcofjnaaGreatDoor
open Go.RowKit

def bk0 : Array Value := #[.int .i64 0, .slice none 0 0, .slice none 0 0, .slice none 0 0, .slice none 0 0, .slice none 0 0, .slice none 0 0, .slice none 0 0, .slice none 0 0, .slice none 0 0, .slice none 0 0, .slice none 0 0, .slice none 0 0, .slice none 0 0, .slice none 0 0, .slice none 0 0, .slice none 0 0, .slice none 0 0, .slice none 0 0, .slice none 0 0, .slice none 0 0, .slice none 0 0, .slice none 0 0, .slice none 0 0, .slice none 0 0, .slice none 0 0, .slice none 0 0, .slice none 0 0, .slice none 0 0, .slice none 0 0, .slice none 0 0]
theorem bk0_one : ∀ v ∈ bk0.toList, v.oneCell' = true := by
  intro v hv
  simp [bk0] at hv
  rcases hv with rfl | rfl <;> rfl
set_option maxRecDepth 100000 in
theorem bk_size : ∀ w : World, (sizeOf 60).run Tryz.prog w = .ok bk0.size w := fun w => by rfl
theorem one_alloc (W : World) (cs : Array Value) (t : TypeId) : (W.alloc (.cells cs t)).heap[W.heap.size]? = some (.cells cs t (0, 0)) := heap_alloc_new W _
theorem own8_lower {W : World} {B B' : Nat} {v : Value} {xs : List Nat} (h : Own8 W B v xs) (hb : B' ≤ B) : Own8 W B' v xs := ownR_lower h hb
theorem Bo4.start {w W : World} {B : Nat} {us : List (Value × List Nat)} {ps : List (Value × List Value)} (bl : Below w.heap.size w W) (wB : w.heap.size ≤ B) (BW : B ≤ W.heap.size) (ow : ∀ u ∈ us, Own8 W B u.1 u.2 ∧ u.2.length ≤ 100000000) (po : ∀ p ∈ ps, W.ownsRow B 22 1 p.1 p.2.length p.2 ∧ p.2.length ≤ 100000000) (s4 : us.Pairwise (fun u v => ∀ b, u.1.ownBlock = some b → v.1.ownBlock ≠ some b)) (p4 : ps.Pairwise (fun u v => ∀ b, u.1.ownBlock = some b → v.1.ownBlock ≠ some b)) (t : TypeId) : Bo4 w (W.alloc (.cells bk0 t)) B W.heap.size (.slice none 0 0) 0 [] (.slice none 0 0) [] us ps := by
  have ba : Below W.heap.size W (W.alloc (.cells bk0 t)) := (Below.refl _ W).alloc (Nat.le_refl _) _
  have hn : (W.alloc (.cells bk0 t)).heap[W.heap.size]? = some (.cells bk0 t (0, 0)) := heap_alloc_new W _
  have c5 : (W.alloc (.cells bk0 t)).cell? ⟨W.heap.size, 5, none⟩ = some (.slice none 0 0) := by unfold World.cell?; simp only [hn]; rfl
  have sf : ∀ o, (W.alloc (.cells bk0 t)).frozen? ⟨W.heap.size, o, none⟩ = false := fun o => by unfold World.frozen?; simp only [hn]; simp
  refine ⟨bl.trans (ba.mono bl.size), wB, ⟨Bok.new BW ⟨t, heap_alloc_new W _⟩, ⟨BW, c5, sf, World.ownsRow_nil _ B _ _, by intro h; cases h⟩, ⟨fun x hx => by simp at hx, fun x hx => by simp at hx, fun i j hi => by simp at hi⟩, fun x hx => by simp at hx, fun x hx => by simp at hx, by simp⟩, fun u hu => ⟨(ow u hu).1.below ba, (ow u hu).2, fun e => ?_⟩, fun p hp => ⟨ownR_below (po p hp).1 ba, (po p hp).2, fun e => ?_⟩, (fun u hu x hx => by simp at hx), s4, (fun u hu x hx => by simp at hx), p4⟩
  · have := (World.ownsRow.lt (ow u hu).1 _ e).2
    omega
  · have := (World.ownsRow.lt (po p hp).1 _ e).2
    omega
/- The records of one list, to be told. -/
def recU (vs : List Value) (rs : List (List Nat)) : List (Value × List Nat) := vs.zip rs
theorem recU_fst {vs : List Value} {rs : List (List Nat)} (h : vs.length = rs.length) : (recU vs rs).map (·.1) = vs := List.map_fst_zip (by omega)
theorem recU_len {vs : List Value} {rs : List (List Nat)} (h : vs.length = rs.length) : (recU vs rs).length = vs.length := by unfold recU; rw [List.length_zip]; omega
theorem recU_mem {W : World} {B : Nat} {v : Value} {vs : List Value} {rs : List (List Nat)} (h : Recs W B v vs rs) : ∀ u ∈ recU vs rs, Own8 W B u.1 u.2 ∧ u.1 ∈ vs ∧ u.2 ∈ rs := by
  intro u hu
  obtain ⟨i, hi, rfl⟩ := List.getElem_of_mem hu
  have h1 := recU_len h.len
  have hv : i < vs.length := by omega
  have hr : i < rs.length := by rw [← h.len]; exact hv
  have e : (recU vs rs)[i] = (vs[i], rs[i]) := by simp [recU]
  rw [e]
  exact ⟨h.rec' i hv hr, List.getElem_mem _, List.getElem_mem _⟩
theorem recU_dis {W : World} {B : Nat} {v : Value} {vs : List Value} {rs : List (List Nat)} (h : Recs W B v vs rs) : (recU vs rs).Pairwise (fun u v => ∀ b, u.1.ownBlock = some b → v.1.ownBlock ≠ some b) := by
  have := h.dis
  rw [← recU_fst h.len, List.pairwise_map] at this
  exact this
theorem reads_long (a : Option Addr) (n cap : Nat) (w : World) (hn : n ≤ 9223372036854775807) (h : 300000 < n) : Calls Tryz.prog 3 #[.slice a n cap] w fun e w' => e = .returned (.bool true) ∧ Below w.heap.size w w' := by
  have hi : (300000 : Int) < (n : Int) := by omega
  go_enter Tryz.func3, Tryz.ntmps3
  go_wp2
  go_ret
  exact ⟨rfl, Below.refl _ _⟩
set_option maxRecDepth 100000 in
set_option maxHeartbeats 8000000 in
theorem reads_yes (a : Option Addr) (cap : Nat) (xs : List Nat) (w : World) (hx : ∀ y ∈ xs, y < 256) (hl : xs.length ≤ 300000) (hcap : xs.length ≤ cap) (hr : RdA w a xs) : Calls Tryz.prog 3 #[.slice a xs.length cap] w fun e w' => e = .returned (.bool true) ∧ Below w.heap.size w w' := by
  have hi : ¬ (300000 : Int) < (xs.length : Int) := by omega
  have HR := hide hr
  have HT := hide (twin_any a cap xs w (by omega) hr)
  have HX := hide hx
  have HL := hide hl
  have HC := hide hcap
  have HOK : Hid (∀ r ∈ rd xs, r.length ≤ 65537) := fun r h => (rd_ok xs.length xs (Nat.le_refl _) r h).2
  have HUS := hide (rd_used xs.length xs (Nat.le_refl _))
  obtain ⟨nr, hnr⟩ : ∃ nr, used (rd xs) = nr := ⟨_, rfl⟩
  have HNR := hide hnr
  clear hr hx hcap hnr
  go_enter Tryz.func3, Tryz.ntmps3
  go_wp2_with fail
  refine HT.out.mono ?_
  rintro e w2 ⟨g, c, rfl, ht, htc, htg, hb2⟩
  have hcm : c ≤ 9223372036854775807 := by
    rcases ht.2 with ⟨e, _⟩ | ⟨g', c', cur, e, _, _, _, h2, _⟩
    · cases e
    · injection e with _ _ e3; rw [e3]; unfold maxLen at h2; omega
  have T2 := hide ht
  have hcut : Own8 w2 w.heap.size (.slice (some ⟨g, 0, none⟩) xs.length c) xs := by
    have := ht.cut xs.length (by simp)
    rwa [List.take_left] at this
  have C2 := hide hcut
  have B2 := hide hb2
  have HRD := hide (fun W (hb : Below w2.heap.size w2 W) => read_yes (some ⟨g, 0, none⟩) c xs W HX.out (by have := HL.out; omega) (by omega) (C2.out.rd.2.below hb))
  have HRR := hide (fun W (hb : Below w2.heap.size w2 W) => rread_yes a cap xs W HX.out (by have := HL.out; omega) HC.out ((HR.out.below B2.out).below hb))
  rw [HNR.out] at HRD HRR
  clear ht hcut hb2 HT
  go_wp2_with fail
  refine (HRD.out w2 (Below.refl _ _)).mono ?_
  rintro e w3 ⟨vx, us, rfl, hrx, hb3⟩
  have X3 := hide hrx
  have B3 := hide hb3
  clear hrx hb3
  go_wp2_with fail
  refine (HRD.out w3 B3.out).mono ?_
  rintro e w4 ⟨vy, ts, rfl, hry, hb4⟩
  have X4s := hide X3.out.lt
  have X4 := hide (X3.out.below hb4)
  have Y4 := hide hry
  have B4 := hide (B3.out.trans (hb4.mono B3.out.size))
  have S34 := hide hb4.size
  clear hry hb4 X3
  go_wp2_with fail
  refine (HRR.out w4 B4.out).mono ?_
  rintro e w5 ⟨vw, ws, rfl, hrw, hb5⟩
  have X5 := hide (X4.out.below hb5)
  have Y5 := hide (Y4.out.below hb5)
  have W5 := hide hrw
  have B5 := hide (B4.out.trans (hb5.mono B4.out.size))
  clear hrw hb5 X4 Y4 HRD HRR
  obtain ⟨ax, cx, lx, ex, hlx, rdx⟩ := X5.out.rdl HOK.out
  obtain ⟨ay, cy, ly, ey, hly, rdy⟩ := Y5.out.rdl HOK.out
  obtain ⟨aw, cw, lw, ew, hlw, rdw⟩ := W5.out.rdl HOK.out
  subst ex ey ew
  have RX := hide rdx
  have RY := hide rdy
  have RW := hide rdw
  have HLX := hide hlx
  have HLY := hide hly
  have HLW := hide hlw
  have hlen : lw.length = (rd xs).length := by rw [← recs_length, hlw]
  have hul : us.length = (rd xs).length := X5.out.len
  have htl : ts.length = (rd xs).length := Y5.out.len
  have hrl : (rd xs).length ≤ 300000 := by
    have h1 := HUS.out
    have h2 : ∀ l : List (List Nat), l.length ≤ used l := fun l => by
      induction l with
      | nil => simp
      | cons r l ih => rw [used_cons, List.length_cons]; omega
    have := h2 (rd xs)
    have := HL.out
    omega
  have HS1 := hide (fun W (hb : Below w5.heap.size w5 W) => same_recs lx lw (by rw [HLX.out, HLW.out]) (fun r h => by rw [HLX.out] at h; have := HOK.out r h; omega) (by rw [← recs_length, HLX.out]; omega) ax aw cx cw W (RX.out.below hb) (RW.out.below hb))
  have HS2 := hide (fun W (hb : Below w5.heap.size w5 W) => same_recs ly lw (by rw [HLY.out, HLW.out]) (fun r h => by rw [HLY.out] at h; have := HOK.out r h; omega) (by rw [← recs_length, HLY.out]; omega) ay aw cy cw W (RY.out.below hb) (RW.out.below hb))
  have HLF := hide (fun W (hb : Below w5.heap.size w5 W) => left_yes g c a cap xs W w.heap.size (by have := HL.out; omega) (((HR.out.below B2.out).below B5.out).below hb) htc hcm ((T2.out.below B5.out).below hb))
  obtain ⟨NW, hNW⟩ : ∃ NW, lw.length = NW := ⟨_, rfl⟩
  have HNW := hide hNW
  have hxl : lx.length = NW := by rw [← recs_length, hlx, ← hNW, hlen]
  have hyl : ly.length = NW := by rw [← recs_length, hly, ← hNW, hlen]
  rw [hNW] at HS1 HS2 W5 ⊢
  rw [hxl] at HS1 X5 X4s ⊢
  rw [hyl] at HS2 Y5 ⊢
  have hul2 : us.length = NW := by rw [hul, ← hlen, hNW]
  have htl2 : ts.length = NW := by rw [htl, ← hlen, hNW]
  have HUL := hide hul2
  have HTL := hide htl2
  clear rdx rdy rdw hlx hly hlw RX RY RW hul htl hrl hlen hNW hxl hyl hul2 htl2 W5 HNW
  go_wp2_with fail
  refine (HS1.out w5 (Below.refl _ _)).mono ?_
  rintro e w6 ⟨rfl, hb6⟩
  have B56 := hide hb6
  clear hb6 HS1
  go_wp2_with fail
  refine (HS2.out w6 B56.out).mono ?_
  rintro e w7 ⟨rfl, hb7⟩
  have B57 := hide (B56.out.trans (hb7.mono B56.out.size))
  clear hb7 HS2 B56
  go_wp2_with fail
  refine (HLF.out w7 B57.out).mono ?_
  rintro e w8 ⟨rfl, hb8⟩
  have B58 := hide (B57.out.trans (hb8.mono B57.out.size))
  clear hb8 HLF B57
  have B28 := hide (B5.out.trans (B58.out.mono B5.out.size))
  have B08 := hide (B2.out.trans (B28.out.mono B2.out.size))
  by_cases h500 : 500 < NW
  · have i5 : (500 : Int) < (NW : Int) := by omega
    go_wp2
    go_ret
    exact ⟨rfl, B08.out⟩
  · have i5 : ¬ (500 : Int) < (NW : Int) := by omega
    have z1 := B2.out.size
    have z3 := B3.out.size
    have z4 := S34.out
    have X8 := hide ((X5.out.below B58.out).lower (Nat.le_trans z1 (Nat.le_refl _)))
    have Y8 := hide ((Y5.out.below B58.out).lower (Nat.le_trans z1 z3))
    have hxr := X5.out.lt
    have hyr := Y5.out.lt
    have gl := (World.ownsRow.lt C2.out g rfl).2
    have hOK := HOK.out
    have S9 := hide (Bo4.start (us := (.slice (some ⟨g, 0, none⟩) xs.length c, xs) :: (recU us (rd xs) ++ recU ts (rd xs))) (ps := [(.slice ax NW cx, us), (.slice ay NW cy, ts)]) B08.out (Nat.le_refl _) B08.out.size (fun u hu => by
      rcases List.mem_cons.1 hu with rfl | hu
      · exact ⟨C2.out.below B28.out, by show xs.length ≤ _; have := HL.out; omega⟩
      · rcases List.mem_append.1 hu with hu | hu
        · obtain ⟨q1, _, q3⟩ := recU_mem X8.out u hu
          exact ⟨q1, by have := hOK _ q3; omega⟩
        · obtain ⟨q1, _, q3⟩ := recU_mem Y8.out u hu
          exact ⟨q1, by have := hOK _ q3; omega⟩) (fun p hp => by
      simp only [List.mem_cons, List.not_mem_nil, or_false] at hp
      rcases hp with rfl | rfl
      · exact ⟨X8.out.own, by show us.length ≤ _; rw [HUL.out]; omega⟩
      · exact ⟨Y8.out.own, by show ts.length ≤ _; rw [HTL.out]; omega⟩) (by
      refine List.pairwise_cons.2 ⟨fun v hv b e1 e2 => ?_, List.pairwise_append.2 ⟨recU_dis X8.out, recU_dis Y8.out, fun u hu v hv b e1 e2 => ?_⟩⟩
      · have k1 : g = b := by injection e1
        rcases List.mem_append.1 hv with hv | hv
        · have := (hxr.2 _ (recU_mem X8.out v hv).2.1 b e2).1
          omega
        · have := (hyr.2 _ (recU_mem Y8.out v hv).2.1 b e2).1
          omega
      · have h1 := (X4s.out.2 _ (recU_mem X8.out u hu).2.1 b e1).2
        have h2 := (hyr.2 _ (recU_mem Y8.out v hv).2.1 b e2).1
        omega) (by
      refine List.pairwise_cons.2 ⟨fun v hv b e1 e2 => ?_, List.pairwise_singleton _ _⟩
      simp only [List.mem_cons, List.not_mem_nil, or_false] at hv
      subst hv
      have h1 := (X4s.out.1 b e1).2
      have h2 := (hyr.1 b e2).1
      omega) 60)
    have HF1 := hide (recU_fst X8.out.len)
    have HF2 := hide (recU_fst Y8.out.len)
    have HU1 : Hid ((recU us (rd xs)).length = NW) := (recU_len X8.out.len).trans HUL.out
    have HU2 : Hid ((recU ts (rd xs)).length = NW) := (recU_len Y8.out.len).trans HTL.out
    clear z1 z3 z4 X8 Y8 hxr hyr gl hOK X5 Y5 X4s S34
    go_wp2_with (refine wpList_storeZ rfl 60 _ _ rfl _ bk0 60 rfl rfl bk_size (one_alloc _ _ _) bk0_one ?_)
    refine (S9.out.byte (by simp) (by omega)).mono ?_
    rintro e w10 ⟨rfl, vb1, hs1, h1, hl1⟩
    have S10 := hide h1
    have L10 := hide hl1
    clear h1 hl1 S9
    go_wp2_with fail
    refine (bookRecs_any S10.out HF1.out (by rw [L10.out, HU1.out]; simp; omega) (by rw [HU1.out]; omega) (by simp)).mono ?_
    rintro e w11 ⟨rfl, vb2, hs2, vq2, qs2, h1, hl1, hl2⟩
    rw [HU1.out] at h1 hl1
    have S11 : Hid (Bo4 w w11 w.heap.size w8.heap.size vb2 (0 + 1 + NW + 1) hs2 vq2 qs2 (recU ts (rd xs) ++ []) [(.slice ay NW cy, ts)]) := by
      show Bo4 _ _ _ _ _ _ _ _ _ _ _
      rw [List.append_nil]
      exact h1
    have L11 := hide hl1
    have M11 := hide hl2
    clear h1 hl1 hl2 S10
    go_wp2_with fail
    refine (bookRecs_any S11.out HF2.out (by rw [L11.out, L10.out, HU2.out]; simp; omega) (by rw [HU2.out]; omega) (by rw [M11.out]; simp)).mono ?_
    rintro e w12 ⟨rfl, vb3, hs3, vq3, qs3, h1, hl1, hl2⟩
    have S12 := hide h1
    clear h1 hl1 hl2 S11
    go_wp2_with fail
    refine S12.out.apart.mono ?_
    rintro e w13 ⟨rfl, hb⟩
    have B13 := hide hb
    clear hb
    go_wp2
    go_ret
    exact ⟨rfl, B13.out⟩
end Go.Proofs.YtpgkohimcofjnaaGreatDoor
