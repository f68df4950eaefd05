/- Pieces of the proof: CeD, CeE. -/
import Derived.Test.YtbemfjdloeipmaaGreatDoorM8
import Derived.Test.YtbemfjdloeipmaaGreatDoorM9
/- package cells: copies, and an array with another cell. -/
namespace Go.Proofs.YtbemfjdloeipmaaGreatDoor
open Go.RowKit

theorem Tryz.infoIn : (Tryz.prog.info? 3).map (fun i => (i.zero, i.size, i.bytes)) = some (some (.int .i64 0), 1, 8) := by kernel_rfl
theorem sizeNb : (Tryz.prog.info? 29).map (·.size) = some 3 := by kernel_rfl
theorem sizeIn : (Tryz.prog.info? 3).map (·.size) = some 1 := by kernel_rfl
theorem len_made {W : World} {B c n : Nat} {e : TypeId} {v : Value} {xs : List Value} (h : W.ownsRow B e c v n xs) : xs.length = n * c := h.1
set_option maxHeartbeats 1000000 in
theorem copiedN_any (a : Option Addr) (cap : Nat) (l : List Nb) (w : World) (hr : RdN w a l) (hl : l.length ≤ 1000000) : Calls Tryz.prog 134 #[.slice a l.length cap] w fun e w' => ∃ a', e = .returned (.slice a' l.length l.length) ∧ OwnR w' w.heap.size a' 29 (flat Nb.cells l) ∧ Below w.heap.size w w' := by
  obtain ⟨i0, hi0, hz0, hz1, hz2⟩ := info_parts Tryz.infoNb
  rcases hr with rfl | ⟨p, off, rfl, hp, hc⟩
  · rw [List.length_nil]
    go_enter Tryz.func134, Tryz.ntmps134
    go_wp2
    go_ret
    exact ⟨none, rfl, .inl ⟨rfl, rfl⟩, Below.refl _ _⟩
  · by_cases h0 : l.length = 0
    · obtain rfl : l = [] := List.length_eq_zero_iff.1 h0
      rw [List.length_nil]
      go_enter Tryz.func134, Tryz.ntmps134
      go_wp2
      go_ret
      exact ⟨none, rfl, .inl ⟨rfl, rfl⟩, Below.refl _ _⟩
    · have h1 : ((l.length : Int) == 0) = false := by rw [zero_eq, beq_eq_false_iff_ne]; exact h0
      have h2 : ((l.length : Int) = 0) = False := eq_false (fun h => h0 (by omega))
      have HS := hide (nb_src hc)
      have HP := hide hp
      have HL := hide hl
      obtain ⟨L, hL⟩ : ∃ L, L = flat Nb.cells l := ⟨_, rfl⟩
      have HN : Hid (L.length = l.length * 3) := by rw [hL]; exact flat_length nb_len l
      have HO : Hid (∀ u ∈ L, u.oneCell' = true) := by rw [hL]; exact flat_one nb_one l
      rw [← hL] at HS ⊢
      clear hc hp hl hL h0
      generalize l.length = n at *
      go_enter Tryz.func134, Tryz.ntmps134
      go_wp2_with (first
        | (at_make; refine wpList_make_full _ rfl _ _ 23 rfl w.heap.size 29 i0 _ 3 Tryz.underlying23 hi0 hz0 hz1 .i64 .i64 _ _ n rfl rfl rfl rfl (by rw [hz2]; have := HL.out; omega) (by unfold maxLen; have := HL.out; omega) (Nat.le_refl _) ?_; intro W0 hm0 hg0; have R0 := hide (made_row hm0); have N0 := hide (len_made hm0); have B0 := hide (below_made hg0); clear hm0 hg0)
        | (refine wpList_copyC rfl _ _ 23 23 rfl 29 3 Tryz.underlying23 sizeNb w.heap.size 0 n n ⟨p, off, none⟩ n cap n rfl rfl _ 29 R0.out L (Nat.min_self n) HN.out (fun j v hv => by rw [add8]; have := HS.out j v hv; rw [add8] at this; exact (B0.out.cell (p := ⟨p, off + j, none⟩) HP.out).trans this) (by rw [N0.out, HN.out]; omega) HO.out w.heap.size w B0.out (Nat.le_refl _) ?_; intro W1 HG1 hB1; rw [splice_all (by rw [N0.out, HN.out])] at HG1))
      go_ret
      exact ⟨_, rfl, .inr ⟨_, rfl, Nat.le_refl _, HG1.out⟩, hB1⟩
set_option maxHeartbeats 1000000 in
theorem copiedZ_any (a : Option Addr) (cap : Nat) (l : List Int) (w : World) (hr : RdZ w a l) (hl : l.length ≤ 1000000) : Calls Tryz.prog 135 #[.slice a l.length cap] w fun e w' => ∃ a', e = .returned (.slice a' l.length l.length) ∧ OwnR w' w.heap.size a' 3 (flat intC l) ∧ Below w.heap.size w w' := by
  obtain ⟨i0, hi0, hz0, hz1, hz2⟩ := info_parts Tryz.infoIn
  rcases hr with rfl | ⟨p, off, rfl, hp, hc⟩
  · rw [List.length_nil]
    go_enter Tryz.func135, Tryz.ntmps135
    go_wp2
    go_ret
    exact ⟨none, rfl, .inl ⟨rfl, rfl⟩, Below.refl _ _⟩
  · by_cases h0 : l.length = 0
    · obtain rfl : l = [] := List.length_eq_zero_iff.1 h0
      rw [List.length_nil]
      go_enter Tryz.func135, Tryz.ntmps135
      go_wp2
      go_ret
      exact ⟨none, rfl, .inl ⟨rfl, rfl⟩, Below.refl _ _⟩
    · have h1 : ((l.length : Int) == 0) = false := by rw [zero_eq, beq_eq_false_iff_ne]; exact h0
      have h2 : ((l.length : Int) = 0) = False := eq_false (fun h => h0 (by omega))
      have HS := hide (int_src hc)
      have HP := hide hp
      have HL := hide hl
      obtain ⟨L, hL⟩ : ∃ L, L = flat intC l := ⟨_, rfl⟩
      have HN : Hid (L.length = l.length * 1) := by rw [hL]; exact flat_length int_len l
      have HO : Hid (∀ u ∈ L, u.oneCell' = true) := by rw [hL]; exact flat_one int_one l
      rw [← hL] at HS ⊢
      clear hc hp hl hL h0
      generalize l.length = n at *
      go_enter Tryz.func135, Tryz.ntmps135
      go_wp2_with (first
        | (at_make; refine wpList_make_full _ rfl _ _ 24 rfl w.heap.size 3 i0 _ 1 Tryz.underlying24 hi0 hz0 hz1 .i64 .i64 _ _ n rfl rfl rfl rfl (by rw [hz2]; have := HL.out; omega) (by unfold maxLen; have := HL.out; omega) (Nat.le_refl _) ?_; intro W0 hm0 hg0; have R0 := hide (made_row hm0); have N0 := hide (len_made hm0); have B0 := hide (below_made hg0); clear hm0 hg0)
        | (refine wpList_copyC rfl _ _ 24 24 rfl 3 1 Tryz.underlying24 sizeIn w.heap.size 0 n n ⟨p, off, none⟩ n cap n rfl rfl _ 3 R0.out L (Nat.min_self n) HN.out (fun j v hv => by rw [add8]; have := HS.out j v hv; rw [add8] at this; exact (B0.out.cell (p := ⟨p, off + j, none⟩) HP.out).trans this) (by rw [N0.out, HN.out]; omega) HO.out w.heap.size w B0.out (Nat.le_refl _) ?_; intro W1 HG1 hB1; rw [splice_all (by rw [N0.out, HN.out])] at HG1))
      go_ret
      exact ⟨_, rfl, .inr ⟨_, rfl, Nat.le_refl _, HG1.out⟩, hB1⟩
end Go.Proofs.YtbemfjdloeipmaaGreatDoor
/- package cells: an array with another cell. -/
namespace Go.Proofs.YtbemfjdloeipmaaGreatDoor
open Go.RowKit

theorem aggNb : ∀ w, (isAgg 29).run Tryz.prog w = .ok true w := fun w => by kernel_rfl
theorem szNb : ∀ w, (sizeOf 29).run Tryz.prog w = .ok 3 w := fun w => by kernel_rfl
theorem aggAr : ∀ w, (isAgg 93).run Tryz.prog w = .ok true w := fun w => by kernel_rfl
theorem szAr : ∀ w, (sizeOf 93).run Tryz.prog w = .ok 7 w := fun w => by kernel_rfl
theorem ar_one (name : ByteArray) (kind aw rate burst : Int) (v u : Option Addr × Nat × Nat) : ∀ x ∈ [Value.string name, .int .u8 kind, .int .i64 aw, .int .i64 rate, .int .i64 burst, .slice v.1 v.2.1 v.2.2, .slice u.1 u.2.1 u.2.2], x.oneCell' = true := fun x hx => by
  simp only [List.mem_cons, List.not_mem_nil, or_false] at hx
  rcases hx with rfl | rfl | rfl | rfl | rfl | rfl | rfl <;> rfl
theorem flat_len3 (l : List Nb) : (flat Nb.cells l).length = l.length * 3 := flat_length nb_len l
theorem ownR_some {W : World} {B : Nat} {a : Option Addr} {t : TypeId} {cs : List Value} (h : OwnR W B a t cs) (hn : 0 < cs.length) : ∃ g, a = some ⟨g, 0, none⟩ ∧ B ≤ g ∧ W.heap[g]? = some (.cells cs.toArray t (0, 0)) := by
  rcases h with ⟨h1, _⟩ | h
  · rw [h1] at hn; simp at hn
  · exact h
theorem ownR_other {W W' : World} {B : Nat} {a : Option Addr} {t : TypeId} {cs : List Value} (h : OwnR W B a t cs) {g : Nat} {u : TypeId} {ds : Array Value} {fr : Nat × Nat} (hg : W.heap[g]? = some (.cells ds u fr)) (hne : t ≠ u) (hf : Fr (· = g) W W') : OwnR W' B a t cs := by
  rcases h with h | ⟨b, h1, h2, h3⟩
  · exact .inl h
  · refine .inr ⟨b, h1, h2, (hf.block b (lt_heap h3) (fun e => ?_)).trans h3⟩
    subst e
    rw [h3] at hg
    injection hg with hg
    injection hg with _ ht _
    exact hne ht
set_option maxRecDepth 100000 in
set_option maxHeartbeats 4000000 in
theorem with_any (x : ArL) (i : Nat) (b : Nb) (w : World) (hx : ArR w x) (hn : x.a.cs.length ≤ 1000000) (hl : x.a.ls.length ≤ 1000000) (hi : i < x.a.cs.length) :
    Calls Tryz.prog 26 #[x.val, .int .i64 i, b.val] w fun e w' => ∃ ca la, e = .returned (.agg #[.string x.a.name, .int .u8 x.a.kind, .int .i64 x.a.w, .int .i64 x.a.rate, .int .i64 x.a.burst, .slice ca x.a.cs.length x.a.cs.length, .slice la x.a.ls.length x.a.ls.length]) ∧ OwnR w' w.heap.size ca 29 (flat Nb.cells (x.a.cs.set i b)) ∧ OwnR w' w.heap.size la 3 (flat intC x.a.ls) ∧ Below w.heap.size w w' := by
  have HN : Hid (∀ W, Below w.heap.size w W → _) := fun W hb => copiedN_any x.ca x.cc x.a.cs W (hx.cs.below hb) hn
  have HZ : Hid (∀ W, Below w.heap.size w W → _) := fun W hb => copiedZ_any x.la x.lc x.a.ls W (hx.ls.below hb) hl
  have HS := hide (splice_set nb_len x.a.cs i b hi)
  have HL := hide (flat_len3 x.a.cs)
  have hiI : ((i : Int) < (x.a.cs.length : Int)) := by omega
  have HI := hide hi
  clear hx hn hl hi
  obtain ⟨⟨name, kind, aw, rate, burst, cs, ls⟩, ca, cc, la, lc⟩ := x
  simp only [ArL.val] at *
  suffices H : ∀ Q : Ending → World → Prop, (∀ ca la W', OwnR W' w.heap.size ca 29 (flat Nb.cells (cs.set i b)) → OwnR W' w.heap.size la 3 (flat intC ls) → Below w.heap.size w W' → Q (.returned (.agg #[.string name, .int .u8 kind, .int .i64 aw, .int .i64 rate, .int .i64 burst, .slice ca cs.length cs.length, .slice la ls.length ls.length])) W') → Calls Tryz.prog 26 #[.agg #[.string name, .int .u8 kind, .int .i64 aw, .int .i64 rate, .int .i64 burst, .slice ca cs.length cc, .slice la ls.length lc], .int .i64 i, b.val] w Q from
    H _ (fun ca la W' h1 h2 h3 => ⟨ca, la, rfl, h1, h2, h3⟩)
  intro Q hQ
  have HQ := hide hQ
  clear hQ
  generalize flat intC ls = LS at *
  generalize flat Nb.cells (cs.set i b) = CS' at *
  generalize flat Nb.cells cs = CS at *
  generalize cs.length = n1 at *
  generalize ls.length = n2 at *
  have HB : Hid (b.val = .agg b.cells.toArray ∧ b.cells.length = 3 ∧ ∀ v ∈ b.cells, v.oneCell' = true) := ⟨rfl, rfl, nb_one b⟩
  obtain ⟨bw, bh, bl⟩ := b
  simp only [Nb.val] at *
  go_enter Tryz.func26, Tryz.ntmps26
  go_wp2_with fail
  refine (HN.out _ (below3 _ _ _ _)).mono ?_
  rintro e w1 ⟨ca1, rfl, ho, hb⟩
  have c1 := heap_below hb (heap_past _ (heap_past _ (heap_alloc_new _ _)))
  have c2 := heap_below hb (heap_past _ (heap_snd _ _ _ _))
  have c3 := heap_below hb (heap_trd _ _ _ _ _)
  obtain ⟨p0, p1, p2, p3, p4, p5, p6⟩ := at7 c1
  have HB1 := hide (bstep (below3 _ _ _ _) hb)
  have hsz : w.heap.size + 3 ≤ w1.heap.size := by have := hb.size; simp at this; omega
  have HO1 := hide (ho.mono (B' := w.heap.size + 3) (by simp))
  have C1 := hide c1
  have C2 := hide c2
  have C3 := hide c3
  have f5 := softA c1 5
  have HZ1 := hide hsz
  clear ho hb c1 c2 c3 hsz
  go_wp2_with fail
  refine (HZ.out _ (HB1.out.setCell (Nat.le_refl _) _)).mono ?_
  rintro e w2 ⟨la1, rfl, ho, hb⟩
  have d1 : w2.heap[w.heap.size]? = some (.cells #[.string name, .int .u8 kind, .int .i64 aw, .int .i64 rate, .int .i64 burst, .slice ca1 n1 n1, .slice la n2 lc] 93 (0, 0)) := heap_below hb (heap_setCell_same C1.out _)
  have d2 := heap_below hb ((Below.heap_setCell _ _ _ _ (by simp)).trans C2.out)
  have d3 := heap_below hb ((Below.heap_setCell _ _ _ _ (by simp; omega)).trans C3.out)
  have HB2 := hide (bstep (HB1.out.setCell (p := ⟨w.heap.size, 5, none⟩) (Nat.le_refl _) (.slice ca1 n1 n1)) hb)
  have HO2 := hide ((HO1.out.set ⟨w.heap.size, 5, none⟩ (.slice ca1 n1 n1) (by simp)).below hb)
  have HO3 := hide (ho.mono (B' := w.heap.size + 3) (by have := HZ1.out; simp [World.setCell]; omega))
  have e1 : (w2.setCell ⟨w.heap.size, 6, none⟩ (.slice la1 n2 n2)).heap[w.heap.size]? = some (.cells #[.string name, .int .u8 kind, .int .i64 aw, .int .i64 rate, .int .i64 burst, .slice ca1 n1 n1, .slice la1 n2 n2] 93 (0, 0)) := heap_setCell_same d1 _
  have e2 := (Below.heap_setCell w2 ⟨w.heap.size, 6, none⟩ (.slice la1 n2 n2) _ (by simp)).trans d2
  have e3 := (Below.heap_setCell w2 ⟨w.heap.size, 6, none⟩ (.slice la1 n2 n2) _ (by simp; omega)).trans d3
  have HO4 := hide (HO2.out.set ⟨w.heap.size, 6, none⟩ (.slice la1 n2 n2) (by simp))
  have HO5 := hide (HO3.out.set ⟨w.heap.size, 6, none⟩ (.slice la1 n2 n2) (by simp))
  have HB3 := hide (HB2.out.setCell (p := ⟨w.heap.size, 6, none⟩) (Nat.le_refl _) (.slice la1 n2 n2))
  obtain ⟨g, rfl, hg1, hg2⟩ := ownR_some HO4.out (by rw [HL.out]; have := HI.out; omega)
  have G2 := hide hg2
  have G1 := hide hg1
  have E1 := hide e1
  have E3 := hide e3
  obtain ⟨r0, r1, r2, r3, r4, r5, r6⟩ := at7 d1
  have f6 := softA d1 6
  obtain ⟨s0, s1, s2, -⟩ := at3 d2
  obtain ⟨s0', s1', s2', -⟩ := at3 e2
  clear ho hb d1 d2 d3 e1 e2 e3 hg1 hg2 HO1 HO2 HO3
  go_wp2_with (first
    | (refine wpList_storeW rfl 29 _ _ rfl g (i * 3) [.int .i64 bw, .int .u64 bh, .int .u64 bl] CS 29 rfl rfl szNb G2.out (by rw [HL.out]; have := HI.out; simp; omega) HB.out.2.2 ?_; intro w4 HG4 hF4; have k1 := (hF4.block _ (lt_heap E1.out) (by have := G1.out; simp; omega)).trans E1.out; have k3 := (hF4.block _ (lt_heap E3.out) (by have := G1.out; simp; omega)).trans E3.out; obtain ⟨t0, t1, t2, t3, t4, t5, t6⟩ := at7 k1; have K3 := hide k3; have F4 := hide hF4; clear k1 k3 hF4)
    | (refine wpList_storeA rfl 93 _ _ rfl (w.heap.size + 1 + 1) [.string name, .int .u8 kind, .int .i64 aw, .int .i64 rate, .int .i64 burst, .slice (some ⟨g, 0, none⟩) n1 n1, .slice la1 n2 n2] _ 93 rfl rfl szAr K3.out rfl (ar_one name kind aw rate burst (some ⟨g, 0, none⟩, n1, n1) (la1, n2, n2)) ?_; intro w5 hw5; have HW5 := hide hw5; clear hw5))
  have R5 : w5.heap[w.heap.size + 1 + 1]? = some (.cells #[.string name, .int .u8 kind, .int .i64 aw, .int .i64 rate, .int .i64 burst, .slice (some ⟨g, 0, none⟩) n1 n1, .slice la1 n2 n2] 93 (0, 0)) := by rw [HW5.out]; exact got0 K3.out rfl
  have F5 : Fr (· = w.heap.size + 1 + 1) w4 w5 := by rw [HW5.out]; exact fr_all _ _ _ _
  refine bodyPost_ret (res_cell (cs := [.string name, .int .u8 kind, .int .i64 aw, .int .i64 rate, .int .i64 burst, .slice (some ⟨g, 0, none⟩) n1 n1, .slice la1 n2 n2]) Tryz.results26 (by simp [Act.put]) aggAr szAr R5) rfl ?_
  refine HQ.out _ _ _ ?_ ?_ ?_
  · rw [← HS.out]
    exact ((OwnR.fr (B := w.heap.size + 3) (.inr ⟨g, rfl, G1.out, HG4.out⟩) (by omega) F5).mono (by omega))
  · exact ((OwnR.fr (ownR_other HO5.out G2.out (by decide) F4.out) (by omega) F5).mono (by omega))
  · have h3 := HB3.out.size
    have h4 := F4.out.size
    exact (HB3.out.trans (F4.out.below (fun b e => by have := G1.out; omega) h3)).trans (F5.below (fun b e => by omega) (Nat.le_trans h3 h4))
end Go.Proofs.YtbemfjdloeipmaaGreatDoor
