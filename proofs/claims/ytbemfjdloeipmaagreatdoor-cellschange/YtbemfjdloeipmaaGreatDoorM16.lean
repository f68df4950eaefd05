/- Pieces of the proof: CfD. -/
import Derived.Test.YtbemfjdloeipmaaGreatDoorM14
import Derived.Test.YtbemfjdloeipmaaGreatDoorM10
import Derived.Test.YtbemfjdloeipmaaGreatDoorM15
import Derived.Maps.AppendAt
/- The document's own with (chapter 14): an array with another cell, its lists copied. -/
namespace Go.Proofs.YtbemfjdloeipmaaGreatDoor
open Go.RowKit

theorem own_open {W : World} {B e c g n cap : Nat} {xs : List Value} (h : W.ownsRow B e c (.slice (some ⟨g, 0, none⟩) n cap) n xs) : B ≤ g ∧ ∃ cur : List Value, W.heap[g]? = some (.cells cur.toArray e (0, 0)) ∧ n ≤ cap ∧ cap ≤ maxLen ∧ cur.length = cap * c ∧ cur.take (n * c) = xs := by
  rcases h.2 with ⟨h1, _⟩ | ⟨g', cap', cur, h1, h2, h3, h4, h5, h6, h7⟩
  · cases h1
  · injection h1 with e1 e2 e3
    injection e1 with e1
    injection e1 with e1
    subst e1 e3
    exact ⟨h2, cur.toList, by simpa using h3, h4, h5, by simpa using h6, h7⟩
theorem own_shut {W : World} {B e c g n cap : Nat} {xs cur : List Value} (hB : B ≤ g) (h3 : W.heap[g]? = some (.cells cur.toArray e (0, 0))) (h4 : n ≤ cap) (h5 : cap ≤ maxLen) (h6 : cur.length = cap * c) (h7 : cur.take (n * c) = xs) (hx : xs.length = n * c) : W.ownsRow B e c (.slice (some ⟨g, 0, none⟩) n cap) n xs :=
  ⟨hx, .inr ⟨g, cap, cur.toArray, rfl, hB, h3, h4, h5, by simpa using h6, by simpa using h7⟩⟩
theorem splice_take (cur cs : List Value) (off m : Nat) (h1 : off + cs.length ≤ m) (h2 : m ≤ cur.length) : (splice cur off cs).take m = splice (cur.take m) off cs := by
  unfold splice
  rw [List.take_append, List.take_append, List.length_take, Nat.min_eq_left (by omega), List.take_of_length_le (l := cur.take off) (by simp; omega), List.take_of_length_le (l := cs) (by omega), List.take_take, Nat.min_eq_left (by omega), List.drop_take]
  congr 3
  omega
theorem wpList_copyON {w : World} {ops : Array Oper} {rest : List Oper} {o : Oper} {a : Act} {Q : Exit → Act → World → Prop} (hgd : o.guard = none) (s x : Operand) (ho : o.op = .call { callee := .builtin .append, args := #[s, x], argTypes := #[23, 23] })
    (hs : a.eval s = .slice none 0 0) (sa : Option Addr) (cap n : Nat) (l : List Nb) (hx : a.eval x = .slice sa n cap) (hr : RdN w sa l) (hnl : l.length = n) (hn : 0 < n) (hl : n ≤ 1000000)
    (h : ∀ a' cap' w', w'.ownsRow w.heap.size 29 3 (.slice a' n cap') n (flat Nb.cells l) → Below w.heap.size w w' → wpList Tryz.prog ops Q rest (a.put o.dst (.slice a' n cap')) w') :
    wpList Tryz.prog ops Q (o :: rest) a w := by
  subst hnl
  obtain ⟨i0, hi0, hz0, hz1, hz2⟩ := info_parts Tryz.infoNb
  obtain ⟨p, off, rfl, hp, hc⟩ := hr.some hn
  refine wpList_append_own_at w hgd s x 23 ho w.heap.size 29 i0 _ 3 24 Tryz.underlying23 hi0 hz0 hz1 hz2 rfl (by decide) _ 0 [] hs (World.ownsRow_nil _ _ _ _) ⟨p, off, none⟩ l.length cap (flat Nb.cells l) hx (flat_length nb_len l) (nb_src hc) (flat_one nb_one l) (by unfold maxLen; omega) (by omega) (Nat.le_refl _) ?_
  intro v' w' h1 h2 _ _
  rw [List.nil_append, Nat.zero_add] at h1
  obtain ⟨a1, c1, rfl⟩ := owR_shape h1
  exact h _ _ w' h1 ((Below.refl _ _).grown h2 (Nat.le_refl _) (fun k e => by cases e))
theorem Tryz.infoZ : (Tryz.prog.info? 3).map (fun i => (i.zero, i.size, i.bytes)) = some (some (.int .i64 0), 1, 8) := by kernel_rfl
theorem wpList_copyOZ {w : World} {ops : Array Oper} {rest : List Oper} {o : Oper} {a : Act} {Q : Exit → Act → World → Prop} (hgd : o.guard = none) (s x : Operand) (ho : o.op = .call { callee := .builtin .append, args := #[s, x], argTypes := #[24, 24] })
    (hs : a.eval s = .slice none 0 0) (sa : Option Addr) (cap n : Nat) (l : List Int) (hx : a.eval x = .slice sa n cap) (hr : RdZ w sa l) (hnl : l.length = n) (hn : sa = none → cap = 0) (hl : n ≤ 1000000)
    (h : ∀ a' cap' w', w'.ownsRow w.heap.size 3 1 (.slice a' n cap') n (flat intC l) → Below w.heap.size w w' → wpList Tryz.prog ops Q rest (a.put o.dst (.slice a' n cap')) w') :
    wpList Tryz.prog ops Q (o :: rest) a w := by
  subst hnl
  obtain ⟨i0, hi0, hz0, hz1, hz2⟩ := info_parts Tryz.infoZ
  have key : ∀ (ad : Addr) (hsrc : ∀ j u, (flat intC l)[j]? = some u → w.cell? (ad.add j) = some u), a.eval x = .slice (some ad) l.length cap → wpList Tryz.prog ops Q (o :: rest) a w := fun ad hsrc hx' => by
    refine wpList_append_own_at w hgd s x 24 ho w.heap.size 3 i0 _ 1 8 Tryz.underlying24 hi0 hz0 hz1 hz2 rfl (by decide) _ 0 [] hs (World.ownsRow_nil _ _ _ _) ad l.length cap (flat intC l) hx' (flat_length int_len l) hsrc (flat_one int_one l) (by unfold maxLen; omega) (by omega) (Nat.le_refl _) ?_
    intro v' w' h1 h2 _ _
    rw [List.nil_append, Nat.zero_add] at h1
    obtain ⟨a1, c1, rfl⟩ := owR_shape h1
    exact h _ _ w' h1 ((Below.refl _ _).grown h2 (Nat.le_refl _) (fun k e => by cases e))
  rcases hr with rfl | ⟨p, off, rfl, hp, hc⟩
  · cases sa with
    | none =>
      have hx2 : a.eval x = .slice none 0 0 := by rw [hx, hn rfl]; rfl
      refine wpList_append_own_none hgd s x 24 ho w.heap.size 3 i0 1 Tryz.underlying24 hi0 _ 0 [] hs (World.ownsRow_nil _ _ _ _) hx2 ?_
      exact h none 0 w (World.ownsRow_nil _ _ _ _) (Below.refl _ _)
    | some q => exact key q (fun j u hu => by simp [flat] at hu) hx
  · exact key _ (int_src hc) hx
theorem own_fr1 {W W' : World} {B e c n : Nat} {v : Value} {xs : List Value} (h : W.ownsRow B e c v n xs) {b : Nat} (hp : b < B) (hf : Fr (· = b) W W') : W'.ownsRow B e c v n xs := owR_fr h hf (fun k hk e => by have := (World.ownsRow.lt h k hk).1; omega)
theorem own_set1 {W : World} {B e c n : Nat} {v : Value} {xs : List Value} (h : W.ownsRow B e c v n xs) (p : Addr) (u : Value) (hp : p.block < B) : (W.setCell p u).ownsRow B e c v n xs := own_fr1 h hp ((Fr.refl _ W).set _ _ rfl)
theorem own_other {W W' : World} {B e c n : Nat} {v : Value} {xs : List Value} (h : W.ownsRow B e c v n xs) {g : Nat} {u : TypeId} {ds : Array Value} {fr : Nat × Nat} (hg : W.heap[g]? = some (.cells ds u fr)) (hne : e ≠ u) (hf : Fr (· = g) W W') : W'.ownsRow B e c v n xs := owR_fr h hf (fun k hk ek => by
  subst ek
  rcases h.2 with ⟨rfl, _⟩ | ⟨g', cap, cur, rfl, _, hh, _⟩
  · cases hk
  · have e1 : g' = k := by simpa [Value.ownBlock] using hk
    subst e1
    rw [hh] at hg
    injection hg with hg
    injection hg with _ ht _
    exact hne ht)
theorem sz26 : ∀ w, (sizeOf 26).run Tryz.prog w = .ok 7 w := fun w => by kernel_rfl
theorem agg26 : ∀ w, (isAgg 26).run Tryz.prog w = .ok true w := fun w => by kernel_rfl
set_option maxRecDepth 100000 in
set_option maxHeartbeats 4000000 in
theorem refWith14_any (x : ArL) (i : Nat) (b : Nb) (w : World) (hx : ArR w x) (hln : x.la = none → x.lc = 0) (hn : x.a.cs.length ≤ 1000000) (hl : x.a.ls.length ≤ 1000000) (hi : i < x.a.cs.length) :
    Calls Tryz.prog 31 #[x.val, .int .i64 i, b.val] w fun e w' => ∃ ca cc la lc, e = .returned (.agg #[.string x.a.name, .int .u8 x.a.kind, .int .i64 x.a.w, .int .i64 x.a.rate, .int .i64 x.a.burst, .slice ca x.a.cs.length cc, .slice la x.a.ls.length lc]) ∧ w'.ownsRow w.heap.size 29 3 (.slice ca x.a.cs.length cc) x.a.cs.length (flat Nb.cells (x.a.cs.set i b)) ∧ w'.ownsRow w.heap.size 3 1 (.slice la x.a.ls.length lc) x.a.ls.length (flat intC x.a.ls) ∧ Below w.heap.size w w' := by
  have HN : Hid (∀ W, Below w.heap.size w W → RdN W x.ca x.a.cs) := fun W hb => hx.cs.below hb
  have HZ : Hid (∀ W, Below w.heap.size w W → RdZ W x.la x.a.ls) := fun W hb => hx.ls.below hb
  have HS := hide (splice_set nb_len x.a.cs i b hi)
  have HL := hide (flat_len3 x.a.cs)
  have HLS := hide (flat_len3 (x.a.cs.set i b))
  have hiI : ((i : Int) < (x.a.cs.length : Int)) := by omega
  have HI := hide hi
  have HLN := hide hln
  have H1 := hide hn
  have H2 := hide hl
  clear hx hn hl hi hln
  obtain ⟨⟨name, kind, aw, rate, burst, cs, ls⟩, ca, cc, la, lc⟩ := x
  simp only [ArL.val, List.length_set] at *
  suffices H : ∀ Q : Ending → World → Prop, (∀ ca cc la lc W', W'.ownsRow w.heap.size 29 3 (.slice ca cs.length cc) cs.length (flat Nb.cells (cs.set i b)) → W'.ownsRow w.heap.size 3 1 (.slice la ls.length lc) ls.length (flat intC ls) → Below w.heap.size w W' → Q (.returned (.agg #[.string name, .int .u8 kind, .int .i64 aw, .int .i64 rate, .int .i64 burst, .slice ca cs.length cc, .slice la ls.length lc])) W') → Calls Tryz.prog 31 #[.agg #[.string name, .int .u8 kind, .int .i64 aw, .int .i64 rate, .int .i64 burst, .slice ca cs.length cc, .slice la ls.length lc], .int .i64 i, b.val] w Q from
    H _ (fun ca cc la lc W' h1 h2 h3 => ⟨ca, cc, la, lc, rfl, h1, h2, h3⟩)
  intro Q hQ
  have HQ := hide hQ
  clear hQ
  generalize hn1 : cs.length = n1 at *
  generalize hn2 : ls.length = n2 at *
  have N1 := hide hn1
  have N2 := hide hn2
  clear hn1 hn2
  generalize hCS' : flat Nb.cells (cs.set i b) = CS' at *
  clear hCS'
  have HB : Hid (b.val = .agg b.cells.toArray ∧ b.cells.length = 3 ∧ ∀ v ∈ b.cells, v.oneCell' = true) := ⟨rfl, rfl, nb_one b⟩
  obtain ⟨bw, bh, bl⟩ := b
  simp only [Nb.val] at *
  go_enter Tryz.func31, Tryz.ntmps31
  go_wp2_with (first
    | (at_builtin; refine wpList_copyON rfl _ _ rfl rfl ca cc n1 cs rfl (HN.out _ (below3 _ _ _ _)) N1.out (by have := HI.out; omega) H1.out ?_; intro ca1 cc1 w1 ho hb; have c1 := heap_below hb (heap_past _ (heap_past _ (heap_alloc_new _ _))); have c2 := heap_below hb (heap_past _ (heap_snd _ _ _ _)); have c3 := heap_below hb (heap_trd _ _ _ _ _); obtain ⟨p0, p1, p2, p3, p4, p5, p6⟩ := at7 c1; have HB1 := hide (bstep (below3 _ _ _ _) hb); have hsz : w.heap.size + 3 ≤ w1.heap.size := (by have := hb.size; simp at this; omega); have HO1 := hide (owR_lower (B' := w.heap.size + 3) ho (by simp)); have C1 := hide c1; have C2 := hide c2; have C3 := hide c3; have f5 := softA c1 5; have HZ1 := hide hsz; clear ho hb c1 c2 c3 hsz)
    | (at_builtin; refine wpList_copyOZ rfl _ _ rfl rfl la lc n2 ls rfl (HZ.out _ (HB1.out.setCell (Nat.le_refl _) _)) N2.out HLN.out H2.out ?_; intro la1 lc1 w2 ho hb; have d1 : w2.heap[w.heap.size]? = some (.cells #[.string name, .int .u8 kind, .int .i64 aw, .int .i64 rate, .int .i64 burst, .slice ca1 n1 cc1, .slice la n2 lc] 26 (0, 0)) := heap_below hb (heap_setCell_same C1.out _); have d2 := heap_below hb ((Below.heap_setCell _ _ _ _ (by simp)).trans C2.out); have d3 := heap_below hb ((Below.heap_setCell _ _ _ _ (by simp; omega)).trans C3.out); have HB2 := hide (bstep (HB1.out.setCell (p := ⟨w.heap.size, 5, none⟩) (Nat.le_refl _) (.slice ca1 n1 cc1)) hb); have HO2 := hide (owR_below (own_set1 HO1.out ⟨w.heap.size, 5, none⟩ (.slice ca1 n1 cc1) (by simp)) hb); have HO3 := hide (owR_lower (B' := w.heap.size + 3) ho (by have := HZ1.out; simp [World.setCell]; omega)); have e1 : (w2.setCell ⟨w.heap.size, 6, none⟩ (.slice la1 n2 lc1)).heap[w.heap.size]? = some (.cells #[.string name, .int .u8 kind, .int .i64 aw, .int .i64 rate, .int .i64 burst, .slice ca1 n1 cc1, .slice la1 n2 lc1] 26 (0, 0)) := heap_setCell_same d1 _; have e2 := (Below.heap_setCell w2 ⟨w.heap.size, 6, none⟩ (.slice la1 n2 lc1) _ (by simp)).trans d2; have e3 := (Below.heap_setCell w2 ⟨w.heap.size, 6, none⟩ (.slice la1 n2 lc1) _ (by simp; omega)).trans d3; have HO4 := hide (own_set1 HO2.out ⟨w.heap.size, 6, none⟩ (.slice la1 n2 lc1) (by simp)); have HO5 := hide (own_set1 HO3.out ⟨w.heap.size, 6, none⟩ (.slice la1 n2 lc1) (by simp)); have HB3 := hide (HB2.out.setCell (p := ⟨w.heap.size, 6, none⟩) (Nat.le_refl _) (.slice la1 n2 lc1)); obtain ⟨g, cg, hgs⟩ := owR_some HO4.out (by have := HI.out; omega); injection hgs with hg1 hg2 hg3; subst hg1 hg3; clear hg2; obtain ⟨hgB, cur, hcur, hcap, hmax, hclen, hctake⟩ := own_open HO4.out; have G2 := hide hcur; have G1 := hide hgB; have G3 := hide hcap; have G4 := hide hmax; have G5 := hide hclen; have G6 := hide hctake; have E1 := hide e1; have E3 := hide e3; obtain ⟨r0, r1, r2, r3, r4, r5, r6⟩ := at7 d1; have f6 := softA d1 6; obtain ⟨s0, s1, s2, -⟩ := at3 d2; obtain ⟨s0', s1', s2', -⟩ := at3 e2; clear ho hb d1 d2 d3 e1 e2 e3 hgB hcur hcap hmax hclen hctake HO1 HO2 HO3)
    | (refine wpList_storeW rfl 29 _ _ rfl g (i * 3) [.int .i64 bw, .int .u64 bh, .int .u64 bl] cur 29 rfl rfl szNb G2.out (by rw [G5.out]; have := HI.out; have := G3.out; simp; omega) HB.out.2.2 ?_; intro w4 HG4 hF4; have k1 := (hF4.block _ (lt_heap E1.out) (by have := G1.out; simp; omega)).trans E1.out; have k3 := (hF4.block _ (lt_heap E3.out) (by have := G1.out; simp; omega)).trans E3.out; obtain ⟨t0, t1, t2, t3, t4, t5, t6⟩ := at7 k1; have K3 := hide k3; have F4 := hide hF4; clear k1 k3 hF4)
    | (refine wpList_storeA rfl 26 _ _ rfl (w.heap.size + 1 + 1) [.string name, .int .u8 kind, .int .i64 aw, .int .i64 rate, .int .i64 burst, .slice (some ⟨g, 0, none⟩) n1 cc1, .slice la1 n2 lc1] _ 26 rfl rfl sz26 K3.out rfl (ar_one name kind aw rate burst (some ⟨g, 0, none⟩, n1, cc1) (la1, n2, lc1)) ?_; intro w5 hw5; have HW5 := hide hw5; clear hw5))
  have R5 : w5.heap[w.heap.size + 1 + 1]? = some (.cells #[.string name, .int .u8 kind, .int .i64 aw, .int .i64 rate, .int .i64 burst, .slice (some ⟨g, 0, none⟩) n1 cc1, .slice la1 n2 lc1] 26 (0, 0)) := by rw [HW5.out]; exact got0 K3.out rfl
  have F5 : Fr (· = w.heap.size + 1 + 1) w4 w5 := by rw [HW5.out]; exact fr_all _ _ _ _
  refine bodyPost_ret (res_cell (cs := [.string name, .int .u8 kind, .int .i64 aw, .int .i64 rate, .int .i64 burst, .slice (some ⟨g, 0, none⟩) n1 cc1, .slice la1 n2 lc1]) Tryz.results31 (by simp [Act.put]) agg26 sz26 R5) rfl ?_
  refine HQ.out _ _ _ _ _ ?_ ?_ ?_
  · refine owR_lower (own_fr1 (B := w.heap.size + 3) (own_shut G1.out HG4.out G3.out G4.out ?_ ?_ ?_) (by omega) F5) (by omega)
    · have := G5.out; have := HI.out; have := G3.out; simp [splice]; omega
    · rw [splice_take _ _ _ _ (by have := HI.out; simp; omega) (by rw [G5.out]; exact Nat.mul_le_mul_right _ G3.out), G6.out]; exact HS.out
    · exact HLS.out
  · exact owR_lower (own_fr1 (own_other HO5.out G2.out (by decide) F4.out) (by omega) F5) (by omega)
  · have h3 := HB3.out.size
    have h4 := F4.out.size
    exact (HB3.out.trans (F4.out.below (fun b e => by have := G1.out; omega) h3)).trans (F5.below (fun b e => by omega) (Nat.le_trans h3 h4))
end Go.Proofs.YtbemfjdloeipmaaGreatDoor
