/- Pieces of the proof: QuI. -/
import Derived.Test.YtclhmggnkhnnlaaGreatDoorM18
/- package queue: Copies, walked. -/
namespace Go.Proofs.YtclhmggnkhnnlaaGreatDoor
open Go.RowKit Go.Shelf

attribute [local go_sem] Oper.semAt_some
/- What is asked of the arguments. -/
structure Arg (W : World) (p : Ps) (ga : Option Addr) (gs : List Gp) : Prop where
  rx : RdA W p.pa p.xs
  nx : p.pa = none → p.pc = 0
  lx : p.xs.length ≤ 140737488355328
  re : RdG Ef.cells 10 W p.ea p.es
  rgs : RdG Gp.cells 1 W ga gs
  rz : ∀ g ∈ gs, RdZ W g.a g.ps ∧ g.ps.length ≤ 1000000
  le : p.es.length ≤ 1000000
  lg : gs.length ≤ 1000000
theorem okbA {W : World} {a : Option Addr} {xs : List Nat} (h : RdA W a xs) : Okb (fun b => b < W.heap.size) a xs := by
  rcases h with h | ⟨p, off, rfl, hp, _⟩
  · exact .inl h
  · exact .inr (fun q e => by cases e; exact hp)
theorem okbZ {W : World} {a : Option Addr} {xs : List Int} (h : RdZ W a xs) : Okb (fun b => b < W.heap.size) a xs := by
  rcases h with h | ⟨p, off, rfl, hp, _⟩
  · exact .inl h
  · exact .inr (fun q e => by cases e; exact hp)
theorem okbG {α : Type} {f : α → List Value} {c : Nat} {W : World} {a : Option Addr} {xs : List α} (h : RdG f c W a xs) : Okb (fun b => b < W.heap.size) a xs := by
  rcases h with h | ⟨p, off, rfl, hp, _⟩
  · exact .inl h
  · exact .inr (fun q e => by cases e; exact hp)
theorem Okb.mono' {α : Type} {ok ok' : Nat → Prop} {a : Option Addr} {l : List α} (h : Okb ok a l) (hi : ∀ b, ok b → ok' b) : Okb ok' a l := by
  rcases h with h | h
  · exact .inl h
  · exact .inr (fun q e => hi _ (h q e))
theorem rdZ_below {W W' : World} {a : Option Addr} {xs : List Int} (h : RdZ W a xs) (hb : Below W.heap.size W W') : RdZ W' a xs := h.below hb
theorem Arg.src {W W' : World} {p : Ps} {ga : Option Addr} {gs : List Gp} (h : Arg W p ga gs) (hb : Below W.heap.size W W') {ok : Nat → Prop} (hok : ∀ b, b < W.heap.size → ok b) {pb gb gc : Nat} (op : ok pb) (og : ok gb) (hp : W'.heap[pb]? = some (.cells p.cells.toArray 27 (0, 0))) (hg : GrS W' gb ga gs.length gc) (ha : ∀ e ∈ p.es, asks gs.length e = false) : Src ok W' pb gb p ga gc gs :=
  ⟨op, hp, og, hg, (okbA h.rx).mono' hok, h.rx.below hb, h.nx, h.lx, (okbG h.re).mono' hok, h.re.below hb, (okbG h.rgs).mono' hok, h.rgs.below hb, fun g hg => ⟨(okbZ (h.rz g hg).1).mono' hok, (h.rz g hg).1.below hb, (h.rz g hg).2⟩, ha, h.le, h.lg⟩
theorem cells_newE (w : World) (cs : List Value) (t : TypeId) : ∀ j u, cs[j]? = some u → (w.alloc (.cells cs.toArray t)).cell? ((⟨w.heap.size, 0, none⟩ : Addr).add j) = some u := by
  intro j u hj
  rw [add8, Nat.zero_add]
  simp [hj]
theorem copies_each (n : Nat) (hn : 1 ≤ n) (n₀ pb gb gc : Nat) (ga : Option Addr) (E : Nat → Prop) (p : Ps) (gs : List Gp) (w : World) (hs : Src (fun b => b < n₀ ∧ ¬ E b) w pb gb p ga gc gs) (hn0 : n₀ ≤ w.heap.size) :
    Each Fence.wide n Tryz.prog 134 #[.pointer (some ⟨pb, 0, none⟩), .pointer (some ⟨gb, 0, none⟩)] encC (ElC p.xs) (KeepBut E n₀) (fun ys => ys.map Cy.port = wl gs p ∧ ∀ y ∈ ys, y.xs = p.xs) (wl gs p).length w := fun l J W hW hY hJ =>
  iter_in n hn l n₀ pb gb gc ga E p gs J W (hs.keep hW.size (fun b hb => hW.block b (by omega))) (Nat.le_trans hn0 hW.size) hY hJ
theorem copies_no (p : Ps) (ga : Option Addr) (gc : Nat) (gs : List Gp) (w : World) (ha : Arg w p ga gs) (hk : p.es.any (asks gs.length) = true) : Calls Tryz.prog 8 #[.slice ga gs.length gc, .agg p.cells.toArray] w fun e w' => e = .returned (.tuple #[.slice none 0 0, .int .i64 1]) ∧ Below w.heap.size w w' := by
  have HC : Hid (∀ W, Below w.heap.size w W → GrS W w.heap.size ga gs.length gc → _) := fun W hb hg => containsEf_any p.ea p.ec p.es w.heap.size ga gs.length gc W (ha.re.below hb) (by have := ha.le; omega) hg
  rw [hk] at HC
  have c5 : ((w.alloc (.cells #[.slice ga gs.length gc] 22)).alloc (.cells p.cells.toArray 27)).cell? ⟨w.heap.size + 1, 5, none⟩ = some (.slice p.ea p.es.length p.ec) := cellA (heap_snd _ _ _ _) 5
  have HB := hide (below2 w (.cells #[.slice ga gs.length gc] 22) (.cells p.cells.toArray 27))
  have HG : Hid (GrS ((w.alloc (.cells #[.slice ga gs.length gc] 22)).alloc (.cells p.cells.toArray 27)) w.heap.size ga gs.length gc) := heap_past _ (heap_alloc_new w _)
  clear ha hk
  generalize p.cells.toArray = cs at *
  go_enter Tryz.func8, Tryz.ntmps8
  go_wp2_with fail
  refine (HC.out _ HB.out HG.out).mono ?_
  rintro e w1 ⟨rfl, hb⟩
  go_wp2
  go_ret2
  exact ⟨rfl, bstep HB.out hb⟩
set_option maxRecDepth 100000 in
set_option maxHeartbeats 8000000 in
theorem copies_yes (p : Ps) (ga : Option Addr) (gc : Nat) (gs : List Gp) (w : World) (ha : Arg w p ga gs) (hk : p.es.any (asks gs.length) = false) (hl : (wl gs p).length ≤ 100000000) : Calls Tryz.prog 8 #[.slice ga gs.length gc, .agg p.cells.toArray] w fun e w' => ∃ v ys, e = .returned (.tuple #[v, .int .i64 0]) ∧ w'.ownsRow w.heap.size 80 2 v ys.length (flat Cy.cells ys) ∧ ys.map Cy.port = wl gs p ∧ (∀ y ∈ ys, y.xs = p.xs ∧ Own8 w' w.heap.size (.slice y.a y.xs.length y.cap) y.xs) ∧ ys.Pairwise (fun y z => ∀ b b', (Value.slice y.a y.xs.length y.cap).ownBlock = some b → (Value.slice z.a z.xs.length z.cap).ownBlock = some b' → b < b') ∧ Below w.heap.size w w' := by
  have HC : Hid (∀ W, Below w.heap.size w W → GrS W w.heap.size ga gs.length gc → _) := fun W hb hg => containsEf_any p.ea p.ec p.es w.heap.size ga gs.length gc W (ha.re.below hb) (by have := ha.le; omega) hg
  rw [hk] at HC
  have HK : Hid (∀ e ∈ p.es, asks gs.length e = false) := fun e he => by
    rw [List.any_eq_false] at hk
    simpa using hk e he
  have HA := hide ha
  have c5 : ((w.alloc (.cells #[.slice ga gs.length gc] 22)).alloc (.cells p.cells.toArray 27)).cell? ⟨w.heap.size + 1, 5, none⟩ = some (.slice p.ea p.es.length p.ec) := cellA (heap_snd _ _ _ _) 5
  have HB := hide (below2 w (.cells #[.slice ga gs.length gc] 22) (.cells p.cells.toArray 27))
  have HG : Hid (GrS ((w.alloc (.cells #[.slice ga gs.length gc] 22)).alloc (.cells p.cells.toArray 27)) w.heap.size ga gs.length gc) := heap_past _ (heap_alloc_new w _)
  have HPS : Hid (((w.alloc (.cells #[.slice ga gs.length gc] 22)).alloc (.cells p.cells.toArray 27)).heap[w.heap.size + 1]? = some (.cells p.cells.toArray 27 (0, 0))) := heap_snd _ _ _ _
  have HCP : Hid (∀ W, _) := fun W => copies_any p ga gs.length gc W
  have HP6 : Hid (p.cells.length = 6) := rfl
  have HL := hide hl
  clear ha hk hl
  obtain ⟨pcs, hpc⟩ : ∃ pcs, pcs = p.cells := ⟨_, rfl⟩
  rw [← hpc] at HG HPS HB c5 HCP HP6 ⊢
  have HPC := hide hpc
  clear hpc
  refine (callsIn_wide (n := 6)).1 ?_
  refine callsIn_of_wp_marks Tryz.func8 rfl trivial ?_ rfl
  simp only [Tryz.ntmps8, List.size_toArray, List.length_cons, List.length_nil, Nat.reduceAdd, Nat.reduceSub, Array.replicate_succ, Array.replicate_zero, List.push_toArray, List.append_toArray, List.nil_append, List.cons_append]
  gi_wp2_with fail
  refine ⟨trivial, (callsIn_wide.2 (HC.out _ HB.out HG.out)).mono ?_⟩
  rintro e w1 ⟨rfl, hb1⟩
  have B1 := hide (bstep HB.out hb1)
  have G1 := hide (heap_past (.cells #[.slice none 0 0] 35) (heap_below hb1 HG.out))
  have P1 := hide (heap_past (.cells #[.slice none 0 0] 35) (heap_below hb1 HPS.out))
  have N1 := hide (heap_alloc_new w1 (.cells #[.slice none 0 0] 35))
  have Z1 : Hid (w.heap.size + 2 ≤ w1.heap.size) := by have := hb1.size; simp only [World.size_alloc] at this; exact this
  have gc0 := at1 G1.out
  clear hb1 c5
  gi_wp2_with (refine wpListIn_loadA rfl 27 _ rfl (w.heap.size + 1) pcs 27 rfl aggPs (by rw [HP6.out]; exact szPs) P1.out ?_)
  refine ⟨trivial, (callsIn_wide.2 (HCP.out _)).mono ?_⟩
  rintro e w2 ⟨rfl, hw2⟩
  simp only [World.size_alloc]
  have hz2 : w2.heap.size = w1.heap.size + 3 := by rw [hw2]; simp
  have b12 : Below w1.heap.size w1 w2 := by rw [hw2]; exact bstep (below1 w1 _) (below2 _ _ _)
  have B2 := hide (bstep B1.out b12)
  have P2 : w2.heap[w1.heap.size + 1 + 1]? = some (.cells p.cells.toArray 27 (0, 0)) := by
    rw [hw2, ← HPC.out]
    have := heap_snd (w1.alloc (.cells #[.slice none 0 0] 35)) (.cells #[.slice ga gs.length gc] 22) pcs.toArray 27
    rw [World.size_alloc] at this
    exact this
  have G2 : GrS w2 (w1.heap.size + 1) ga gs.length gc := by
    rw [hw2]
    have := heap_past (.cells pcs.toArray 27) (heap_alloc_new (w1.alloc (.cells #[.slice none 0 0] 35)) (.cells #[.slice ga gs.length gc] 22))
    rw [World.size_alloc] at this
    exact this
  have X2 : w2.heap[w1.heap.size]? = some (.cells #[.slice none 0 0] 35 (0, 0)) := by
    rw [hw2]; exact heap_past _ (heap_past _ (heap_alloc_new w1 _))
  have HSRC : Hid (Src (fun b => b < w2.heap.size ∧ ¬ b = w1.heap.size) w2 (w1.heap.size + 1 + 1) (w1.heap.size + 1) p ga gc gs) := HA.out.src B2.out (fun b hb => ⟨by have := Z1.out; omega, by have := Z1.out; omega⟩) ⟨by omega, by omega⟩ ⟨by omega, by omega⟩ P2 G2 HK.out
  have HI0 : Hid (CpI w w2.heap.size w1.heap.size p.xs [] w2) := ⟨B2.out, Nat.le_refl _, ⟨_, X2, World.ownsRow_nil _ _ _ _⟩, fun y h => by simp at h, List.Pairwise.nil⟩
  have HZ2 := hide hz2
  clear hw2 hz2 b12 P2 G2 X2 gc0
  gi_wp2
  refine' rangeFunc_each rfl (by omega) (gf := 134) (lb := #[.pointer (some ⟨w1.heap.size + 1 + 1, 0, none⟩), .pointer (some ⟨w1.heap.size + 1, 0, none⟩)]) rfl trivial (enters_of Tryz.func134 (by kernel_rfl) rfl)
    (n₀ := w2.heap.size) (E := fun b => b = w1.heap.size) (Nat.le_refl _) (copies_each _ (by omega) w2.heap.size (w1.heap.size + 1 + 1) (w1.heap.size + 1) gc ga _ p gs w2 HSRC.out (Nat.le_refl _)) (Below.refl _ _) (fun _ => rfl)
    (fun pre W => CpI w w2.heap.size w1.heap.size p.xs pre W) (fun _ _ _ hb h => h.below hb) (fun _ _ _ _ o' hl hh ho h => h.put (by have := HZ2.out; omega) (by have := B2.out.size; omega) o' hl hh ho) HI0.out (fun x b => { tmps := #[.slice ga gs.length gc, .agg pcs.toArray, .pointer (some ⟨w.heap.size, 0, none⟩), .pointer (some ⟨w.heap.size + 1, 0, none⟩), .slice none 0 0, .int .i64 0, .pointer (some ⟨w1.heap.size, 0, none⟩), .pointer (some ⟨b, 0, none⟩), .pointer (some ⟨w.heap.size + 1, 5, none⟩), .slice p.ea p.es.length p.ec, .func (.func 26) #[] #[.pointer (some ⟨w.heap.size, 0, none⟩)], .bool false, .slice ga gs.length gc, .agg pcs.toArray, .func (.func 134) #[] #[.pointer (some ⟨w1.heap.size + 1 + 1, 0, none⟩), .pointer (some ⟨w1.heap.size + 1, 0, none⟩)], .agg #[.int .i64 x.port, .slice x.a x.xs.length x.cap], undef, undef, undef, undef, undef], defers := [] })
    (fun _ pre x b W => CpA w w2.heap.size w1.heap.size p.xs pre x b W ∧ pre.length < (wl gs p).length) (fun _ _ _ _ _ _ o' hl hh h => ⟨h.1.put (by have := HZ2.out; omega) (by have := B2.out.size; omega) o' hl hh rfl, h.2⟩) ?assign ?body ?done
  case assign =>
    rintro l pre x W0 W1 - - hi hlen hb hel
    have HI := hide hi
    have HB0 := hide hb
    have HE := hide hel
    have HLN := hide hlen
    clear hi hlen hb hel
    dsimp only [encC]
    obtain ⟨cb, hcb⟩ : ∃ cb, cb = W1.heap.size := ⟨_, rfl⟩
    have BB1 : Hid (Below W1.heap.size W1 (W1.alloc (.cells #[.int .i64 0, .slice none 0 0] 80))) := below1 W1 _
    have ZZ1 : Hid ((W1.alloc (.cells #[.int .i64 0, .slice none 0 0] 80)).heap[W1.heap.size]? = some (.cells #[.int .i64 0, .slice none 0 0] 80 (0, 0))) := heap_alloc_new W1 _
    gi_wp2_with (refine wpListIn_storeA rfl 80 _ _ rfl W1.heap.size [.int .i64 x.port, .slice x.a x.xs.length x.cap] _ 80 rfl rfl szCy ZZ1.out rfl (by simp [Value.oneCell']) ?_; intro v2 hv2; have z2 : v2.heap[W1.heap.size]? = some (.cells ([.int .i64 x.port, .slice x.a x.xs.length x.cap] : List Value).toArray 80 (0, 0)) := (by rw [hv2.out]; exact got0 ZZ1.out rfl); have f2 : Fr (· = W1.heap.size) (W1.alloc (.cells #[.int .i64 0, .slice none 0 0] 80)) v2 := (by rw [hv2.out]; exact fr_all _ _ _ _); have ZZ2 := hide z2; have FF2 := hide f2; clear z2 f2 hv2)
    have HA2 := CpA.of HI.out HB0.out HE.out BB1.out ZZ2.out FF2.out
    have b3 : Below W1.heap.size W1 v2 := BB1.out.trans (FF2.out.below (fun b e => by omega) BB1.out.size)
    rw [← hcb] at HA2 ⊢
    refine ⟨cb, rfl, ?_, ?_, HA2, HLN.out⟩
    · exact ⟨b3.size, fun k o hk ho => (b3.block k (lt_heap hk)).trans hk⟩
    · exact ⟨b3.size, fun b hb hn => b3.block b (by have := HI.out.sz; have := HB0.out.size; omega)⟩
  case body =>
    rintro l pre x cb W1 - ⟨h, hln⟩
    obtain ⟨i0, hi0, hz0, hz1, hz2⟩ := info_parts Tryz.infoCy
    have HA1 := hide h
    obtain ⟨v, hv1, hv2⟩ := h.i.box
    obtain ⟨va, vc, rfl⟩ := own_shapeE hv2
    have HV1 := hide hv1
    have HCB := hide h.bx
    have hnl : pre.length < 100000000 := Nat.lt_of_lt_of_le hln HL.out
    have c6 := at1 hv1
    have hb1 := below1 W1 (.cells #[.int .i64 x.port, .slice x.a x.xs.length x.cap] 80)
    have HV2 := hide (own_frE (E := fun _ => False) hv2 (Fr.ofBelow hb1) (fun _ _ e => e))
    have HB1 := hide hb1
    have HSZ : Hid (w2.heap.size ≤ W1.heap.size) := h.i.sz
    have HFIN : Hid (∀ v' W2, W2.ownsRow w2.heap.size 80 2 v' (pre.length + 1) (flat Cy.cells pre ++ x.cells) → (W1.alloc (.cells #[.int .i64 x.port, .slice x.a x.xs.length x.cap] 80)).grownBy W2 (Value.slice va pre.length vc).ownBlock → _) := fun v' W2 hr hg => h.snoc (by have := HZ2.out; omega) (by have := Z1.out; omega) hv1 hb1 hr hg
    have HS6 : Hid (∀ v' W2, W2.ownsRow w2.heap.size 80 2 v' (pre.length + 1) (flat Cy.cells pre ++ x.cells) → (W1.alloc (.cells #[.int .i64 x.port, .slice x.a x.xs.length x.cap] 80)).grownBy W2 (Value.slice va pre.length vc).ownBlock → W2.heap[w1.heap.size]? = some (.cells #[.slice va pre.length vc] 35 (0, 0))) := fun v' W2 hr hg => by
      refine (hg.block _ ?_ (fun e => ?_)).trans (heap_past _ hv1)
      · have := lt_heap hv1; simp; omega
      · have := (World.ownsRow.lt hv2 _ e.symm).1
        have := HZ2.out
        omega
    clear h hv1 hv2 hb1 hln
    generalize pre.length = n at *
    gi_wp2_with (first
      | (refine wpListIn_loadA rfl 80 _ rfl cb [.int .i64 x.port, .slice x.a x.xs.length x.cap] 80 rfl aggCy szCy HCB.out ?_)
      | (refine wpListIn_append_own_at _ rfl _ _ 35 rfl w2.heap.size 80 i0 (.agg #[.int .i64 0, .slice none 0 0]) 2 32 Tryz.underlying35 hi0 hz0 hz1 hz2 rfl (by decide) _ n (flat Cy.cells pre) rfl HV2.out ⟨W1.heap.size, 0, none⟩ 1 1 [.int .i64 x.port, .slice x.a x.xs.length x.cap] rfl rfl (cells_newE _ _ _) (by simp [Value.oneCell']) (by unfold maxLen; omega) (by omega) (by have := HSZ.out; simp; omega) ?_; intro v7 w7 O7 G7 _ _; obtain ⟨a7, c7, hv7⟩ := own_shapeE O7; subst hv7; have F7 := hide (HFIN.out _ _ O7 G7); have h67 := HS6.out _ _ O7 G7; have c67 := at1 h67; have s67 := (fun o => softA h67 o : ∀ o, w7.frozen? ⟨w1.heap.size, o, none⟩ = false); clear O7 G7 h67))
    exact F7.out
  case done =>
    rintro D ys W hD ⟨hys, hyx⟩ hi hdf
    obtain ⟨v, hv1, hv2⟩ := hi.box
    obtain ⟨va, vc, rfl⟩ := own_shapeE hv2
    have hne : ∀ {c n : Nat} {e : TypeId} {v : Value} {zs : List Value}, W.ownsRow w2.heap.size e c v n zs → ∀ b, v.ownBlock = some b → ¬ b = D := fun h b hb e => own_ncellE h hdf rfl (by rw [hb, e])
    have hfr := putObj_fr (l := D) W (.deferred none)
    have c6 := at1 hv1
    have HBL : Hid (Below w.heap.size w (W.putObj D (.deferred none))) := hi.bl.trans (hfr.below (fun b e => by have := B2.out.size; omega) hi.bl.size)
    have HR : Hid ((W.putObj D (.deferred none)).ownsRow w.heap.size 80 2 (.slice va ys.length vc) ys.length (flat Cy.cells ys)) := own_lowerE (own_frE hv2 hfr (hne hv2)) B2.out.size
    have HO : Hid (∀ y ∈ ys, y.xs = p.xs ∧ Own8 (W.putObj D (.deferred none)) w.heap.size (.slice y.a y.xs.length y.cap) y.xs) := fun y hy => ⟨hyx y hy, ((hi.ow y hy).2.fr hfr (hne (hi.ow y hy).2)).lower B2.out.size⟩
    have HPW := hide hi.pw
    have HYS := hide hys
    have HDF := hide hdf
    clear hne hfr hi hv1 hv2 hys hyx hdf
    gi_wp2
    refine ⟨by simp, .inl ⟨_, _, rfl, run_takeDeferred HDF.out, ?_⟩⟩
    exact ⟨_, results_tmp2 rfl _ _ _, _, ys, rfl, HR.out, HYS.out, HO.out, HPW.out, HBL.out⟩
end Go.Proofs.YtclhmggnkhnnlaaGreatDoor
