/- Pieces of the proof: JGm, DkS, JHm. -/
import Derived.Test.YtpgkohimcofjnaaGreatDoorM15
import Derived.Test.YtpgkohimcofjnaaGreatDoorM1
import Derived.RegionTactic
/- package journal: Read. -/
namespace Go.Proofs.YtpgkohimcofjnaaGreatDoor
open Go.RowKit Go.Shelf

attribute [local go_sem] Oper.semAt_some
def recsOf {xs : List Nat} (l : List (RI xs)) : List (List Nat) := l.map (·.1.2)
theorem recsOf_snoc {xs : List Nat} (l : List (RI xs)) (x : RI xs) : recsOf (l ++ [x]) = recsOf l ++ [x.1.2] := by simp [recsOf]
theorem recsOf_length {xs : List Nat} (l : List (RI xs)) : (recsOf l).length = l.length := by simp [recsOf]
theorem recsOf_rd {xs : List Nat} {l : List (RI xs)} (h : vals l = its xs.length 0 xs) : recsOf l = rd xs := by
  rw [rd, ← h]; simp [recsOf, vals]
theorem used_le {xs : List Nat} (l : List (RI xs)) : used (recsOf l) ≤ 65545 * l.length := by
  induction l with
  | nil => exact Nat.le_refl _
  | cons x l ih =>
    have h := x.2.2.2.2
    show used (x.1.2 :: recsOf l) ≤ _
    rw [used_cons, List.length_cons]
    omega
theorem its_length (f pos : Nat) (b : List Nat) : (its f pos b).length ≤ f := by
  induction f generalizing pos b with
  | zero => exact Nat.le_refl _
  | succ f ih =>
    unfold its
    split
    · exact Nat.zero_le _
    · rw [List.length_cons]; have := ih (pos + (8 + (fstR b).length)) (b.drop (8 + (fstR b).length)); omega
theorem KeepBut.grown {E : Nat → Prop} {n₀ : Nat} {A B C : World} {row : Option Nat} (h : KeepBut E n₀ A B) (hg : B.grownBy C row) (hn : n₀ ≤ B.heap.size) (hr : ∀ r, row = some r → n₀ ≤ r) : KeepBut E n₀ A C :=
  h.t ⟨hg.size, fun b hb _ => hg.block b (by omega) (fun e => by have := hr b e.symm; omega)⟩
theorem KeepsOthers.ofBelow {W W' : World} (h : Below W.heap.size W W') : KeepsOthers W W' := KeepsOthers.of_grownBy (grown_of_below h) (fun j o e => by cases e)
theorem one_cell (W : World) (v : Value) (t : TypeId) : (W.alloc (.cells #[v] t)).cell? ⟨W.heap.size, 0, none⟩ = some v := (LC.new W v t).1
theorem rdA_mono {w W : World} {p off : Nat} {xs : List Nat} (h : RdA w (some ⟨p, off, none⟩) xs) (_hp : xs ≠ [] → p < w.heap.size) (hb : Below w.heap.size w W) : RdA W (some ⟨p, off, none⟩) xs := h.below hb
/- What Read holds in a round. -/
structure RdI (w : World) (B b4 b5 : Nat) (xs : List Nat) (pre : List (RI xs)) (v : Value) (vs : List Value) (W : World) : Prop where
  l4 : LC W b4 v
  l5 : LC W b5 (.int .i64 ((used (recsOf pre) : Nat) : Int))
  rc : Recs W B v vs (recsOf pre)
theorem RdI.kept {w W W' : World} {B b4 b5 : Nat} {xs : List Nat} {pre : List (RI xs)} {v : Value} {vs : List Value} {row : Option Nat} (h : RdI w B b4 b5 xs pre v vs W) (hg : W.grownBy W' row) (hr : ∀ r, row = some r → ∃ o : Obj, W.heap[r]? = some o ∧ o.isCells = false) : RdI w B b4 b5 xs pre v vs W' :=
  ⟨h.l4.kept hg hr, h.l5.kept hg hr, h.rc.kept hg hr⟩
theorem OwnL.sl {W : World} {B : Nat} {v : Value} {vs : List Value} (h : OwnL W B v vs) : ∃ a c, v = .slice a vs.length c := by
  rcases h.2 with ⟨rfl, h0⟩ | ⟨gr, cap, cur, rfl, _⟩
  · exact ⟨none, 0, by rw [h0]⟩
  · exact ⟨_, _, rfl⟩
theorem lowerRow {W : World} {B B' n : Nat} {e : TypeId} {v : Value} {xs : List Value} (h : W.ownsRow B e 1 v n xs) (hb : B' ≤ B) : W.ownsRow B' e 1 v n xs := by
  refine ⟨h.1, ?_⟩
  rcases h.2 with h0 | ⟨gr, cap, cur, rfl, hg, rest⟩
  · exact .inl h0
  · exact .inr ⟨gr, cap, cur, rfl, Nat.le_trans hb hg, rest⟩
theorem Recs.lower {W : World} {B B' : Nat} {v : Value} {vs : List Value} {rs : List (List Nat)} (h : Recs W B v vs rs) (hb : B' ≤ B) : Recs W B' v vs rs :=
  ⟨lowerRow h.own hb, h.len, fun i h1 h2 => lowerRow (h.rec' i h1 h2) hb, h.far, h.dis⟩
/- Behind an append. -/
structure F7 (w W w7 : World) (E : Nat → Prop) (B b4 b5 : Nat) (xs : List Nat) (pre : List (RI xs)) (v v7 : Value) (vs : List Value) (r : List Nat) : Prop where
  l4 : LC w7 b4 v
  l5 : LC w7 b5 (.int .i64 ((used (recsOf pre) : Nat) : Int))
  rc : Recs w7 B v7 vs (recsOf pre ++ [r])
  bl : Below w.heap.size w w7
  sz : B ≤ w7.heap.size
  ko : KeepsOthers W w7
  kb : KeepBut E B W w7
theorem fin7 {w W w5 w6 w7 : World} {E : Nat → Prop} {B b4 b5 : Nat} {xs : List Nat} {pre : List (RI xs)} {v v7 u : Value} {vs : List Value} {r : List Nat} (h : RdI w B b4 b5 xs pre v vs W) (hb4 : b4 < B) (hb5 : b5 < B) (hB : B ≤ W.heap.size) (hBl : Below w.heap.size w W) (hwB : w.heap.size ≤ B)
    (O5 : Own8 w5 W.heap.size u r) (B5 : Below W.heap.size W w5) (B6 : Below w5.heap.size w5 w6) (O7 : OwnL w7 B v7 (vs ++ [u])) (G7 : w6.grownBy w7 v.ownBlock) (K7 : v7.ownBlock = v.ownBlock ∨ v7.ownBlock = some w6.heap.size) : F7 w W w7 E B b4 b5 xs pre v v7 (vs ++ [u]) r := by
  have hlt := h.rc.lt.1
  have h56 : Below W.heap.size W w6 := B5.trans (B6.mono B5.size)
  have h67 : Below B w6 w7 := (Below.refl _ _).grown G7 (Nat.le_trans hB h56.size) (fun k e => (hlt k e).1)
  have hA : Below B W w7 := (h56.mono hB).trans h67
  refine ⟨h.l4.below hA hb4, h.l5.below hA hb5, h.rc.snoc hB O5 B5 B6 O7 G7 K7, hBl.trans (hA.mono hwB), Nat.le_trans hB hA.size, ?_, ?_⟩
  · refine (KeepsOthers.ofBelow h56).trans (KeepsOthers.of_grownBy G7 (fun j o e ho => ?_))
    obtain ⟨o', ho', hc⟩ := own_cells h.rc.own e
    rw [h56.block j (hlt j e).2, ho'] at ho
    cases ho
    exact hc
  · exact ⟨hA.size, fun b hb _ => hA.block b hb⟩
theorem F7.fin {w W w7 : World} {E : Nat → Prop} {B b4 b5 : Nat} {xs : List Nat} {pre : List (RI xs)} {v v7 : Value} {vs : List Value} {x : RI xs} (h : F7 w W w7 E B b4 b5 xs pre v v7 vs x.1.2) (hb4 : b4 < B) (hb5 : b5 < B) (hne : b4 ≠ b5) (h4 : w.heap.size ≤ b4) (h5 : w.heap.size ≤ b5) (e4 : E b4) (e5 : E b5) (y : Int) (hy : y = ((used (recsOf (pre ++ [x])) : Nat) : Int)) :
    KeepsOthers W ((w7.setCell ⟨b4, 0, none⟩ v7).setCell ⟨b5, 0, none⟩ (.int .i64 y)) ∧ KeepBut E B W ((w7.setCell ⟨b4, 0, none⟩ v7).setCell ⟨b5, 0, none⟩ (.int .i64 y)) ∧ (∃ v vs, RdI w B b4 b5 xs (pre ++ [x]) v vs ((w7.setCell ⟨b4, 0, none⟩ v7).setCell ⟨b5, 0, none⟩ (.int .i64 y))) ∧ Below w.heap.size w ((w7.setCell ⟨b4, 0, none⟩ v7).setCell ⟨b5, 0, none⟩ (.int .i64 y)) ∧ B ≤ ((w7.setCell ⟨b4, 0, none⟩ v7).setCell ⟨b5, 0, none⟩ (.int .i64 y)).heap.size := by
  subst hy
  refine ⟨(h.ko.trans (KeepsOthers.setCell _ _ _)).trans (KeepsOthers.setCell _ _ _), (h.kb.setCell _ _ e4).setCell _ _ e5, ⟨v7, vs, (h.l4.set _).far _ _ (fun e => hne e.symm), (h.l5.far _ _ hne).set _, ?_⟩, (h.bl.setCell h4 _).setCell h5 _, by simpa using h.sz⟩
  rw [recsOf_snoc]
  exact (h.rc.aside _ _ hb4).aside _ _ hb5
set_option maxRecDepth 100000 in
set_option maxHeartbeats 4000000 in
theorem read_yes (a : Option Addr) (cap : Nat) (xs : List Nat) (w : World) (hx : ∀ y ∈ xs, y < 256) (hl : xs.length ≤ 100000000) (hcap : xs.length ≤ cap) (hr : RdA w a xs) :
    Calls Tryz.prog 5 #[.slice a xs.length cap] w fun e w' => ∃ v vs, e = .returned (.tuple #[v, .int .i64 ((used (rd xs) : Nat) : Int)]) ∧ Recs w' w.heap.size v vs (rd xs) ∧ Below w.heap.size w w' := by
  obtain ⟨p, off, hpo, hrp, hpl⟩ : ∃ p off, (a = some ⟨p, off, none⟩ ∨ xs.length < 8) ∧ RdA w (some ⟨p, off, none⟩) xs ∧ (xs ≠ [] → p < w.heap.size) := by
    rcases hr with rfl | ⟨p, off, rfl, hp, hc⟩
    · exact ⟨0, 0, .inr (by simp), .inl rfl, fun h => absurd rfl h⟩
    · exact ⟨p, off, .inl rfl, .inr ⟨p, off, rfl, hp, hc⟩, fun _ => hp⟩
  clear hr
  have HRP := hide hrp
  have hIN := its_length xs.length 0 xs
  refine (callsIn_wide (n := 6)).1 ?_
  refine callsIn_of_wp_marks Tryz.func5 rfl trivial ?_ rfl
  simp only [Tryz.ntmps5, List.size_toArray, List.length_cons, List.length_nil, Nat.reduceAdd, Nat.reduceSub, Array.replicate_succ, Array.replicate_zero, List.push_toArray, List.append_toArray, List.nil_append, List.cons_append]
  gi_wp2_with fail
  refine ⟨trivial, (callsIn_wide.2 (records_any a xs.length cap _)).mono ?_⟩
  rintro e w1 ⟨rfl, hw1⟩
  simp only [World.size_alloc]
  have hB : Below w.heap.size w w1 := by rw [hw1]; exact (((Below.refl _ w).alloc (Nat.le_refl _) _).alloc (by simp) _).alloc (by simp; omega) _
  have hc : w1.cell? ⟨w.heap.size + 1 + 1, 0, none⟩ = some (.slice a xs.length cap) := by
    have h := (LC.new ((w.alloc (.cells #[.slice none 0 0] 24)).alloc (.cells #[.int .i64 0] 3)) (.slice a xs.length cap) 22).1
    rw [World.size_alloc, World.size_alloc] at h
    rw [hw1]; exact h
  have h4 : LC w1 w.heap.size (.slice none 0 0) := by rw [hw1]; exact ((LC.new w _ _).alloc _).alloc _
  have h5 : LC w1 (w.heap.size + 1) (.int .i64 0) := by
    have h := LC.new (w.alloc (.cells #[.slice none 0 0] 24)) (.int .i64 0) 3
    rw [World.size_alloc] at h
    rw [hw1]; exact h.alloc _
  have hz : w1.heap.size = w.heap.size + 1 + 1 + 1 := by rw [hw1]; simp
  clear hw1
  gi_wp2
  refine' wpIn_rangeFunc_ownF rfl (by omega) (gf := 109) (lb := #[.pointer (some ⟨w.heap.size + 1 + 1, 0, none⟩)]) rfl trivial (enters_of Tryz.func109 (by kernel_rfl) rfl)
    (records_stops _ (by omega) (w.heap.size + 1 + 1) w1.heap.size cap p off a xs (fun b => b = w.heap.size ∨ b = w.heap.size + 1) w1 hx (by omega) hcap hpo hc (rdA_mono HRP.out hpl hB) (Nat.le_refl _) (by omega) (fun h => by have := hpl h; omega) (fun h => by have := hpl h; omega))
    KeepBut.t (KeepBut.b (Nat.le_refl _)) (Below.refl _ _) (fun _ => rfl)
    (fun pre W => (∃ v vs, RdI w w1.heap.size w.heap.size (w.heap.size + 1) xs pre v vs W) ∧ Below w.heap.size w W ∧ w1.heap.size ≤ W.heap.size)
    (fun _ _ _ => False)
    (OwnFrom.and (Own.from (fun s A B row hs hg hr => by obtain ⟨v, vs, h⟩ := hs; exact ⟨v, vs, h.kept hg hr⟩) _) (OwnFrom.and (ownFrom_below (Nat.le_refl _) (by omega)) (fun s A B row hs hg hr => Nat.le_trans hs hg.size)))
    (fun _ _ _ _ _ hs _ _ => hs)
    ⟨⟨_, _, h4, h5, Recs.nil _ _⟩, hB, Nat.le_refl _⟩ _ ?assign ?body ?done ?stop
  case assign =>
    intro l x W K hK
    dsimp only [encR]
    gi_wp2
    exact hK
  case stop =>
    rintro D c pre W _ _ h _
    exact h.elim
  case body =>
    rintro l pre x W ⟨⟨v, vs, hI⟩, hBW, hsz⟩ hlen
    have hb4 : w.heap.size < w1.heap.size := by omega
    have hb5 : w.heap.size + 1 < w1.heap.size := by omega
    have hwB : w.heap.size ≤ w1.heap.size := by omega
    have hus := used_le (pre ++ [x])
    rw [List.length_append, List.length_singleton] at hus
    have hun : used (recsOf (pre ++ [x])) = used (recsOf pre) + (8 + x.1.2.length) := by rw [recsOf_snoc, used_append]; simp [used]
    have hvl : vs.length ≤ 1000000000 := by have := hI.rc.len; rw [recsOf_length] at this; omega
    have hrr : RdA W.drew (some ⟨p, off + (x.1.1 + 8), none⟩) x.1.2 := by
      have h := rdA_part (HRP.out.below hBW) (x.1.1 + 8) x.1.2.length
      rw [← x.2.2.1] at h
      exact h
    have hrl := x.2.2.2.2
    have HCL := hide (clone_any (some ⟨p, off + (x.1.1 + 8), none⟩) (cap - (x.1.1 + 8)) x.1.2 W.drew (by omega) hrr (fun e => by cases e))
    have HFI := hide (fun (w7 : World) (v7 : Value) (vs' : List Value) (h : F7 w W w7 (fun b => b = w.heap.size ∨ b = w.heap.size + 1) w1.heap.size w.heap.size (w.heap.size + 1) xs pre v v7 vs' x.1.2) => h.fin hb4 hb5 (by omega) (Nat.le_refl _) (by omega) (.inl rfl) (.inr rfl))
    rw [hun] at HFI
    have I1 := hide hI
    have BW := hide hBW
    have SZ := hide hsz
    obtain ⟨av, cv, rfl⟩ := hI.rc.own.sl
    obtain ⟨g4, g4f⟩ := hI.l4
    obtain ⟨g5, g5f⟩ := hI.l5
    have hne : w.heap.size ≠ w.heap.size + 1 := by omega
    obtain ⟨R, hR⟩ : ∃ R, R = x.1.2.length := ⟨_, rfl⟩
    rw [← hR] at HCL HFI hrl hun ⊢
    obtain ⟨U, hU⟩ : ∃ U, U = used (recsOf pre) := ⟨_, rfl⟩
    rw [← hU] at HFI g5 hun
    have hw1 : IntKind.i64.wrap (8 + (R : Int)) = 8 + (R : Int) := by rw [IntKind.wrap_i64]; omega
    have hw2 : IntKind.i64.wrap ((U : Int) + (8 + (R : Int))) = (U : Int) + (8 + (R : Int)) := by rw [IntKind.wrap_i64]; omega
    have HU := hide hU
    have HR := hide hR
    clear hI hBW hsz hus hrr hU hR hun
    have hmx : Tryz.prog.follows .mixedOrders = true := by kernel_rfl
    gi_wp2
    refine wpIn_region_round hmx (by kernel_rfl) ?_
    refine wpAnyIn_take (i := 1) (v := ?_) rfl rfl (by kernel_rfl) (by kernel_rfl) (by kernel_rfl) (fun _ _ _ h => h) ⟨Or.inl ⟨by rfl, ?_⟩, fun _ => rfl⟩ ?_
    rotate_left
    · (intro w; go_simp; try (with_reducible rfl))
    refine wpAnyIn_ready (rs := [0, 2]) (by kernel_rfl) (by simp) ?_
    refine AllReadyIn.cons rfl (fun K hK => ?_) ?_
    · go_simp
      refine hK _ _ ?_; clear hK K
      refine wpAnyIn_ready (rs := [2]) (by kernel_rfl) (by simp) ?_
      refine AllReadyIn.cons rfl (fun K hK => ?_) ?_
      · go_simp
        refine ⟨trivial, ?_⟩
        refine (callsIn_wide.2 HCL.out).mono ?_
        rintro e w5 ⟨u, rfl, hO, hb0⟩
        have hb : Below W.heap.size W w5 := ((Below.refl W.heap.size W).drew).trans hb0
        clear hb0
        obtain ⟨au, cu, rfl, hlc, hnn, _⟩ := hO.shape
        have O5 := hide hO
        have B5 := hide hb
        have k4 := (I1.out.l4.below hb (Nat.lt_of_lt_of_le hb4 SZ.out)).1
        have k4b := fun o => ((I1.out.l4.below hb (Nat.lt_of_lt_of_le hb4 SZ.out)).alloc o).1
        clear hO hb hlc hnn
        refine hK _ _ ?_; clear hK K
        refine wpAnyIn_ready (rs := [3]) (by kernel_rfl) (by simp) ?_
        refine AllReadyIn.cons rfl (fun K hK => ?_) ?_
        · go_simp
          refine hK _ _ ?_; clear hK K
          refine wpAnyIn_ready (rs := [4]) (by kernel_rfl) (by simp) ?_
          refine AllReadyIn.cons rfl (fun K hK => ?_) ?_
          · refine stepIn_appR rfl (.tmp 10) (.tmp 13) rfl w1.heap.size _ vs rfl (I1.out.rc.own.below (B5.out.trans (((Below.refl _ w5).alloc (Nat.le_refl _) _).mono B5.out.size))) ⟨w5.heap.size, 0, none⟩ _ rfl (one_cell w5 _ _) rfl rfl hvl (by have := SZ.out; have := B5.out.size; simp at this ⊢; omega) ?_
            intro v7 w7 O7 G7 K7
            have FF : Hid (F7 _ _ _ _ _ _ _ _ _ _ _ _ _) := fin7 (E := fun b => b = w.heap.size ∨ b = w.heap.size + 1) I1.out hb4 hb5 SZ.out BW.out hwB O5.out B5.out ((Below.refl _ w5).alloc (Nat.le_refl _) _) O7 G7 K7
            obtain ⟨a7, c7, hv7⟩ := O7.sl
            rw [List.length_append, List.length_singleton] at hv7
            subst hv7
            obtain ⟨m4, m4f⟩ := FF.out.l4
            obtain ⟨m5, m5f⟩ := FF.out.l5
            rw [← HU.out] at m5
            clear O7 G7 K7
            refine hK _ _ ?_; clear hK K
            refine wpAnyIn_ready (rs := [5]) (by kernel_rfl) (by simp) ?_
            refine AllReadyIn.cons rfl (fun K hK => ?_) ?_
            · go_simp
              refine hK _ _ ?_; clear hK K
              refine wpAnyIn_done (by kernel_rfl) ?_ _
              gi_wp2
              exact HFI.out _ _ _ FF.out _ (by omega)
            exact AllReadyIn.nil
          exact AllReadyIn.nil
        exact AllReadyIn.nil
      exact AllReadyIn.nil
    refine AllReadyIn.cons rfl (fun K hK => ?_) ?_
    · go_simp
      refine ⟨trivial, ?_⟩
      refine (callsIn_wide.2 HCL.out).mono ?_
      rintro e w5 ⟨u, rfl, hO, hb0⟩
      have hb : Below W.heap.size W w5 := ((Below.refl W.heap.size W).drew).trans hb0
      clear hb0
      obtain ⟨au, cu, rfl, hlc, hnn, _⟩ := hO.shape
      have O5 := hide hO
      have B5 := hide hb
      have k4 := (I1.out.l4.below hb (Nat.lt_of_lt_of_le hb4 SZ.out)).1
      have k4b := fun o => ((I1.out.l4.below hb (Nat.lt_of_lt_of_le hb4 SZ.out)).alloc o).1
      clear hO hb hlc hnn
      refine hK _ _ ?_; clear hK K
      refine wpAnyIn_ready (rs := [0, 3]) (by kernel_rfl) (by simp) ?_
      refine AllReadyIn.cons rfl (fun K hK => ?_) ?_
      · go_simp
        refine hK _ _ ?_; clear hK K
        refine wpAnyIn_ready (rs := [3]) (by kernel_rfl) (by simp) ?_
        refine AllReadyIn.cons rfl (fun K hK => ?_) ?_
        · go_simp
          refine hK _ _ ?_; clear hK K
          refine wpAnyIn_ready (rs := [4]) (by kernel_rfl) (by simp) ?_
          refine AllReadyIn.cons rfl (fun K hK => ?_) ?_
          · refine stepIn_appR rfl (.tmp 10) (.tmp 13) rfl w1.heap.size _ vs rfl (I1.out.rc.own.below (B5.out.trans (((Below.refl _ w5).alloc (Nat.le_refl _) _).mono B5.out.size))) ⟨w5.heap.size, 0, none⟩ _ rfl (one_cell w5 _ _) rfl rfl hvl (by have := SZ.out; have := B5.out.size; simp at this ⊢; omega) ?_
            intro v7 w7 O7 G7 K7
            have FF : Hid (F7 _ _ _ _ _ _ _ _ _ _ _ _ _) := fin7 (E := fun b => b = w.heap.size ∨ b = w.heap.size + 1) I1.out hb4 hb5 SZ.out BW.out hwB O5.out B5.out ((Below.refl _ w5).alloc (Nat.le_refl _) _) O7 G7 K7
            obtain ⟨a7, c7, hv7⟩ := O7.sl
            rw [List.length_append, List.length_singleton] at hv7
            subst hv7
            obtain ⟨m4, m4f⟩ := FF.out.l4
            obtain ⟨m5, m5f⟩ := FF.out.l5
            rw [← HU.out] at m5
            clear O7 G7 K7
            refine hK _ _ ?_; clear hK K
            refine wpAnyIn_ready (rs := [5]) (by kernel_rfl) (by simp) ?_
            refine AllReadyIn.cons rfl (fun K hK => ?_) ?_
            · go_simp
              refine hK _ _ ?_; clear hK K
              refine wpAnyIn_done (by kernel_rfl) ?_ _
              gi_wp2
              exact HFI.out _ _ _ FF.out _ (by omega)
            exact AllReadyIn.nil
          exact AllReadyIn.nil
        exact AllReadyIn.nil
      refine AllReadyIn.cons rfl (fun K hK => ?_) ?_
      · go_simp
        refine hK _ _ ?_; clear hK K
        refine wpAnyIn_ready (rs := [0]) (by kernel_rfl) (by simp) ?_
        refine AllReadyIn.cons rfl (fun K hK => ?_) ?_
        · go_simp
          refine hK _ _ ?_; clear hK K
          refine wpAnyIn_ready (rs := [4]) (by kernel_rfl) (by simp) ?_
          refine AllReadyIn.cons rfl (fun K hK => ?_) ?_
          · refine stepIn_appR rfl (.tmp 10) (.tmp 13) rfl w1.heap.size _ vs rfl (I1.out.rc.own.below (B5.out.trans (((Below.refl _ w5).alloc (Nat.le_refl _) _).mono B5.out.size))) ⟨w5.heap.size, 0, none⟩ _ rfl (one_cell w5 _ _) rfl rfl hvl (by have := SZ.out; have := B5.out.size; simp at this ⊢; omega) ?_
            intro v7 w7 O7 G7 K7
            have FF : Hid (F7 _ _ _ _ _ _ _ _ _ _ _ _ _) := fin7 (E := fun b => b = w.heap.size ∨ b = w.heap.size + 1) I1.out hb4 hb5 SZ.out BW.out hwB O5.out B5.out ((Below.refl _ w5).alloc (Nat.le_refl _) _) O7 G7 K7
            obtain ⟨a7, c7, hv7⟩ := O7.sl
            rw [List.length_append, List.length_singleton] at hv7
            subst hv7
            obtain ⟨m4, m4f⟩ := FF.out.l4
            obtain ⟨m5, m5f⟩ := FF.out.l5
            rw [← HU.out] at m5
            clear O7 G7 K7
            refine hK _ _ ?_; clear hK K
            refine wpAnyIn_ready (rs := [5]) (by kernel_rfl) (by simp) ?_
            refine AllReadyIn.cons rfl (fun K hK => ?_) ?_
            · go_simp
              refine hK _ _ ?_; clear hK K
              refine wpAnyIn_done (by kernel_rfl) ?_ _
              gi_wp2
              exact HFI.out _ _ _ FF.out _ (by omega)
            exact AllReadyIn.nil
          exact AllReadyIn.nil
        exact AllReadyIn.nil
      exact AllReadyIn.nil
    exact AllReadyIn.nil
  case done =>
    rintro D ys W hD hys ⟨⟨v, vs, hI⟩, hBW, hsz⟩ hK
    have HE := hide (recsOf_rd hys)
    obtain ⟨g4, g4f⟩ := hI.l4
    obtain ⟨g5, g5f⟩ := hI.l5
    have HI := hide hI
    have HB := hide hBW
    have HK := hide hK
    obtain ⟨av, cv, rfl⟩ := hI.rc.own.sl
    clear hI hBW hK hys
    gi_wp2
    refine wpIn_wide.2 ?_
    go_quiet (fail)
    rename_i hKK
    refine hKK _ _ ?_
    clear hKK
    gi_wp2
    have hk2 : (W.drewN nq).heap[D]? = some (.deferred (some [])) := HK.out
    refine ⟨by simp, .inl ⟨_, _, rfl, run_takeDeferred hk2, ?_⟩⟩
    refine ⟨_, results_tmp2 rfl _ _ _, _, vs, by rw [← HE.out]; rfl, ?_, ?_⟩
    · have h1 : Recs (W.drewN nq) w1.heap.size (.slice av vs.length cv) vs (recsOf ys) := HI.out.rc.below ⟨rfl, rfl, rfl, Nat.le_refl _, fun _ _ => rfl⟩
      have h2 := (h1.kept (grownBy_putObj' _ D (.deferred none)) (fun r e => by cases e; exact ⟨_, hk2, rfl⟩)).lower (B' := w.heap.size) (by omega)
      rw [HE.out] at h2
      exact h2
    · exact (below_drewN HB.out nq).trans (belowK_b (w := w) (Nat.le_refl _) (W.drewN nq) D _ _ (by omega) hk2 rfl rfl)
end Go.Proofs.YtpgkohimcofjnaaGreatDoor
/- pointsmanlaw01.SameBytes of the same bytes. -/
namespace Go.Proofs.YtpgkohimcofjnaaGreatDoor
open Go.RowKit

theorem same_rd (l : List Nat) (hl : l.length ≤ 1000000000) (a b : Option Addr) (c d : Nat) (w : World) (ha : RdA w a l) (hb : RdA w b l) :
    Calls Tryz.prog 16 #[.slice a l.length c, .slice b l.length d] w fun e w' => e = .returned (.bool true) ∧ Below w.heap.size w w' := by
  have HA := hide ha; have HB := hide hb
  clear ha hb
  go_enter Tryz.func16, Tryz.ntmps16
  go_wp2
  go_loopw [5] (fun i wr => ∃ k : Nat, k ≤ l.length ∧ i = .int .i64 k ∧ Below w.heap.size w wr) (fun i _ => l.length - (intOf i).toNat)
  case atStart => exact ⟨0, Nat.zero_le _, rfl, Below.refl _ _⟩
  case round =>
    obtain ⟨k, hk, rfl, hnx⟩ := hrel
    have HN := hide hnx
    by_cases hlt : k < l.length
    · obtain ⟨p, o1, rfl, _, h1⟩ := (HA.out.below hnx).some (by omega)
      obtain ⟨q, o2, rfl, _, h2⟩ := (HB.out.below hnx).some (by omega)
      have hca := h1 k hlt
      have hcb := h2 k hlt
      have hlI : (k : Int) < (l.length : Int) := by omega
      clear h1 h2 hnx HA HB
      generalize l[k] = x at *
      go_wp2
      go_region
      all_goals
        go_wp2
        go_roundw
        case rel => exact ⟨k + 1, by omega, by go_num, HN.out.drew⟩
        case measure => simp [intOf]; omega
    · clear hnx HA HB
      go_wp2
      go_ret
      exact ⟨rfl, HN.out⟩
theorem lit_rd (w : World) (l : List Nat) (vs : Array Value) (t : TypeId) (hv : vs.toList = u8s l) : RdA (w.alloc (.cells vs t)) (some ⟨w.heap.size, 0, none⟩) l := by
  refine .inr ⟨w.heap.size, 0, rfl, by simp, fun i hi => ?_⟩
  have h : (w.alloc (.cells vs t)).heap[w.heap.size]? = some (.cells vs t (0, 0)) := heap_alloc_new w _
  have hi2 : vs[0 + i]? = some (.int .u8 (l[i] : Nat)) := by
    rw [Nat.zero_add, ← Array.getElem?_toList, hv]; simp [u8s, hi]
  unfold World.cell?
  simp only [h]
  exact hi2
end Go.Proofs.YtpgkohimcofjnaaGreatDoor
/- Lists of records that can be read: SameRecords. -/
namespace Go.Proofs.YtpgkohimcofjnaaGreatDoor
open Go.RowKit

/- A list of lists of bytes that can be read. -/
structure It where
  a : Option Addr
  cap : Nat
  xs : List Nat
structure ItOk (W : World) (it : It) : Prop where
  rd : RdA W it.a it.xs
  le : it.xs.length ≤ it.cap
  nn : it.a = none → it.cap = 0
  ln : it.xs.length ≤ 140737488355328
structure RdL (W : World) (a : Option Addr) (ls : List It) : Prop where
  rd : ls = [] ∨ ∃ p off, a = some ⟨p, off, none⟩ ∧ p < W.heap.size ∧ ∀ i (h : i < ls.length), W.cell? ⟨p, off + i, none⟩ = some (.slice ls[i].a ls[i].xs.length ls[i].cap)
  ok : ∀ it ∈ ls, ItOk W it
theorem RdL.below {W W' : World} {a : Option Addr} {ls : List It} (h : RdL W a ls) (hb : Below W.heap.size W W') : RdL W' a ls := by
  refine ⟨?_, fun it hi => ⟨(h.ok it hi).rd.below hb, (h.ok it hi).le, (h.ok it hi).nn, (h.ok it hi).ln⟩⟩
  rcases h.rd with h | ⟨p, off, rfl, hp, hc⟩
  · exact .inl h
  · exact .inr ⟨p, off, rfl, Nat.lt_of_lt_of_le hp hb.size, fun i hi => (hb.cell (p := ⟨p, off + i, none⟩) hp).trans (hc i hi)⟩
def tot (ls : List It) : Nat := (ls.map (fun it => it.xs.length)).sum
theorem tot_succ (ls : List It) (k : Nat) (h : k < ls.length) : tot (ls.take (k + 1)) = tot (ls.take k) + ls[k].xs.length := by
  rw [List.take_succ_eq_append_getElem h]; unfold tot; rw [List.map_append, List.sum_append_nat]; simp only [List.map_cons, List.map_nil, List.sum_cons, List.sum_nil, Nat.add_zero]
theorem tot_le (ls : List It) (k : Nat) : tot (ls.take k) ≤ tot ls := by
  conv => rhs; rw [← List.take_append_drop k ls]
  unfold tot
  rw [List.map_append, List.sum_append_nat]
  omega
def recs (ls : List It) : List (List Nat) := ls.map (·.xs)
theorem recs_length (ls : List It) : (recs ls).length = ls.length := by simp [recs]
theorem recs_snoc (ls : List It) (it : It) : recs (ls ++ [it]) = recs ls ++ [it.xs] := by simp [recs]
theorem recs_get (ls : List It) (i : Nat) (h : i < ls.length) : (recs ls)[i]'(by simpa [recs] using h) = ls[i].xs := by simp [recs]
theorem RdL.some {W : World} {a : Option Addr} {ls : List It} (h : RdL W a ls) (h0 : 0 < ls.length) : ∃ p off, a = some ⟨p, off, none⟩ ∧ p < W.heap.size ∧ ∀ i (h : i < ls.length), W.cell? ⟨p, off + i, none⟩ = Option.some (.slice ls[i].a ls[i].xs.length ls[i].cap) := by
  rcases h.rd with rfl | h
  · simp at h0
  · exact h
set_option maxHeartbeats 1000000 in
theorem same_recs (ls ms : List It) (he : recs ls = recs ms) (hsm : ∀ r ∈ recs ls, r.length ≤ 1000000000) (hsl : ls.length ≤ 1000000000) (a b : Option Addr) (c d : Nat) (w : World) (ha : RdL w a ls) (hb : RdL w b ms) :
    Calls Tryz.prog 7 #[.slice a ls.length c, .slice b ms.length d] w fun e w' => e = .returned (.bool true) ∧ Below w.heap.size w w' := by
  have hlen : ms.length = ls.length := by rw [← recs_length, ← he, recs_length]
  have HA := hide ha; have HB := hide hb
  have HE := hide he
  have HL := hide hlen
  rw [hlen]
  clear ha hb he hlen
  go_enter Tryz.func7, Tryz.ntmps7
  go_wp2
  go_loopw [5] (fun i wr => ∃ k : Nat, k ≤ ls.length ∧ i = .int .i64 k ∧ Below w.heap.size w wr) (fun i _ => ls.length - (intOf i).toNat)
  case atStart => exact ⟨0, Nat.zero_le _, rfl, Below.refl _ _⟩
  case round =>
    obtain ⟨k, hk, rfl, hnx⟩ := hrel
    have HN := hide hnx
    by_cases hlt : k < ls.length
    · have hA := HA.out.below hnx
      have hB := HB.out.below hnx
      obtain ⟨p, o1, rfl, _, h1⟩ := hA.some (by omega)
      obtain ⟨q, o2, rfl, _, h2⟩ := hB.some (by have := HL.out; omega)
      have hlm : k < ms.length := by rw [HL.out]; exact hlt
      have hca := h1 k hlt
      have hcb := h2 k hlm
      have e1 : ms[k].xs = ls[k].xs := by
        rw [← recs_get ms k hlm, ← recs_get ls k hlt]
        congr 1
        exact HE.out.symm
      have hI := hA.ok _ (List.getElem_mem hlt)
      have hJ := hB.ok _ (List.getElem_mem hlm)
      have HS := hide (same_rd ls[k].xs (hsm _ (by rw [← recs_get ls k hlt]; exact List.getElem_mem _)) ls[k].a ms[k].a ls[k].cap ms[k].cap wr.drew hI.rd (by rw [← e1]; exact hJ.rd))
      rw [e1] at hcb
      have hlI : (k : Int) < (ls.length : Int) := by omega
      clear h1 h2 hnx HA HB hA hB hI hJ e1 HE
      generalize ls[k] = x at *
      generalize ms[k] = y at *
      go_wp2
      go_region_with (go_at_call 16; refine HS.out.mono ?_; rintro e w5 ⟨rfl, hb5⟩; have B5 := hide (HN.out.drew.trans (hb5.mono HN.out.size)); clear hb5)
      all_goals
        go_wp2
        go_roundw
        case rel => exact ⟨k + 1, by omega, by go_num, B5.out⟩
        case measure => simp [intOf]; omega
    · clear hnx HA HB
      go_wp2
      go_ret
      exact ⟨rfl, HN.out⟩
/- Records of one's own can be read. -/
theorem Recs.rdl {W : World} {B : Nat} {v : Value} {vs : List Value} {rs : List (List Nat)} (h : Recs W B v vs rs) (hs : ∀ r ∈ rs, r.length ≤ 65537) : ∃ a c ls, v = .slice a ls.length c ∧ recs ls = rs ∧ RdL W a ls := by
  have key : ∀ (vs : List Value) (rs : List (List Nat)), (∀ r ∈ rs, r.length ≤ 65537) → vs.length = rs.length → (∀ i (h : i < vs.length) (h' : i < rs.length), Own8 W B vs[i] rs[i]) → ∃ ls : List It, ls.length = vs.length ∧ recs ls = rs ∧ (∀ it ∈ ls, ItOk W it) ∧ ∀ i (h : i < vs.length) (h' : i < ls.length), vs[i] = .slice ls[i].a ls[i].xs.length ls[i].cap := by
    intro vs
    induction vs with
    | nil =>
      intro rs _ hl _
      cases rs with
      | nil => exact ⟨[], rfl, rfl, fun it h => absurd h (by simp), fun i h => absurd h (by simp)⟩
      | cons => simp at hl
    | cons x xs ih =>
      intro rs hs hl hr
      cases rs with
      | nil => simp at hl
      | cons r rs =>
        obtain ⟨ls, l1, l2, l3, l4⟩ := ih rs (fun r h => hs r (List.mem_cons_of_mem _ h)) (by simpa using hl) (fun i h1 h2 => hr (i + 1) (by simp; omega) (by simp; omega))
        have h0 := hr 0 (by simp) (by simp)
        simp only [List.getElem_cons_zero] at h0
        obtain ⟨a, cap, hx, hc, hn, _⟩ := h0.shape
        have hrd := h0
        rw [hx] at hrd
        refine ⟨⟨a, cap, r⟩ :: ls, by simp [l1], by simp [recs] at l2 ⊢; exact l2, fun it hi => ?_, fun i h1 h2 => ?_⟩
        · rcases List.mem_cons.1 hi with rfl | hi
          · exact ⟨hrd.rd.2, hc, hn, by have := hs r (List.mem_cons_self ..); show r.length ≤ _; omega⟩
          · exact l3 it hi
        · cases i with
          | zero => exact hx
          | succ i => exact l4 i (by simpa using h1) (by simpa using h2)
  obtain ⟨ls, l1, l2, l3, l4⟩ := key vs rs hs h.len h.rec'
  obtain ⟨a, c, rfl⟩ := h.own.sl
  refine ⟨a, c, ls, by rw [l1], l2, ?_, l3⟩
  rcases h.own.2 with ⟨e, h0⟩ | ⟨g, cap, cur, e, hg, hcur, _⟩
  · exact .inl (List.length_eq_zero_iff.1 (by omega))
  · injection e with e1 e2 e3
    subst e1
    refine .inr ⟨g, 0, rfl, (Array.getElem?_eq_some_iff.1 hcur).1, fun i hi => ?_⟩
    have h5 := World.ownsRow.cells h.own (g := g) rfl i _ (List.getElem?_eq_getElem (by omega : i < vs.length))
    rw [add8] at h5
    rw [h5, l4 i (by omega) hi]
end Go.Proofs.YtpgkohimcofjnaaGreatDoor
