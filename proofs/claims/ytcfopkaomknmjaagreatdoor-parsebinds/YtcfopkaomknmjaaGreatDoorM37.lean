/- Pieces of the proof: PaBw. -/
import Derived.Test.YtcfopkaomknmjaaGreatDoorM36
import Derived.Deep.RegionWith
import Derived.Deep.CutBlock
import Derived.Deep.Cut
/- ParseBinds, walked. -/
namespace Go.Proofs.YtcfopkaomknmjaaGreatDoor
open Go.RowKit

theorem chkB_at {i k : Nat} (hi : i < 15) (hk : k < 15) : chkB i k = true := by
  have h := chkB_all
  rw [List.all_eq_true] at h
  have h2 := h i (List.mem_range.2 hi)
  rw [List.all_eq_true] at h2
  exact h2 k (List.mem_range.2 hk)
theorem sgN_len : ∀ i, i < 15 → (sgN i).length ≤ 2 := by decide
def strs15 : Array Value := (sg15.map sv8).toArray
  where sv8 (l : List UInt8) : Value := .string (txt l)
theorem okTree_open {r : PRes} {f : Ex → Bool} (h : okTree r f = true) : ∃ d s x, r = .ok [d] ∧ d.body = [s] ∧ s.args = [x] ∧ f x = true := by
  unfold okTree at h
  split at h
  · rename_i d
    split at h
    · rename_i s hs
      split at h
      · rename_i x hx
        exact ⟨d, s, x, rfl, hs, hx, h⟩
      · cases h
    · cases h
  · cases h
theorem isErr_open {r : PRes} (h : isErr r = true) : ∃ x, r = .error x ∧ x.2 = 5 := by
  unfold isErr at h
  split at h
  · rename_i x
    exact ⟨x, rfl, by simpa using h⟩
  · cases h
def ST15 : Array Value := #[.string ⟨#[124, 124]⟩, .string ⟨#[38, 38]⟩, .string ⟨#[61, 61]⟩, .string ⟨#[33, 61]⟩, .string ⟨#[60]⟩, .string ⟨#[60, 61]⟩, .string ⟨#[38]⟩, .string ⟨#[124]⟩, .string ⟨#[94]⟩, .string ⟨#[43]⟩, .string ⟨#[45]⟩, .string ⟨#[43, 43]⟩, .string ⟨#[42]⟩, .string ⟨#[60, 60]⟩, .string ⟨#[62, 62]⟩]
def BN15 : Array Value := #[.int .i64 0, .int .i64 1, .int .i64 2, .int .i64 2, .int .i64 2, .int .i64 2, .int .i64 3, .int .i64 3, .int .i64 3, .int .i64 4, .int .i64 4, .int .i64 5, .int .i64 6, .int .i64 7, .int .i64 7]
theorem ST15_at {i : Nat} (hi : i < 15) : ST15[i]? = some (.string (txt (sgN i))) := by
  match i, hi with
  | 0, _ => rfl
  | 1, _ => rfl
  | 2, _ => rfl
  | 3, _ => rfl
  | 4, _ => rfl
  | 5, _ => rfl
  | 6, _ => rfl
  | 7, _ => rfl
  | 8, _ => rfl
  | 9, _ => rfl
  | 10, _ => rfl
  | 11, _ => rfl
  | 12, _ => rfl
  | 13, _ => rfl
  | 14, _ => rfl
theorem BN15_at {i : Nat} (hi : i < 15) : BN15[i]? = some (.int .i64 (bnN i : Int)) := by
  match i, hi with
  | 0, _ => rfl
  | 1, _ => rfl
  | 2, _ => rfl
  | 3, _ => rfl
  | 4, _ => rfl
  | 5, _ => rfl
  | 6, _ => rfl
  | 7, _ => rfl
  | 8, _ => rfl
  | 9, _ => rfl
  | 10, _ => rfl
  | 11, _ => rfl
  | 12, _ => rfl
  | 13, _ => rfl
  | 14, _ => rfl
/- What the two rows hold at two places. -/
structure Sg (w W : World) (i k : Nat) : Prop where
  bl : Below w.heap.size w W
  st : W.heap[w.heap.size]? = some (.cells ST15 9 (0, 0))
  bn : W.heap[w.heap.size + 1]? = some (.cells BN15 3 (0, 0))
theorem Sg.next {w W W' : World} {i k : Nat} (h : Sg w W i k) (hb : Below W.heap.size W W') : Sg w W' i k := ⟨h.bl.trans (hb.mono h.bl.size), (hb.block _ (Array.getElem?_eq_some_iff.1 h.st).1).trans h.st, (hb.block _ (Array.getElem?_eq_some_iff.1 h.bn).1).trans h.bn⟩
theorem Sg.fr {w W W' : World} {i k bx : Nat} (h : Sg w W i k) (hf : Fr (· = bx) W W') (hb : w.heap.size + 2 ≤ bx) : Sg w W' i k := ⟨h.bl.trans (hf.below (fun b e => by have e' : b = bx := e; omega) h.bl.size), (hf.block _ (Array.getElem?_eq_some_iff.1 h.st).1 (fun e => by have e' : w.heap.size = bx := e; omega)).trans h.st, (hf.block _ (Array.getElem?_eq_some_iff.1 h.bn).1 (fun e => by have e' : w.heap.size + 1 = bx := e; omega)).trans h.bn⟩
theorem Sg.start (w : World) (i k : Nat) : Sg w ((w.alloc (.cells ST15 9)).alloc (.cells BN15 3)) i k := by
  have s1 : (w.alloc (.cells ST15 9)).heap.size = w.heap.size + 1 := World.size_alloc _ _
  refine ⟨((Below.refl _ _).alloc (Nat.le_refl _) _).alloc (by rw [s1]; omega) _, ?_, ?_⟩
  · rw [heap_alloc_old _ _ (by rw [s1]; omega)]; exact heap_alloc_new w _
  · have := heap_alloc_new (w.alloc (.cells ST15 9)) (.cells BN15 3)
    rw [s1] at this; exact this
theorem Sg.at {w W : World} {i k : Nat} (h : Sg w W i k) (hi : i < 15) (hk : k < 15) : W.cell? ⟨w.heap.size, i, none⟩ = some (.string (txt (sgN i))) ∧ W.cell? ⟨w.heap.size, k, none⟩ = some (.string (txt (sgN k))) ∧ W.cell? ⟨w.heap.size + 1, i, none⟩ = some (.int .i64 (bnN i : Int)) ∧ W.cell? ⟨w.heap.size + 1, k, none⟩ = some (.int .i64 (bnN k : Int)) :=
  ⟨(cellA h.st i).trans (ST15_at hi), (cellA h.st k).trans (ST15_at hk), (cellA h.bn i).trans (BN15_at hi), (cellA h.bn k).trans (BN15_at hk)⟩
/- The contract of signed, both ways in one. -/
theorem A_le (w : World) (o : _) : w.heap.size ≤ (w.alloc o).heap.size := by rw [World.size_alloc]; omega
set_option maxRecDepth 100000 in
theorem ag_str : ∀ w : World, (isAgg 9).run Tryz.prog w = .ok false w := fun w => by rfl
def BSg (W : World) (ok : Bool) (xs : List Ex) (e : Ending) (w' : World) : Prop := ∃ i0 i1 i2 i3 t4 t5 i6 i7 s8 n8 c8 i9, e = .returned (.tuple #[.agg #[.int .u8 i0, .int .i64 i1, .int .u64 i2, .int .u64 i3, .string t4, .string t5, .int .i64 i6, .int .i64 i7, .slice s8 n8 c8, .int .i64 i9], .bool ok]) ∧ Below W.heap.size W w' ∧ (ok = true → ListR ExR mkAgg 10 w' (fun b => W.heap.size < b ∧ b < w'.heap.size) (.slice s8 n8 c8) xs)
def FcB (i k : Nat) (ok : Bool) (xs : List Ex) : Prop := if bnN i = 2 ∧ bnN k = 2 then ok = false else ok = true ∧ ∃ x y, xs = [x, y] ∧ (if bnN i < bnN k then x.name = [120] ∧ ∃ u v, y.args = [u, v] ∧ u.name = [121] else y.name = [122] ∧ ∃ u v, x.args = [u, v] ∧ v.name = [121])
theorem two_of {l : List Ex} (h : l.length = 2) : ∃ x y, l = [x, y] := by
  match l, h with
  | [x, y], _ => exact ⟨x, y, rfl⟩
theorem bsg_any {i k : Nat} (hi : i < 15) (hk : k < 15) : ∃ ok xs, FcB i k ok xs ∧ ∀ w bt, Ls w → Tws w bt → Calls Tryz.prog 14 #[.string (txt (sgN i)), .string (txt (sgN k))] w (BSg w ok xs) := by
  have hc := chkB_at hi hk
  unfold chkB at hc
  by_cases h2 : bnN i = 2 ∧ bnN k = 2
  · rw [if_pos (by simp [h2.1, h2.2])] at hc
    obtain ⟨x, hx, hx5⟩ := isErr_open hc
    refine ⟨false, [], by unfold FcB; rw [if_pos h2], fun w bt hL hT => (signed_err rfl rfl (sgN_len i hi) (sgN_len k hk) hx hx5 w hL hT).mono ?_⟩
    rintro e w' ⟨rfl, hb⟩
    exact ⟨_, _, _, _, _, _, _, _, _, _, _, _, rfl, hb, fun h => by cases h⟩
  · rw [if_neg (by intro h; apply h2; simpa using h)] at hc
    obtain ⟨d, s, x, hp, hs, hx, hf⟩ := okTree_open hc
    rw [Bool.and_eq_true, beq_iff_eq] at hf
    obtain ⟨p, q, hpq⟩ := two_of hf.1
    have hf2 := hf.2
    have a0 : arg x 0 = p := by unfold arg; rw [hpq]; rfl
    have a1 : arg x 1 = q := by unfold arg; rw [hpq]; rfl
    rw [a0, a1] at hf2
    refine ⟨true, x.args, ?_, fun w bt hL hT => (signed_ok rfl rfl (sgN_len i hi) (sgN_len k hk) hp hs hx w hL hT).mono ?_⟩
    · unfold FcB
      rw [if_neg h2]
      refine ⟨rfl, p, q, hpq, ?_⟩
      by_cases hlt : bnN i < bnN k
      · rw [if_pos hlt] at hf2 ⊢
        rw [Bool.and_eq_true, Bool.and_eq_true, beq_iff_eq, beq_iff_eq, beq_iff_eq] at hf2
        obtain ⟨u, v, huv⟩ := two_of hf2.1.2
        have b0 : arg q 0 = u := by unfold arg; rw [huv]; rfl
        exact ⟨hf2.1.1, u, v, huv, by rw [← b0]; exact hf2.2⟩
      · rw [if_neg hlt] at hf2 ⊢
        rw [Bool.and_eq_true, Bool.and_eq_true, beq_iff_eq, beq_iff_eq, beq_iff_eq] at hf2
        obtain ⟨u, v, huv⟩ := two_of hf2.1.2
        have b1 : arg p 1 = v := by unfold arg; rw [huv]; rfl
        exact ⟨hf2.1.1, u, v, huv, by rw [← b1]; exact hf2.2⟩
    · rintro e w' ⟨i0, i1, i2, i3, t4, t5, i6, i7, s8, n8, c8, i9, rfl, hb, hl⟩
      exact ⟨i0, i1, i2, i3, t4, t5, i6, i7, s8, n8, c8, i9, rfl, hb, fun _ => hl⟩
/- What stands behind the call: x's own cells, and its list. -/
def BxR (w wx : World) (i k : Nat) (ok : Bool) (xs : List Ex) (px : Value) : Prop := ∃ bx X i0 i1 i2 i3 t4 t5 i6 i7 s8 n8 c8 i9, px = .pointer (some ⟨bx, 0, none⟩) ∧ wx.heap[bx]? = some (.cells #[.int .u8 i0, .int .i64 i1, .int .u64 i2, .int .u64 i3, .string t4, .string t5, .int .i64 i6, .int .i64 i7, .slice s8 n8 c8, .int .i64 i9] 49 (0, 0)) ∧ Sg w wx i k ∧ (ok = true → ListR ExR mkAgg 10 wx X (.slice s8 n8 c8) xs)
set_option maxRecDepth 100000 in
set_option maxHeartbeats 8000000 in
theorem binds_any (w : World) (a b : Nat) (ha : a < 256) (hb : b < 256) {bt : Nat} (hLs : Ls w) (hTw : Tws w bt) :
    Calls Tryz.prog 7 #[.int .u8 (a : Int), .int .u8 (b : Int)] w fun e w' => e = .returned (.bool true) ∧ Below w.heap.size w w' := by
  obtain ⟨i, hi⟩ : ∃ i, i = a % 15 := ⟨_, rfl⟩
  obtain ⟨k, hk⟩ : ∃ k, k = b % 15 := ⟨_, rfl⟩
  have hi15 : i < 15 := by omega
  have hk15 : k < 15 := by omega
  obtain ⟨ok, xs, hF, hS⟩ := bsg_any hi15 hk15
  have HF := hide hF
  have HSg := hide (fun W (hb : Below w.heap.size w W) => hS W bt (hLs.below hb) (hTw.below hb))
  have HAl := hide (fun W (hb : Below w.heap.size w W) => alive8_any W (hLs.below hb) (hTw.below hb))
  have hai : ((a : Int)).tmod 15 = (i : Int) := by rw [Int.tmod_eq_emod_of_nonneg (by omega)]; omega
  have hbk : ((b : Int)).tmod 15 = (k : Int) := by rw [Int.tmod_eq_emod_of_nonneg (by omega)]; omega
  have hil : (i : Int) < 15 := by omega
  have hkl : (k : Int) < 15 := by omega
  have S2 := hide (Sg.start w i k)
  unfold ST15 BN15 at S2
  have HI := hide hi15; have HK := hide hk15
  clear hLs hTw hi hk hi15 hk15 hF hS
  go_enter Tryz.func7, Tryz.ntmps7
  go_upto_region 4 with fail
  generalize ((w.alloc (.cells #[.string ⟨#[124, 124]⟩, .string ⟨#[38, 38]⟩, .string ⟨#[61, 61]⟩, .string ⟨#[33, 61]⟩, .string ⟨#[60]⟩, .string ⟨#[60, 61]⟩, .string ⟨#[38]⟩, .string ⟨#[124]⟩, .string ⟨#[94]⟩, .string ⟨#[43]⟩, .string ⟨#[45]⟩, .string ⟨#[43, 43]⟩, .string ⟨#[42]⟩, .string ⟨#[60, 60]⟩, .string ⟨#[62, 62]⟩] 9)).alloc (.cells #[.int .i64 0, .int .i64 1, .int .i64 2, .int .i64 2, .int .i64 2, .int .i64 2, .int .i64 3, .int .i64 3, .int .i64 3, .int .i64 4, .int .i64 4, .int .i64 5, .int .i64 6, .int .i64 7, .int .i64 7] 3)) = W2 at *
  have HW2 : Hid (w.heap.size + 2 ≤ W2.heap.size) := (Array.getElem?_eq_some_iff.1 S2.out.bn).1
  go_cut [9, 10] from 19 to 30 (fun px okv wx => okv = .bool ok ∧ Hid (BxR w wx i k ok xs px))
  case first =>
    refine wp_region_any (by kernel_rfl) ?_
    change wpAny _ _ _ _ _ _ _ (World.drew _)
    have S0 := hide (S2.out.next (Below.refl _ _).drew)
    have HZ0 : Hid (w.heap.size + 2 ≤ W2.drew.heap.size) := HW2.out
    refine wpAny_take (i := 0) (v := ?_) rfl (by kernel_rfl) (by kernel_rfl) (by kernel_rfl) (fun _ _ _ h => h) (Or.inl ⟨by rfl, ?_⟩) ?_
    rotate_left
    · (intro w; go_simp; try (with_reducible rfl))
    refine wpAny_take (i := 1) (v := ?_) rfl (by kernel_rfl) (by kernel_rfl) (by kernel_rfl) (fun _ _ _ h => h) (Or.inl ⟨by rfl, ?_⟩) ?_
    rotate_left
    · (intro w; go_simp; try (with_reducible rfl))
    refine wpAny_take (i := 2) (v := ?_) rfl (by kernel_rfl) (by kernel_rfl) (by kernel_rfl) (fun _ _ _ h => h) (Or.inl ⟨by rfl, ?_⟩) ?_
    rotate_left
    · (intro w; go_simp; try (with_reducible rfl))
    refine wpAny_take (i := 4) (v := ?_) rfl (by kernel_rfl) (by kernel_rfl) (by kernel_rfl) (fun _ _ _ h => h) (Or.inl ⟨by rfl, ?_⟩) ?_
    rotate_left
    · (intro w; go_simp; try (with_reducible rfl))
    refine wpAny_take (i := 5) (v := ?_) rfl (by kernel_rfl) (by kernel_rfl) (by kernel_rfl) (fun _ _ _ h => h) (Or.inl ⟨by rfl, ?_⟩) ?_
    rotate_left
    · (intro w; go_simp; try (with_reducible rfl))
    refine wpAny_take (i := 6) (v := ?_) rfl (by kernel_rfl) (by kernel_rfl) (by kernel_rfl) (fun _ _ _ h => h) (Or.inl ⟨by rfl, ?_⟩) ?_
    rotate_left
    · (intro w; go_simp; try (with_reducible rfl))
    refine wpAny_ready (rs := [3, 7, 12]) (by kernel_rfl) (by simp) ?_
    refine AllReady.cons rfl (fun K hK => ?_) ?_
    · have q : (W2.drew).cell? ⟨w.heap.size, i, none⟩ = some (.string (txt (sgN i))) := (S0.out.at HI.out HK.out).1
      go_simp
      clear q
      refine hK _ _ ?_; clear hK K
      refine wpAny_ready (rs := [7, 12]) (by kernel_rfl) (by simp) ?_
      refine AllReady.cons rfl (fun K hK => ?_) ?_
      · have q : (W2.drew).cell? ⟨w.heap.size, k, none⟩ = some (.string (txt (sgN k))) := (S0.out.at HI.out HK.out).2.1
        go_simp
        clear q
        refine hK _ _ ?_; clear hK K
        refine wpAny_ready (rs := [8, 12]) (by kernel_rfl) (by simp) ?_
        refine AllReady.cons rfl (fun K hK => ?_) ?_
        · go_simp
          refine (HSg.out _ S0.out.bl).mono ?_
          rintro e w3 ⟨i0, i1, i2, i3, t4, t5, i6, i7, s8, n8, c8, i9, rfl, hb3, hl⟩
          have S3 := hide (S0.out.next hb3)
          have HZ3 : Hid (w.heap.size + 2 ≤ w3.heap.size) := Nat.le_trans (by first | exact HZ0.out | exact Nat.le_trans HZ0.out (A_le _ _)) hb3.size
          have L3 := hide hl
          clear hl hb3
          refine hK _ _ ?_; clear hK K
          refine wpAny_take (i := 9) (v := ?_) rfl (by kernel_rfl) (by kernel_rfl) (by kernel_rfl) (fun _ _ _ h => h) (Or.inl ⟨by rfl, ?_⟩) ?_
          rotate_left
          · (intro w; go_simp; try (with_reducible rfl))
          refine wpAny_take (i := 10) (v := ?_) rfl (by kernel_rfl) (by kernel_rfl) (by kernel_rfl) (fun _ _ _ h => h) (Or.inl ⟨by rfl, ?_⟩) ?_
          rotate_left
          · (intro w; go_simp; try (with_reducible rfl))
          refine wpAny_take (i := 11) (v := ?_) rfl (by kernel_rfl) (by kernel_rfl) (by kernel_rfl) (fun _ _ _ h => h) (Or.inl ⟨by rfl, ?_⟩) ?_
          rotate_left
          · (intro w; go_simp; try (with_reducible rfl))
          refine wpAny_ready (rs := [12]) (by kernel_rfl) (by simp) ?_
          refine AllReady.cons rfl (fun K hK => ?_) ?_
          · go_simp
            have A4 := hide ((Below.refl _ w3).alloc (Nat.le_refl _) (.cells #[.int .u8 0, .int .i64 0, .int .u64 0, .int .u64 0, .string ⟨#[]⟩, .string ⟨#[]⟩, .int .i64 0, .int .i64 0, .slice none 0 0, .int .i64 0] 49))
            have S4 := hide (S3.out.next A4.out)
            have Z4 := hide (heap_alloc_new w3 (.cells #[.int .u8 0, .int .i64 0, .int .u64 0, .int .u64 0, .string ⟨#[]⟩, .string ⟨#[]⟩, .int .i64 0, .int .i64 0, .slice none 0 0, .int .i64 0] 49))
            have HB4 : Hid (w.heap.size + 2 ≤ (w3).heap.size) := HZ3.out
            have L4 : Hid (ok = true → ListR ExR mkAgg 10 (w3.alloc (.cells #[.int .u8 0, .int .i64 0, .int .u64 0, .int .u64 0, .string ⟨#[]⟩, .string ⟨#[]⟩, .int .i64 0, .int .i64 0, .slice none 0 0, .int .i64 0] 49)) _ (.slice s8 n8 c8) xs) := fun h => (ListR.ok exRep_ok mkAgg 10).frame (L3.out h) A4.out.size (fun b _ hl => A4.out.block b hl)
            refine hK _ _ ?_; clear hK K
            refine wpAny_ready (rs := [13]) (by kernel_rfl) (by simp) ?_
            refine AllReady.cons rfl (fun K hK => ?_) ?_
            · refine step_storeA rfl 49 _ _ rfl (w3).heap.size [.int .u8 i0, .int .i64 i1, .int .u64 i2, .int .u64 i3, .string t4, .string t5, .int .i64 i6, .int .i64 i7, .slice s8 n8 c8, .int .i64 i9] #[.int .u8 0, .int .i64 0, .int .u64 0, .int .u64 0, .string ⟨#[]⟩, .string ⟨#[]⟩, .int .i64 0, .int .i64 0, .slice none 0 0, .int .i64 0] 49 rfl rfl sz_expr Z4.out rfl (by intro u hu; simp at hu; rcases hu with rfl | rfl | rfl | rfl | rfl | rfl | rfl | rfl | rfl | rfl <;> rfl) ?_
              intro w9 hw9
              have hg := got0 (cs := [.int .u8 i0, .int .i64 i1, .int .u64 i2, .int .u64 i3, .string t4, .string t5, .int .i64 i6, .int .i64 i7, .slice s8 n8 c8, .int .i64 i9]) Z4.out rfl
              have hF := fr_all (w3).heap.size [.int .u8 i0, .int .i64 i1, .int .u64 i2, .int .u64 i3, .string t4, .string t5, .int .i64 i6, .int .i64 i7, .slice s8 n8 c8, .int .i64 i9] (w3.alloc (.cells #[.int .u8 0, .int .i64 0, .int .u64 0, .int .u64 0, .string ⟨#[]⟩, .string ⟨#[]⟩, .int .i64 0, .int .i64 0, .slice none 0 0, .int .i64 0] 49)) 0
              rw [← hw9] at hg hF
              have BX : Hid (BxR w w9 i k ok xs (.pointer (some ⟨(w3).heap.size, 0, none⟩))) := ⟨_, _, _, _, _, _, _, _, _, _, _, _, _, _, rfl, hg, S4.out.fr hF HB4.out, fun h => (ListR.ok exRep_ok mkAgg 10).frame (L4.out h) hF.size (fun b hb hl => hF.block b hl (fun e => absurd (Nat.lt_of_lt_of_le hb.2 (Nat.le_of_eq (show w3.heap.size = b from (show b = w3.heap.size from e).symm))) (Nat.lt_irrefl _)))⟩
              clear hg hF hw9
              refine hK _ _ ?_; clear hK K
              refine wpAny_take (i := 14) (v := ?_) rfl (by kernel_rfl) (by kernel_rfl) (by kernel_rfl) (fun _ _ _ h => h) (Or.inl ⟨by rfl, ?_⟩) ?_
              rotate_left
              · (intro w; go_simp; try (with_reducible rfl))
              refine wpAny_done (by kernel_rfl) ?_ _
              go_wp2_with fail
              go_meet
              case rel => exact ⟨rfl, BX.out⟩
            exact AllReady.nil
          exact AllReady.nil
        refine AllReady.cons rfl (fun K hK => ?_) ?_
        · go_simp
          have A6 := hide ((Below.refl _ W2.drew).alloc (Nat.le_refl _) (.cells #[.int .u8 0, .int .i64 0, .int .u64 0, .int .u64 0, .string ⟨#[]⟩, .string ⟨#[]⟩, .int .i64 0, .int .i64 0, .slice none 0 0, .int .i64 0] 49))
          have S6 := hide (S0.out.next A6.out)
          have Z6 := hide (heap_alloc_new W2.drew (.cells #[.int .u8 0, .int .i64 0, .int .u64 0, .int .u64 0, .string ⟨#[]⟩, .string ⟨#[]⟩, .int .i64 0, .int .i64 0, .slice none 0 0, .int .i64 0] 49))
          have HB6 : Hid (w.heap.size + 2 ≤ (W2.drew).heap.size) := HZ0.out
          refine hK _ _ ?_; clear hK K
          refine wpAny_ready (rs := [8]) (by kernel_rfl) (by simp) ?_
          refine AllReady.cons rfl (fun K hK => ?_) ?_
          · go_simp
            refine (HSg.out _ S6.out.bl).mono ?_
            rintro e w3 ⟨i0, i1, i2, i3, t4, t5, i6, i7, s8, n8, c8, i9, rfl, hb3, hl⟩
            have S7 := hide (S6.out.next hb3)
            have HZ7 : Hid (w.heap.size + 2 ≤ w3.heap.size) := Nat.le_trans (by first | exact HZ0.out | exact Nat.le_trans HZ0.out (A_le _ _)) hb3.size
            have L7 := hide hl
            have Z7 := hide ((hb3.block _ (Array.getElem?_eq_some_iff.1 Z6.out).1).trans Z6.out)
            have AP7 : Hid (∀ b, (fun b => ((W2.drew.alloc (.cells #[.int .u8 0, .int .i64 0, .int .u64 0, .int .u64 0, .string ⟨#[]⟩, .string ⟨#[]⟩, .int .i64 0, .int .i64 0, .slice none 0 0, .int .i64 0] 49))).heap.size < b ∧ b < w3.heap.size) b → b ≠ (W2.drew).heap.size) := fun b hb e => by have h1 := hb.1; have h2 := A_le W2.drew (.cells #[.int .u8 0, .int .i64 0, .int .u64 0, .int .u64 0, .string ⟨#[]⟩, .string ⟨#[]⟩, .int .i64 0, .int .i64 0, .slice none 0 0, .int .i64 0] 49); subst e; exact absurd (Nat.lt_of_le_of_lt h2 h1) (Nat.lt_irrefl _)
            clear hl hb3
            refine hK _ _ ?_; clear hK K
            refine wpAny_take (i := 9) (v := ?_) rfl (by kernel_rfl) (by kernel_rfl) (by kernel_rfl) (fun _ _ _ h => h) (Or.inl ⟨by rfl, ?_⟩) ?_
            rotate_left
            · (intro w; go_simp; try (with_reducible rfl))
            refine wpAny_take (i := 10) (v := ?_) rfl (by kernel_rfl) (by kernel_rfl) (by kernel_rfl) (fun _ _ _ h => h) (Or.inl ⟨by rfl, ?_⟩) ?_
            rotate_left
            · (intro w; go_simp; try (with_reducible rfl))
            refine wpAny_take (i := 11) (v := ?_) rfl (by kernel_rfl) (by kernel_rfl) (by kernel_rfl) (fun _ _ _ h => h) (Or.inl ⟨by rfl, ?_⟩) ?_
            rotate_left
            · (intro w; go_simp; try (with_reducible rfl))
            refine wpAny_ready (rs := [13]) (by kernel_rfl) (by simp) ?_
            refine AllReady.cons rfl (fun K hK => ?_) ?_
            · refine step_storeA rfl 49 _ _ rfl (W2.drew).heap.size [.int .u8 i0, .int .i64 i1, .int .u64 i2, .int .u64 i3, .string t4, .string t5, .int .i64 i6, .int .i64 i7, .slice s8 n8 c8, .int .i64 i9] #[.int .u8 0, .int .i64 0, .int .u64 0, .int .u64 0, .string ⟨#[]⟩, .string ⟨#[]⟩, .int .i64 0, .int .i64 0, .slice none 0 0, .int .i64 0] 49 rfl rfl sz_expr Z7.out rfl (by intro u hu; simp at hu; rcases hu with rfl | rfl | rfl | rfl | rfl | rfl | rfl | rfl | rfl | rfl <;> rfl) ?_
              intro w9 hw9
              have hg := got0 (cs := [.int .u8 i0, .int .i64 i1, .int .u64 i2, .int .u64 i3, .string t4, .string t5, .int .i64 i6, .int .i64 i7, .slice s8 n8 c8, .int .i64 i9]) Z7.out rfl
              have hF := fr_all (W2.drew).heap.size [.int .u8 i0, .int .i64 i1, .int .u64 i2, .int .u64 i3, .string t4, .string t5, .int .i64 i6, .int .i64 i7, .slice s8 n8 c8, .int .i64 i9] w3 0
              rw [← hw9] at hg hF
              have BX : Hid (BxR w w9 i k ok xs (.pointer (some ⟨(W2.drew).heap.size, 0, none⟩))) := ⟨_, _, _, _, _, _, _, _, _, _, _, _, _, _, rfl, hg, S7.out.fr hF HB6.out, fun h => (ListR.ok exRep_ok mkAgg 10).frame (L7.out h) hF.size (fun b hb hl => hF.block b hl (fun e => AP7.out b hb e))⟩
              clear hg hF hw9
              refine hK _ _ ?_; clear hK K
              refine wpAny_take (i := 14) (v := ?_) rfl (by kernel_rfl) (by kernel_rfl) (by kernel_rfl) (fun _ _ _ h => h) (Or.inl ⟨by rfl, ?_⟩) ?_
              rotate_left
              · (intro w; go_simp; try (with_reducible rfl))
              refine wpAny_done (by kernel_rfl) ?_ _
              go_wp2_with fail
              go_meet
              case rel => exact ⟨rfl, BX.out⟩
            exact AllReady.nil
          exact AllReady.nil
        exact AllReady.nil
      refine AllReady.cons rfl (fun K hK => ?_) ?_
      · go_simp
        have A9 := hide ((Below.refl _ W2.drew).alloc (Nat.le_refl _) (.cells #[.int .u8 0, .int .i64 0, .int .u64 0, .int .u64 0, .string ⟨#[]⟩, .string ⟨#[]⟩, .int .i64 0, .int .i64 0, .slice none 0 0, .int .i64 0] 49))
        have S9 := hide (S0.out.next A9.out)
        have Z9 := hide (heap_alloc_new W2.drew (.cells #[.int .u8 0, .int .i64 0, .int .u64 0, .int .u64 0, .string ⟨#[]⟩, .string ⟨#[]⟩, .int .i64 0, .int .i64 0, .slice none 0 0, .int .i64 0] 49))
        have HB9 : Hid (w.heap.size + 2 ≤ (W2.drew).heap.size) := HZ0.out
        refine hK _ _ ?_; clear hK K
        refine wpAny_ready (rs := [7]) (by kernel_rfl) (by simp) ?_
        refine AllReady.cons rfl (fun K hK => ?_) ?_
        · have q : ((W2.alloc (.cells #[.int .u8 0, .int .i64 0, .int .u64 0, .int .u64 0, .string ⟨#[]⟩, .string ⟨#[]⟩, .int .i64 0, .int .i64 0, .slice none 0 0, .int .i64 0] 49)).drew).cell? ⟨w.heap.size, k, none⟩ = some (.string (txt (sgN k))) := (S9.out.at HI.out HK.out).2.1
          go_simp
          clear q
          refine hK _ _ ?_; clear hK K
          refine wpAny_ready (rs := [8]) (by kernel_rfl) (by simp) ?_
          refine AllReady.cons rfl (fun K hK => ?_) ?_
          · go_simp
            refine (HSg.out _ S9.out.bl).mono ?_
            rintro e w3 ⟨i0, i1, i2, i3, t4, t5, i6, i7, s8, n8, c8, i9, rfl, hb3, hl⟩
            have S11 := hide (S9.out.next hb3)
            have HZ11 : Hid (w.heap.size + 2 ≤ w3.heap.size) := Nat.le_trans (by first | exact HZ0.out | exact Nat.le_trans HZ0.out (A_le _ _)) hb3.size
            have L11 := hide hl
            have Z11 := hide ((hb3.block _ (Array.getElem?_eq_some_iff.1 Z9.out).1).trans Z9.out)
            have AP11 : Hid (∀ b, (fun b => ((W2.drew.alloc (.cells #[.int .u8 0, .int .i64 0, .int .u64 0, .int .u64 0, .string ⟨#[]⟩, .string ⟨#[]⟩, .int .i64 0, .int .i64 0, .slice none 0 0, .int .i64 0] 49))).heap.size < b ∧ b < w3.heap.size) b → b ≠ (W2.drew).heap.size) := fun b hb e => by have h1 := hb.1; have h2 := A_le W2.drew (.cells #[.int .u8 0, .int .i64 0, .int .u64 0, .int .u64 0, .string ⟨#[]⟩, .string ⟨#[]⟩, .int .i64 0, .int .i64 0, .slice none 0 0, .int .i64 0] 49); subst e; exact absurd (Nat.lt_of_le_of_lt h2 h1) (Nat.lt_irrefl _)
            clear hl hb3
            refine hK _ _ ?_; clear hK K
            refine wpAny_take (i := 9) (v := ?_) rfl (by kernel_rfl) (by kernel_rfl) (by kernel_rfl) (fun _ _ _ h => h) (Or.inl ⟨by rfl, ?_⟩) ?_
            rotate_left
            · (intro w; go_simp; try (with_reducible rfl))
            refine wpAny_take (i := 10) (v := ?_) rfl (by kernel_rfl) (by kernel_rfl) (by kernel_rfl) (fun _ _ _ h => h) (Or.inl ⟨by rfl, ?_⟩) ?_
            rotate_left
            · (intro w; go_simp; try (with_reducible rfl))
            refine wpAny_take (i := 11) (v := ?_) rfl (by kernel_rfl) (by kernel_rfl) (by kernel_rfl) (fun _ _ _ h => h) (Or.inl ⟨by rfl, ?_⟩) ?_
            rotate_left
            · (intro w; go_simp; try (with_reducible rfl))
            refine wpAny_ready (rs := [13]) (by kernel_rfl) (by simp) ?_
            refine AllReady.cons rfl (fun K hK => ?_) ?_
            · refine step_storeA rfl 49 _ _ rfl (W2.drew).heap.size [.int .u8 i0, .int .i64 i1, .int .u64 i2, .int .u64 i3, .string t4, .string t5, .int .i64 i6, .int .i64 i7, .slice s8 n8 c8, .int .i64 i9] #[.int .u8 0, .int .i64 0, .int .u64 0, .int .u64 0, .string ⟨#[]⟩, .string ⟨#[]⟩, .int .i64 0, .int .i64 0, .slice none 0 0, .int .i64 0] 49 rfl rfl sz_expr Z11.out rfl (by intro u hu; simp at hu; rcases hu with rfl | rfl | rfl | rfl | rfl | rfl | rfl | rfl | rfl | rfl <;> rfl) ?_
              intro w9 hw9
              have hg := got0 (cs := [.int .u8 i0, .int .i64 i1, .int .u64 i2, .int .u64 i3, .string t4, .string t5, .int .i64 i6, .int .i64 i7, .slice s8 n8 c8, .int .i64 i9]) Z11.out rfl
              have hF := fr_all (W2.drew).heap.size [.int .u8 i0, .int .i64 i1, .int .u64 i2, .int .u64 i3, .string t4, .string t5, .int .i64 i6, .int .i64 i7, .slice s8 n8 c8, .int .i64 i9] w3 0
              rw [← hw9] at hg hF
              have BX : Hid (BxR w w9 i k ok xs (.pointer (some ⟨(W2.drew).heap.size, 0, none⟩))) := ⟨_, _, _, _, _, _, _, _, _, _, _, _, _, _, rfl, hg, S11.out.fr hF HB9.out, fun h => (ListR.ok exRep_ok mkAgg 10).frame (L11.out h) hF.size (fun b hb hl => hF.block b hl (fun e => AP11.out b hb e))⟩
              clear hg hF hw9
              refine hK _ _ ?_; clear hK K
              refine wpAny_take (i := 14) (v := ?_) rfl (by kernel_rfl) (by kernel_rfl) (by kernel_rfl) (fun _ _ _ h => h) (Or.inl ⟨by rfl, ?_⟩) ?_
              rotate_left
              · (intro w; go_simp; try (with_reducible rfl))
              refine wpAny_done (by kernel_rfl) ?_ _
              go_wp2_with fail
              go_meet
              case rel => exact ⟨rfl, BX.out⟩
            exact AllReady.nil
          exact AllReady.nil
        exact AllReady.nil
      exact AllReady.nil
    refine AllReady.cons rfl (fun K hK => ?_) ?_
    · have q : (W2.drew).cell? ⟨w.heap.size, k, none⟩ = some (.string (txt (sgN k))) := (S0.out.at HI.out HK.out).2.1
      go_simp
      clear q
      refine hK _ _ ?_; clear hK K
      refine wpAny_ready (rs := [3, 12]) (by kernel_rfl) (by simp) ?_
      refine AllReady.cons rfl (fun K hK => ?_) ?_
      · have q : (W2.drew).cell? ⟨w.heap.size, i, none⟩ = some (.string (txt (sgN i))) := (S0.out.at HI.out HK.out).1
        go_simp
        clear q
        refine hK _ _ ?_; clear hK K
        refine wpAny_ready (rs := [8, 12]) (by kernel_rfl) (by simp) ?_
        refine AllReady.cons rfl (fun K hK => ?_) ?_
        · go_simp
          refine (HSg.out _ S0.out.bl).mono ?_
          rintro e w3 ⟨i0, i1, i2, i3, t4, t5, i6, i7, s8, n8, c8, i9, rfl, hb3, hl⟩
          have S15 := hide (S0.out.next hb3)
          have HZ15 : Hid (w.heap.size + 2 ≤ w3.heap.size) := Nat.le_trans (by first | exact HZ0.out | exact Nat.le_trans HZ0.out (A_le _ _)) hb3.size
          have L15 := hide hl
          clear hl hb3
          refine hK _ _ ?_; clear hK K
          refine wpAny_take (i := 9) (v := ?_) rfl (by kernel_rfl) (by kernel_rfl) (by kernel_rfl) (fun _ _ _ h => h) (Or.inl ⟨by rfl, ?_⟩) ?_
          rotate_left
          · (intro w; go_simp; try (with_reducible rfl))
          refine wpAny_take (i := 10) (v := ?_) rfl (by kernel_rfl) (by kernel_rfl) (by kernel_rfl) (fun _ _ _ h => h) (Or.inl ⟨by rfl, ?_⟩) ?_
          rotate_left
          · (intro w; go_simp; try (with_reducible rfl))
          refine wpAny_take (i := 11) (v := ?_) rfl (by kernel_rfl) (by kernel_rfl) (by kernel_rfl) (fun _ _ _ h => h) (Or.inl ⟨by rfl, ?_⟩) ?_
          rotate_left
          · (intro w; go_simp; try (with_reducible rfl))
          refine wpAny_ready (rs := [12]) (by kernel_rfl) (by simp) ?_
          refine AllReady.cons rfl (fun K hK => ?_) ?_
          · go_simp
            have A16 := hide ((Below.refl _ w3).alloc (Nat.le_refl _) (.cells #[.int .u8 0, .int .i64 0, .int .u64 0, .int .u64 0, .string ⟨#[]⟩, .string ⟨#[]⟩, .int .i64 0, .int .i64 0, .slice none 0 0, .int .i64 0] 49))
            have S16 := hide (S15.out.next A16.out)
            have Z16 := hide (heap_alloc_new w3 (.cells #[.int .u8 0, .int .i64 0, .int .u64 0, .int .u64 0, .string ⟨#[]⟩, .string ⟨#[]⟩, .int .i64 0, .int .i64 0, .slice none 0 0, .int .i64 0] 49))
            have HB16 : Hid (w.heap.size + 2 ≤ (w3).heap.size) := HZ15.out
            have L16 : Hid (ok = true → ListR ExR mkAgg 10 (w3.alloc (.cells #[.int .u8 0, .int .i64 0, .int .u64 0, .int .u64 0, .string ⟨#[]⟩, .string ⟨#[]⟩, .int .i64 0, .int .i64 0, .slice none 0 0, .int .i64 0] 49)) _ (.slice s8 n8 c8) xs) := fun h => (ListR.ok exRep_ok mkAgg 10).frame (L15.out h) A16.out.size (fun b _ hl => A16.out.block b hl)
            refine hK _ _ ?_; clear hK K
            refine wpAny_ready (rs := [13]) (by kernel_rfl) (by simp) ?_
            refine AllReady.cons rfl (fun K hK => ?_) ?_
            · refine step_storeA rfl 49 _ _ rfl (w3).heap.size [.int .u8 i0, .int .i64 i1, .int .u64 i2, .int .u64 i3, .string t4, .string t5, .int .i64 i6, .int .i64 i7, .slice s8 n8 c8, .int .i64 i9] #[.int .u8 0, .int .i64 0, .int .u64 0, .int .u64 0, .string ⟨#[]⟩, .string ⟨#[]⟩, .int .i64 0, .int .i64 0, .slice none 0 0, .int .i64 0] 49 rfl rfl sz_expr Z16.out rfl (by intro u hu; simp at hu; rcases hu with rfl | rfl | rfl | rfl | rfl | rfl | rfl | rfl | rfl | rfl <;> rfl) ?_
              intro w9 hw9
              have hg := got0 (cs := [.int .u8 i0, .int .i64 i1, .int .u64 i2, .int .u64 i3, .string t4, .string t5, .int .i64 i6, .int .i64 i7, .slice s8 n8 c8, .int .i64 i9]) Z16.out rfl
              have hF := fr_all (w3).heap.size [.int .u8 i0, .int .i64 i1, .int .u64 i2, .int .u64 i3, .string t4, .string t5, .int .i64 i6, .int .i64 i7, .slice s8 n8 c8, .int .i64 i9] (w3.alloc (.cells #[.int .u8 0, .int .i64 0, .int .u64 0, .int .u64 0, .string ⟨#[]⟩, .string ⟨#[]⟩, .int .i64 0, .int .i64 0, .slice none 0 0, .int .i64 0] 49)) 0
              rw [← hw9] at hg hF
              have BX : Hid (BxR w w9 i k ok xs (.pointer (some ⟨(w3).heap.size, 0, none⟩))) := ⟨_, _, _, _, _, _, _, _, _, _, _, _, _, _, rfl, hg, S16.out.fr hF HB16.out, fun h => (ListR.ok exRep_ok mkAgg 10).frame (L16.out h) hF.size (fun b hb hl => hF.block b hl (fun e => absurd (Nat.lt_of_lt_of_le hb.2 (Nat.le_of_eq (show w3.heap.size = b from (show b = w3.heap.size from e).symm))) (Nat.lt_irrefl _)))⟩
              clear hg hF hw9
              refine hK _ _ ?_; clear hK K
              refine wpAny_take (i := 14) (v := ?_) rfl (by kernel_rfl) (by kernel_rfl) (by kernel_rfl) (fun _ _ _ h => h) (Or.inl ⟨by rfl, ?_⟩) ?_
              rotate_left
              · (intro w; go_simp; try (with_reducible rfl))
              refine wpAny_done (by kernel_rfl) ?_ _
              go_wp2_with fail
              go_meet
              case rel => exact ⟨rfl, BX.out⟩
            exact AllReady.nil
          exact AllReady.nil
        refine AllReady.cons rfl (fun K hK => ?_) ?_
        · go_simp
          have A18 := hide ((Below.refl _ W2.drew).alloc (Nat.le_refl _) (.cells #[.int .u8 0, .int .i64 0, .int .u64 0, .int .u64 0, .string ⟨#[]⟩, .string ⟨#[]⟩, .int .i64 0, .int .i64 0, .slice none 0 0, .int .i64 0] 49))
          have S18 := hide (S0.out.next A18.out)
          have Z18 := hide (heap_alloc_new W2.drew (.cells #[.int .u8 0, .int .i64 0, .int .u64 0, .int .u64 0, .string ⟨#[]⟩, .string ⟨#[]⟩, .int .i64 0, .int .i64 0, .slice none 0 0, .int .i64 0] 49))
          have HB18 : Hid (w.heap.size + 2 ≤ (W2.drew).heap.size) := HZ0.out
          refine hK _ _ ?_; clear hK K
          refine wpAny_ready (rs := [8]) (by kernel_rfl) (by simp) ?_
          refine AllReady.cons rfl (fun K hK => ?_) ?_
          · go_simp
            refine (HSg.out _ S18.out.bl).mono ?_
            rintro e w3 ⟨i0, i1, i2, i3, t4, t5, i6, i7, s8, n8, c8, i9, rfl, hb3, hl⟩
            have S19 := hide (S18.out.next hb3)
            have HZ19 : Hid (w.heap.size + 2 ≤ w3.heap.size) := Nat.le_trans (by first | exact HZ0.out | exact Nat.le_trans HZ0.out (A_le _ _)) hb3.size
            have L19 := hide hl
            have Z19 := hide ((hb3.block _ (Array.getElem?_eq_some_iff.1 Z18.out).1).trans Z18.out)
            have AP19 : Hid (∀ b, (fun b => ((W2.drew.alloc (.cells #[.int .u8 0, .int .i64 0, .int .u64 0, .int .u64 0, .string ⟨#[]⟩, .string ⟨#[]⟩, .int .i64 0, .int .i64 0, .slice none 0 0, .int .i64 0] 49))).heap.size < b ∧ b < w3.heap.size) b → b ≠ (W2.drew).heap.size) := fun b hb e => by have h1 := hb.1; have h2 := A_le W2.drew (.cells #[.int .u8 0, .int .i64 0, .int .u64 0, .int .u64 0, .string ⟨#[]⟩, .string ⟨#[]⟩, .int .i64 0, .int .i64 0, .slice none 0 0, .int .i64 0] 49); subst e; exact absurd (Nat.lt_of_le_of_lt h2 h1) (Nat.lt_irrefl _)
            clear hl hb3
            refine hK _ _ ?_; clear hK K
            refine wpAny_take (i := 9) (v := ?_) rfl (by kernel_rfl) (by kernel_rfl) (by kernel_rfl) (fun _ _ _ h => h) (Or.inl ⟨by rfl, ?_⟩) ?_
            rotate_left
            · (intro w; go_simp; try (with_reducible rfl))
            refine wpAny_take (i := 10) (v := ?_) rfl (by kernel_rfl) (by kernel_rfl) (by kernel_rfl) (fun _ _ _ h => h) (Or.inl ⟨by rfl, ?_⟩) ?_
            rotate_left
            · (intro w; go_simp; try (with_reducible rfl))
            refine wpAny_take (i := 11) (v := ?_) rfl (by kernel_rfl) (by kernel_rfl) (by kernel_rfl) (fun _ _ _ h => h) (Or.inl ⟨by rfl, ?_⟩) ?_
            rotate_left
            · (intro w; go_simp; try (with_reducible rfl))
            refine wpAny_ready (rs := [13]) (by kernel_rfl) (by simp) ?_
            refine AllReady.cons rfl (fun K hK => ?_) ?_
            · refine step_storeA rfl 49 _ _ rfl (W2.drew).heap.size [.int .u8 i0, .int .i64 i1, .int .u64 i2, .int .u64 i3, .string t4, .string t5, .int .i64 i6, .int .i64 i7, .slice s8 n8 c8, .int .i64 i9] #[.int .u8 0, .int .i64 0, .int .u64 0, .int .u64 0, .string ⟨#[]⟩, .string ⟨#[]⟩, .int .i64 0, .int .i64 0, .slice none 0 0, .int .i64 0] 49 rfl rfl sz_expr Z19.out rfl (by intro u hu; simp at hu; rcases hu with rfl | rfl | rfl | rfl | rfl | rfl | rfl | rfl | rfl | rfl <;> rfl) ?_
              intro w9 hw9
              have hg := got0 (cs := [.int .u8 i0, .int .i64 i1, .int .u64 i2, .int .u64 i3, .string t4, .string t5, .int .i64 i6, .int .i64 i7, .slice s8 n8 c8, .int .i64 i9]) Z19.out rfl
              have hF := fr_all (W2.drew).heap.size [.int .u8 i0, .int .i64 i1, .int .u64 i2, .int .u64 i3, .string t4, .string t5, .int .i64 i6, .int .i64 i7, .slice s8 n8 c8, .int .i64 i9] w3 0
              rw [← hw9] at hg hF
              have BX : Hid (BxR w w9 i k ok xs (.pointer (some ⟨(W2.drew).heap.size, 0, none⟩))) := ⟨_, _, _, _, _, _, _, _, _, _, _, _, _, _, rfl, hg, S19.out.fr hF HB18.out, fun h => (ListR.ok exRep_ok mkAgg 10).frame (L19.out h) hF.size (fun b hb hl => hF.block b hl (fun e => AP19.out b hb e))⟩
              clear hg hF hw9
              refine hK _ _ ?_; clear hK K
              refine wpAny_take (i := 14) (v := ?_) rfl (by kernel_rfl) (by kernel_rfl) (by kernel_rfl) (fun _ _ _ h => h) (Or.inl ⟨by rfl, ?_⟩) ?_
              rotate_left
              · (intro w; go_simp; try (with_reducible rfl))
              refine wpAny_done (by kernel_rfl) ?_ _
              go_wp2_with fail
              go_meet
              case rel => exact ⟨rfl, BX.out⟩
            exact AllReady.nil
          exact AllReady.nil
        exact AllReady.nil
      refine AllReady.cons rfl (fun K hK => ?_) ?_
      · go_simp
        have A21 := hide ((Below.refl _ W2.drew).alloc (Nat.le_refl _) (.cells #[.int .u8 0, .int .i64 0, .int .u64 0, .int .u64 0, .string ⟨#[]⟩, .string ⟨#[]⟩, .int .i64 0, .int .i64 0, .slice none 0 0, .int .i64 0] 49))
        have S21 := hide (S0.out.next A21.out)
        have Z21 := hide (heap_alloc_new W2.drew (.cells #[.int .u8 0, .int .i64 0, .int .u64 0, .int .u64 0, .string ⟨#[]⟩, .string ⟨#[]⟩, .int .i64 0, .int .i64 0, .slice none 0 0, .int .i64 0] 49))
        have HB21 : Hid (w.heap.size + 2 ≤ (W2.drew).heap.size) := HZ0.out
        refine hK _ _ ?_; clear hK K
        refine wpAny_ready (rs := [3]) (by kernel_rfl) (by simp) ?_
        refine AllReady.cons rfl (fun K hK => ?_) ?_
        · have q : ((W2.alloc (.cells #[.int .u8 0, .int .i64 0, .int .u64 0, .int .u64 0, .string ⟨#[]⟩, .string ⟨#[]⟩, .int .i64 0, .int .i64 0, .slice none 0 0, .int .i64 0] 49)).drew).cell? ⟨w.heap.size, i, none⟩ = some (.string (txt (sgN i))) := (S21.out.at HI.out HK.out).1
          go_simp
          clear q
          refine hK _ _ ?_; clear hK K
          refine wpAny_ready (rs := [8]) (by kernel_rfl) (by simp) ?_
          refine AllReady.cons rfl (fun K hK => ?_) ?_
          · go_simp
            refine (HSg.out _ S21.out.bl).mono ?_
            rintro e w3 ⟨i0, i1, i2, i3, t4, t5, i6, i7, s8, n8, c8, i9, rfl, hb3, hl⟩
            have S23 := hide (S21.out.next hb3)
            have HZ23 : Hid (w.heap.size + 2 ≤ w3.heap.size) := Nat.le_trans (by first | exact HZ0.out | exact Nat.le_trans HZ0.out (A_le _ _)) hb3.size
            have L23 := hide hl
            have Z23 := hide ((hb3.block _ (Array.getElem?_eq_some_iff.1 Z21.out).1).trans Z21.out)
            have AP23 : Hid (∀ b, (fun b => ((W2.drew.alloc (.cells #[.int .u8 0, .int .i64 0, .int .u64 0, .int .u64 0, .string ⟨#[]⟩, .string ⟨#[]⟩, .int .i64 0, .int .i64 0, .slice none 0 0, .int .i64 0] 49))).heap.size < b ∧ b < w3.heap.size) b → b ≠ (W2.drew).heap.size) := fun b hb e => by have h1 := hb.1; have h2 := A_le W2.drew (.cells #[.int .u8 0, .int .i64 0, .int .u64 0, .int .u64 0, .string ⟨#[]⟩, .string ⟨#[]⟩, .int .i64 0, .int .i64 0, .slice none 0 0, .int .i64 0] 49); subst e; exact absurd (Nat.lt_of_le_of_lt h2 h1) (Nat.lt_irrefl _)
            clear hl hb3
            refine hK _ _ ?_; clear hK K
            refine wpAny_take (i := 9) (v := ?_) rfl (by kernel_rfl) (by kernel_rfl) (by kernel_rfl) (fun _ _ _ h => h) (Or.inl ⟨by rfl, ?_⟩) ?_
            rotate_left
            · (intro w; go_simp; try (with_reducible rfl))
            refine wpAny_take (i := 10) (v := ?_) rfl (by kernel_rfl) (by kernel_rfl) (by kernel_rfl) (fun _ _ _ h => h) (Or.inl ⟨by rfl, ?_⟩) ?_
            rotate_left
            · (intro w; go_simp; try (with_reducible rfl))
            refine wpAny_take (i := 11) (v := ?_) rfl (by kernel_rfl) (by kernel_rfl) (by kernel_rfl) (fun _ _ _ h => h) (Or.inl ⟨by rfl, ?_⟩) ?_
            rotate_left
            · (intro w; go_simp; try (with_reducible rfl))
            refine wpAny_ready (rs := [13]) (by kernel_rfl) (by simp) ?_
            refine AllReady.cons rfl (fun K hK => ?_) ?_
            · refine step_storeA rfl 49 _ _ rfl (W2.drew).heap.size [.int .u8 i0, .int .i64 i1, .int .u64 i2, .int .u64 i3, .string t4, .string t5, .int .i64 i6, .int .i64 i7, .slice s8 n8 c8, .int .i64 i9] #[.int .u8 0, .int .i64 0, .int .u64 0, .int .u64 0, .string ⟨#[]⟩, .string ⟨#[]⟩, .int .i64 0, .int .i64 0, .slice none 0 0, .int .i64 0] 49 rfl rfl sz_expr Z23.out rfl (by intro u hu; simp at hu; rcases hu with rfl | rfl | rfl | rfl | rfl | rfl | rfl | rfl | rfl | rfl <;> rfl) ?_
              intro w9 hw9
              have hg := got0 (cs := [.int .u8 i0, .int .i64 i1, .int .u64 i2, .int .u64 i3, .string t4, .string t5, .int .i64 i6, .int .i64 i7, .slice s8 n8 c8, .int .i64 i9]) Z23.out rfl
              have hF := fr_all (W2.drew).heap.size [.int .u8 i0, .int .i64 i1, .int .u64 i2, .int .u64 i3, .string t4, .string t5, .int .i64 i6, .int .i64 i7, .slice s8 n8 c8, .int .i64 i9] w3 0
              rw [← hw9] at hg hF
              have BX : Hid (BxR w w9 i k ok xs (.pointer (some ⟨(W2.drew).heap.size, 0, none⟩))) := ⟨_, _, _, _, _, _, _, _, _, _, _, _, _, _, rfl, hg, S23.out.fr hF HB21.out, fun h => (ListR.ok exRep_ok mkAgg 10).frame (L23.out h) hF.size (fun b hb hl => hF.block b hl (fun e => AP23.out b hb e))⟩
              clear hg hF hw9
              refine hK _ _ ?_; clear hK K
              refine wpAny_take (i := 14) (v := ?_) rfl (by kernel_rfl) (by kernel_rfl) (by kernel_rfl) (fun _ _ _ h => h) (Or.inl ⟨by rfl, ?_⟩) ?_
              rotate_left
              · (intro w; go_simp; try (with_reducible rfl))
              refine wpAny_done (by kernel_rfl) ?_ _
              go_wp2_with fail
              go_meet
              case rel => exact ⟨rfl, BX.out⟩
            exact AllReady.nil
          exact AllReady.nil
        exact AllReady.nil
      exact AllReady.nil
    refine AllReady.cons rfl (fun K hK => ?_) ?_
    · go_simp
      have A25 := hide ((Below.refl _ W2.drew).alloc (Nat.le_refl _) (.cells #[.int .u8 0, .int .i64 0, .int .u64 0, .int .u64 0, .string ⟨#[]⟩, .string ⟨#[]⟩, .int .i64 0, .int .i64 0, .slice none 0 0, .int .i64 0] 49))
      have S25 := hide (S0.out.next A25.out)
      have Z25 := hide (heap_alloc_new W2.drew (.cells #[.int .u8 0, .int .i64 0, .int .u64 0, .int .u64 0, .string ⟨#[]⟩, .string ⟨#[]⟩, .int .i64 0, .int .i64 0, .slice none 0 0, .int .i64 0] 49))
      have HB25 : Hid (w.heap.size + 2 ≤ (W2.drew).heap.size) := HZ0.out
      refine hK _ _ ?_; clear hK K
      refine wpAny_ready (rs := [3, 7]) (by kernel_rfl) (by simp) ?_
      refine AllReady.cons rfl (fun K hK => ?_) ?_
      · have q : ((W2.alloc (.cells #[.int .u8 0, .int .i64 0, .int .u64 0, .int .u64 0, .string ⟨#[]⟩, .string ⟨#[]⟩, .int .i64 0, .int .i64 0, .slice none 0 0, .int .i64 0] 49)).drew).cell? ⟨w.heap.size, i, none⟩ = some (.string (txt (sgN i))) := (S25.out.at HI.out HK.out).1
        go_simp
        clear q
        refine hK _ _ ?_; clear hK K
        refine wpAny_ready (rs := [7]) (by kernel_rfl) (by simp) ?_
        refine AllReady.cons rfl (fun K hK => ?_) ?_
        · have q : ((W2.alloc (.cells #[.int .u8 0, .int .i64 0, .int .u64 0, .int .u64 0, .string ⟨#[]⟩, .string ⟨#[]⟩, .int .i64 0, .int .i64 0, .slice none 0 0, .int .i64 0] 49)).drew).cell? ⟨w.heap.size, k, none⟩ = some (.string (txt (sgN k))) := (S25.out.at HI.out HK.out).2.1
          go_simp
          clear q
          refine hK _ _ ?_; clear hK K
          refine wpAny_ready (rs := [8]) (by kernel_rfl) (by simp) ?_
          refine AllReady.cons rfl (fun K hK => ?_) ?_
          · go_simp
            refine (HSg.out _ S25.out.bl).mono ?_
            rintro e w3 ⟨i0, i1, i2, i3, t4, t5, i6, i7, s8, n8, c8, i9, rfl, hb3, hl⟩
            have S28 := hide (S25.out.next hb3)
            have HZ28 : Hid (w.heap.size + 2 ≤ w3.heap.size) := Nat.le_trans (by first | exact HZ0.out | exact Nat.le_trans HZ0.out (A_le _ _)) hb3.size
            have L28 := hide hl
            have Z28 := hide ((hb3.block _ (Array.getElem?_eq_some_iff.1 Z25.out).1).trans Z25.out)
            have AP28 : Hid (∀ b, (fun b => ((W2.drew.alloc (.cells #[.int .u8 0, .int .i64 0, .int .u64 0, .int .u64 0, .string ⟨#[]⟩, .string ⟨#[]⟩, .int .i64 0, .int .i64 0, .slice none 0 0, .int .i64 0] 49))).heap.size < b ∧ b < w3.heap.size) b → b ≠ (W2.drew).heap.size) := fun b hb e => by have h1 := hb.1; have h2 := A_le W2.drew (.cells #[.int .u8 0, .int .i64 0, .int .u64 0, .int .u64 0, .string ⟨#[]⟩, .string ⟨#[]⟩, .int .i64 0, .int .i64 0, .slice none 0 0, .int .i64 0] 49); subst e; exact absurd (Nat.lt_of_le_of_lt h2 h1) (Nat.lt_irrefl _)
            clear hl hb3
            refine hK _ _ ?_; clear hK K
            refine wpAny_take (i := 9) (v := ?_) rfl (by kernel_rfl) (by kernel_rfl) (by kernel_rfl) (fun _ _ _ h => h) (Or.inl ⟨by rfl, ?_⟩) ?_
            rotate_left
            · (intro w; go_simp; try (with_reducible rfl))
            refine wpAny_take (i := 10) (v := ?_) rfl (by kernel_rfl) (by kernel_rfl) (by kernel_rfl) (fun _ _ _ h => h) (Or.inl ⟨by rfl, ?_⟩) ?_
            rotate_left
            · (intro w; go_simp; try (with_reducible rfl))
            refine wpAny_take (i := 11) (v := ?_) rfl (by kernel_rfl) (by kernel_rfl) (by kernel_rfl) (fun _ _ _ h => h) (Or.inl ⟨by rfl, ?_⟩) ?_
            rotate_left
            · (intro w; go_simp; try (with_reducible rfl))
            refine wpAny_ready (rs := [13]) (by kernel_rfl) (by simp) ?_
            refine AllReady.cons rfl (fun K hK => ?_) ?_
            · refine step_storeA rfl 49 _ _ rfl (W2.drew).heap.size [.int .u8 i0, .int .i64 i1, .int .u64 i2, .int .u64 i3, .string t4, .string t5, .int .i64 i6, .int .i64 i7, .slice s8 n8 c8, .int .i64 i9] #[.int .u8 0, .int .i64 0, .int .u64 0, .int .u64 0, .string ⟨#[]⟩, .string ⟨#[]⟩, .int .i64 0, .int .i64 0, .slice none 0 0, .int .i64 0] 49 rfl rfl sz_expr Z28.out rfl (by intro u hu; simp at hu; rcases hu with rfl | rfl | rfl | rfl | rfl | rfl | rfl | rfl | rfl | rfl <;> rfl) ?_
              intro w9 hw9
              have hg := got0 (cs := [.int .u8 i0, .int .i64 i1, .int .u64 i2, .int .u64 i3, .string t4, .string t5, .int .i64 i6, .int .i64 i7, .slice s8 n8 c8, .int .i64 i9]) Z28.out rfl
              have hF := fr_all (W2.drew).heap.size [.int .u8 i0, .int .i64 i1, .int .u64 i2, .int .u64 i3, .string t4, .string t5, .int .i64 i6, .int .i64 i7, .slice s8 n8 c8, .int .i64 i9] w3 0
              rw [← hw9] at hg hF
              have BX : Hid (BxR w w9 i k ok xs (.pointer (some ⟨(W2.drew).heap.size, 0, none⟩))) := ⟨_, _, _, _, _, _, _, _, _, _, _, _, _, _, rfl, hg, S28.out.fr hF HB25.out, fun h => (ListR.ok exRep_ok mkAgg 10).frame (L28.out h) hF.size (fun b hb hl => hF.block b hl (fun e => AP28.out b hb e))⟩
              clear hg hF hw9
              refine hK _ _ ?_; clear hK K
              refine wpAny_take (i := 14) (v := ?_) rfl (by kernel_rfl) (by kernel_rfl) (by kernel_rfl) (fun _ _ _ h => h) (Or.inl ⟨by rfl, ?_⟩) ?_
              rotate_left
              · (intro w; go_simp; try (with_reducible rfl))
              refine wpAny_done (by kernel_rfl) ?_ _
              go_wp2_with fail
              go_meet
              case rel => exact ⟨rfl, BX.out⟩
            exact AllReady.nil
          exact AllReady.nil
        exact AllReady.nil
      refine AllReady.cons rfl (fun K hK => ?_) ?_
      · have q : ((W2.alloc (.cells #[.int .u8 0, .int .i64 0, .int .u64 0, .int .u64 0, .string ⟨#[]⟩, .string ⟨#[]⟩, .int .i64 0, .int .i64 0, .slice none 0 0, .int .i64 0] 49)).drew).cell? ⟨w.heap.size, k, none⟩ = some (.string (txt (sgN k))) := (S25.out.at HI.out HK.out).2.1
        go_simp
        clear q
        refine hK _ _ ?_; clear hK K
        refine wpAny_ready (rs := [3]) (by kernel_rfl) (by simp) ?_
        refine AllReady.cons rfl (fun K hK => ?_) ?_
        · have q : ((W2.alloc (.cells #[.int .u8 0, .int .i64 0, .int .u64 0, .int .u64 0, .string ⟨#[]⟩, .string ⟨#[]⟩, .int .i64 0, .int .i64 0, .slice none 0 0, .int .i64 0] 49)).drew).cell? ⟨w.heap.size, i, none⟩ = some (.string (txt (sgN i))) := (S25.out.at HI.out HK.out).1
          go_simp
          clear q
          refine hK _ _ ?_; clear hK K
          refine wpAny_ready (rs := [8]) (by kernel_rfl) (by simp) ?_
          refine AllReady.cons rfl (fun K hK => ?_) ?_
          · go_simp
            refine (HSg.out _ S25.out.bl).mono ?_
            rintro e w3 ⟨i0, i1, i2, i3, t4, t5, i6, i7, s8, n8, c8, i9, rfl, hb3, hl⟩
            have S32 := hide (S25.out.next hb3)
            have HZ32 : Hid (w.heap.size + 2 ≤ w3.heap.size) := Nat.le_trans (by first | exact HZ0.out | exact Nat.le_trans HZ0.out (A_le _ _)) hb3.size
            have L32 := hide hl
            have Z32 := hide ((hb3.block _ (Array.getElem?_eq_some_iff.1 Z25.out).1).trans Z25.out)
            have AP32 : Hid (∀ b, (fun b => ((W2.drew.alloc (.cells #[.int .u8 0, .int .i64 0, .int .u64 0, .int .u64 0, .string ⟨#[]⟩, .string ⟨#[]⟩, .int .i64 0, .int .i64 0, .slice none 0 0, .int .i64 0] 49))).heap.size < b ∧ b < w3.heap.size) b → b ≠ (W2.drew).heap.size) := fun b hb e => by have h1 := hb.1; have h2 := A_le W2.drew (.cells #[.int .u8 0, .int .i64 0, .int .u64 0, .int .u64 0, .string ⟨#[]⟩, .string ⟨#[]⟩, .int .i64 0, .int .i64 0, .slice none 0 0, .int .i64 0] 49); subst e; exact absurd (Nat.lt_of_le_of_lt h2 h1) (Nat.lt_irrefl _)
            clear hl hb3
            refine hK _ _ ?_; clear hK K
            refine wpAny_take (i := 9) (v := ?_) rfl (by kernel_rfl) (by kernel_rfl) (by kernel_rfl) (fun _ _ _ h => h) (Or.inl ⟨by rfl, ?_⟩) ?_
            rotate_left
            · (intro w; go_simp; try (with_reducible rfl))
            refine wpAny_take (i := 10) (v := ?_) rfl (by kernel_rfl) (by kernel_rfl) (by kernel_rfl) (fun _ _ _ h => h) (Or.inl ⟨by rfl, ?_⟩) ?_
            rotate_left
            · (intro w; go_simp; try (with_reducible rfl))
            refine wpAny_take (i := 11) (v := ?_) rfl (by kernel_rfl) (by kernel_rfl) (by kernel_rfl) (fun _ _ _ h => h) (Or.inl ⟨by rfl, ?_⟩) ?_
            rotate_left
            · (intro w; go_simp; try (with_reducible rfl))
            refine wpAny_ready (rs := [13]) (by kernel_rfl) (by simp) ?_
            refine AllReady.cons rfl (fun K hK => ?_) ?_
            · refine step_storeA rfl 49 _ _ rfl (W2.drew).heap.size [.int .u8 i0, .int .i64 i1, .int .u64 i2, .int .u64 i3, .string t4, .string t5, .int .i64 i6, .int .i64 i7, .slice s8 n8 c8, .int .i64 i9] #[.int .u8 0, .int .i64 0, .int .u64 0, .int .u64 0, .string ⟨#[]⟩, .string ⟨#[]⟩, .int .i64 0, .int .i64 0, .slice none 0 0, .int .i64 0] 49 rfl rfl sz_expr Z32.out rfl (by intro u hu; simp at hu; rcases hu with rfl | rfl | rfl | rfl | rfl | rfl | rfl | rfl | rfl | rfl <;> rfl) ?_
              intro w9 hw9
              have hg := got0 (cs := [.int .u8 i0, .int .i64 i1, .int .u64 i2, .int .u64 i3, .string t4, .string t5, .int .i64 i6, .int .i64 i7, .slice s8 n8 c8, .int .i64 i9]) Z32.out rfl
              have hF := fr_all (W2.drew).heap.size [.int .u8 i0, .int .i64 i1, .int .u64 i2, .int .u64 i3, .string t4, .string t5, .int .i64 i6, .int .i64 i7, .slice s8 n8 c8, .int .i64 i9] w3 0
              rw [← hw9] at hg hF
              have BX : Hid (BxR w w9 i k ok xs (.pointer (some ⟨(W2.drew).heap.size, 0, none⟩))) := ⟨_, _, _, _, _, _, _, _, _, _, _, _, _, _, rfl, hg, S32.out.fr hF HB25.out, fun h => (ListR.ok exRep_ok mkAgg 10).frame (L32.out h) hF.size (fun b hb hl => hF.block b hl (fun e => AP32.out b hb e))⟩
              clear hg hF hw9
              refine hK _ _ ?_; clear hK K
              refine wpAny_take (i := 14) (v := ?_) rfl (by kernel_rfl) (by kernel_rfl) (by kernel_rfl) (fun _ _ _ h => h) (Or.inl ⟨by rfl, ?_⟩) ?_
              rotate_left
              · (intro w; go_simp; try (with_reducible rfl))
              refine wpAny_done (by kernel_rfl) ?_ _
              go_wp2_with fail
              go_meet
              case rel => exact ⟨rfl, BX.out⟩
            exact AllReady.nil
          exact AllReady.nil
        exact AllReady.nil
      exact AllReady.nil
    exact AllReady.nil
  case rest =>
    obtain ⟨rfl, HX⟩ := hcut
    obtain ⟨bx, X, i0, i1, i2, i3, t4, t5, i6, i7, s8, n8, c8, i9, rfl, hbx, hsg, hls⟩ := HX.out
    have h4 := hsg.at HI.out HK.out
    have p3 := h4.2.2.1
    have p4 := h4.2.2.2
    have HB0 := hide hsg.bl
    have HN3 := hide (fun W (h : Below wc.heap.size wc W) => ((hsg.next h).at HI.out HK.out).2.2.1)
    have HN4 := hide (fun W (h : Below wc.heap.size wc W) => ((hsg.next h).at HI.out HK.out).2.2.2)
    have HBX := hide hbx
    clear h4 HX hsg HSg S2 HW2 hbx
    have hF := HF.out
    unfold FcB at hF
    clear HF
    by_cases h2 : bnN i = 2 ∧ bnN k = 2
    · rw [if_pos h2] at hF
      subst hF
      rw [h2.1] at p3
      rw [h2.2] at p4
      replace p3 : wc.cell? ⟨w.heap.size + 1, i, none⟩ = some (.int .i64 2) := p3
      replace p4 : wc.cell? ⟨w.heap.size + 1, k, none⟩ = some (.int .i64 2) := p4
      clear h2 hls HN3 HN4 HBX
      go_wp2_with fail
      refine (HAl.out _ HB0.out).mono ?_
      rintro e w4 ⟨rfl, hb4⟩
      have HB4 := hide (HB0.out.trans (hb4.mono HB0.out.size))
      clear hb4
      go_wp2_with fail
      exact bodyPost_ret (v := .bool true) (by simp [results, Tryz.results7, go_sem]) rfl ⟨rfl, HB4.out⟩
    · rw [if_neg h2] at hF
      obtain ⟨rfl, x, y, rfl, hxy⟩ := hF
      obtain ⟨b8, c8', hv0, hat⟩ := exs_at (hls rfl) (by simp)
      have hv : (.slice s8 n8 c8 : Value) = .slice (some ⟨b8, 0, none⟩) 2 c8' := hv0
      injection hv with e1 e2 e3
      subst e1 e2 e3
      obtain ⟨va, hx, hxa⟩ := hat 0 (by simp)
      obtain ⟨vb, hy, hya⟩ := hat 1 (by simp)
      replace hxa : ListR ExR mkAgg 10 wc X va x.args := hxa
      replace hya : ListR ExR mkAgg 10 wc X vb y.args := hya
      replace hx : ExAt wc b8 0 x va := hx
      replace hy : ExAt wc b8 10 y vb := hy
      have hbxl : bx < wc.heap.size := (Array.getElem?_eq_some_iff.1 HBX.out).1
      have HQ8 : Hid (∀ W, Below wc.heap.size wc W → W.cell? ⟨bx, 8, none⟩ = some (.slice (some ⟨b8, 0, none⟩) 2 c8)) := fun W h => cellA ((h.block bx hbxl).trans HBX.out) 8
      have hmn : ¬ (bnN i : Int) = 2 ∨ ((bnN i : Int) = 2 ∧ ¬ (bnN k : Int) = 2) := by omega
      have HMN := hide hmn
      clear h2 hls hat hv0 HBX hbxl hmn
      by_cases hlt : bnN i < bnN k
      · rw [if_pos hlt] at hxy
        obtain ⟨hn1, u, v, huv, hn2⟩ := hxy
        rw [huv] at hya
        obtain ⟨b9, c9, rfl, hat⟩ := exs_at hya (by simp)
        obtain ⟨vu, hu, -⟩ := hat 0 (by simp)
        replace hu : ExAt wc b9 0 u vu := hu
        have HA1 : Hid (∀ W, Below wc.heap.size wc W → W.cell? ⟨b8, 4, none⟩ = some (.string ⟨#[120]⟩)) := fun W h => by
          have q : W.cell? ⟨b8, 4, none⟩ = some (.string (txt x.name)) := by have := (hx.next h).c 4 (by rw [exC_len]; decide); rwa [Nat.zero_add] at this
          rw [q, hn1]; rfl
        have HA2 : Hid (∀ W, Below wc.heap.size wc W → W.cell? ⟨b8, 18, none⟩ = some (.slice (some ⟨b9, 0, none⟩) 2 c9)) := fun W h => (hy.next h).c 8 (by rw [exC_len]; decide)
        have HA3 : Hid (∀ W, Below wc.heap.size wc W → W.cell? ⟨b9, 4, none⟩ = some (.string ⟨#[121]⟩)) := fun W h => by
          have q : W.cell? ⟨b9, 4, none⟩ = some (.string (txt u.name)) := by have := (hu.next h).c 4 (by rw [exC_len]; decide); rwa [Nat.zero_add] at this
          rw [q, hn2]; rfl
        have hlI : (bnN i : Int) < (bnN k : Int) := by omega
        clear hx hy hu hat hya hxa huv hn1 hn2 hlt
        generalize (bnN i : Int) = m at *
        generalize (bnN k : Int) = n at *
        obtain hm2 | ⟨rfl, hn2⟩ := HMN.out
        all_goals
          clear HMN
          go_wp2_with fail
          refine (HAl.out _ HB0.out).mono ?_
          rintro e w4 ⟨rfl, hb4⟩
          have HB4 := hide (HB0.out.trans (hb4.mono HB0.out.size))
          have r3 := HN3.out _ hb4; have r4 := HN4.out _ hb4; have r8 := HQ8.out _ hb4; have ra := HA1.out _ hb4; have rb := HA2.out _ hb4; have rc := HA3.out _ hb4
          clear hb4 HN3 HN4 HQ8 HA1 HA2 HA3 p3 p4
          go_wp2_with fail
          go_region
          go_wp2_with fail
          exact bodyPost_ret (v := .bool true) (by simp [results, Tryz.results7, go_sem]) rfl ⟨rfl, HB4.out.drew⟩
      · rw [if_neg hlt] at hxy
        obtain ⟨hn1, u, v, huv, hn2⟩ := hxy
        rw [huv] at hxa
        obtain ⟨b9, c9, rfl, hat⟩ := exs_at hxa (by simp)
        obtain ⟨vu, hu, -⟩ := hat 1 (by simp)
        replace hu : ExAt wc b9 10 v vu := hu
        have HA1 : Hid (∀ W, Below wc.heap.size wc W → W.cell? ⟨b8, 14, none⟩ = some (.string ⟨#[122]⟩)) := fun W h => by
          have q : W.cell? ⟨b8, 14, none⟩ = some (.string (txt y.name)) := (hy.next h).c 4 (by rw [exC_len]; decide)
          rw [q, hn1]; rfl
        have HA2 : Hid (∀ W, Below wc.heap.size wc W → W.cell? ⟨b8, 8, none⟩ = some (.slice (some ⟨b9, 0, none⟩) 2 c9)) := fun W h => by
          have := (hx.next h).c 8 (by rw [exC_len]; decide); rwa [Nat.zero_add] at this
        have HA3 : Hid (∀ W, Below wc.heap.size wc W → W.cell? ⟨b9, 14, none⟩ = some (.string ⟨#[121]⟩)) := fun W h => by
          have q : W.cell? ⟨b9, 14, none⟩ = some (.string (txt v.name)) := (hu.next h).c 4 (by rw [exC_len]; decide)
          rw [q, hn2]; rfl
        have hlI : ¬ (bnN i : Int) < (bnN k : Int) := by omega
        clear hx hy hu hat hya hxa huv hn1 hn2 hlt
        generalize (bnN i : Int) = m at *
        generalize (bnN k : Int) = n at *
        obtain hm2 | ⟨rfl, hn2⟩ := HMN.out
        all_goals
          clear HMN
          go_wp2_with fail
          refine (HAl.out _ HB0.out).mono ?_
          rintro e w4 ⟨rfl, hb4⟩
          have HB4 := hide (HB0.out.trans (hb4.mono HB0.out.size))
          have r3 := HN3.out _ hb4; have r4 := HN4.out _ hb4; have r8 := HQ8.out _ hb4; have ra := HA1.out _ hb4; have rb := HA2.out _ hb4; have rc := HA3.out _ hb4
          clear hb4 HN3 HN4 HQ8 HA1 HA2 HA3 p3 p4
          go_wp2_with fail
          go_region
          go_wp2_with fail
          exact bodyPost_ret (v := .bool true) (by simp [results, Tryz.results7, go_sem]) rfl ⟨rfl, HB4.out.drew⟩
end Go.Proofs.YtcfopkaomknmjaaGreatDoor
