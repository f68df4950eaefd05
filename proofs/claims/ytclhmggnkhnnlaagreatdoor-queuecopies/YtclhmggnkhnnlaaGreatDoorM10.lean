/- Pieces of the proof: QuD. -/
import Derived.Test.YtclhmggnkhnnlaaGreatDoorM7
import Derived.Test.YtclhmggnkhnnlaaGreatDoorM9
/- package queue: Send. -/
namespace Go.Proofs.YtclhmggnkhnnlaaGreatDoor
open Go.RowKit

theorem cy_len (c : Cy) : c.cells.length = 2 := rfl
theorem Tryz.infoCy : (Tryz.prog.info? 80).map (fun i => (i.zero, i.size, i.bytes)) = some (some (.agg #[.int .i64 0, .slice none 0 0]), 2, 32) := by kernel_rfl
theorem splice_mid {A Z : List Value} {x y u v : Value} {n : Nat} (h : A.length = n) : splice (A ++ (x :: y :: Z)) n [u, v] = A ++ [u, v] ++ Z := by
  subst h
  simp [splice, List.drop_append]
/- What Send has filled. -/
def Fl (W : World) (b j k : Nat) (L : List Cy) : Prop := ∃ Z : List Value, W.heap[b]? = some (.cells (flat Cy.cells (L.take j) ++ Z).toArray 80 (0, 0)) ∧ Z.length = (k - j) * 2
theorem Fl.fr {E : Nat → Prop} {W W' : World} {b j k : Nat} {L : List Cy} (h : Fl W b j k L) (hf : Fr E W W') (hn : ¬ E b) : Fl W' b j k L := by
  obtain ⟨Z, h1, h2⟩ := h
  exact ⟨Z, (hf.block _ (lt_heap h1) hn).trans h1, h2⟩
theorem Fl.row {W : World} {B b k : Nat} {L : List Cy} (h : Fl W b k k L) (hk : k ≤ L.length) (hb : B ≤ b) (hm : k ≤ maxLen) : W.ownsRow B 80 2 (.slice (some ⟨b, 0, none⟩) k k) k (flat Cy.cells (L.take k)) := by
  obtain ⟨Z, h1, h2⟩ := h
  have hZ : Z = [] := List.length_eq_zero_iff.1 (by omega)
  subst hZ
  rw [List.append_nil] at h1
  have hl : (flat Cy.cells (L.take k)).length = k * 2 := by rw [flat_length cy_len, List.length_take, Nat.min_eq_left hk]
  exact ⟨hl, .inr ⟨b, k, _, rfl, hb, h1, Nat.le_refl _, hm, by simpa using hl, by simp [← hl]⟩⟩
theorem send_no (W : World) (n : Int) : Calls Tryz.prog 20 #[.pointer none, .int .i64 n] W fun e W' => e = .returned (.tuple #[.slice none 0 0, .int .i64 2]) ∧ W' = W := by
  have HI := hide (isThere_no W)
  go_enter Tryz.func20, Tryz.ntmps20
  go_wp2_with fail
  refine HI.out.mono ?_
  rintro e w1 ⟨rfl, rfl⟩
  go_wp2
  go_ret2
  exact ⟨rfl, rfl⟩
theorem send_neg {W : World} {g r f : Nat} {L : List Cy} (h : Qs W g r f L) (n : Int) (hn : n < 0) : Calls Tryz.prog 20 #[.pointer (some ⟨g, 0, none⟩), .int .i64 n] W fun e W' => e = .returned (.tuple #[.slice none 0 0, .int .i64 1]) ∧ W' = W := by
  have HI := hide (isThere_yes h)
  have e1 : decide (n < 0) = true := by simpa using hn
  clear h
  go_enter Tryz.func20, Tryz.ntmps20
  go_wp2_with fail
  refine HI.out.mono ?_
  rintro e w1 ⟨rfl, rfl⟩
  go_wp2
  go_ret2
  exact ⟨rfl, rfl⟩
set_option maxRecDepth 100000 in
set_option maxHeartbeats 2000000 in
theorem send_yes {W : World} {g r f : Nat} {L : List Cy} (h : Qs W g r f L) (n k : Nat) (hk : k = min n L.length) : Calls Tryz.prog 20 #[.pointer (some ⟨g, 0, none⟩), .int .i64 n] W fun e W' => ∃ b, e = .returned (.tuple #[.slice (some ⟨b, 0, none⟩) k k, .int .i64 0]) ∧ W'.ownsRow W.heap.size 80 2 (.slice (some ⟨b, 0, none⟩) k k) k (flat Cy.cells (L.take k)) ∧ (∃ f', Qs W' g r f' (L.drop k)) ∧ Fr (· = g) W W' := by
  have HI := hide (isThere_yes h)
  have HQ := hide h
  obtain ⟨i0, hi0, hz0, hz1, hz2⟩ := info_parts Tryz.infoCy
  obtain ⟨-, -, c2, -, -, hr64, -, hll⟩ := h.at
  have hkl : k ≤ L.length := by omega
  have hgl := h.lt
  have e1 : decide ((n : Int) < 0) = false := by simp
  have emin : (if L.length < n then ((L.length : Nat) : Int) else ((n : Nat) : Int)) = (k : Int) := by split <;> omega
  have HK := hide hkl
  have HLL : Hid (L.length ≤ 64) := Nat.le_trans hll hr64
  have HG := hide hgl
  have HT : Hid (∀ W1 f c L, Qs W1 g r f (c :: L) → _) := fun W1 f c L hq => take_any hq
  clear h hk hll
  generalize hn' : L.length = N at *
  have HN := hide hn'
  clear hn'
  go_enter Tryz.func20, Tryz.ntmps20
  go_wp2_with fail
  refine HI.out.mono ?_
  rintro e w1 ⟨rfl, rfl⟩
  go_wp2_with (at_make; refine wpList_make_full _ rfl _ _ 35 rfl w1.heap.size 80 i0 _ 2 Tryz.underlying35 hi0 hz0 hz1 .i64 .i64 _ _ k rfl rfl rfl rfl (by rw [hz2]; have := HLL.out; have := HK.out; omega) (by unfold maxLen; have := HLL.out; have := HK.out; omega) (Nat.le_refl _) ?_; intro W0 hm0 hg0; have R0 := hide (made_row hm0); have N0 := hide hm0.1; have B0 := hide (below_made hg0); clear hm0 hg0)
  have HF0 : Hid (Fl W0 w1.heap.size 0 k L) := ⟨_, R0.out, by have := N0.out; omega⟩
  have HQ0 : Hid (Qs W0 g r f L) := HQ.out.below B0.out
  go_loopw [22] (fun i wr => ∃ (j : Nat) (f' : Nat), j ≤ k ∧ i = .int .i64 j ∧ Fl wr w1.heap.size j k L ∧ Qs wr g r f' (L.drop j) ∧ Fr (· = g) w1 wr ∧ w1.heap.size < wr.heap.size) (fun i _ => k - (intOf i).toNat)
  case atStart => exact ⟨0, f, Nat.zero_le _, rfl, HF0.out, by rw [List.drop_zero]; exact HQ0.out, Fr.ofBelow B0.out, lt_heap R0.out⟩
  case round =>
    obtain ⟨j, f', hj, rfl, hfl, hq, hfr, hsz⟩ := hrel
    have HFL := hide hfl
    have HQJ := hide hq
    have HFR := hide hfr
    have HSZ := hide hsz
    clear hfl hq hfr hsz
    by_cases hlt : j < k
    · have hjI : (j : Int) < (k : Int) := by omega
      have hk64 : k ≤ 64 := Nat.le_trans HK.out HLL.out
      have hjL : j < L.length := by have := HK.out; have := HN.out; omega
      have HD : Hid (L.drop j = L[j] :: L.drop (j + 1)) := List.drop_eq_getElem_cons hjL
      have HX : Hid (L.take (j + 1) = L.take j ++ [L[j]]) := List.take_succ_eq_append_getElem hjL
      rw [HD.out] at HQJ
      have HC := hide (HT.out wr f' _ _ HQJ.out)
      generalize L[j] = c at *
      obtain ⟨port, ca, ccap, xs⟩ := c
      simp only at HC
      go_wp2_with fail
      refine HC.out.mono ?_
      rintro e w3 ⟨rfl, hq3, hf3⟩
      have HQ3 := hide hq3
      have HF3 := hide (HFL.out.fr hf3 (by omega))
      have HR3 := hide (HFR.out.trans hf3 (fun _ _ e => e))
      have HS3 : Hid (w1.heap.size < w3.heap.size) := Nat.lt_of_lt_of_le HSZ.out hf3.size
      clear hq3 hf3
      obtain ⟨Z, hZ1, hZ2⟩ := HF3.out
      obtain ⟨u, v, Z', rfl⟩ : ∃ u v Z', Z = u :: v :: Z' := by
        match Z, hZ2 with
        | [], h => simp at h; omega
        | [_], h => simp at h; omega
        | u :: v :: Z', _ => exact ⟨u, v, Z', rfl⟩
      have HZ1 := hide hZ1
      have HZ2 : Hid (Z'.length = (k - (j + 1)) * 2) := by simp at hZ2; show _ = _; omega
      have HA : Hid ((flat Cy.cells (L.take j)).length = j * 2) := by
        show _ = _
        rw [flat_length cy_len, List.length_take, Nat.min_eq_left (by omega)]
      have HLEN : Hid (j * 2 + 2 ≤ (flat Cy.cells (L.take j) ++ u :: v :: Z').length) := by
        show _ ≤ _
        rw [List.length_append, HA.out]; simp
      clear hZ1 hZ2
      go_wp2_with (refine wpList_storeW rfl 80 _ _ rfl w1.heap.size (j * 2) [.int .i64 port, .slice ca xs.length ccap] _ 80 rfl rfl szCy HZ1.out HLEN.out (by simp [Value.oneCell']) ?_; intro w4 hw4 hf4; have HW4 := hide hw4; have HF4 := hide hf4; clear hw4 hf4)
      have HFN : Hid (Fl w4 w1.heap.size (j + 1) k L) := by
        refine ⟨Z', ?_, HZ2.out⟩
        have := HW4.out.out
        rw [splice_mid HA.out] at this
        rw [HX.out, flat_append]
        simpa [flat, Cy.cells] using this
      go_roundw
      case rel => exact ⟨j + 1, _, by omega, by go_num, HFN.out, HQ3.out.fr HF4.out (by have := HG.out; omega), HR3.out.trans HF4.out (fun b hb e => by omega), Nat.lt_of_lt_of_le HS3.out HF4.out.size⟩
      case measure => simp [intOf]; omega
    · obtain rfl : j = k := by omega
      go_wp2
      go_ret2
      exact ⟨_, rfl, HFL.out.row (by have := HK.out; have := HN.out; omega) (Nat.le_refl _) (by unfold maxLen; have := HLL.out; have := HK.out; omega), ⟨_, HQJ.out⟩, HFR.out⟩
end Go.Proofs.YtclhmggnkhnnlaaGreatDoor
