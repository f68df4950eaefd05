/- Pieces of the proof: QuJ. -/
import Derived.Test.YtclhmggnkhnnlaaGreatDoorM19
import Derived.Lib.SlBytesConst
/- pointsmanlaw17: lives. -/
namespace Go.Proofs.YtclhmggnkhnnlaaGreatDoor
open Go.RowKit

def ef0 : Ef := ⟨7, ⟨#[]⟩, 0, 0, 0, 0, none, 0, 0, 0, ⟨#[]⟩, 0⟩
def gs0 (b : Nat) : List Gp := [⟨some ⟨b, 0, none⟩, 2, [1, 2]⟩, ⟨none, 0, []⟩]
def ps0 (b c : Nat) : Ps := ⟨1, some ⟨b, 0, none⟩, 1, [98], 7, false, false, some ⟨c, 0, none⟩, 1, [ef0]⟩
def w4 (w : World) : World := (((w.alloc (.cells #[.int .i64 1, .int .i64 2] 3)).alloc (.cells #[.slice (some ⟨w.heap.size, 0, none⟩) 2 2, .slice none 0 0] 30)).alloc (.cells #[.int .u8 98] 5 (1, 2))).alloc (.cells #[.int .u8 7, .string ⟨#[]⟩, .int .i64 0, .int .i64 0, .int .u64 0, .int .u64 0, .slice none 0 0, .int .i64 0, .string ⟨#[]⟩, .int .i64 0] 95)
theorem w4_h (w : World) : (w4 w).heap[w.heap.size]? = some (.cells #[.int .i64 1, .int .i64 2] 3 (0, 0)) ∧ (w4 w).heap[w.heap.size + 1]? = some (.cells #[.slice (some ⟨w.heap.size, 0, none⟩) 2 2, .slice none 0 0] 30 (0, 0)) ∧ (w4 w).heap[w.heap.size + 1 + 1]? = some (.cells #[.int .u8 98] 5 (1, 2)) ∧ (w4 w).heap[w.heap.size + 1 + 1 + 1]? = some (.cells #[.int .u8 7, .string ⟨#[]⟩, .int .i64 0, .int .i64 0, .int .u64 0, .int .u64 0, .slice none 0 0, .int .i64 0, .string ⟨#[]⟩, .int .i64 0] 95 (0, 0)) ∧ Below w.heap.size w (w4 w) ∧ (w4 w).heap.size = w.heap.size + 4 := by
  unfold w4
  refine ⟨heap_past _ (heap_past _ (heap_past _ (heap_alloc_new w _))), heap_past _ (heap_past _ (heap_snd w _ _ _)), heap_past _ ?_, ?_, bstep (below2 w _ _) (below2 _ _ _), by simp⟩
  · have := heap_alloc_new ((w.alloc (.cells #[.int .i64 1, .int .i64 2] 3)).alloc (.cells #[.slice (some ⟨w.heap.size, 0, none⟩) 2 2, .slice none 0 0] 30)) (.cells #[.int .u8 98] 5 (1, 2))
    rw [World.size_alloc, World.size_alloc] at this
    exact this
  have := heap_trd (w.alloc (.cells #[.int .i64 1, .int .i64 2] 3)) (.cells #[.slice (some ⟨w.heap.size, 0, none⟩) 2 2, .slice none 0 0] 30) (.cells #[.int .u8 98] 5 (1, 2)) #[.int .u8 7, .string ⟨#[]⟩, .int .i64 0, .int .i64 0, .int .u64 0, .int .u64 0, .slice none 0 0, .int .i64 0, .string ⟨#[]⟩, .int .i64 0] 95
  rw [World.size_alloc] at this
  exact this
theorem arg0 (w : World) : Arg (w4 w) (ps0 (w.heap.size + 1 + 1) (w.heap.size + 1 + 1 + 1)) (some ⟨w.heap.size + 1, 0, none⟩) (gs0 w.heap.size) := by
  obtain ⟨h0, h1, h2, h3, hb, hs⟩ := w4_h w
  refine ⟨.inr ⟨_, 0, rfl, lt_heap h2, fun i hi => ?_⟩, fun e => (by cases e), by simp [ps0], .inr ⟨_, 0, rfl, lt_heap h3, fun i hi j u hu => ?_⟩, .inr ⟨_, 0, rfl, lt_heap h1, fun i hi j u hu => ?_⟩, fun g hg => ?_, by simp [ps0], by simp [gs0]⟩
  · obtain rfl : i = 0 := by simp [ps0] at hi; omega
    unfold World.cell?; simp only [h2]; rfl
  · obtain rfl : i = 0 := by simp [ps0] at hi; omega
    rw [cellA h3, ← hu]
    have : 0 + 0 * 10 + j = j := by omega
    rw [this]; simp [ps0, ef0, Ef.cells]
  · rw [cellA h1]
    have hj : j < 1 := (List.getElem?_eq_some_iff.1 hu).1
    obtain rfl : j = 0 := by omega
    have hi2 : i < 2 := hi
    rcases (by omega : i = 0 ∨ i = 1) with rfl | rfl
    · rw [← hu]; rfl
    · rw [← hu]; rfl
  · simp only [gs0, List.mem_cons, List.not_mem_nil, or_false] at hg
    rcases hg with rfl | rfl
    · refine ⟨.inr ⟨_, 0, rfl, lt_heap h0, fun i hi => ?_⟩, by simp⟩
      rw [cellA h0]
      have hi2 : i < 2 := hi
      rcases (by omega : i = 0 ∨ i = 1) with rfl | rfl <;> rfl
    · exact ⟨.inl rfl, by simp⟩
theorem wl0 (a b c : Nat) : wl (gs0 a) (ps0 b c) = [1, 2, 7] := rfl
theorem row_ports {W : World} {B : Nat} {v : Value} {ys : List Cy} (h : W.ownsRow B 80 2 v ys.length (flat Cy.cells ys)) {b cap : Nat} (hv : v = .slice (some ⟨b, 0, none⟩) ys.length cap) (i : Nat) (hi : i < ys.length) : W.cell? ⟨b, i * 2, none⟩ = some (.int .i64 ys[i].port) := by
  have := own_cell cy_len h hv i hi 0 (.int .i64 ys[i].port) rfl
  rw [Nat.zero_add, Nat.add_zero] at this
  exact this
theorem copies0 (w : World) : Calls Tryz.prog 8 #[.slice (some ⟨w.heap.size + 1, 0, none⟩) 2 2, .agg #[.int .u8 1, .slice (some ⟨w.heap.size + 1 + 1, 0, none⟩) 1 1, .int .i64 7, .bool false, .bool false, .slice (some ⟨w.heap.size + 1 + 1 + 1, 0, none⟩) 1 1]] (w4 w) fun e w' => ∃ b c, e = .returned (.tuple #[.slice (some ⟨b, 0, none⟩) 3 c, .int .i64 0]) ∧ w'.cell? ⟨b, 2, none⟩ = some (.int .i64 2) ∧ w'.cell? ⟨b, 4, none⟩ = some (.int .i64 7) ∧ 3 ≤ c ∧ Below w.heap.size w w' := by
  refine (copies_yes (ps0 (w.heap.size + 1 + 1) (w.heap.size + 1 + 1 + 1)) (some ⟨w.heap.size + 1, 0, none⟩) 2 (gs0 w.heap.size) (w4 w) (arg0 w) rfl (by rw [wl0]; decide)).mono ?_
  rintro e w' ⟨v, ys, rfl, h1, h2, -, -, h5⟩
  rw [wl0] at h2
  have hlen : ys.length = 3 := by have := congrArg List.length h2; simpa using this
  rcases own_form h1 with ⟨_, hn⟩ | ⟨g, cap, rfl, -, -, hc⟩
  · omega
  · have k1 := row_ports h1 rfl 1 (by omega)
    have k2 := row_ports h1 rfl 2 (by omega)
    have e1 : ys[1].port = 2 := by
      have : (ys.map Cy.port)[1]? = some 2 := by rw [h2]; rfl
      rw [List.getElem?_map, List.getElem?_eq_getElem (by omega)] at this
      simpa using this
    have e2 : ys[2].port = 7 := by
      have : (ys.map Cy.port)[2]? = some 7 := by rw [h2]; rfl
      rw [List.getElem?_map, List.getElem?_eq_getElem (by omega)] at this
      simpa using this
    rw [e1] at k1
    rw [e2] at k2
    rw [hlen] at hc
    exact ⟨g, cap, by rw [hlen], k1, k2, hc, bstep (w4_h w).2.2.2.2.1 h5⟩
/- The one element of a row that is the first copy. -/
theorem row_one {W : World} {B b cap : Nat} {c : Cy} (h : W.ownsRow B 80 2 (.slice (some ⟨b, 0, none⟩) 1 cap) 1 (flat Cy.cells [c])) : W.cell? ⟨b, 0, none⟩ = some (.int .i64 c.port) ∧ b < W.heap.size := by
  have := own_cell cy_len h rfl 0 (by simp) 0 (.int .i64 c.port) rfl
  exact ⟨this, (World.ownsRow.lt h b rfl).2⟩
theorem conv1 (w : World) (x : Int) : (convert 24 24 (.slice (some ⟨w.heap.size, 0, none⟩) 1 1)).run Tryz.prog (w.alloc (.cells #[.int .u8 x] 5)) = .ok (.slice (some ⟨w.heap.size, 0, none⟩) 1 1) (w.alloc (.cells #[.int .u8 x] 5 (1, 2))) :=
  Go.Lib.run_convert_bytes_const (P := Tryz.prog) w 24 5 #[.int .u8 x] 1 1 Tryz.underlying24 Tryz.underlying5
theorem rd97 (w : World) : RdA (w.alloc (.cells #[.int .u8 97] 5 (1, 2))) (some ⟨w.heap.size, 0, none⟩) [97] := by
  have h := heap_alloc_new w (.cells #[.int .u8 97] 5 (1, 2))
  refine .inr ⟨w.heap.size, 0, rfl, by simp, fun i hi => ?_⟩
  unfold World.cell?; simp only [h]
  rcases (by simp at hi; omega : i = 0) with rfl
  rfl
set_option maxRecDepth 100000 in
set_option maxHeartbeats 2000000 in
theorem lives_any (w : World) : Calls Tryz.prog 5 #[] w fun e w' => e = .returned (.bool true) ∧ Below w.heap.size w w' := by
  have HN := hide (new_yes 1 w (by decide))
  have HC : Hid (∀ W, _) := fun W => copies0 W
  have HL : Hid (∀ W g f L, Qs W g 1 f L → _) := fun W g f L h => len_any h
  have hcv := conv1
  go_enter Tryz.func5, Tryz.ntmps5
  go_wp2_with fail
  refine HN.out.mono ?_
  rintro e w1 ⟨rfl, hq, hb⟩
  have Q1 := hide (hq.below (below1 w1 (.cells #[.int .u8 97] 5 (1, 2))))
  have B1 := hide (bstep hb (below1 w1 (.cells #[.int .u8 97] 5 (1, 2))))
  have HP1 := hide (put_yes Q1.out (by decide) 5 (some ⟨w1.heap.size, 0, none⟩) 1 [97] (by simp) (rd97 w1) (fun e => by cases e))
  clear hq hb
  go_wp2_with fail
  refine HP1.out.mono ?_
  rintro e w2 ⟨rfl, a', c', hq, -, hf⟩
  have hbw2 : Below w.heap.size w w2 := B1.out.trans (hf.below (fun b e => by omega) B1.out.size)
  have Q2 := hide (hq.below (below1 w2 (.cells #[.int .u8 98] 5 (1, 2))))
  have B2 := hide (hbw2.trans ((below1 w2 (.cells #[.int .u8 98] 5 (1, 2))).mono hbw2.size))
  have HP2 := hide (put_full Q2.out rfl 6 (some ⟨w2.heap.size, 0, none⟩) 1 1)
  clear hq hf hbw2
  go_wp2_with fail
  refine HP2.out.mono ?_
  rintro e w3 ⟨rfl, hb⟩
  have Q3 := hide (Q2.out.below hb)
  have B3 := hide (bstep B2.out hb)
  have HS3 := hide (send_yes Q3.out 9 1 rfl)
  clear hb
  go_wp2_with fail
  refine HS3.out.mono ?_
  rintro e w5 ⟨b5, rfl, hr, ⟨f5, hq⟩, hf⟩
  have hbw : Below w.heap.size w w5 := B3.out.trans (hf.below (fun b e => by omega) B3.out.size)
  have k5 := row_one hr
  have K5 := hide k5.1
  have Z5 := hide k5.2
  have Q5 : Hid (Qs w5 w.heap.size 1 f5 []) := hq
  have B5 := hide hbw
  have HS5 := hide (send_yes Q5.out 9 0 rfl)
  have NE5 : Hid (b5 ≠ w.heap.size) := fun e => by have := (World.ownsRow.lt hr b5 rfl).1; have := B3.out.size; have := Q3.out.lt; omega
  clear hr hq hf hbw k5
  go_wp2_with fail
  refine HS5.out.mono ?_
  rintro e w6 ⟨b6, rfl, -, ⟨f6, hq⟩, hf⟩
  have hbw : Below w.heap.size w w6 := B5.out.trans (hf.below (fun b e => by omega) B5.out.size)
  have k6 : w6.cell? ⟨b5, 0, none⟩ = some (.int .i64 5) := (World.cell?_of_block (w := w5) (a := ⟨b5, 0, none⟩) (hf.block b5 Z5.out NE5.out)).trans K5.out
  have Z6 : Hid (b5 < w6.heap.size) := Nat.lt_of_lt_of_le Z5.out hf.size
  have Q6 : Hid (Qs w6 w.heap.size 1 f6 []) := hq
  have B6 := hide hbw
  have K6 := hide k6
  have HCC := hide (HC.out w6)
  clear hq hf hbw k6
  simp only [w4] at HCC
  have hcv6 := conv1 ((w6.alloc (.cells #[.int .i64 1, .int .i64 2] 3)).alloc (.cells #[.slice (some ⟨w6.heap.size, 0, none⟩) 2 2, .slice none 0 0] 30)) 98
  simp only [World.size_alloc] at hcv6
  go_wp2_with fail
  refine HCC.out.mono ?_
  rintro e w7 ⟨b7, c7, rfl, p2, p4, hc7, hb7⟩
  have Q7 := hide (Q6.out.below hb7)
  have k7 : w7.cell? ⟨b5, 0, none⟩ = some (.int .i64 5) := (hb7.cell (p := ⟨b5, 0, none⟩) Z6.out).trans K6.out
  have B7 := hide (bstep B6.out hb7)
  have HLN := hide (len_any Q7.out)
  clear hb7
  go_wp2_with fail
  refine HLN.out.mono ?_
  rintro e w8 ⟨rfl, rfl⟩
  go_wp2
  go_ret
  exact ⟨rfl, B7.out⟩
end Go.Proofs.YtclhmggnkhnnlaaGreatDoor
