/- package journal: Frame. -/
import Derived.Test.YtannocdcohofbaaJB
import Derived.Laws.CopyOwn
namespace Go.Proofs.Ytannocdcohofbaa
open Go.RowKit

theorem made8j (n : Nat) : (madeCells (Value.int .u8 0).cells (n * 1)).toList = u8s (List.replicate n 0) := by
  rw [Nat.mul_one]
  show (madeCells #[.int .u8 0] n).toList = _
  rw [toList_madeCells_one]
  simp [u8s]
theorem own_row {W : World} {B g : Nat} {vs : List Value} (h : W.ownsRow B 5 1 (.slice (some ⟨g, 0, none⟩) vs.length vs.length) vs.length vs) : W.heap[g]? = some (.cells vs.toArray 5 (0, 0)) := by
  rcases h.2 with ⟨e, _⟩ | ⟨g', c, cur, e, hg, hcur, h1, h2, h3, h4⟩
  · cases e
  · injection e with e1 e2 e3
    injection e1 with e1
    injection e1 with e1
    subst e1 e3
    rw [hcur]
    have : cur.toList = vs := by rw [← h4, List.take_of_length_le (by simp; omega)]
    rw [← this]
theorem row_own {W : World} {B g : Nat} {xs : List Nat} (h : W.heap[g]? = some (.cells (u8s xs).toArray 5 (0, 0))) (hB : B ≤ g) (hl : xs.length ≤ 1000000000) : Own8 W B (.slice (some ⟨g, 0, none⟩) xs.length xs.length) xs :=
  ⟨by simp [u8s], .inr ⟨g, xs.length, _, rfl, hB, h, Nat.le_refl _, by unfold maxLen; omega, by simp [u8s], by rw [Nat.mul_one]; exact List.take_of_length_le (by simp [u8s])⟩⟩
theorem frame_no (a : Option Addr) (n cap : Nat) (w : World) (h : ¬ (1 ≤ n ∧ n ≤ 65537)) (hn : n ≤ 9223372036854775807) : Calls Try.prog 28 #[.slice a n cap] w fun e w' => e = .returned (.tuple #[.slice none 0 0, .int .i64 1]) ∧ w' = w := by
  have HM := hide (mayHave_any n w)
  rw [show decide (1 ≤ n ∧ n ≤ 65537) = false from decide_eq_false h] at HM
  have hw : IntKind.u64.wrap (n : Int) = n := by rw [IntKind.wrap_u64]; omega
  clear h
  go_enter Try.func28, Try.ntmps28
  go_wp2_with fail
  refine HM.out.mono ?_
  rintro e w1 ⟨rfl, rfl⟩
  go_wp2
  refine bodyPost_ret (v := .tuple #[.slice none 0 0, .int .i64 1]) (by simp [results, Try.results28, go_sem]) rfl ⟨rfl, rfl⟩
def numC (n : Nat) : Array Value := #[.int .u8 ((n : Int) % 256), .int .u8 ((n : Int) / 256 % 256), .int .u8 ((n : Int) / 65536 % 256), .int .u8 ((n : Int) / 16777216 % 256)]
theorem le4_u8s (n : Nat) : u8s (le4 n) = (numC n).toList := by simp [u8s, le4, numC]
/- Four cells that hold a number. -/
theorem num_cells {W : World} {b n : Nat} {t : TypeId} {f : Nat × Nat} (h : W.heap[b]? = some (.cells (numC n) t f)) :
    ∀ j v, (u8s (le4 n))[j]? = some v → W.cell? ((⟨b, 0, none⟩ : Addr).add j) = some v := by
  intro j v hj
  rw [le4_u8s] at hj
  rw [add8, Nat.zero_add]
  unfold World.cell?; simp only [h]
  rw [← hj]; simp
structure FrM (w W0 : World) (s m S : Nat) (row : List Value) : Prop where
  bl : Below w.heap.size w W0
  le : w.heap.size ≤ s
  c1 : W0.heap[s]? = some (.cells (numC m) 76 (0, 0))
  c2 : W0.heap[s + 1]? = some (.cells (numC S) 76 (0, 0))
  row : W0.heap[s + 1 + 1]? = some (.cells row.toArray 5 (0, 0))
theorem frame_made {w w3 W0 : World} {m S N : Nat} (hb : Below w.heap.size w w3)
    (hm : W0.ownsRow w.heap.size 5 1 (.slice (some ⟨((w3.alloc (.cells (numC m) 76)).alloc (.cells (numC S) 76)).heap.size, 0, none⟩) N N) N (madeCells (Value.int .u8 0).cells (N * 1)).toList)
    (hg : ((w3.alloc (.cells (numC m) 76)).alloc (.cells (numC S) 76)).grownBy W0 none) : FrM w W0 w3.heap.size m S (u8s (List.replicate N 0)) := by
  have hz : ((w3.alloc (.cells (numC m) 76)).alloc (.cells (numC S) 76)).heap.size = w3.heap.size + 1 + 1 := by simp
  have hk : ∀ b, b < w3.heap.size + 1 + 1 → W0.heap[b]? = ((w3.alloc (.cells (numC m) 76)).alloc (.cells (numC S) 76)).heap[b]? := fun b hb => hg.block b (by rw [hz]; exact hb) (by simp)
  have h1 : ((w3.alloc (.cells (numC m) 76)).alloc (.cells (numC S) 76)).heap[w3.heap.size]? = some (.cells (numC m) 76 (0, 0)) := (Below.heap_alloc _ _ _ (by simp)).trans (heap_alloc_new w3 _)
  have h2 := heap_alloc_new (w3.alloc (.cells (numC m) 76)) (.cells (numC S) 76)
  rw [World.size_alloc] at h2
  have hl := hb.size
  rw [hz] at hm
  refine ⟨?_, hl, (hk _ (by omega)).trans h1, (hk _ (by omega)).trans h2, ?_⟩
  · exact Below.grown ((hb.alloc hl _).alloc (by simp; omega) _) hg (by rw [hz]; omega) (fun k e => by cases e)
  · rw [made8j] at hm
    have e : (u8s (List.replicate N 0)).length = N := by simp [u8s]
    exact own_row (vs := u8s (List.replicate N 0)) (by rw [e]; exact hm)
theorem FrM.lay {w W0 W1 : World} {s m S : Nat} {row row' : List Value} (h : FrM w W0 s m S row) (hb : Below (s + 1 + 1) W0 W1) (hr : W1.heap[s + 1 + 1]? = some (.cells row'.toArray 5 (0, 0))) : FrM w W1 s m S row' :=
  ⟨h.bl.trans (hb.mono (by have := h.le; omega)), h.le, (hb.block s (by omega)).trans h.c1, (hb.block (s + 1) (by omega)).trans h.c2, hr⟩
theorem FrM.drew {w W0 : World} {s m S : Nat} {row : List Value} (h : FrM w W0 s m S row) : FrM w W0.drew s m S row := ⟨h.bl.drew, h.le, h.c1, h.c2, h.row⟩
set_option maxRecDepth 100000 in
set_option maxHeartbeats 1000000 in
theorem frame_yes (a : Option Addr) (cap : Nat) (xs : List Nat) (w : World) (hx : ∀ y ∈ xs, y < 256) (hk : okR xs) (hr : RdA w a xs) :
    Calls Try.prog 28 #[.slice a xs.length cap] w fun e w' => ∃ g, e = .returned (.tuple #[.slice (some ⟨g, 0, none⟩) (frm xs).length (frm xs).length, .int .i64 0]) ∧ Own8 w' w.heap.size (.slice (some ⟨g, 0, none⟩) (frm xs).length (frm xs).length) (frm xs) ∧ Below w.heap.size w w' := by
  obtain ⟨p, off, rfl, hp, hc⟩ := hr.some hk.1
  obtain ⟨k0, k1⟩ := hk
  have HM := hide (mayHave_any xs.length w)
  rw [show decide (1 ≤ xs.length ∧ xs.length ≤ 65537) = true from decide_eq_true ⟨k0, k1⟩] at HM
  have HO := hide (numberOf_any xs.length w (by omega))
  have HS := hide (fun W (h : Below w.heap.size w W) => sumOf_any (some ⟨p, off, none⟩) cap xs W hx k0 (by omega) (hr.below h))
  have hw : IntKind.u64.wrap (xs.length : Int) = xs.length := by rw [IntKind.wrap_u64]; omega
  obtain ⟨N, hN⟩ : ∃ N, N = xs.length + 8 := ⟨_, rfl⟩
  have hN2 : (frm xs).length = N := by rw [frm_length]; omega
  have hwN : IntKind.i64.wrap (8 + (xs.length : Int)) = N := by rw [IntKind.wrap_i64]; omega
  have hN8 : (8 : Int) ≤ N := by omega
  have hN4 : (4 : Int) ≤ N := by omega
  have hB : N ≤ 100000 := by omega
  have hn4 : ¬ N = 4 := by omega
  have hn8 : ¬ N = 8 := by omega
  rw [hN2]
  have HN := hide hN
  have HF : Hid (splice (splice (splice (u8s (List.replicate N 0)) 0 (u8s (le4 xs.length))) 4 (u8s (le4 (sumF 2 xs)))) (4 + 4) (u8s xs) = u8s (frm xs)) := by
    have := splice_splice_splice (u8s (List.replicate N 0)) (u8s (le4 xs.length)) (u8s (le4 (sumF 2 xs))) (u8s xs) 4 4 (by rw [u8s_length]; rfl) (by rw [u8s_length]; rfl) (by rw [u8s_length, u8s_length, List.length_replicate]; omega)
    show _ = _
    rw [this, frm, u8s_append, u8s_append]
  have HN2 := hide hN2
  have HC := hide hc
  obtain ⟨i0, hi0, hz0, hz1, hz2⟩ := info_parts Try.info8
  have hsz : (Try.prog.info? 5).map (·.size) = some 1 := by rw [hi0]; simp [hz1]
  clear hr hN hN2 hc
  generalize sumF 2 xs = S at *
  go_enter Try.func28, Try.ntmps28
  go_wp2_with fail
  refine HM.out.mono ?_
  rintro e w1 ⟨rfl, hw1⟩
  subst hw1
  go_wp2_with fail
  refine HO.out.mono ?_
  rintro e w2 ⟨rfl, hb2⟩
  have B2 := hide hb2
  clear hb2
  go_wp2_with fail
  refine (HS.out w2 B2.out).mono ?_
  rintro e w3 ⟨rfl, hb3⟩
  have B3 := hide (B2.out.trans (hb3.mono B2.out.size))
  clear hb3 B2
  unfold numV
  go_wp2_with (first
    | (at_make; refine wpList_make_full _ rfl _ _ 31 rfl w1.heap.size 5 i0 (.int .u8 0) 1 Try.underlying31 hi0 hz0 hz1 .i64 .i64 _ _ N rfl rfl rfl rfl (by rw [hz2]; omega) (by unfold maxLen; omega) (by have := B3.out.size; simp; omega) ?_; intro W0 hm0 hg0; have F0 := hide (frame_made B3.out hm0 hg0); clear hm0 hg0)
    | (refine wpList_copy_splice rfl _ _ 31 31 rfl 5 Try.underlying31 hsz (some ⟨w3.heap.size + 1 + 1, 0, none⟩) (some ⟨w3.heap.size, 0, none⟩) N N 4 4 rfl rfl (w3.heap.size + 1 + 1) 0 _ 5 F0.out.row (u8s (le4 xs.length)) (by rw [u8s_length, le4_length]; show 4 = min 4 N; omega) (fun _ => ⟨rfl, _, rfl, num_cells F0.out.c1⟩) (by rw [u8s_length, u8s_length, le4_length, List.length_replicate]; omega) (u8s_one _) (w3.heap.size + 1 + 1) W0 (Below.refl _ _) (Nat.le_refl _) ?_; intro W1 HG1 hB1; have F1 := hide (F0.out.lay hB1 HG1.out); clear HG1 hB1))
  have F1d := hide F1.out.drew
  go_region_law (refine step_copy_splice rfl (.tmp 26) (.tmp 27) 31 31 rfl 5 Try.underlying31 hsz (some ⟨w3.heap.size + 1 + 1, 4, none⟩) (some ⟨w3.heap.size + 1, 0, none⟩) (N - 4) (N - 4) 4 4 (by simp [Act.eval, Act.put]) (by simp [Act.eval, Act.put]) (w3.heap.size + 1 + 1) 4 _ 5 F1d.out.row (u8s (le4 S)) (by rw [u8s_length, le4_length]; show 4 = min 4 (N - 4); omega) (fun _ => ⟨rfl, _, rfl, num_cells F1d.out.c2⟩) (by rw [length_splice _ _ _ (by rw [u8s_length, u8s_length, le4_length, List.length_replicate]; omega), u8s_length, u8s_length, le4_length, List.length_replicate]; omega) (u8s_one _) (w3.heap.size + 1 + 1) W1.drew (Below.refl _ _) (Nat.le_refl _) ?_; intro W2 HG2 hB2; have F2 := hide (F1d.out.lay hB2 HG2.out); clear HG2 hB2)
  all_goals
    have HRD := hide (rdA_src (W := W2) (fun i hi => ((F2.out.bl.cell (p := ⟨p, off + i, none⟩) hp).trans (HC.out i hi))))
    go_wp2_with (refine wpList_copy_splice rfl _ _ 31 31 rfl 5 Try.underlying31 hsz (some ⟨w3.heap.size + 1 + 1, 8, none⟩) (some ⟨p, off, none⟩) (N - 8) (N - 8) xs.length cap rfl rfl (w3.heap.size + 1 + 1) 8 _ 5 F2.out.row (u8s xs) (by rw [u8s_length]; show xs.length = min xs.length (N - 8); have := HN.out; omega) (fun _ => ⟨rfl, _, rfl, HRD.out⟩) (by rw [length_splice _ _ _ (by rw [length_splice _ _ _ (by rw [u8s_length, u8s_length, le4_length, List.length_replicate]; omega), u8s_length, u8s_length, le4_length, List.length_replicate]; omega), length_splice _ _ _ (by rw [u8s_length, u8s_length, le4_length, List.length_replicate]; omega), u8s_length, u8s_length, List.length_replicate]; have := HN.out; omega) (u8s_one _) (w3.heap.size + 1 + 1) W2 (Below.refl _ _) (Nat.le_refl _) ?_; intro W3 HG3 hB3; have F3 := hide (F2.out.lay hB3 HG3.out); clear HG3 hB3)
    go_ret2
    refine ⟨w3.heap.size + 1 + 1, rfl, ?_, F3.out.bl⟩
    have hrow := F3.out.row
    rw [show (8 : Nat) = 4 + 4 from rfl, HF.out] at hrow
    rw [← HN2.out]
    exact row_own hrow (by have := F3.out.le; omega) (by have := HN2.out; omega)
end Go.Proofs.Ytannocdcohofbaa
