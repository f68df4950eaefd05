/- Pieces of the proof: CeJ. -/
import Derived.Test.YtbemfjdloeipmaaGreatDoorM17
import Derived.Test.YtbemfjdloeipmaaGreatDoorM19
/- package cells: a declaration's array as it begins. -/
namespace Go.Proofs.YtbemfjdloeipmaaGreatDoor
open Go.RowKit

/- A declaration's cells: what counts here, and the rest. -/
def deV (kind : Int) (name : ByteArray) (fs : Value) (dw : Int) (n : Int) (rate burst : Int) (x7 x8 x9 x10 x11 x12 x13 x14 : Value) : Value := .agg #[.int .u8 kind, .string name, fs, .int .i64 dw, .int .i64 n, .int .i64 rate, .int .i64 burst, x7, x8, x9, x10, x11, x12, x13, x14]
theorem at15 {W : World} {b : Nat} {x0 x1 x2 x3 x4 x5 x6 x7 x8 x9 x10 x11 x12 x13 x14 : Value} {t : TypeId} (h : W.heap[b]? = some (.cells #[x0, x1, x2, x3, x4, x5, x6, x7, x8, x9, x10, x11, x12, x13, x14] t (0, 0))) : W.cell? ⟨b, 0, none⟩ = some x0 ∧ W.cell? ⟨b, 1, none⟩ = some x1 ∧ W.cell? ⟨b, 3, none⟩ = some x3 ∧ W.cell? ⟨b, 4, none⟩ = some x4 ∧ W.cell? ⟨b, 5, none⟩ = some x5 ∧ W.cell? ⟨b, 6, none⟩ = some x6 := by
  refine ⟨?_, ?_, ?_, ?_, ?_, ?_⟩
  all_goals (unfold World.cell?; simp only [h]; rfl)
def counterA (name : ByteArray) (n : Nat) (rate burst : Int) : Ar := ⟨name, 4, 64, rate, burst, List.replicate n ⟨64, 0, 0⟩, []⟩
def meterA (name : ByteArray) (n : Nat) (rate burst : Int) : Ar := ⟨name, 5, 64, rate, burst, List.replicate n ⟨64, 0, IntKind.u64.wrap burst⟩, List.replicate n 0⟩
set_option maxRecDepth 100000 in
set_option maxHeartbeats 4000000 in
theorem fresh_counter (name : ByteArray) (fs : Value) (dw : Int) (n : Nat) (rate burst : Int) (x7 x8 x9 x10 x11 x12 x13 x14 : Value) (w : World) (h1 : 1 ≤ n) (h2 : n ≤ 4096) :
    Calls Tryz.prog 129 #[deV 4 name fs dw n rate burst x7 x8 x9 x10 x11 x12 x13 x14] w fun e w' => ∃ ca, e = .returned (arV (counterA name n rate burst) ca none) ∧ ArN w' w.heap.size (counterA name n rate burst) ca none ∧ Below w.heap.size w w' := by
  have HF : Hid (∀ W, _) := fun W => cfrom_any 1 n 4096 W
  have ef : fromB 1 n 4096 = true := by simp [fromB]; omega
  rw [ef] at HF
  have HR : Hid (∀ (W : World) (p : Nat), W.heap[p]? = some (.cells #[.int .i64 64, .int .u64 0, .int .u64 0] 29 (0, 0)) → _) := fun W p hp => repeat_any ⟨64, 0, 0⟩ p n W hp h1 h2
  have el : (counterA name n rate burst).cs.length = n := by simp [counterA]
  suffices H : ∀ Q : Ending → World → Prop, (∀ g W', w.heap.size ≤ g → W'.heap[g]? = some (.cells (reps ⟨64, 0, 0⟩ n).toArray 29 (0, 0)) → Below w.heap.size w W' → Q (.returned (.agg #[.string name, .int .u8 4, .int .i64 64, .int .i64 rate, .int .i64 burst, .slice (some ⟨g, 0, none⟩) n n, .slice none 0 0])) W') → Calls Tryz.prog 129 #[deV 4 name fs dw n rate burst x7 x8 x9 x10 x11 x12 x13 x14] w Q from
    H _ (fun g W' h1 h2 h3 => ⟨some ⟨g, 0, none⟩, by simp only [arV, el]; rfl, ⟨.inr ⟨g, rfl, h1, h2⟩, .inl ⟨rfl, rfl⟩⟩, h3⟩)
  intro Q hQ
  have HQ := hide hQ
  clear hQ h1 h2 ef el
  unfold deV
  go_enter Tryz.func129, Tryz.ntmps129
  go_wp2_with fail
  refine (HF.out _).mono ?_
  rintro e w' ⟨rfl, hw⟩
  subst w'
  go_wp2_with fail
  refine (HR.out _ _ (heap_fth _ _ _ _ _ _)).mono ?_
  rintro e w1 ⟨g, rfl, hg, hrow, hb⟩
  have BB := hide (bstep (below4 _ _ _ _ _) hb)
  have K2 := heap_below hb (heap_past _ (heap_past _ (heap_snd _ _ _ _)))
  have K3 := heap_below hb (heap_past _ (heap_trd _ _ _ _ _))
  have HG := hide (show w.heap.size + 4 ≤ g by simp at hg; omega)
  have HRW := hide hrow
  obtain ⟨p0, p1, p2, p3, p4, p5, p6⟩ := at7 K3
  have f5 := softA K3 5
  have L2 := hide ((Below.heap_setCell w1 ⟨w.heap.size + 1 + 1, 5, none⟩ (.slice (some ⟨g, 0, none⟩) n n) _ (by simp)).trans K2)
  clear hb hg hrow K2 K3
  go_wp2_with (refine wpList_storeA rfl 93 _ _ rfl (w.heap.size + 1) [.string name, .int .u8 4, .int .i64 64, .int .i64 rate, .int .i64 burst, .slice (some ⟨g, 0, none⟩) n n, .slice none 0 0] _ 93 rfl rfl szAr L2.out rfl (ar_one name 4 64 rate burst (some ⟨g, 0, none⟩, n, n) (none, 0, 0)) ?_; intro w5 hw5; have HW5 := hide hw5; clear hw5)
  have R5 : w5.heap[w.heap.size + 1]? = some (.cells #[.string name, .int .u8 4, .int .i64 64, .int .i64 rate, .int .i64 burst, .slice (some ⟨g, 0, none⟩) n n, .slice none 0 0] 93 (0, 0)) := by rw [HW5.out]; exact got0 L2.out rfl
  have F5 : Fr (· = w.heap.size + 1) (w1.setCell ⟨w.heap.size + 1 + 1, 5, none⟩ (.slice (some ⟨g, 0, none⟩) n n)) w5 := by rw [HW5.out]; exact fr_all _ _ _ _
  refine bodyPost_ret (res_cell (cs := [.string name, .int .u8 4, .int .i64 64, .int .i64 rate, .int .i64 burst, .slice (some ⟨g, 0, none⟩) n n, .slice none 0 0]) Tryz.results129 (by simp [Act.put]) aggAr szAr R5) rfl ?_
  have B6 := BB.out.setCell (p := ⟨w.heap.size + 1 + 1, 5, none⟩) (by simp; omega) (.slice (some ⟨g, 0, none⟩) n n)
  have hG := HG.out
  refine HQ.out _ _ (by omega) ?_ ?_
  · have h3 := (Below.heap_setCell w1 ⟨w.heap.size + 1 + 1, 5, none⟩ (.slice (some ⟨g, 0, none⟩) n n) g (by simp; omega)).trans HRW.out
    exact (F5.block g (lt_heap h3) (by omega)).trans h3
  · exact B6.trans (F5.below (fun b e => by omega) B6.size)
theorem made_ints (n : Nat) : (madeCells (Value.int .i64 0).cells (n * 1)).toList = flat intC (List.replicate n 0) := by
  rw [Nat.mul_one]
  show (madeCells #[.int .i64 0] n).toList = _
  rw [toList_madeCells_one]
  induction n with
  | zero => rfl
  | succ n ih => rw [List.replicate_succ, List.replicate_succ, ih]; rfl
set_option maxRecDepth 100000 in
set_option maxHeartbeats 4000000 in
theorem fresh_meter (name : ByteArray) (fs : Value) (dw : Int) (n : Nat) (rate burst : Int) (x7 x8 x9 x10 x11 x12 x13 x14 : Value) (w : World) (h1 : 1 ≤ n) (h2 : n ≤ 4096) :
    Calls Tryz.prog 129 #[deV 5 name fs dw n rate burst x7 x8 x9 x10 x11 x12 x13 x14] w fun e w' => ∃ ca la, e = .returned (arV (meterA name n rate burst) ca la) ∧ ArN w' w.heap.size (meterA name n rate burst) ca la ∧ Below w.heap.size w w' := by
  obtain ⟨i0, hi0, hz0, hz1, hz2⟩ := info_parts Tryz.infoIn
  have HF : Hid (∀ W, _) := fun W => cfrom_any 1 n 4096 W
  have ef : fromB 1 n 4096 = true := by simp [fromB]; omega
  rw [ef] at HF
  have HR : Hid (∀ (W : World) (p : Nat), W.heap[p]? = some (.cells #[.int .i64 64, .int .u64 0, .int .u64 (IntKind.u64.wrap burst)] 29 (0, 0)) → _) := fun W p hp => repeat_any ⟨64, 0, IntKind.u64.wrap burst⟩ p n W hp h1 h2
  have el : (meterA name n rate burst).cs.length = n := by simp [meterA]
  have em : (meterA name n rate burst).ls.length = n := by simp [meterA]
  have H2 := hide h2
  suffices H : ∀ Q : Ending → World → Prop, (∀ g g2 W', w.heap.size ≤ g → W'.heap[g]? = some (.cells (reps ⟨64, 0, IntKind.u64.wrap burst⟩ n).toArray 29 (0, 0)) → w.heap.size ≤ g2 → W'.heap[g2]? = some (.cells (flat intC (List.replicate n 0)).toArray 3 (0, 0)) → Below w.heap.size w W' → Q (.returned (.agg #[.string name, .int .u8 5, .int .i64 64, .int .i64 rate, .int .i64 burst, .slice (some ⟨g, 0, none⟩) n n, .slice (some ⟨g2, 0, none⟩) n n])) W') → Calls Tryz.prog 129 #[deV 5 name fs dw n rate burst x7 x8 x9 x10 x11 x12 x13 x14] w Q from
    H _ (fun g g2 W' h1 h2 h3 h4 h5 => ⟨some ⟨g, 0, none⟩, some ⟨g2, 0, none⟩, by simp only [arV, el, em]; rfl, ⟨.inr ⟨g, rfl, h1, h2⟩, .inr ⟨g2, rfl, h3, h4⟩⟩, h5⟩)
  intro Q hQ
  have HQ := hide hQ
  clear hQ h1 h2 ef el em
  unfold deV
  go_enter Tryz.func129, Tryz.ntmps129
  go_wp2_with fail
  refine (HF.out _).mono ?_
  rintro e w' ⟨rfl, hw⟩
  subst w'
  go_wp2_with (at_make; refine wpList_make_full _ rfl _ _ 24 rfl w.heap.size 3 i0 _ 1 Tryz.underlying24 hi0 hz0 hz1 .i64 .i64 _ _ n rfl rfl rfl rfl (by rw [hz2]; have := H2.out; omega) (by unfold maxLen; have := H2.out; omega) (below3 _ _ _ _).size ?_; intro W0 hm0 hg0; have hb0 := below_made hg0; have BB0 := hide (bstep (below3 _ _ _ _) hb0); rw [made_ints] at hm0; have r0 := made_row hm0; simp only [World.size_alloc] at r0; have R0 := hide r0; have k1 := heap_below hb0 (heap_past _ (heap_past _ (heap_alloc_new _ _))); have K2 := hide (heap_below hb0 (heap_past _ (heap_snd _ _ _ _))); have k3 := heap_below hb0 (heap_trd _ _ _ _ _); obtain ⟨q0, q1, q3, q4, q5, q6⟩ := at15 k1; obtain ⟨p0, p1, p2, p3, p4, p5, p6⟩ := at7 k3; have f6 := softA k3 6; have K3 := hide k3; obtain ⟨-, -, -, q4', -, -⟩ := at15 (heap_past (.cells #[.int .i64 64, .int .u64 0, .int .u64 (IntKind.u64.wrap burst)] 29) ((Below.heap_setCell W0 ⟨w.heap.size + 1 + 1, 6, none⟩ (.slice (some ⟨w.heap.size + 1 + 1 + 1, 0, none⟩) n n) w.heap.size (by simp; omega)).trans k1)); clear hm0 hg0 hb0 r0 k1 k3)
  have R1 := hide (heap_alloc_new (W0.setCell ⟨w.heap.size + 1 + 1, 6, none⟩ (.slice (some ⟨w.heap.size + 1 + 1 + 1, 0, none⟩) n n)) (.cells #[.int .i64 64, .int .u64 0, .int .u64 (IntKind.u64.wrap burst)] 29))
  refine (HR.out _ _ ?_).mono ?_
  · first | exact R1.out | (simpa [World.setCell] using R1.out)
  rintro e w1 ⟨g, rfl, hg, hrow, hb⟩
  have BB := hide (bstep (bstep (BB0.out.setCell (p := ⟨w.heap.size + 1 + 1, 6, none⟩) (by simp; omega) (.slice (some ⟨w.heap.size + 1 + 1 + 1, 0, none⟩) n n)) (below1 _ _)) hb)
  have k3 : w1.heap[w.heap.size + 1 + 1]? = some (.cells #[.string name, .int .u8 5, .int .i64 64, .int .i64 rate, .int .i64 burst, .slice none 0 0, (.slice (some ⟨w.heap.size + 1 + 1 + 1, 0, none⟩) n n)] 93 (0, 0)) := heap_below hb (heap_past _ (heap_setCell_same K3.out _))
  have k2 := heap_below hb (heap_past _ ((Below.heap_setCell W0 ⟨w.heap.size + 1 + 1, 6, none⟩ (.slice (some ⟨w.heap.size + 1 + 1 + 1, 0, none⟩) n n) (w.heap.size + 1) (by simp)).trans K2.out))
  have r2 := heap_below hb (heap_past _ ((Below.heap_setCell W0 ⟨w.heap.size + 1 + 1, 6, none⟩ (.slice (some ⟨w.heap.size + 1 + 1 + 1, 0, none⟩) n n) (w.heap.size + 1 + 1 + 1) (by simp)).trans R0.out))
  have HG := hide (show w.heap.size + 5 ≤ g by have h := lt_heap R0.out; simp [World.setCell] at hg; omega)
  have HRW := hide hrow
  have R2 := hide r2
  clear p0 p1 p2 p3 p4 p5 p6 f6
  obtain ⟨p0, p1, p2, p3, p4, p5, p6⟩ := at7 k3
  have f5 := softA k3 5
  have L2 := hide ((Below.heap_setCell w1 ⟨w.heap.size + 1 + 1, 5, none⟩ (.slice (some ⟨g, 0, none⟩) n n) _ (by simp)).trans k2)
  clear hb hg hrow k2 k3 r2 R0 R1 K2 K3
  go_wp2_with (refine wpList_storeA rfl 93 _ _ rfl (w.heap.size + 1) [.string name, .int .u8 5, .int .i64 64, .int .i64 rate, .int .i64 burst, (.slice (some ⟨g, 0, none⟩) n n), (.slice (some ⟨w.heap.size + 1 + 1 + 1, 0, none⟩) n n)] _ 93 rfl rfl szAr L2.out rfl (ar_one name 5 64 rate burst (some ⟨g, 0, none⟩, n, n) (some ⟨w.heap.size + 1 + 1 + 1, 0, none⟩, n, n)) ?_; intro w5 hw5; have HW5 := hide hw5; clear hw5)
  have R5 : w5.heap[w.heap.size + 1]? = some (.cells #[.string name, .int .u8 5, .int .i64 64, .int .i64 rate, .int .i64 burst, (.slice (some ⟨g, 0, none⟩) n n), (.slice (some ⟨w.heap.size + 1 + 1 + 1, 0, none⟩) n n)] 93 (0, 0)) := by rw [HW5.out]; exact got0 L2.out rfl
  have F5 : Fr (· = w.heap.size + 1) (w1.setCell ⟨w.heap.size + 1 + 1, 5, none⟩ (.slice (some ⟨g, 0, none⟩) n n)) w5 := by rw [HW5.out]; exact fr_all _ _ _ _
  refine bodyPost_ret (res_cell (cs := [.string name, .int .u8 5, .int .i64 64, .int .i64 rate, .int .i64 burst, (.slice (some ⟨g, 0, none⟩) n n), (.slice (some ⟨w.heap.size + 1 + 1 + 1, 0, none⟩) n n)]) Tryz.results129 (by simp [Act.put]) aggAr szAr R5) rfl ?_
  have B6 := BB.out.setCell (p := ⟨w.heap.size + 1 + 1, 5, none⟩) (by simp; omega) (.slice (some ⟨g, 0, none⟩) n n)
  have hG := HG.out
  refine HQ.out _ _ _ (by omega) ?_ (Nat.le_add_right_of_le (Nat.le_add_right_of_le (Nat.le_add_right _ _))) ?_ ?_
  · have h3 := (Below.heap_setCell w1 ⟨w.heap.size + 1 + 1, 5, none⟩ (.slice (some ⟨g, 0, none⟩) n n) g (by simp; omega)).trans HRW.out
    exact (F5.block g (lt_heap h3) (by omega)).trans h3
  · have h3 := (Below.heap_setCell w1 ⟨w.heap.size + 1 + 1, 5, none⟩ (.slice (some ⟨g, 0, none⟩) n n) (w.heap.size + 1 + 1 + 1) (by simp)).trans R2.out
    exact (F5.block _ (lt_heap h3) (by omega)).trans h3
  · exact B6.trans (F5.below (fun b e => by omega) B6.size)
end Go.Proofs.YtbemfjdloeipmaaGreatDoor
