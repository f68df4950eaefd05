/- The CRCs: divided, remainders, crc. -/
import Derived.Test.YtannocdcohofbaaSvBase
namespace Go.Proofs.Ytannocdcohofbaa
open Go.RowKit

theorem div_step (p c : Nat) (hp : p < 4294967296) (hc : c < 4294967296) : bits .xor .u32 ((c : Int) / 2) (IntKind.u32.wrap (bits .and .u32 (c : Int) 1 * (p : Int))) = ((stp p c : Nat) : Int) := by
  have e1 : bits .and .u32 (c : Int) 1 = ((c % 2 : Nat) : Int) := by
    have := u32_and_nat c 1 hc (by decide)
    rw [Nat.and_one_is_mod] at this
    exact this
  have e2 : IntKind.u32.wrap (((c % 2 : Nat) : Int) * (p : Int)) = ((c % 2 * p : Nat) : Int) := by
    have : c % 2 * p < 4294967296 := by rcases Nat.mod_two_eq_zero_or_one c with e | e <;> rw [e] <;> omega
    rw [IntKind.wrap_u32]
    have h2 : ((c % 2 * p : Nat) : Int) = ((c % 2 : Nat) : Int) * (p : Int) := by simp
    omega
  have e3 : ((c : Int) / 2) = ((c / 2 : Nat) : Int) := by omega
  have : c % 2 * p < 4294967296 := by rcases Nat.mod_two_eq_zero_or_one c with e | e <;> rw [e] <;> omega
  rw [e1, e2, e3, u32_xor_nat _ _ (by omega) this]
  rfl
theorem stn32 {p c : Nat} (hp : p < 4294967296) (n : Nat) (hc : c < 4294967296) : stn p n c < 4294967296 := stn_lt (w := 32) hp n hc
set_option maxHeartbeats 400000 in
theorem divided_any (h p : Nat) (w : World) (hh : h < 4294967296) (hp : p < 4294967296) :
    Calls Try.prog 68 #[.int .u32 h, .int .u32 p] w fun e w' => e = .returned (.int .u32 ((stn p 4 h : Nat) : Int)) ∧ w' = w := by
  go_enter Try.func68, Try.ntmps68
  go_wp2
  go_loop [0, 5] (fun x i => ∃ k : Nat, k ≤ 4 ∧ i = .int .i64 k ∧ x = .int .u32 ((stn p k h : Nat) : Int)) (fun _ i => 4 - (intOf i).toNat)
  case atStart => exact ⟨0, by omega, rfl, rfl⟩
  case round =>
    obtain ⟨k, hk, rfl, rfl⟩ := hrel
    have hs := stn32 hp k hh
    have HD := hide (div_step p (stn p k h) hp hs)
    rw [← stn_succ] at HD
    by_cases hlt : k < 4
    · have H2 := hide (stn32 hp (k + 1) hh)
      generalize stn p k h = c at *
      go_wp2
      go_round
      case rel => exact ⟨k + 1, by omega, by go_num, by rw [← HD.out, IntKind.wrap_u32]⟩
      case measure => simp [intOf]; omega
    · obtain rfl : k = 4 := by omega
      clear HD
      go_wp2
      go_ret
      exact ⟨rfl, rfl⟩
theorem crc11_any (h p b : Nat) (w : World) (hh : h < 4294967296) (hp : p < 4294967296) (hb : w.cell? ⟨b, 0, none⟩ = some (.int .u32 p)) :
    Calls Try.prog 67 #[.int .u32 h, .pointer (some ⟨b, 0, none⟩)] w fun e w' => e = .returned (.int .u32 ((stn p 4 h : Nat) : Int)) ∧ w' = w := by
  go_enter Try.func67, Try.ntmps67
  go_wp2_with fail
  refine (divided_any h p _ hh hp).mono ?_
  rintro e w' ⟨rfl, rfl⟩
  go_wp2
  go_ret
  exact ⟨rfl, rfl⟩
/- The sixteen remainders. -/
def remV (p : Nat) : Array Value := #[.int .u32 ((stn p 4 0 : Nat) : Int), .int .u32 ((stn p 4 1 : Nat) : Int), .int .u32 ((stn p 4 2 : Nat) : Int), .int .u32 ((stn p 4 3 : Nat) : Int), .int .u32 ((stn p 4 4 : Nat) : Int), .int .u32 ((stn p 4 5 : Nat) : Int), .int .u32 ((stn p 4 6 : Nat) : Int), .int .u32 ((stn p 4 7 : Nat) : Int), .int .u32 ((stn p 4 8 : Nat) : Int), .int .u32 ((stn p 4 9 : Nat) : Int), .int .u32 ((stn p 4 10 : Nat) : Int), .int .u32 ((stn p 4 11 : Nat) : Int), .int .u32 ((stn p 4 12 : Nat) : Int), .int .u32 ((stn p 4 13 : Nat) : Int), .int .u32 ((stn p 4 14 : Nat) : Int), .int .u32 ((stn p 4 15 : Nat) : Int)]
theorem remV_get (p i : Nat) (h : i < 16) : (remV p)[i]? = some (.int .u32 ((stn p 4 i : Nat) : Int)) := by
  rcases (by omega : i = 0 ∨ i = 1 ∨ i = 2 ∨ i = 3 ∨ i = 4 ∨ i = 5 ∨ i = 6 ∨ i = 7 ∨ i = 8 ∨ i = 9 ∨ i = 10 ∨ i = 11 ∨ i = 12 ∨ i = 13 ∨ i = 14 ∨ i = 15) with rfl | rfl | rfl | rfl | rfl | rfl | rfl | rfl | rfl | rfl | rfl | rfl | rfl | rfl | rfl | rfl <;> rfl
structure Part16 (p k B : Nat) (W : World) : Prop where
  lt : B < W.heap.size
  done : ∀ i, i < k → W.cell? ⟨B, i, none⟩ = some (.int .u32 ((stn p 4 i : Nat) : Int))
  left : ∀ i, k ≤ i → i < 16 → W.cell? ⟨B, i, none⟩ = some (.int .u32 0)
  soft : ∀ i, W.frozen? ⟨B, i, none⟩ = false
theorem at_ne {B i k : Nat} (h : i ≠ k) : (⟨B, i, none⟩ : Addr) ≠ ⟨B, k, none⟩ := fun e => h (by injection e)
theorem Part16.step {p k B : Nat} {W : World} (h : Part16 p k B W) (hk : k < 16) : Part16 p (k + 1) B (W.setCell ⟨B, k, none⟩ (.int .u32 ((stn p 4 k : Nat) : Int))) := by
  refine ⟨by simpa using h.lt, fun i hi => ?_, fun i hi h2 => ?_, fun i => by rw [World.frozen?_setCell]; exact h.soft i⟩
  · by_cases e : i = k
    · subst e; exact World.cell?_setCell_same' _ _ _ (by rw [h.left i (Nat.le_refl _) hk]; rfl)
    · rw [World.cell?_setCell_other _ _ _ _ (at_ne (by omega))]; exact h.done i (by omega)
  · rw [World.cell?_setCell_other _ _ _ _ (at_ne (by omega))]; exact h.left i (by omega) h2
theorem Part16.far {p k B : Nat} {W : World} (h : Part16 p k B W) (q : Addr) (v : Value) (hne : q.block ≠ B) : Part16 p k B (W.setCell q v) :=
  ⟨by simpa using h.lt, fun i hi => (World.cell?_setCell_far _ _ _ _ hne).trans (h.done i hi), fun i hi h2 => (World.cell?_setCell_far _ _ _ _ hne).trans (h.left i hi h2), fun i => by rw [World.frozen?_setCell]; exact h.soft i⟩
def zero16 : Array Value := #[.int .u32 0, .int .u32 0, .int .u32 0, .int .u32 0, .int .u32 0, .int .u32 0, .int .u32 0, .int .u32 0, .int .u32 0, .int .u32 0, .int .u32 0, .int .u32 0, .int .u32 0, .int .u32 0, .int .u32 0, .int .u32 0]
theorem zero16_get (i : Nat) (h : i < 16) : zero16[i]? = some (.int .u32 0) := by
  rcases (by omega : i = 0 ∨ i = 1 ∨ i = 2 ∨ i = 3 ∨ i = 4 ∨ i = 5 ∨ i = 6 ∨ i = 7 ∨ i = 8 ∨ i = 9 ∨ i = 10 ∨ i = 11 ∨ i = 12 ∨ i = 13 ∨ i = 14 ∨ i = 15) with rfl | rfl | rfl | rfl | rfl | rfl | rfl | rfl | rfl | rfl | rfl | rfl | rfl | rfl | rfl | rfl <;> rfl
theorem part_block {p B : Nat} {W : World} {t : TypeId} (h : W.heap[B]? = some (.cells zero16 t (0, 0))) : Part16 p 0 B W := by
  refine ⟨(Array.getElem?_eq_some_iff.1 h).1, fun i hi => by omega, fun i _ hi => ?_, fun i => ?_⟩
  · unfold World.cell?; simp only [h]; exact zero16_get i hi
  · unfold World.frozen?; simp [h]
theorem part_new2 (p : Nat) (w : World) (t : TypeId) : Part16 p 0 (w.heap.size + 1) ((w.alloc (.cells zero16 t)).alloc (.cells zero16 t)) := by
  have h := heap_alloc_new (w.alloc (.cells zero16 t)) (.cells zero16 t)
  rw [World.size_alloc] at h
  exact part_block h
theorem part_new1 (p : Nat) (w : World) (t : TypeId) : Part16 p 0 w.heap.size ((w.alloc (.cells zero16 t)).alloc (.cells zero16 t)) :=
  part_block ((Below.heap_alloc _ _ _ (by simp)).trans (heap_alloc_new w (.cells zero16 t)))
set_option maxHeartbeats 1000000 in
theorem rem_any (p b : Nat) (w : World) (hp : p < 4294967296) (hb : w.cell? ⟨b, 0, none⟩ = some (.int .u32 p)) :
    Calls Try.prog 66 #[.func (Fn.func 67) #[] #[.pointer (some ⟨b, 0, none⟩)]] w fun e w' => e = .returned (.agg (remV p)) ∧ Below w.heap.size w w' := by
  have hbl : b < w.heap.size := World.block_lt_of_cell? w _ hb
  go_enter Try.func66, Try.ntmps66
  go_wp2
  go_loopw [5] (fun i wr => ∃ k : Nat, k ≤ 16 ∧ i = .int .i64 k ∧ Below w.heap.size w wr ∧ Part16 p k (w.heap.size + 1) wr ∧ Part16 p 0 w.heap.size wr) (fun i _ => 16 - (intOf i).toNat)
  case atStart => exact ⟨0, by omega, rfl, ((Below.refl _ _).alloc (Nat.le_refl _) _).alloc (by simp) _, part_new2 p w _, part_new1 p w _⟩
  case round =>
    obtain ⟨k, hk, rfl, hB, hP, hQ⟩ := hrel
    by_cases hlt : k < 16
    · have hbr : wr.cell? ⟨b, 0, none⟩ = some (.int .u32 p) := (hB.cell (p := ⟨b, 0, none⟩) hbl).trans hb
      have hck := hP.left k (Nat.le_refl _) hlt
      have hfk := hP.soft k
      have HB := hide hB; have HP := hide hP; have HQ := hide hQ
      clear hB hP hQ
      go_wp2_with fail
      refine (crc11_any k p b _ (by omega) hp hbr).mono ?_
      rintro e w' ⟨rfl, rfl⟩
      go_wp2
      go_roundw
      case rel => exact ⟨k + 1, by omega, by go_num, HB.out.setCell (by simp) _, HP.out.step hlt, HQ.out.far _ _ (by simp)⟩
      case measure => simp [intOf]; omega
    · obtain rfl : k = 16 := by omega
      have c0 := hP.done 0 (by omega); have c1 := hP.done 1 (by omega); have c2 := hP.done 2 (by omega); have c3 := hP.done 3 (by omega)
      have c4 := hP.done 4 (by omega); have c5 := hP.done 5 (by omega); have c6 := hP.done 6 (by omega); have c7 := hP.done 7 (by omega)
      have c8 := hP.done 8 (by omega); have c9 := hP.done 9 (by omega); have c10 := hP.done 10 (by omega); have c11 := hP.done 11 (by omega)
      have c12 := hP.done 12 (by omega); have c13 := hP.done 13 (by omega); have c14 := hP.done 14 (by omega); have c15 := hP.done 15 (by omega)
      have d0 := hQ.left 0 (by omega) (by omega); have d1 := hQ.left 1 (by omega) (by omega); have d2 := hQ.left 2 (by omega) (by omega); have d3 := hQ.left 3 (by omega) (by omega)
      have d4 := hQ.left 4 (by omega) (by omega); have d5 := hQ.left 5 (by omega) (by omega); have d6 := hQ.left 6 (by omega) (by omega); have d7 := hQ.left 7 (by omega) (by omega)
      have d8 := hQ.left 8 (by omega) (by omega); have d9 := hQ.left 9 (by omega) (by omega); have d10 := hQ.left 10 (by omega) (by omega); have d11 := hQ.left 11 (by omega) (by omega)
      have d12 := hQ.left 12 (by omega) (by omega); have d13 := hQ.left 13 (by omega) (by omega); have d14 := hQ.left 14 (by omega) (by omega); have d15 := hQ.left 15 (by omega) (by omega)
      have hsf := hQ.soft
      have HB := hide hB
      clear hB hP hQ
      go_wp2
      refine bodyPost_ret (v := .agg (remV p)) (by simp [results, remV, Try.results66, go_sem, d0, d1, d2, d3, d4, d5, d6, d7, d8, d9, d10, d11, d12, d13, d14, d15]) rfl ⟨rfl, ?_⟩
      exact (((((((((((((((HB.out.setCell (Nat.le_refl _) _).setCell (Nat.le_refl _) _).setCell (Nat.le_refl _) _).setCell (Nat.le_refl _) _).setCell (Nat.le_refl _) _).setCell (Nat.le_refl _) _).setCell (Nat.le_refl _) _).setCell (Nat.le_refl _) _).setCell (Nat.le_refl _) _).setCell (Nat.le_refl _) _).setCell (Nat.le_refl _) _).setCell (Nat.le_refl _) _).setCell (Nat.le_refl _) _).setCell (Nat.le_refl _) _).setCell (Nat.le_refl _) _).setCell (Nat.le_refl _) _
end Go.Proofs.Ytannocdcohofbaa
